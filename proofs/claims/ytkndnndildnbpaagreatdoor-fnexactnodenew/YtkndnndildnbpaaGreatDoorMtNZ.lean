/- What is known at first, of both. -/
import Derived.Test.YtkndnndildnbpaaGreatDoorGd
import Derived.Test.YtkndnndildnbpaaGreatDoorGh

namespace Go.Proofs.YtkndnndildnbpaaGreatDoor
open Go.ChangeShapes Go.WideShapes Go.ChangeAt Go.RowKit
set_option linter.unusedVariables false
set_option linter.unusedSimpArgs false
set_option maxRecDepth 100000

theorem OKm.wider {w : World} {B T B' T' : Nat} {go : Option Addr} {gc : Nat} {bo : Option Addr} {bc : Nat} {g : List Int} {n : Nat} {L : Nat → List Int} (h : OKm w B T go gc bo bc g n L) (hB : B' ≤ B) (hT : T ≤ T') (hT' : T' ≤ w.heap.size) : OKm w B' T' go gc bo bc g n L := by
  obtain ⟨⟨h1, h2⟩, hb, R, ho, hs'⟩ := h
  exact ⟨⟨by omega, hT'⟩, hb, R, ho.wide hB hT, hs'.wide hB hT⟩
theorem none_ok {w : World} {B : Nat} (h : B ≤ w.heap.size) : OKm w B w.heap.size none 0 none 0 [] 0 (fun _ => []) := by
  refine ⟨⟨h, Nat.le_refl _⟩, Nat.le_refl _, fun _ => (none, 0), fun i hi => ?_, .inl rfl⟩
  obtain rfl : i = 0 := by omega
  exact ⟨Nat.le_refl _, .inl rfl, fun γ e => by cases e⟩
end Go.Proofs.YtkndnndildnbpaaGreatDoor

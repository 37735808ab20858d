/- What two slots tell, of both. -/
import Derived.Test.YtabknfmhhjelaaaGreatDoorNdPZ
import Derived.Test.YtabknfmhhjelaaaGreatDoorGk

namespace Go.Proofs.YtabknfmhhjelaaaGreatDoor
open Go.ChangeShapes Go.WideShapes Go.ChangeAt Go.RowKit
set_option linter.unusedVariables false
set_option linter.unusedSimpArgs false
set_option maxRecDepth 100000

theorem OKm.congr {w : World} {B T : Nat} {go : Option Addr} {gc : Nat} {bo : Option Addr} {bc : Nat} {g : List Int} {n : Nat} {L L' : Nat → List Int} (h : OKm w B T go gc bo bc g n L) (e : ∀ i, i < n → L i = L' i) : OKm w B T go gc bo bc g n L' := by
  obtain ⟨hT, hb, R, ho, hs⟩ := h
  refine ⟨hT, hb, R, ho.congr (fun i hi => ?_), hs.lens (fun i hi => by rw [e i hi])⟩
  match i with
  | 0 => rfl
  | i + 1 => exact e i (by omega)
/-- Whatever is asked: both functions answer the same, each in memory of its own. -/
theorem slots_both (A C : List Int) : ∃ (g : List Int) (n : Nat) (L : Nat → List Int) (fi ol he : Bool) (la x : Int) (b : Bool), (g.length + (n + psum L n) ≤ 1000) ∧
    (∀ W aA cA aB cB, VBy W aA cA A → VBy W aB cB C → Calls Tryz.prog 40 #[.agg #[.slice aA A.length cA, .slice aB C.length cB]] W fun e w' => ∃ go bo gc bc, e = .returned (.tuple #[.agg #[.slice go g.length gc, .slice bo n bc, .bool fi, .bool ol, .bool he, .int .i64 la], .int .i64 x, .bool b]) ∧ OKm w' W.heap.size w'.heap.size go gc bo bc g n L ∧ Below W.heap.size W w') ∧
    (∀ W aA cA aB cB, ErrT W → VBy W aA cA A → VBy W aB cB C → Calls Tryz.prog 62 #[.agg #[.slice aA A.length cA, .slice aB C.length cB]] W fun e w' => ∃ go bo gc bc, e = .returned (.tuple #[.agg #[.slice go g.length gc, .slice bo n bc, .bool fi, .bool ol, .bool he, .int .i64 la], .int .i64 x, .bool b]) ∧ OKm w' W.heap.size w'.heap.size go gc bo bc g n L ∧ Below W.heap.size W w') ∧
    (∀ g2 n2 L2 fi2 ol2 he2 la2, KpM A C g2 n2 L2 fi2 ol2 he2 la2 ↔ b = true ∧ SmM g n L fi ol he la g2 n2 L2 fi2 ol2 he2 la2) ∧ (b = true → MtOk g n L ol he la) := by
  by_cases hB : Whole ((latL Classical.propDecidable) A C)
  · obtain ⟨g, L, fi, ol, he, la, x, hB⟩ := hB
    obtain ⟨h1, _, h2, _⟩ := mtok_g hB.1
    refine ⟨g, 3, L, fi, ol, he, la, x, true, ?_, fun W aA cA aB cB hA hC => (slotget_spec aA aB cA cB A C W hA hC).mono ?_, fun W aA cA aB cB hg hA hC => (slotget_impl aA aB cA cB A C W hg hA hC).mono ?_, fun g2 n2 L2 fi2 ol2 he2 la2 => ⟨fun ⟨g', L', fi', ol', he', la', q, h3, h4⟩ => ?_, fun h3 => ⟨g, L, fi, ol, he, la, x, hB, h3.2⟩⟩, fun _ => hB.1⟩
    rotate_right 1
    · obtain ⟨rfl, eL, rfl, rfl, rfl, rfl, rfl⟩ := sl_one h3 hB
      exact ⟨rfl, h4.1, h4.2.1, h4.2.2.1, h4.2.2.2.1, h4.2.2.2.2.1, h4.2.2.2.2.2.1, fun i hi => by rw [← eL i hi]; exact h4.2.2.2.2.2.2 i hi⟩
    · have a0 := h2 0 (by omega)
      have a1 := h2 1 (by omega)
      have a2 := h2 2 (by omega)
      simp only [psum]
      omega
    all_goals
      rintro e w' ⟨h, hb⟩
      rcases h with ⟨g', L', fi', ol', he', la', x', go, bo, gc, bc, hB', rfl, ho⟩ | ⟨hno, _⟩
      · obtain ⟨rfl, eL, rfl, rfl, rfl, rfl, rfl⟩ := sl_one hB' hB
        exact ⟨go, bo, gc, bc, rfl, OKm.congr ho eL, hb⟩
      · exact absurd ⟨g, L, fi, ol, he, la, x, hB⟩ hno
  · refine ⟨[], 0, fun _ => [], false, false, false, 0, 0, false, by simp [psum], fun W aA cA aB cB hA hC => (slotget_spec aA aB cA cB A C W hA hC).mono ?_, fun W aA cA aB cB hg hA hC => (slotget_impl aA aB cA cB A C W hg hA hC).mono ?_, fun g2 n2 L2 fi2 ol2 he2 la2 => ⟨fun ⟨g', L', fi', ol', he', la', q, h3, h4⟩ => absurd ⟨g', L', fi', ol', he', la', q, h3⟩ hB, fun h3 => absurd h3.1 (by simp)⟩, fun h3 => absurd h3 (by simp)⟩
    all_goals
      rintro e w' ⟨h, hb⟩
      rcases h with ⟨g', L', fi', ol', he', la', x', go, bo, gc, bc, hB', _⟩ | ⟨_, rfl⟩
      · exact absurd ⟨g', L', fi', ol', he', la', x', hB'⟩ hB
      · exact ⟨none, none, 0, 0, rfl, none_ok hb.size, hb⟩
end Go.Proofs.YtabknfmhhjelaaaGreatDoor

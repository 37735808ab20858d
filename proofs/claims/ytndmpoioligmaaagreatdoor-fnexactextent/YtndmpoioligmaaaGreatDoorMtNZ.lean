/- What is known at first, of both. -/
import Derived.Test.YtndmpoioligmaaaGreatDoorGd
import Derived.Test.YtndmpoioligmaaaGreatDoorGh

namespace Go.Proofs.YtndmpoioligmaaaGreatDoor
open Go.ChangeShapes Go.WideShapes Go.ChangeAt Go.RowKit
set_option linter.unusedVariables false
set_option linter.unusedSimpArgs false
set_option maxRecDepth 100000

def nw (x : Int) : Bool := decide (1 ≤ x ∧ x ≤ 100000)
def nwg (x : Int) : List Int := bif nw x then [x] else []
def nwn (x : Int) : Nat := bif nw x then 3 else 0
theorem new_is (x : Int) : MtOk [x] 3 (fun _ => []) false false 0 ↔ 1 ≤ x ∧ x ≤ 100000 := by
  constructor
  · intro h
    exact (h.1.1.2 0 (by simp)).1
  · intro h
    refine ⟨⟨⟨by simp, fun i hi => ?_⟩, by simp⟩, ⟨rfl, fun i _ => ⟨fun j hj => absurd hj (by simp), fun j h1 h2 => absurd h2 (by simp)⟩⟩, by omega, by simp⟩
    obtain rfl : i = 0 := by simpa using hi
    exact ⟨h, fun j hj => absurd hj (by omega)⟩
theorem bal4 (w : World) (o1 o2 o3 o4 : Obj) : ((((w.alloc o1).alloc o2).alloc o3).alloc o4).heap[w.heap.size]? = some o1 ∧ ((((w.alloc o1).alloc o2).alloc o3).alloc o4).heap[w.heap.size + 1]? = some o2 ∧ ((((w.alloc o1).alloc o2).alloc o3).alloc o4).heap[w.heap.size + 1 + 1]? = some o3 ∧ ((((w.alloc o1).alloc o2).alloc o3).alloc o4).heap[w.heap.size + 1 + 1 + 1]? = some o4 ∧ ((((w.alloc o1).alloc o2).alloc o3).alloc o4).heap.size = w.heap.size + 1 + 1 + 1 + 1 := by
  have e : ∀ (w : World) (o : Obj), (w.alloc o).heap = w.heap.push o := fun _ _ => rfl
  refine ⟨?_, ?_, ?_, ?_, ?_⟩
  · simp only [e, Array.getElem?_push, Array.size_push]
    rw [if_neg (by omega), if_neg (by omega), if_neg (by omega), if_pos trivial]
  · simp only [e, Array.getElem?_push, Array.size_push]
    rw [if_neg (by omega), if_neg (by omega), if_pos trivial]
  · simp only [e, Array.getElem?_push, Array.size_push]
    rw [if_neg (by omega), if_pos trivial]
  · simp only [e, Array.getElem?_push, Array.size_push]
    rw [if_pos trivial]
  · simp only [e, Array.size_push]
theorem OKm.wider {w : World} {B T B' T' : Nat} {go : Option Addr} {gc : Nat} {bo : Option Addr} {bc : Nat} {g : List Int} {n : Nat} {L : Nat → List Int} (h : OKm w B T go gc bo bc g n L) (hB : B' ≤ B) (hT : T ≤ T') (hT' : T' ≤ w.heap.size) : OKm w B' T' go gc bo bc g n L := by
  obtain ⟨⟨h1, h2⟩, hb, R, ho, hs'⟩ := h
  exact ⟨⟨by omega, hT'⟩, hb, R, ho.wide hB hT, hs'.wide hB hT⟩
theorem none_ok {w : World} {B : Nat} (h : B ≤ w.heap.size) : OKm w B w.heap.size none 0 none 0 [] 0 (fun _ => []) := by
  refine ⟨⟨h, Nat.le_refl _⟩, Nat.le_refl _, fun _ => (none, 0), fun i hi => ?_, .inl rfl⟩
  obtain rfl : i = 0 := by omega
  exact ⟨Nat.le_refl _, .inl rfl, fun γ e => by cases e⟩
theorem new_ok {w W : World} {x : Int} (b1 : W.heap[w.heap.size + 1]? = some (.cells #[.int .i64 x] 3 (0, 0))) (b2 : W.heap[w.heap.size + 1 + 1]? = some (.cells (madeCells #[.slice none 0 0] 3) 22 (0, 0))) (b4 : W.heap.size = w.heap.size + 1 + 1 + 1 + 1) :
    OKm W (w.heap.size + 1) W.heap.size (some ⟨w.heap.size + 1, 0, none⟩) 1 (some ⟨w.heap.size + 1 + 1, 0, none⟩) 3 [x] 3 (fun _ => []) := by
  refine ⟨⟨by omega, Nat.le_refl _⟩, Nat.le_refl _, fun _ => (none, 0), fun i hi => ?_, .inr ⟨_, _, rfl, by omega, b2, by rw [size_madeCells]; exact Nat.le_refl _, fun i hi => ?_⟩⟩
  · match i with
    | 0 => exact ⟨Nat.le_refl _, .inr ⟨_, rfl, by omega, _, b1, by simp [rows], fun j hj => by
        have : j = 0 := by simpa [rows] using hj
        subst this
        rfl⟩, fun γ e hp j hj hne hpj => by
          match j, hne, hpj with
          | j + 1, _, hpj => exact absurd hpj (by simp [rows])⟩
    | i + 1 => exact ⟨Nat.le_refl _, .inl rfl, fun γ e hp => absurd hp (by simp [rows])⟩
  · rw [← Array.getElem?_toList, toList_madeCells_one, List.getElem?_replicate, if_pos hi]
    rfl

end Go.Proofs.YtndmpoioligmaaaGreatDoor

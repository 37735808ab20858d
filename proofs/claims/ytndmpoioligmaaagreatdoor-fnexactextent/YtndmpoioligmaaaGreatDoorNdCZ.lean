/- Slices copied by the program: copyOf. -/
import Derived.Test.YtndmpoioligmaaaGreatDoorNdTZ
import Derived.Test.YtndmpoioligmaaaGreatDoorSlIZ

namespace Go.Proofs.YtndmpoioligmaaaGreatDoor
open Go.ChangeShapes Go.WideShapes Go.ChangeAt Go.RowKit
set_option linter.unusedVariables false
set_option linter.unusedSimpArgs false
set_option maxRecDepth 100000

/-- The cells of a slice. -/
def Cs (w : World) (p : Option Addr) (cs : List Value) : Prop :=
  (∀ i, i < cs.length → ∃ b off, p = some ⟨b, off, none⟩ ∧ b < w.heap.size ∧ w.cell? ⟨b, off + i, none⟩ = cs[i]?) ∧ ∀ v ∈ cs, v.oneCell' = true
theorem Cs.below {w w' : World} {p : Option Addr} {cs : List Value} (h : Cs w p cs) (hb : Below w.heap.size w w') : Cs w' p cs := ⟨fun i hi => by
  obtain ⟨b, off, e, hlt, hc⟩ := h.1 i hi
  exact ⟨b, off, e, Nat.lt_of_lt_of_le hlt hb.size, (hb.cell hlt).trans hc⟩, h.2⟩
theorem Cs.ints {w : World} {p : Option Addr} {l : List Int} (h : SL .i64 w p l.length (fun i => l.getD i 0)) : Cs w p (ir l) :=
  ⟨fun i hi => by
    rw [ir_len] at hi
    obtain ⟨b, off, e, hlt, hc⟩ := h i hi
    exact ⟨b, off, e, hlt, by rw [hc, ir_get _ _ hi]⟩, fun v hv => by obtain ⟨x, _, rfl⟩ := List.mem_map.1 hv; rfl⟩
theorem Cs.bools {w : World} {p : Option Addr} {l : List Bool} (h : SLb w p l.length (fun i => l.getD i false)) : Cs w p (br l) :=
  ⟨fun i hi => by
    rw [br_len] at hi
    obtain ⟨b, off, e, hlt, hc⟩ := h i hi
    exact ⟨b, off, e, hlt, by rw [hc, br_get _ _ hi]⟩, fun v hv => by obtain ⟨x, _, rfl⟩ := List.mem_map.1 hv; rfl⟩
theorem Cs.outer {w : World} {p : Option Addr} {n : Nat} {L : Nat → List Int} (h : BV w p n L) : ∃ R : Nat → Option Addr × Nat, Cs w p (outer R n L) ∧ ∀ i, i < n → SL .i64 w (R i).1 (L i).length (fun j => (L i).getD j 0) := by
  have h' : ∀ i, i < n → ∃ r : Option Addr × Nat, (∃ b off, p = some ⟨b, off, none⟩ ∧ w.cell? ⟨b, off + i, none⟩ = some (.slice r.1 (L i).length r.2)) ∧ SL .i64 w r.1 (L i).length (fun j => (L i).getD j 0) := fun i hi => by
    obtain ⟨b, off, ro, rc, e, hc, _, hs⟩ := h i hi
    exact ⟨(ro, rc), ⟨b, off, e, hc⟩, hs⟩
  obtain ⟨R, hR⟩ := Deep.choose_lt h'
  refine ⟨R, ⟨fun i hi => ?_, fun v hv => by obtain ⟨x, _, rfl⟩ := List.mem_map.1 hv; rfl⟩, fun i hi => (hR i hi).2⟩
  rw [outer_len] at hi
  obtain ⟨⟨b, off, e, hc⟩, _⟩ := hR i hi
  exact ⟨b, off, e, lt_of_cell hc, by rw [hc, outer_get _ _ _ _ hi]⟩
theorem Cs.nil {w : World} {cs : List Value} (h : Cs w none cs) : cs = [] := by
  cases cs with
  | nil => rfl
  | cons x t => obtain ⟨b, off, e, _⟩ := h.1 0 (by simp); cases e
/-- A copy of all cells into a block made for them. -/
theorem copy_all (S e : TypeId) (z : Value) (bytes : Nat) (hu : Tryz.prog.underlying S = some (.slice e)) (hinfo : (Tryz.prog.info? e).map (fun i => (i.zero, i.size, i.bytes)) = some (some z, 1, bytes)) (w : World) (ad : Addr) (c : Nat) (cs : List Value) (h : Cs w (some ad) cs) :
    ∃ W', (∀ ty, (Builtin.copy_ #[S, S] ty #[.slice (some ⟨w.heap.size, 0, none⟩) cs.length cs.length, .slice (some ad) cs.length c]).run Tryz.prog (w.alloc (.cells (madeCells #[z] cs.length) e)) = .ok (goInt cs.length) W') ∧ RS W' w.heap.size W'.heap.size [⟨e, some ⟨w.heap.size, 0, none⟩, cs.length, cs⟩] ∧ Below w.heap.size w W' := by
  have hb : Below w.heap.size w (w.alloc (.cells (madeCells #[z] cs.length) e)) := bal1 _ _
  have hg : (w.alloc (.cells (madeCells #[z] cs.length) e)).heap[w.heap.size]? = some (.cells (madeCells #[z] cs.length) e (0, 0)) := Deep.blk_alloc_new _ _
  have h' := h.below hb
  have hz : (madeCells #[z] cs.length).size = cs.length := size_madeCells _ _
  have hone : (Tryz.prog.info? e).map (·.size) = some 1 := by
    obtain ⟨i, hi, hzz⟩ := Option.map_eq_some_iff.1 hinfo
    simp only [Prod.mk.injEq] at hzz
    rw [hi]; simp [hzz.2.1]
  have hsrc : ∀ j v, cs[j]? = some v → (w.alloc (.cells (madeCells #[z] cs.length) e)).cell? (ad.add j) = some v := fun j v hj => by
    have hlt : j < cs.length := (List.getElem?_eq_some_iff.1 hj).1
    obtain ⟨b, off, e', _, hc⟩ := h'.1 j hlt
    cases e'
    rw [Addr.add_lit, hc, hj]
  have hr := fun ty => run_copy_row (P := Tryz.prog) _ S S ty e w.heap.size 0 cs.length cs.length ad cs.length c _ e cs hu hone hg (by simp) hsrc (by rw [hz]; simp) h.2
  refine ⟨_, hr, RS.one ⟨Nat.le_refl _, .inr ⟨w.heap.size, rfl, ⟨Nat.le_refl _, ?_⟩, _, setRow_heap _ _ _ _ _ _ hg, ?_, fun i hi => ?_⟩⟩, below_setRow hb (Nat.le_refl _) _⟩
  · simp [World.setRow]
  · simp [hz]
  · have hdrop : (madeCells #[z] cs.length).toList.drop cs.length = [] := List.drop_eq_nil_of_le (by simp [hz])
    simp [hdrop]

end Go.Proofs.YtndmpoioligmaaaGreatDoor

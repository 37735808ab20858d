/- Slices copied by the program: copyOf. -/
import Derived.Test.YtabknfmhhjelaaaGreatDoorNdTZ
import Derived.Test.YtabknfmhhjelaaaGreatDoorSlIZ

namespace Go.Proofs.YtabknfmhhjelaaaGreatDoor
open Go.ChangeShapes Go.WideShapes Go.ChangeAt Go.RowKit
set_option linter.unusedVariables false
set_option linter.unusedSimpArgs false
set_option maxRecDepth 100000

/-- The cells of a slice. -/
def Cs (w : World) (p : Option Addr) (cs : List Value) : Prop :=
  (∀ i, i < cs.length → ∃ b off, p = some ⟨b, off, none⟩ ∧ b < w.heap.size ∧ w.cell? ⟨b, off + i, none⟩ = cs[i]?) ∧ ∀ v ∈ cs, v.oneCell' = true
theorem Cs.below {w w' : World} {p : Option Addr} {cs : List Value} (h : Cs w p cs) (hb : Below w.heap.size w w') : Cs w' p cs := ⟨fun i hi => by
  obtain ⟨b, off, e, hlt, hc⟩ := h.1 i hi
  exact ⟨b, off, e, Nat.lt_of_lt_of_le hlt hb.size, (hb.cell hlt).trans hc⟩, h.2⟩
theorem Cs.ints {w : World} {p : Option Addr} {l : List Int} (h : SL .i64 w p l.length (fun i => l.getD i 0)) : Cs w p (ir l) :=
  ⟨fun i hi => by
    rw [ir_len] at hi
    obtain ⟨b, off, e, hlt, hc⟩ := h i hi
    exact ⟨b, off, e, hlt, by rw [hc, ir_get _ _ hi]⟩, fun v hv => by obtain ⟨x, _, rfl⟩ := List.mem_map.1 hv; rfl⟩
theorem Cs.bools {w : World} {p : Option Addr} {l : List Bool} (h : SLb w p l.length (fun i => l.getD i false)) : Cs w p (br l) :=
  ⟨fun i hi => by
    rw [br_len] at hi
    obtain ⟨b, off, e, hlt, hc⟩ := h i hi
    exact ⟨b, off, e, hlt, by rw [hc, br_get _ _ hi]⟩, fun v hv => by obtain ⟨x, _, rfl⟩ := List.mem_map.1 hv; rfl⟩
theorem Cs.outer {w : World} {p : Option Addr} {n : Nat} {L : Nat → List Int} (h : BV w p n L) : ∃ R : Nat → Option Addr × Nat, Cs w p (outer R n L) ∧ ∀ i, i < n → SL .i64 w (R i).1 (L i).length (fun j => (L i).getD j 0) := by
  have h' : ∀ i, i < n → ∃ r : Option Addr × Nat, (∃ b off, p = some ⟨b, off, none⟩ ∧ w.cell? ⟨b, off + i, none⟩ = some (.slice r.1 (L i).length r.2)) ∧ SL .i64 w r.1 (L i).length (fun j => (L i).getD j 0) := fun i hi => by
    obtain ⟨b, off, ro, rc, e, hc, _, hs⟩ := h i hi
    exact ⟨(ro, rc), ⟨b, off, e, hc⟩, hs⟩
  obtain ⟨R, hR⟩ := Deep.choose_lt h'
  refine ⟨R, ⟨fun i hi => ?_, fun v hv => by obtain ⟨x, _, rfl⟩ := List.mem_map.1 hv; rfl⟩, fun i hi => (hR i hi).2⟩
  rw [outer_len] at hi
  obtain ⟨⟨b, off, e, hc⟩, _⟩ := hR i hi
  exact ⟨b, off, e, lt_of_cell hc, by rw [hc, outer_get _ _ _ _ hi]⟩
theorem Cs.nil {w : World} {cs : List Value} (h : Cs w none cs) : cs = [] := by
  cases cs with
  | nil => rfl
  | cons x t => obtain ⟨b, off, e, _⟩ := h.1 0 (by simp); cases e
end Go.Proofs.YtabknfmhhjelaaaGreatDoor

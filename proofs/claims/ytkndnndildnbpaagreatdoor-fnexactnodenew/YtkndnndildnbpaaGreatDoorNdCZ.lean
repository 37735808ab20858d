/- Slices copied by the program: copyOf. -/
import Derived.Test.YtkndnndildnbpaaGreatDoorNdTZ
import Derived.Test.YtkndnndildnbpaaGreatDoorSlIZ

namespace Go.Proofs.YtkndnndildnbpaaGreatDoor
open Go.ChangeShapes Go.WideShapes Go.ChangeAt Go.RowKit
set_option linter.unusedVariables false
set_option linter.unusedSimpArgs false
set_option maxRecDepth 100000

/-- The cells of a slice. -/
def Cs (w : World) (p : Option Addr) (cs : List Value) : Prop :=
  (∀ i, i < cs.length → ∃ b off, p = some ⟨b, off, none⟩ ∧ b < w.heap.size ∧ w.cell? ⟨b, off + i, none⟩ = cs[i]?) ∧ ∀ v ∈ cs, v.oneCell' = true
theorem Cs.below {w w' : World} {p : Option Addr} {cs : List Value} (h : Cs w p cs) (hb : Below w.heap.size w w') : Cs w' p cs := ⟨fun i hi => by
  obtain ⟨b, off, e, hlt, hc⟩ := h.1 i hi
  exact ⟨b, off, e, Nat.lt_of_lt_of_le hlt hb.size, (hb.cell hlt).trans hc⟩, h.2⟩
theorem Cs.ints {w : World} {p : Option Addr} {l : List Int} (h : SL .i64 w p l.length (fun i => l.getD i 0)) : Cs w p (ir l) :=
  ⟨fun i hi => by
    rw [ir_len] at hi
    obtain ⟨b, off, e, hlt, hc⟩ := h i hi
    exact ⟨b, off, e, hlt, by rw [hc, ir_get _ _ hi]⟩, fun v hv => by obtain ⟨x, _, rfl⟩ := List.mem_map.1 hv; rfl⟩
theorem Cs.bools {w : World} {p : Option Addr} {l : List Bool} (h : SLb w p l.length (fun i => l.getD i false)) : Cs w p (br l) :=
  ⟨fun i hi => by
    rw [br_len] at hi
    obtain ⟨b, off, e, hlt, hc⟩ := h i hi
    exact ⟨b, off, e, hlt, by rw [hc, br_get _ _ hi]⟩, fun v hv => by obtain ⟨x, _, rfl⟩ := List.mem_map.1 hv; rfl⟩
theorem Cs.outer {w : World} {p : Option Addr} {n : Nat} {L : Nat → List Int} (h : BV w p n L) : ∃ R : Nat → Option Addr × Nat, Cs w p (outer R n L) ∧ ∀ i, i < n → SL .i64 w (R i).1 (L i).length (fun j => (L i).getD j 0) := by
  have h' : ∀ i, i < n → ∃ r : Option Addr × Nat, (∃ b off, p = some ⟨b, off, none⟩ ∧ w.cell? ⟨b, off + i, none⟩ = some (.slice r.1 (L i).length r.2)) ∧ SL .i64 w r.1 (L i).length (fun j => (L i).getD j 0) := fun i hi => by
    obtain ⟨b, off, ro, rc, e, hc, _, hs⟩ := h i hi
    exact ⟨(ro, rc), ⟨b, off, e, hc⟩, hs⟩
  obtain ⟨R, hR⟩ := Deep.choose_lt h'
  refine ⟨R, ⟨fun i hi => ?_, fun v hv => by obtain ⟨x, _, rfl⟩ := List.mem_map.1 hv; rfl⟩, fun i hi => (hR i hi).2⟩
  rw [outer_len] at hi
  obtain ⟨⟨b, off, e, hc⟩, _⟩ := hR i hi
  exact ⟨b, off, e, lt_of_cell hc, by rw [hc, outer_get _ _ _ _ hi]⟩
theorem Cs.nil {w : World} {cs : List Value} (h : Cs w none cs) : cs = [] := by
  cases cs with
  | nil => rfl
  | cons x t => obtain ⟨b, off, e, _⟩ := h.1 0 (by simp); cases e
/-- A copy of all cells into a block made for them. -/
theorem copy_all (S e : TypeId) (z : Value) (bytes : Nat) (hu : Tryz.prog.underlying S = some (.slice e)) (hinfo : (Tryz.prog.info? e).map (fun i => (i.zero, i.size, i.bytes)) = some (some z, 1, bytes)) (w : World) (ad : Addr) (c : Nat) (cs : List Value) (h : Cs w (some ad) cs) :
    ∃ W', (∀ ty, (Builtin.copy_ #[S, S] ty #[.slice (some ⟨w.heap.size, 0, none⟩) cs.length cs.length, .slice (some ad) cs.length c]).run Tryz.prog (w.alloc (.cells (madeCells #[z] cs.length) e)) = .ok (goInt cs.length) W') ∧ RS W' w.heap.size W'.heap.size [⟨e, some ⟨w.heap.size, 0, none⟩, cs.length, cs⟩] ∧ Below w.heap.size w W' := by
  have hb : Below w.heap.size w (w.alloc (.cells (madeCells #[z] cs.length) e)) := bal1 _ _
  have hg : (w.alloc (.cells (madeCells #[z] cs.length) e)).heap[w.heap.size]? = some (.cells (madeCells #[z] cs.length) e (0, 0)) := Deep.blk_alloc_new _ _
  have h' := h.below hb
  have hz : (madeCells #[z] cs.length).size = cs.length := size_madeCells _ _
  have hone : (Tryz.prog.info? e).map (·.size) = some 1 := by
    obtain ⟨i, hi, hzz⟩ := Option.map_eq_some_iff.1 hinfo
    simp only [Prod.mk.injEq] at hzz
    rw [hi]; simp [hzz.2.1]
  have hsrc : ∀ j v, cs[j]? = some v → (w.alloc (.cells (madeCells #[z] cs.length) e)).cell? (ad.add j) = some v := fun j v hj => by
    have hlt : j < cs.length := (List.getElem?_eq_some_iff.1 hj).1
    obtain ⟨b, off, e', _, hc⟩ := h'.1 j hlt
    cases e'
    rw [Addr.add_lit, hc, hj]
  have hr := fun ty => run_copy_row (P := Tryz.prog) _ S S ty e w.heap.size 0 cs.length cs.length ad cs.length c _ e cs hu hone hg (by simp) hsrc (by rw [hz]; simp) h.2
  refine ⟨_, hr, RS.one ⟨Nat.le_refl _, .inr ⟨w.heap.size, rfl, ⟨Nat.le_refl _, ?_⟩, _, setRow_heap _ _ _ _ _ _ hg, ?_, fun i hi => ?_⟩⟩, below_setRow hb (Nat.le_refl _) _⟩
  · simp [World.setRow]
  · simp [hz]
  · have hdrop : (madeCells #[z] cs.length).toList.drop cs.length = [] := List.drop_eq_nil_of_le (by simp [hz])
    simp [hdrop]

theorem copyof_i (p : Option Addr) (c : Nat) (cs : List Value) (w : World) (hn : cs.length ≤ 1048576) (h : Cs w p cs) :
    Calls Tryz.prog 154 #[.slice p cs.length c] w fun e w' => ∃ p' c', e = .returned (.slice p' cs.length c') ∧ RS w' w.heap.size w'.heap.size [⟨3, p', c', cs⟩] ∧ Below w.heap.size w w' ∧ (p = none → p' = none) ∧ ((∃ ad, p = some ad) → p' = some ⟨w.heap.size, 0, none⟩) := by
  have n1 : ∀ n c w, (binOp .eql 22 (.slice none n c) (.slice none 0 0)).run Tryz.prog w = .ok (.bool true) w := fun n c w => by kernel_rfl
  have n2 : ∀ ad n c w, (binOp .eql 22 (.slice (some ad) n c) (.slice none 0 0)).run Tryz.prog w = .ok (.bool false) w := fun ad n c w => by kernel_rfl
  cases p with
  | none =>
    have hc := h.nil
    subst hc
    clear h hn
    go_enter Tryz.func154, Tryz.ntmps154
    go_wp2
    go_ret
    exact ⟨none, 0, rfl, RS.one ⟨Nat.le_refl _, .inl rfl⟩, Below.refl _ _, fun _ => rfl, fun ⟨_, e⟩ => by cases e⟩
  | some ad =>
    have hmk := run_make_row' (P := Tryz.prog) 22 3 (.int .i64 0) 8 Tryz.underlying22 Tryz.info3 rfl .i64 .i64 cs.length (by omega) (by omega)
    obtain ⟨W', hcp, hR, hB⟩ := copy_all 22 3 (.int .i64 0) 8 Tryz.underlying22 Tryz.info3 w ad c cs h
    have HR := hide (And.intro hR hB)
    clear h hR hB n1
    generalize hN : cs.length = N at *
    go_enter Tryz.func154, Tryz.ntmps154
    go_wp2
    go_ret
    exact ⟨_, _, rfl, HR.out.1, HR.out.2, (fun e => by cases e), fun _ => rfl⟩

theorem copyof_b (p : Option Addr) (c : Nat) (cs : List Value) (w : World) (hn : cs.length ≤ 1048576) (h : Cs w p cs) :
    Calls Tryz.prog 156 #[.slice p cs.length c] w fun e w' => ∃ p' c', e = .returned (.slice p' cs.length c') ∧ RS w' w.heap.size w'.heap.size [⟨4, p', c', cs⟩] ∧ Below w.heap.size w w' ∧ (p = none → p' = none) ∧ ((∃ ad, p = some ad) → p' = some ⟨w.heap.size, 0, none⟩) := by
  have n1 : ∀ n c w, (binOp .eql 29 (.slice none n c) (.slice none 0 0)).run Tryz.prog w = .ok (.bool true) w := fun n c w => by kernel_rfl
  have n2 : ∀ ad n c w, (binOp .eql 29 (.slice (some ad) n c) (.slice none 0 0)).run Tryz.prog w = .ok (.bool false) w := fun ad n c w => by kernel_rfl
  cases p with
  | none =>
    have hc := h.nil
    subst hc
    clear h hn
    go_enter Tryz.func156, Tryz.ntmps156
    go_wp2
    go_ret
    exact ⟨none, 0, rfl, RS.one ⟨Nat.le_refl _, .inl rfl⟩, Below.refl _ _, fun _ => rfl, fun ⟨_, e⟩ => by cases e⟩
  | some ad =>
    have hmk := run_make_row' (P := Tryz.prog) 29 4 (.bool false) 1 Tryz.underlying29 Tryz.info4 rfl .i64 .i64 cs.length (by omega) (by omega)
    obtain ⟨W', hcp, hR, hB⟩ := copy_all 29 4 (.bool false) 1 Tryz.underlying29 Tryz.info4 w ad c cs h
    have HR := hide (And.intro hR hB)
    clear h hR hB n1
    generalize hN : cs.length = N at *
    go_enter Tryz.func156, Tryz.ntmps156
    go_wp2
    go_ret
    exact ⟨_, _, rfl, HR.out.1, HR.out.2, (fun e => by cases e), fun _ => rfl⟩

theorem copyof_s (p : Option Addr) (c : Nat) (cs : List Value) (w : World) (hn : cs.length ≤ 1048576) (h : Cs w p cs) :
    Calls Tryz.prog 214 #[.slice p cs.length c] w fun e w' => ∃ p' c', e = .returned (.slice p' cs.length c') ∧ RS w' w.heap.size w'.heap.size [⟨22, p', c', cs⟩] ∧ Below w.heap.size w w' ∧ (p = none → p' = none) ∧ ((∃ ad, p = some ad) → p' = some ⟨w.heap.size, 0, none⟩) := by
  have n1 : ∀ n c w, (binOp .eql 23 (.slice none n c) (.slice none 0 0)).run Tryz.prog w = .ok (.bool true) w := fun n c w => by kernel_rfl
  have n2 : ∀ ad n c w, (binOp .eql 23 (.slice (some ad) n c) (.slice none 0 0)).run Tryz.prog w = .ok (.bool false) w := fun ad n c w => by kernel_rfl
  cases p with
  | none =>
    have hc := h.nil
    subst hc
    clear h hn
    go_enter Tryz.func214, Tryz.ntmps214
    go_wp2
    go_ret
    exact ⟨none, 0, rfl, RS.one ⟨Nat.le_refl _, .inl rfl⟩, Below.refl _ _, fun _ => rfl, fun ⟨_, e⟩ => by cases e⟩
  | some ad =>
    have hmk := run_make_row' (P := Tryz.prog) 23 22 (.slice none 0 0) 24 Tryz.underlying23 Tryz.infoSl rfl .i64 .i64 cs.length (by omega) (by omega)
    obtain ⟨W', hcp, hR, hB⟩ := copy_all 23 22 (.slice none 0 0) 24 Tryz.underlying23 Tryz.infoSl w ad c cs h
    have HR := hide (And.intro hR hB)
    clear h hR hB n1
    generalize hN : cs.length = N at *
    go_enter Tryz.func214, Tryz.ntmps214
    go_wp2
    go_ret
    exact ⟨_, _, rfl, HR.out.1, HR.out.2, (fun e => by cases e), fun _ => rfl⟩
end Go.Proofs.YtkndnndildnbpaaGreatDoor

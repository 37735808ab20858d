/- Mark and Concat of the program. -/
import Derived.Test.YthbegalohfbibabMkImpl
import Derived.Lib.AppendZeros
namespace Go.Proofs.Ythbegalohfbibab
open Go.ChangeShapes Go.WideShapes Go.ChangeAt Go.RowKit

theorem lst_of (M : List Int) : lst (fun i => M.getD i 0) M.length = M := by
  refine List.ext_getElem? fun j => ?_
  by_cases h : j < M.length
  · simp [lst, h, List.getD]
  · rw [List.getElem?_eq_none (by simp [lst]; omega), List.getElem?_eq_none (by omega)]

theorem mark_impl (B r : Nat) (v : Value) (M : List Int) (x : Int) (w : World) (ho : w.ownsRow B 3 1 v r (M.map (.int .i64))) (hA : Asc M) :
    Calls Try.prog 26 #[v, .int .i64 x] w fun e w' => ∃ v', e = .returned v' ∧ w'.ownsRow w.heap.size 3 1 v' (mkr M x).length ((mkr M x).map (.int .i64)) ∧ Below w.heap.size w w' := by
  have hr : r = M.length := by simpa using ho.1.symm
  have hlen := hA.len
  have hx := nocell_any x w
  by_cases hno : x < 0 ∨ 8 ≤ x
  · have hm : mkr M x = M := by unfold mkr; rw [if_pos (by omega)]
    rw [hm]
    rw [show decide (x < 0 ∨ 8 ≤ x) = true by simpa using hno] at hx
    rcases ho.2 with ⟨rfl, h0⟩ | ⟨g, cap, cur, rfl, _⟩
    · have hM : M = [] := List.eq_nil_of_length_eq_zero (by omega)
      subst hM
      clear ho hA hm hr h0 hlen hno
      go_enter Try.func26, Try.ntmps26
      go_wp2_with fail
      refine hx.mono ?_
      rintro e w' ⟨rfl, rfl⟩
      go_wp2_with fail
      refine (clone_nil _).mono ?_
      rintro e w'' ⟨rfl, rfl⟩
      go_wp2
      go_ret
      exact ⟨_, rfl, owns_nil, Below.refl _ _⟩
    · obtain ⟨ro, rc, e, hl, hO⟩ := Own.of_owns ho
      simp only [Value.slice.injEq] at e
      obtain ⟨rfl, _, rfl⟩ := e
      have hcl := hide (clone_any ⟨g, 0, none⟩ r cap (fun i => M.getD i 0) w (by omega) hO.sl)
      have HR := hide hr
      clear ho hA hm hlen hno hO hl hr
      go_enter Try.func26, Try.ntmps26
      go_wp2_with fail
      refine hx.mono ?_
      rintro e w' ⟨rfl, hw⟩
      rw [hw]
      clear hw
      go_wp2_with fail
      refine hcl.out.mono ?_
      rintro e w1 ⟨v1, rfl, ho1, b1⟩
      have R := hide (And.intro ho1 b1)
      clear ho1 b1
      go_wp2
      go_ret
      have h := R.out
      rw [HR.out, lst_of] at h
      exact ⟨_, rfl, h⟩
  · have hm : mkr M x = mk M x := by unfold mkr; rw [if_neg (by omega)]
    rw [hm]
    rw [show decide (x < 0 ∨ 8 ≤ x) = false by simpa using hno] at hx
    obtain ⟨ro, rc, rfl, hl, hO⟩ := Own.of_owns ho
    have hK : kept (fun i => M.getD i 0) x r = M.filter (fun y => decide (y ≠ x)) := by rw [hr, kept_filter M x M.length (Nat.le_refl _), List.take_of_length_le (Nat.le_refl _)]
    have hw := hide (with_any ro r rc (fun i => M.getD i 0) x w (by omega) hO.sl)
    have HX : Hid (∀ p, Place (kept (fun i => M.getD i 0) x r) x p → ins (kept (fun i => M.getD i 0) x r) p x = mk M x ∧ (kept (fun i => M.getD i 0) x r).length + 1 = (mk M x).length) := by
      intro p hp
      rw [hK] at hp ⊢
      have e := mk_impl hA.1 hp.1 hp.2.1 hp.2.2
      exact ⟨e, by rw [← e, ins_len]⟩
    clear ho hA hm hlen hno hO hl hr hK
    go_enter Try.func26, Try.ntmps26
    go_wp2_with fail
    refine hx.mono ?_
    rintro e w' ⟨rfl, hw'⟩
    rw [hw']
    clear hw'
    go_wp2_with fail
    refine hw.out.mono ?_
    rintro e w1 ⟨v1, p, rfl, hp, ho1, b1⟩
    obtain ⟨e1, e2⟩ := HX.out p hp
    rw [e1, e2] at ho1
    have R := hide (And.intro ho1 b1)
    clear ho1 b1 e1 e2 hp HX
    go_wp2
    go_ret
    exact ⟨_, rfl, R.out⟩

/-- slices.Grow of none. -/
theorem grow_any (n : Nat) (w : World) (hn : n ≤ 4194304) :
    Calls Try.prog 30 #[.slice none 0 0, .int .i64 (n : Int)] w fun e w' => ∃ v, e = .returned v ∧ w'.ownsRow w.heap.size 3 1 v 0 (([] : List Int).map (.int .i64)) ∧ Below w.heap.size w w' := by
  obtain ⟨i0, hi0, hz0, hz1, hz2⟩ := info_parts Try.info3
  by_cases h0 : n = 0
  · subst h0
    go_enter Try.func30, Try.ntmps30
    go_wp2
    go_ret
    exact ⟨_, rfl, owns_nil, Below.refl _ _⟩
  · have hrz : ∀ ty, (Builtin.append_ #[22, 3] ty #[.slice none 0 0, .int .i64 (n : Int)]).run Try.prog w =
        .ok (.slice (some ⟨w.heap.size, 0, none⟩) n (grownCap w n 0 3)) (w.drew.alloc (.cells (Builtin.zeroCells (Value.int .i64 0).cells n ++ Builtin.zeroCells (Value.int .i64 0).cells (grownCap w n 0 3 - n)) 3)) := fun ty =>
      Lib.run_append_nil_zeros w 22 3 ty 3 i0 _ .i64 .i64 Try.underlying22 Try.underlying3 hi0 hz0 n (by omega) (by omega) (by omega) (by rw [hz2]; omega)
    have hGn : n ≤ grownCap w n 0 3 := grownCap_ge w _ _ _
    have hGm : grownCap w n 0 3 ≤ maxLen := grownCap_le_maxLen w n 0 3 (by unfold maxLen; omega)
    generalize grownCap w n 0 3 = G at *
    obtain ⟨ROW, hROW⟩ : ∃ ROW : Array Value, ROW = Builtin.zeroCells (Value.int .i64 0).cells n ++ Builtin.zeroCells (Value.int .i64 0).cells (G - n) := ⟨_, rfl⟩
    have hRs : ROW.size = G := by rw [hROW]; simp [Builtin.zeroCells, Value.cells]; omega
    rw [← hROW] at hrz
    have hfin : (w.drew.alloc (.cells ROW 3)).ownsRow w.heap.size 3 1 (.slice (some ⟨w.heap.size, 0, none⟩) 0 G) 0 (([] : List Int).map (.int .i64)) :=
      ⟨rfl, .inr ⟨_, G, ROW, rfl, Nat.le_refl _, Deep.blk_alloc_new w.drew _, by omega, hGm, by omega, by simp⟩⟩
    have hB : Below w.heap.size w (w.drew.alloc (.cells ROW 3)) := (Below.drawn (Below.refl _ w) 1).alloc (Nat.le_refl _) _
    obtain ⟨W1, hW⟩ : ∃ W1, W1 = w.drew.alloc (.cells ROW 3) := ⟨_, rfl⟩
    rw [← hW] at hrz hfin hB
    have R := hide (And.intro hfin hB)
    clear hfin hB hW hROW hRs
    unfold maxLen at hGm
    have hpos : (0 : Int) < (n : Int) := by omega
    go_enter Try.func30, Try.ntmps30
    go_wp2_with (first
      | (at_builtin; refine Lib.wpList_append_run _ rfl _ _ _ _ rfl _ _ rfl rfl _ _ (hrz _) ?_))
    go_wp2
    go_ret
    exact ⟨_, rfl, R.out⟩
end Go.Proofs.Ythbegalohfbibab

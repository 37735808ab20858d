/- A list cut off a list of numbers, of the program. -/
import Derived.Test.YtjbhgedbkajmdaaMtOS2Z
import Derived.Test.YtjbhgedbkajmdaaMofIZ
import Derived.Deep.AppendSrc
import Derived.Deep.RegionHeld3

namespace Go.Proofs.Ytjbhgedbkajmdaa
open Go.ChangeShapes Go.WideShapes Go.ChangeAt Go.RowKit
set_option linter.unusedVariables false
set_option linter.unusedSimpArgs false
set_option maxRecDepth 100000

theorem kstep_run {P : Program} {w : World} {ops : Array Oper} {o : Oper} {a : Act} {K : Act → World → Prop} {Q : Exit → Act → World → Prop} {E : Prop} (hgd : o.guard = none) (s x : Operand) (t tn : TypeId)
    (ho : o.op = .call { callee := .builtin .append, args := #[s, x], argTypes := #[t, tn] }) (vs vx : Value) (hs : a.eval s = vs) (hx : a.eval x = vx)
    (v' : Value) (w' : World) (hr : (Builtin.append_ #[t, tn] o.type #[vs, vx]).run P w = .ok v' w') (h : K (a.put o.dst v') w') :
    if Region.wanted o (yielded ops a.tmps) = true then Oper.wp P o a w K Q else E := by
  have hw : Region.wanted o (yielded ops a.tmps) = true := by simp [Region.wanted, hgd]
  rw [if_pos hw]
  exact Lib.wp_append_run w s x t tn ho vs vx hs hx v' w' hr h

/-- What is cut off, and what is left. -/
def CutOut (w w' : World) (ao : Option Addr) (N : List Int) (e : Ending) : Prop :=
  ((∃ (l r : List Int) (ro so : Option Addr) (rc sc : Nat), N = lsq l ++ r ∧ e = .returned (.tuple #[.slice ro l.length rc, .slice so r.length sc, .bool true]) ∧ Own w' w.heap.size 3 ro l.length (fun j => .int .i64 (l.getD j 0)) ∧ l.length ≤ rc ∧ SL .i64 w' so r.length (fun j => r.getD j 0) ∧ r.length ≤ sc ∧ sc ≤ 9223372036854775807 ∧ ∀ b o, so = some ⟨b, o, none⟩ → ∃ o', ao = some ⟨b, o', none⟩) ∨
   ((¬ ∃ l r, N = lsq l ++ r) ∧ e = .returned (.tuple #[.slice none 0 0, .slice none 0 0, .bool false]))) ∧ Below w.heap.size w w'

set_option maxHeartbeats 1000000 in
theorem cut_impl (ao : Option Addr) (c : Nat) (N : List Int) (w : World) (hN : N.length ≤ 1048576) (hc : N.length ≤ c) (hc2 : c ≤ 9223372036854775807) (hs : SL .i64 w ao N.length (fun j => N.getD j 0)) (hm : ∀ x ∈ N, 0 ≤ x ∧ x ≤ 2147483647) :
    Calls Try.prog 85 #[.slice ao N.length c] w fun e w' => CutOut w w' ao N e := by
  obtain ⟨i0, hi, hz0, hz1, hz2⟩ := info_parts Try.info3
  cases N with
  | nil =>
    have HN : Hid (¬ ∃ l r, ([] : List Int) = lsq l ++ r) := fun ⟨l, r, e⟩ => by simp [lsq] at e
    clear hs hm
    go_enter Try.func85, Try.ntmps85
    go_wp2
    refine bodyPost_ret (v := .tuple #[.slice none 0 0, .slice none 0 0, .bool false]) (by simp [results, Try.results85, go_sem]) rfl ?_
    exact ⟨.inr ⟨HN.out, rfl⟩, Below.refl _ _⟩
  | cons x N =>
    obtain ⟨b, off, rfl, hb, hc0⟩ := hs 0 (by simp)
    rw [Nat.add_zero] at hc0
    have hx0 : w.cell? ⟨b, off, none⟩ = some (.int .i64 x) := hc0
    have hx := hm x (by simp)
    have hl : (x :: N).length = N.length + 1 := rfl
    by_cases hge : (N.length : Int) < x
    · have HN : Hid (¬ ∃ l r, x :: N = lsq l ++ r) := fun ⟨l, r, e⟩ => by
        simp only [lsq, List.cons_append, List.cons.injEq] at e
        have := congrArg List.length e.2
        rw [List.length_append] at this
        omega
      rw [hl]
      have hd : decide (((N.length + 1 : Nat) : Int) ≤ x) = true := decide_eq_true (by omega)
      have hd0 : ((N.length + 1 : Nat) : Int) ≤ x := by omega
      generalize hL : N.length + 1 = m at *
      have hpos : ¬ (m : Int) = 0 := by omega
      have hpos2 : ((m : Int) == 0) = false := by simpa using hpos
      have hpos3 : (0 : Int) < (m : Int) := by omega
      clear hs hm hL hl hge
      go_enter Try.func85, Try.ntmps85
      go_wp2
      refine bodyPost_ret (v := .tuple #[.slice none 0 0, .slice none 0 0, .bool false]) (by simp [results, Try.results85, go_sem]) rfl ?_
      exact ⟨.inr ⟨HN.out, rfl⟩, Below.refl _ _⟩
    · obtain ⟨k, rfl⟩ := Int.eq_ofNat_of_zero_le hx.1
      have hkN : k ≤ N.length := by omega
      rw [hl]
      have hd : decide (((N.length + 1 : Nat) : Int) ≤ (k : Int)) = false := decide_eq_false (by omega)
      have hd0 : ¬ ((N.length + 1 : Nat) : Int) ≤ (k : Int) := by omega
      generalize hL : N.length + 1 = m at *
      have hpos : ¬ (m : Int) = 0 := by omega
      have hpos2 : ((m : Int) == 0) = false := by simpa using hpos
      have hpos3 : (0 : Int) < (m : Int) := by omega
      have hc1 : (1 : Int) ≤ (c : Int) := by omega
      have hm1 : (1 : Int) ≤ (m : Int) := by omega
      have hk0 : (0 : Int) ≤ (k : Int) := by omega
      have hke : (1 : Int) + (k : Int) ≤ (m : Int) := by omega
      have hke2 : (1 : Int) + (k : Int) ≤ (c : Int) := by omega
      have hk1 : (1 : Int) ≤ (1 : Int) + (k : Int) := by omega
      have hk2 : (0 : Int) ≤ (1 : Int) + (k : Int) := by omega
      have hwr : IntKind.i64.wrap (1 + (k : Int)) = 1 + (k : Int) := by rw [IntKind.wrap_i64]; omega
      have ht : (1 + (k : Int)).toNat = k + 1 := by omega
      have hmk : m - (k + 1) = (N.drop k).length := by simp; omega
      have HSR : Hid (∀ w', Below w.heap.size w w' → SL .i64 w' (if c = k + 1 then some ⟨b, off, none⟩ else some ⟨b, off + (k + 1), none⟩) (N.drop k).length (fun j => (N.drop k).getD j 0)) := fun w' hb' j hj => by
        have hjl : k + j < N.length := by simp at hj; omega
        obtain ⟨b', off', e, hlt, hcc⟩ := (hs.below hb') (k + j + 1) (by simp; omega)
        simp only [Option.some.injEq, Addr.mk.injEq] at e
        obtain ⟨rfl, rfl, _⟩ := e
        rw [if_neg (by simp at hj; omega)]
        refine ⟨b, off + (k + 1), rfl, hlt, ?_⟩
        rw [show off + (k + 1) + j = off + (k + j + 1) by omega, hcc]
        simp [List.getD, hjl]
      have HLL : Hid (((k : Nat) : Int) :: N = lsq (N.take k) ++ N.drop k) := by
        show _ = _
        have : (N.take k).length = k := by simp; omega
        simp only [lsq, this, List.cons_append, List.take_append_drop]
      have hlk : (N.take k).length = k := by simp; omega
      have HSB : Hid (∀ b1 o, (if c = k + 1 then (some ⟨b, off, none⟩ : Option Addr) else some ⟨b, off + (k + 1), none⟩) = some ⟨b1, o, none⟩ → ∃ o', (some ⟨b, off, none⟩ : Option Addr) = some ⟨b1, o', none⟩) := fun b1 o e => by
        split at e
        · cases e; exact ⟨_, rfl⟩
        · cases e; exact ⟨_, rfl⟩
      have HDC : Hid ((N.drop k).length ≤ c - (k + 1) ∧ c - (k + 1) ≤ 9223372036854775807) := ⟨by omega, by omega⟩
      obtain ⟨ro, rc, W1, hrz, HO⟩ : ∃ (ro : Option Addr) (rc : Nat) (W1 : World), (∀ (ty : TypeId), (Builtin.append_ #[24, 24] ty #[.slice (some ⟨b, off, none⟩) 0 0, .slice (if c = 1 then some ⟨b, off, none⟩ else some ⟨b, off + 1, none⟩) k (c - 1)]).run Try.prog w.drew = .ok (.slice ro k rc) W1) ∧ Hid (Own W1 w.heap.size 3 ro k (fun j => .int .i64 ((N.take k).getD j 0)) ∧ k ≤ rc ∧ Below w.heap.size w W1) := by
        rcases Nat.eq_zero_or_pos k with hk00 | hkp
        · subst hk00
          refine ⟨some ⟨b, off, none⟩, 0, w.drew, fun ty => ?_, .inl rfl, Nat.le_refl _, Below.drawn (Below.refl _ _) 1⟩
          have h := fun (ad : Addr) => run_append_room_src (P := Try.prog) (w := w.drew) 24 24 ty 3 i0 Try.underlying24 hi b off 0 0 (.slice (some ad) 0 (c - 1)) 0 [] (Go.Src.ofSlice w.drew Try.underlying24 ad 0 (c - 1) [] (by simp) (by simp) (by simp)) (by omega) (by simp) (by simp)
          split
          · exact h _
          · exact h _
        · have hne : ¬ c = 1 := by omega
          have hcl : ∀ j u, ((N.take k).map (Value.int .i64))[j]? = some u → w.drew.cell? ((⟨b, off + 1, none⟩ : Addr).add j) = some u := fun j u hu => by
            have hj : j < k := by
              by_cases hj : j < k
              · exact hj
              · rw [List.getElem?_eq_none (by simp; omega)] at hu; cases hu
            have hjl : j < N.length := by omega
            obtain ⟨b', off', e, hlt, hcc⟩ := hs (j + 1) (by simp; omega)
            simp only [Option.some.injEq, Addr.mk.injEq] at e
            obtain ⟨rfl, rfl, _⟩ := e
            rw [Addr.add_lit]
            show w.cell? _ = _
            rw [show off + 1 + j = off + (j + 1) by omega, hcc, ← hu]
            simp [List.getD, hjl, hj]
          have hg := fun ty => run_append_grow_src (P := Try.prog) (w := w.drew) 24 24 ty 3 i0 (.int .i64 0) Try.underlying24 hi hz0 (some ⟨b, off, none⟩) 0 0 [] (run_firstCells_some _ _ 0 ⟨b, off, none⟩ 0 0 [] (by simp) (by simp)) (.slice (some ⟨b, off + 1, none⟩) k (c - 1)) k ((N.take k).map (.int .i64)) (Go.Src.ofSlice w.drew Try.underlying24 ⟨b, off + 1, none⟩ k (c - 1) ((N.take k).map (.int .i64)) (by rw [hz1]; simp; omega) hcl (gones _ _)) (by omega) (by omega) (by rw [Nat.zero_add, nextslicecap_zero hkp, hz2]; omega)
          rw [Nat.zero_add] at hg
          have hGn : k ≤ grownCap w.drew k 0 3 := grownCap_ge w.drew _ _ _
          generalize grownCap w.drew k 0 3 = Gc at *
          refine ⟨_, _, _, fun ty => by rw [if_neg hne]; exact hg ty, ?_, hGn, ?_⟩
          · refine .inr ⟨w.heap.size, rfl, Nat.le_refl _, _, Deep.blk_alloc_new _ _, ?_, fun j hj => ?_⟩
            · simp; omega
            · have hjN : j < N.length := by omega
              rw [Array.getElem?_append_left (by simp; omega)]
              simp [List.getD, hj, hjN]
          · exact ((Below.drawn (Below.drawn (Below.refl _ w) 1) 1).alloc (Nat.le_refl _) _)
      have HLK := hide hlk
      have HMK := hide hmk
      have HB1 := hide HO.out.2.2
      clear hs hm hL hl hge hlk hmk
      go_enter Try.func85, Try.ntmps85
      go_wp2
      go_region_held3 (fun _ => True) (trivial) ((refine kstep_run (by rfl) _ _ _ _ (by rfl) _ _ (by rfl) (by rfl) _ _ (hrz _) ?_))
      generalize (if c = k + 1 then (some ⟨b, off, none⟩ : Option Addr) else some ⟨b, off + (k + 1), none⟩) = so at *
      generalize (if c = 1 then (some ⟨b, off, none⟩ : Option Addr) else some ⟨b, off + 1, none⟩) = so1 at *
      go_wp2
      refine bodyPost_ret (v := .tuple #[.slice ro k rc, .slice so (m - (k + 1)) (c - (k + 1)), .bool true]) (by simp [results, Try.results85, go_sem]) rfl ?_
      refine ⟨.inl ⟨N.take k, N.drop k, ro, _, rc, c - (k + 1), HLL.out, ?_, ?_, ?_, HSR.out W1 HB1.out, HDC.out.1, HDC.out.2, HSB.out⟩, HB1.out⟩
      · rw [HLK.out, ← HMK.out]
      · rw [HLK.out]; exact HO.out.1
      · rw [HLK.out]; exact HO.out.2.1
end Go.Proofs.Ytjbhgedbkajmdaa

/- Generations in a map: the program's side. -/
import Derived.Test.YtjbhgedbkajmdaaGpL
import Derived.Test.YtjbhgedbkajmdaaMokI3
import Derived.Test.YtjbhgedbkajmdaaCatB
import Derived.Carry
namespace Go.Proofs.Ytjbhgedbkajmdaa
open Go.ChangeShapes Go.WideShapes Go.ChangeAt Go.RowKit Go.Maps
set_option maxRecDepth 100000

theorem law3 : Maps.Keyed Try.prog 3 := int_keyed Try.underlying3
theorem zero3 (w : World) : (zeroValue 3).run Try.prog w = .ok (.int .i64 0) w := by kernel_rfl
theorem wf_nat {k : Nat} (h : k ≤ 4194304) : (Lit.int .i64 (k : Int)).wf = true := by
  simp [Lit.wf, IntKind.min, IntKind.max, IntKind.signed, IntKind.bits]; omega

theorem places_impl (ao : Option Addr) (n cap : Nat) (f : Nat → Int) (w : World) (hn : n ≤ 2097152) (hs : SL .i64 w ao n f) (hwf : ∀ i, i < n → (Lit.int .i64 (f i)).wf = true) :
    Calls Try.prog 67 #[.slice ao n cap] w fun e w' => ∃ D : DataW Unit, e = .returned (.map (some w.heap.size)) ∧ w'.ownsMap Try.prog 3 (plainElem Try.prog 3) w.heap.size n D ∧ PlIs D (Plk f n) ∧ Below w.heap.size w w' := by
  have hmm := @run_makeMap Try.prog
  have HS := hide hs
  have HW := hide hwf
  clear hs hwf
  go_enter Try.func67, Try.ntmps67
  go_wp2
  go_loopw [11] (fun i wr => ∃ k : Nat, k ≤ n ∧ i = .int .i64 k ∧ Hid (∃ D : DataW Unit, wr.ownsMap Try.prog 3 (plainElem Try.prog 3) w.heap.size k D ∧ PlIs D (Plk f k) ∧ Below w.heap.size w wr)) (fun i _ => n - (intOf i).toNat)
  case atStart => exact ⟨0, by omega, rfl, .map [], World.ownsMap_made _ _ _ _, pl_start f, (Below.refl _ _).alloc (Nat.le_refl _) _⟩
  case round =>
    obtain ⟨k, hk, rfl, HI⟩ := hrel
    by_cases hlt : k < n
    · obtain ⟨b, off, rfl, hb, hc0⟩ := HS.out k hlt
      obtain ⟨D, ho, hp, hbl⟩ := HI.out
      have hc := (hbl.cell (p := ⟨b, off + k, none⟩) hb).trans hc0
      have hkey := keyOf_int_mk Try.underlying3 (HW.out k hlt)
      have hwk := wf_nat (k := k) (by omega)
      have HP := hide hp
      have HB := hide hbl
      have HY : Hid (∀ y, f k = y → PlIs D (Plk f k)) := fun _ _ => hp
      clear hc0 hp hbl HI
      generalize hy : f k = y at hc hkey
      have HYY := hide hy
      clear hy
      cases hh : Maps.has D (.int .i64 y)
      · go_wp2_with (first
          | (at_lookup; refine wpList_lookup_own_ok_int _ rfl _ _ 82 rfl 3 3 .i64 law3 Try.underlying82 Try.underlying3 (zero3 _) w.heap.size k D rfl ho _ _ rfl hkey ?_; intro c hat hwc; rw [hh]; clear hat hwc)
          | (at_mapUpdate; refine wpList_mapUpdate_own _ rfl _ _ _ 82 rfl 3 3 law3 Try.underlying82 _ w.heap.size k D rfl ho (by unfold maxLen; omega) _ _ _ rfl rfl hkey _ [] (plainElem_int Try.underlying3 hwk) ?_; intro w2 ho2 hg2; go_frame)
          | go_in)
        go_roundw
        case rel => exact ⟨k + 1, by omega, by go_num, _, ho2, by rw [← HYY.out]; exact pl_put HP.out ho.isMap (by rw [HYY.out]; exact hh), HB.out.grown hg2 HB.out.size (fun g e => by cases e; exact Nat.le_refl _)⟩
        case measure => simp [intOf]; omega
      · go_wp2_with (first
          | (at_lookup; refine wpList_lookup_own_ok_int _ rfl _ _ 82 rfl 3 3 .i64 law3 Try.underlying82 Try.underlying3 (zero3 _) w.heap.size k D rfl ho _ _ rfl hkey ?_; intro c hat hwc; rw [hh]; clear hat hwc)
          | go_in)
        go_roundw
        case rel => exact ⟨k + 1, by omega, by go_num, _, ho.mono (by omega), pl_have HP.out (by rw [HYY.out]; exact hh), HB.out⟩
        case measure => simp [intOf]; omega
    · obtain rfl : k = n := by omega
      obtain ⟨D, ho, hp, hbl⟩ := HI.out
      have R := hide (And.intro ho (And.intro hp hbl))
      clear ho hp hbl HI
      go_wp2
      go_ret
      exact ⟨D, rfl, R.out.1, R.out.2.1, R.out.2.2⟩

theorem leave_impl (b n N m : Nat) (f : Nat → Int) (D : DataW Unit) (w : World) (hown : w.ownsMap Try.prog 3 (plainElem Try.prog 3) b N D) (hp : PlIs D (Plk f n)) :
    Calls Try.prog 68 #[.map (some b), .int .i64 (m : Int)] w fun e w' => e = .returned (.tuple #[]) ∧ (∃ D' : DataW Unit, w'.ownsMap Try.prog 3 (plainElem Try.prog 3) b N D' ∧ PlIs D' (Plk f (min n m))) ∧ w.grownBy w' (some b) := by
  have HP := hide hp
  clear hp
  go_enter Try.func68, Try.ntmps68
  go_wp2_with (first
    | (at_range; refine wpList_range_own _ rfl _ 82 rfl 3 3 law3 Try.underlying82 _ b N _ rfl hown ?_; intro w0 hrg0 hg0 hs0)
    | go_in)
  go_frame
  go_loopw [4] (fun _ wr => ∃ (left : Lit → Bool) (cnt : Nat) (D' : DataW Unit), wr.ranges Try.prog 3 (plainElem Try.prog 3) b w.heap.size N D' left cnt ∧ Hid (PlIs D' (Plm f n m left)) ∧ w.grownBy wr (some b))
    (fun _ wr => wr.rangeLeft b w.heap.size)
  case atStart => exact ⟨_, _, _, hrg0, pl_all HP.out, hg0.but _⟩
  case round =>
    obtain ⟨left, cnt, D', hrg, HA, hgw⟩ := hrel
    go_wp2_with (first
      | (at_next; refine wpList_next_ranges_ii _ rfl _ rfl 3 3 .i64 .i64 law3 Try.underlying3 Try.underlying3 b w.heap.size N _ _ _ rfl hrg ?_ ?_)
      | go_in)
    · intro _ hl0
      go_wp2
      go_end0
      exact ⟨rfl, ⟨_, hrg.owns, pl_end HA.out hl0⟩, hgw⟩
    · intro x c w1 cnt1 hwx hwc hlx hat hrg1 hlt hg1 hs1 hen
      have hgw1 := hgw.andThen hg1 (fun j hj => by cases hj; exact Or.inl (Nat.le_refl _))
      obtain ⟨i, rfl, hi⟩ := pl_at HA.out hat
      have HI := hide hi
      clear hi hat
      by_cases hc : m ≤ i
      · have hd : (m : Int) ≤ (i : Int) := by omega
        go_wp2_with (first
          | (at_delete; refine wpList_delete_ranges _ rfl _ _ 82 3 rfl 3 law3 Try.underlying82 _ b w.heap.size N _ _ _ rfl hrg1 _ _ rfl (keyOf_int_mk Try.underlying3 hwx) ?_; intro w2 cnt2 hrg2 hle hturn; go_frame)
          | go_in)
        rw [strike_twice] at hrg2
        go_roundw
        case rel => exact ⟨_, cnt2, _, hrg2, pl_del HA.out HI.out hc, hgw1.andThen hturn.grown (fun j hj => by cases hj; exact Or.inr rfl)⟩
        case measure => rw [hrg2.left_eq, hrg.left_eq]; omega
      · have hd : ¬ (m : Int) ≤ (i : Int) := by omega
        go_wp2_with (first | go_in)
        go_roundw
        case rel => exact ⟨_, cnt1, _, hrg1, pl_stay HA.out HI.out (by omega), hgw1⟩
        case measure => rw [hrg1.left_eq, hrg.left_eq]; exact hlt

theorem plrow_set {w : World} {g n i : Nat} {t : TypeId} {F : Nat → Int} (h : w.rowIs g t n (fun j => .int .i64 (F j))) (x : Int) : (w.setCell ⟨g, i, none⟩ (.int .i64 x)).rowIs g t n (fun j => .int .i64 (if j = i then x else F j)) := by
  obtain ⟨c, hc, hn, hF⟩ := h
  refine ⟨c.setIfInBounds i (.int .i64 x), ?_, by simpa using hn, fun j hj => ?_⟩
  · simp [World.setCell, Array.getElem?_modify, hc]
  · rw [Array.getElem?_setIfInBounds]
    by_cases e : j = i
    · subst e
      rw [if_pos rfl, if_pos (by omega)]; simp
    · rw [if_neg (fun h => e h.symm), hF j hj]; simp [e]
theorem grown_set (w : World) (g i : Nat) (v : Value) : w.grownBy (w.setCell ⟨g, i, none⟩ v) (some g) :=
  ⟨rfl, rfl, rfl, by simp [World.setCell], fun k hk hne => by
    have : k ≠ g := fun e => hne (by rw [e])
    simp [World.setCell, Array.getElem?_modify, Ne.symm this]⟩

theorem order_impl (b N m : Nat) (f : Nat → Int) (D : DataW Unit) (w : World) (hown : w.ownsMap Try.prog 3 (plainElem Try.prog 3) b N D) (hp : PlIs D (Plk f m)) (hm : m ≤ 12) :
    Calls Try.prog 69 #[.map (some b), .int .i64 (m : Int)] w fun e w' => ∃ F : Nat → Int, e = .returned (.slice (some ⟨w.heap.size, 0, none⟩) m m) ∧ w'.rowIs w.heap.size 3 m (fun i => .int .i64 (F i)) ∧ (∀ i, i < m → ((Fst f i → F i = f i) ∧ (¬ Fst f i → F i = 0))) ∧ Below w.heap.size w w' := by
  have hmk := run_make_row' (P := Try.prog) 24 3 (.int .i64 0) 8 Try.underlying24 Try.info3 rfl .i64 .i64 m (by omega) (by omega)
  have HP := hide hp
  have hbl := hown.lt
  clear hp
  have e1 : ∀ o, (w.alloc o).heap.size = w.heap.size + 1 := fun o => by simp
  go_enter Try.func69, Try.ntmps69
  go_wp2_with (first
    | (at_range; refine wpList_range_own _ rfl _ 82 rfl 3 3 law3 Try.underlying82 _ b N _ rfl (hown.alloc _) ?_; intro w0 hrg0 hg0 hs0)
    | go_in)
  go_frame
  rw [e1] at hrg0 hs0 ⊢
  clear hmk
  go_loopw [6] (fun _ wr => ∃ (left : Lit → Bool) (cnt : Nat) (F : Nat → Int), wr.ranges Try.prog 3 (plainElem Try.prog 3) b (w.heap.size + 1) N D left cnt ∧ Hid (wr.rowIs w.heap.size 3 m (fun i => .int .i64 (F i)) ∧ Laid f F m left ∧ Below w.heap.size w wr))
    (fun _ wr => wr.rangeLeft b (w.heap.size + 1))
  case atStart =>
    refine ⟨_, _, fun _ => 0, hrg0, ?_, laid_start HP.out, ((Below.refl _ _).alloc (Nat.le_refl _) _).grown hg0 (by simp) (fun j hj => by cases hj)⟩
    exact (((World.rowIs_made _ _ _ _).congr (by intro i _; simp)).of_block (hg0.block _ (by simp) (by simp)))
  case round =>
    obtain ⟨left, cnt, F, hrg, HI⟩ := hrel
    go_wp2_with (first
      | (at_next; refine wpList_next_ranges_ii _ rfl _ rfl 3 3 .i64 .i64 law3 Try.underlying3 Try.underlying3 b (w.heap.size + 1) N _ _ _ rfl hrg ?_ ?_)
      | go_in)
    · intro _ hl0
      go_wp2
      go_ret
      exact ⟨F, rfl, HI.out.1, laid_end HI.out.2.1 hl0, HI.out.2.2⟩
    · intro x c w1 cnt1 hwx hwc hlx hat hrg1 hlt hg1 hs1 hen
      obtain ⟨i, rfl, hi⟩ := pl_at (pl_all (m := 0) HP.out) hat
      have hrow : w1.rowIs w.heap.size 3 m (fun i => .int .i64 (F i)) := HI.out.1.of_block (hg1.block _ HI.out.1.lt (by simp))
      have him := hi.1
      have hf := hrow.frozen i
      have hcell := hrow.cell him
      have hB1 := HI.out.2.2.grown hg1 HI.out.2.2.size (fun j hj => by cases hj; exact Nat.le_succ _)
      have R : Hid ((w1.setCell ⟨w.heap.size, i, none⟩ (.int .i64 x)).rowIs w.heap.size 3 m (fun j => .int .i64 (if j = i then x else F j)) ∧ Laid f (fun j => if j = i then x else F j) m (fun z => left z && !z.sameKey (.int .i64 x)) ∧ Below w.heap.size w (w1.setCell ⟨w.heap.size, i, none⟩ (.int .i64 x))) :=
        ⟨plrow_set hrow x, laid_step HI.out.2.1 hi, hB1.setCell (p := ⟨w.heap.size, i, none⟩) (Nat.le_refl _) _⟩
      have hrg2 := hrg1.kept (grown_set w1 w.heap.size i (.int .i64 x)) (fun e => by have := Option.some.inj e; omega) (fun e => by have := Option.some.inj e; omega)
      have hd : (i : Int) < (m : Int) := by omega
      clear hat hrow hB1 hi HI
      go_wp2
      go_roundw
      case rel => exact ⟨_, cnt1, _, hrg2, R.out⟩
      case measure => rw [hrg2.left_eq, hrg.left_eq]; exact hlt
end Go.Proofs.Ytjbhgedbkajmdaa

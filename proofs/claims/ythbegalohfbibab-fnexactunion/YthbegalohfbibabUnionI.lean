/- Union of the program. -/
import Derived.Test.YthbegalohfbibabMkImpl2
namespace Go.Proofs.Ythbegalohfbibab
open Go.ChangeShapes Go.WideShapes Go.ChangeAt Go.RowKit

/-- What Concat has put together behind k of the two. -/
def cat2 (f g : Nat → Int) (n m : Nat) : Nat → List Int
  | 0 => []
  | 1 => lst f n
  | _ => lst f n ++ lst g m
def catLen (n m : Nat) : Nat → Nat
  | 0 => 0
  | 1 => n
  | _ => n + m

theorem concat_any (vb n m ca cb : Nat) (ada adb : Addr) (f g : Nat → Int) (w : World) (hn : n ≤ 1048576) (hm : m ≤ 1048576)
    (hv : w.heap[vb]? = some (.cells #[.slice (some ada) n ca, .slice (some adb) m cb] 22 (0, 0))) (hA : SL .i64 w (some ada) n f) (hB : SL .i64 w (some adb) m g) :
    Calls Try.prog 25 #[.slice (some ⟨vb, 0, none⟩) 2 2] w fun e w' => ∃ v, e = .returned v ∧ w'.ownsRow w.heap.size 3 1 v (n + m) ((lst f n ++ lst g m).map (.int .i64)) ∧ Below w.heap.size w w' := by
  obtain ⟨i0, hi, hz0, hz1, hz2⟩ := info_parts Try.info3
  have hvlt : vb < w.heap.size := (Array.getElem?_eq_some_iff.1 hv).1
  have c0 : w.cell? ⟨vb, 0, none⟩ = some (.slice (some ada) n ca) := by simp [World.cell?, hv]
  have c1 : w.cell? ⟨vb, 1, none⟩ = some (.slice (some adb) m cb) := by simp [World.cell?, hv]
  have HA := hide hA
  have HB := hide hB
  clear hA hB hv
  go_enter Try.func25, Try.ntmps25
  go_wp2
  go_loop [3, 5, 11] (fun s _ i => ∃ k : Nat, k ≤ 2 ∧ i = .int .i64 k ∧ s = .int .i64 (catLen n m k : Nat)) (fun _ _ i => 2 - (intOf i).toNat)
  case atStart => exact ⟨0, by omega, rfl, rfl⟩
  case round =>
    obtain ⟨k, hk, rfl, rfl⟩ := hrel
    obtain rfl | rfl | rfl : k = 0 ∨ k = 1 ∨ k = 2 := by omega
    · simp only [catLen]
      go_wp2
      go_round
      case rel => exact ⟨1, by omega, rfl, by simp⟩
      case measure => simp [intOf]
    · simp only [catLen]
      go_wp2
      go_round
      case rel => exact ⟨2, by omega, rfl, by simp⟩
      case measure => simp [intOf]
    · simp only [catLen]
      go_wp2_with fail
      refine (grow_any (n + m) _ (by omega)).mono ?_
      rintro e w1 ⟨v1, rfl, ho1, b1⟩
      have HO1 := hide ho1
      have HB1 := hide b1
      clear ho1 b1
      go_wp2_with fail
      go_loopw [6, 8, 27] (fun v _ i wr => ∃ k : Nat, k ≤ 2 ∧ i = .int .i64 k ∧ Hid (wr.ownsRow w.heap.size 3 1 v (catLen n m k) ((cat2 f g n m k).map (.int .i64)) ∧ Below w.heap.size w wr)) (fun _ _ i _ => 2 - (intOf i).toNat)
      case atStart => exact ⟨0, by omega, rfl, HO1.out, HB1.out⟩
      case round =>
        obtain ⟨k, hk, rfl, HI⟩ := hrel
        clear HO1 HB1
        obtain rfl | rfl | rfl : k = 0 ∨ k = 1 ∨ k = 2 := by omega
        · have d0 := (HI.out.2.cell (p := ⟨vb, 0, none⟩) hvlt).trans c0
          have hnews := hide (news_of HA.out HI.out.2)
          have hone := hide (app_ones .i64 (lst f n))
          have hsz := HI.out.2.size
          go_wp2_with (first
            | (at_builtin; refine wpList_append_own _ rfl _ _ 22 rfl w.heap.size 3 i0 (.int .i64 0) 1 8 Try.underlying22 hi hz0 hz1 hz2 rfl (by decide) _ _ _ rfl HI.out.1 ada n ca ((lst f n).map (.int .i64)) rfl (by simp [lst]) hnews.out hone.out (app_lens (by simp only [catLen]; omega)) (by simp only [catLen]; omega) hsz ?_; intro v' w2 hown' hgrow hnn))
          have R := hide (And.intro hown' (grown_below HI.out.2 hsz HI.out.1 hgrow))
          clear hown' hgrow hnn
          go_wp2
          go_roundw
          case rel => exact ⟨1, by omega, rfl, by simpa [catLen, cat2] using R.out.1, R.out.2⟩
          case measure => simp [intOf]
        · have d1 := (HI.out.2.cell (p := ⟨vb, 1, none⟩) hvlt).trans c1
          have hnews := hide (news_of HB.out HI.out.2)
          have hone := hide (app_ones .i64 (lst g m))
          have hsz := HI.out.2.size
          go_wp2_with (first
            | (at_builtin; refine wpList_append_own _ rfl _ _ 22 rfl w.heap.size 3 i0 (.int .i64 0) 1 8 Try.underlying22 hi hz0 hz1 hz2 rfl (by decide) _ _ _ rfl HI.out.1 adb m cb ((lst g m).map (.int .i64)) rfl (by simp [lst]) hnews.out hone.out (app_lens (by simp only [catLen]; omega)) (by simp only [catLen]; omega) hsz ?_; intro v' w2 hown' hgrow hnn))
          have R := hide (And.intro hown' (grown_below HI.out.2 hsz HI.out.1 hgrow))
          clear hown' hgrow hnn
          go_wp2
          go_roundw
          case rel => exact ⟨2, by omega, rfl, by simpa [catLen, cat2] using R.out.1, R.out.2⟩
          case measure => simp [intOf]
        · go_wp2
          go_ret
          exact ⟨_, rfl, HI.out⟩

/-- The two, one behind the other. -/
def cat (f g : Nat → Int) (n : Nat) (i : Nat) : Int := if i < n then f i else g (i - n)

theorem lst_cat (f g : Nat → Int) (n m : Nat) (i : Nat) (hi : i < n + m) : (lst f n ++ lst g m).getD i 0 = cat f g n i := by
  unfold cat
  by_cases h : i < n
  · rw [if_pos h, List.getD_eq_getElem?_getD, List.getElem?_append_left (by simp [lst]; omega)]
    simp [lst, h]
  · rw [if_neg h, List.getD_eq_getElem?_getD, List.getElem?_append_right (by simp [lst]; omega)]
    simp [lst, show i - n < m by omega]

theorem union_impl (ada adb : Addr) (n m ca cb : Nat) (f g : Nat → Int) (w : World) (hn : n ≤ 1048576) (hm : m ≤ 1048576) (hA : SL .i64 w (some ada) n f) (hB : SL .i64 w (some adb) m g) :
    Calls Try.prog 16 #[.slice (some ada) n ca, .slice (some adb) m cb] w fun e w' => ∃ v, e = .returned v ∧ w'.ownsRow w.heap.size 3 1 v (un (cat f g n) (n + m)).length ((un (cat f g n) (n + m)).map (.int .i64)) ∧ Below w.heap.size w w' := by
  have hb := (Below.refl w.heap.size w).alloc (Nat.le_refl _) (.cells #[.slice (some ada) n ca, .slice (some adb) m cb] 22)
  have hcc := hide (concat_any w.heap.size n m ca cb ada adb f g _ hn hm (Deep.blk_alloc_new w (.cells #[.slice (some ada) n ca, .slice (some adb) m cb] 22)) (hA.below hb) (hB.below hb))
  have HB0 := hide hb
  clear hA hB hb
  go_enter Try.func16, Try.ntmps16
  go_wp2_with fail
  refine hcc.out.mono ?_
  rintro e w1 ⟨v1, rfl, ho1, b1⟩
  obtain ⟨ro, rc, rfl, hlen, hO⟩ := Own.of_owns ho1
  have HS : Hid (SL .i64 w1 ro (n + m) (cat f g n)) := (hO.congr (G := fun i => .int .i64 (cat f g n i)) fun i hi => by rw [lst_cat f g n m i hi]).sl
  have HB1 := hide (HB0.out.trans (b1.mono HB0.out.size))
  clear hlen hO ho1 b1 hcc HB0
  go_wp2_with fail
  go_loopw [5, 7, 13] (fun v _ i wr => ∃ k : Nat, k ≤ n + m ∧ i = .int .i64 k ∧ Hid (wr.ownsRow w.heap.size 3 1 v (un (cat f g n) k).length ((un (cat f g n) k).map (.int .i64)) ∧ Below w1.heap.size w1 wr)) (fun _ _ i _ => n + m - (intOf i).toNat)
  case atStart => exact ⟨0, by omega, rfl, owns_nil, Below.refl _ _⟩
  case round =>
    obtain ⟨k, hk, rfl, HI⟩ := hrel
    by_cases hlt : k < n + m
    · obtain ⟨b, off, rfl, hb, hc0⟩ := HS.out k hlt
      have hc := (HI.out.2.cell (p := ⟨b, off + k, none⟩) hb).trans hc0
      clear hc0
      generalize hy : cat f g n k = y at hc
      have HY := hide hy
      clear hy
      go_wp2_with fail
      refine (mark_impl w.heap.size (un (cat f g n) k).length _ (un (cat f g n) k) y _ HI.out.1 (un_asc _ _)).mono ?_
      rintro e w2 ⟨v2, rfl, ho2, b2⟩
      have R : Hid (w2.ownsRow w.heap.size 3 1 v2 (un (cat f g n) (k + 1)).length ((un (cat f g n) (k + 1)).map (.int .i64)) ∧ Below w1.heap.size w1 w2) := by
        rw [un, HY.out]
        exact ⟨owns_mono ho2 (Nat.le_trans HB1.out.size HI.out.2.size), HI.out.2.trans (b2.mono HI.out.2.size)⟩
      clear ho2 b2
      go_wp2
      go_roundw
      case rel => exact ⟨k + 1, by omega, by go_num, R⟩
      case measure => simp [intOf]; omega
    · obtain rfl : k = n + m := by omega
      go_wp2
      go_ret
      exact ⟨_, rfl, HI.out.1, HB1.out.trans (HI.out.2.mono HB1.out.size)⟩
end Go.Proofs.Ythbegalohfbibab

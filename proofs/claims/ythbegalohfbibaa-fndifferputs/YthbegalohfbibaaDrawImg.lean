/- l2DrawImage hands on some ints, in memory of its own; DrawDiffer hands on two such lists. -/
import Derived.Test.YthbegalohfbibaaDrawB
import Derived.Test.YthbegalohfbibaaPutC
namespace Go.Proofs.Ythbegalohfbibaa
open Go.ChangeShapes Go.WideShapes Go.ChangeAt Go.RowKit

/-- What is drawn beside a cursor at block g, from the world w on: eight ints in the next block. -/
def Img (w wr : World) (g : Nat) (ao : Option Addr) (n cap : Nat) (f F : Nat → Int) : Prop :=
  wr.rowIs w.heap.size 3 8 (fun j => .int .i64 (F j)) ∧ Cur wr g ao n cap f ∧ w.grownBy wr (some g) ∧ g < w.heap.size

theorem Img.step {w wr w1 : World} {g n cap : Nat} {ao : Option Addr} {f F : Nat → Int} (h : Img w wr g ao n cap f F) (hc : Cur w1 g ao n cap f) (hg : wr.grownBy w1 (some g)) : Img w w1 g ao n cap f F :=
  ⟨h.1.of_block (hg.block _ h.1.lt (by simp; have := h.2.2.2; omega)), hc, grown_trans h.2.2.1 hg, h.2.2.2⟩

theorem grown_set (w : World) (G k : Nat) (v : Value) : w.grownBy (w.setCell ⟨G, k, none⟩ v) (some G) := ⟨rfl, rfl, rfl, by simp, fun _ _ hk => blk_oth (by simpa using hk)⟩

/-- Blocks from w's size on were written. -/
theorem grown_on {w wr w1 : World} {g : Nat} {row : Option Nat} (h : w.grownBy wr (some g)) (k : wr.grownBy w1 row) (hr : ∀ b, row = some b → w.heap.size ≤ b) : w.grownBy w1 (some g) :=
  ⟨k.os.trans h.os, k.tape.trans h.tape, k.output.trans h.output, Nat.le_trans h.size k.size, fun i hi hn => (k.block i (Nat.lt_of_lt_of_le hi h.size) (fun e => by have := hr i e.symm; omega)).trans (h.block i hi hn)⟩

theorem Img.set {w wr : World} {g n cap k : Nat} {ao : Option Addr} {f F : Nat → Int} (h : Img w wr g ao n cap f F) (x : Int) : Img w (wr.setCell ⟨w.heap.size, k, none⟩ (.int .i64 x)) g ao n cap f (putAt F (k : Int) x) := by
  obtain ⟨h1, h2, h3, h4⟩ := h
  refine ⟨(h1.set k (.int .i64 x)).congr fun j hj => ?_, h2.grown (grown_set wr w.heap.size k _) (fun b hb => by simp at hb; omega), grown_on h3 (grown_set wr w.heap.size k _) (fun b hb => by simp at hb; omega), h4⟩
  by_cases e : j = k
  · subst e; simp [putAt]
  · rw [if_neg e, putAt, if_neg (by omega)]

theorem Img.alloc {w wr : World} {g n cap : Nat} {ao : Option Addr} {f F : Nat → Int} (h : Img w wr g ao n cap f F) (o : Obj) : Img w (wr.alloc o) g ao n cap f F :=
  h.step (h.2.1.alloc o) (grown_alloc _ _ _)

theorem owns_of_row {w : World} {B G n : Nat} {F : Nat → Int} (h : w.rowIs G 3 n (fun j => .int .i64 (F j))) (hB : B ≤ G) (hn : n ≤ 1048576) : w.ownsRow B 3 1 (.slice (some ⟨G, 0, none⟩) n n) n ((lst F n).map (.int .i64)) := by
  obtain ⟨c, hc, hs, hF⟩ := h
  refine ⟨by simp [lst], .inr ⟨G, n, c, rfl, hB, hc, Nat.le_refl _, by unfold maxLen; omega, by omega, ?_⟩⟩
  refine List.ext_getElem? fun i => ?_
  by_cases hi : i < n
  · rw [List.getElem?_take, if_pos (by omega)]
    have := hF i hi
    simpa [lst, hi] using this
  · rw [List.getElem?_eq_none (by simp; omega), List.getElem?_eq_none (by simp [lst]; omega)]

theorem new_img (w : World) : Calls Try.prog 17 #[] w fun e w' => e = .returned (.slice (some ⟨w.heap.size, 0, none⟩) 8 8) ∧ w'.rowIs w.heap.size 3 8 (fun _ => .int .i64 0) ∧ ∀ row, w.grownBy w' row := by
  have hmk := run_make_row' (P := Try.prog) 24 3 (.int .i64 0) 8 Try.underlying24 Try.info3 rfl .i64 .i64 8 (by omega) (by omega)
  rw [show ((8 : Nat) : Int) = 8 from rfl] at hmk
  go_enter Try.func17, Try.ntmps17
  go_wp2
  go_ret
  exact ⟨rfl, World.rowIs_made _ _ _ _, fun row => grown_alloc _ _ row⟩

/-- What l2DrawImage hands on. -/
def Imaged (w w' : World) (g : Nat) (ao : Option Addr) (n cap : Nat) (f : Nat → Int) (e : Ending) : Prop :=
  (∃ (b m rc : Nat) (F : Nat → Int), e = .returned (.slice (some ⟨b, 0, none⟩) m rc) ∧ 0 < m ∧ m ≤ 9 ∧ Own w' w.heap.size 3 (some ⟨b, 0, none⟩) m (fun i => .int .i64 (F i))) ∧ Cur w' g ao n cap f ∧ w.grownBy w' (some g)

theorem Img.out {w wr : World} {g n cap : Nat} {ao : Option Addr} {f F : Nat → Int} (h : Img w wr g ao n cap f F) {m : Nat} (h0 : 0 < m) (h8 : m ≤ 8) (rc : Nat) : Imaged w wr g ao n cap f (.returned (.slice (some ⟨w.heap.size, 0, none⟩) m rc)) := by
  obtain ⟨⟨c, hc, hs, hF⟩, h2, h3, h4⟩ := h
  exact ⟨⟨_, _, _, F, rfl, h0, by omega, .inr ⟨_, rfl, Nat.le_refl _, c, hc, by omega, fun i hi => hF i (by omega)⟩⟩, h2, h3⟩

theorem img_app {w wr w1 : World} {g n cap : Nat} {ao : Option Addr} {f F : Nat → Int} {v' : Value} {o : Obj} (h : Img w wr g ao n cap f F)
    (ho : w1.ownsRow w.heap.size 3 1 v' (8 + 1) ((lst F 8).map (.int .i64) ++ [.int .i64 1])) (hg : (wr.alloc o).grownBy w1 (some w.heap.size)) : Imaged w w1 g ao n cap f (.returned v') := by
  obtain ⟨h1, h2, h3, h4⟩ := h.alloc o
  obtain ⟨ro, rc, rfl, _, hO⟩ := Own.of_owns (L := lst F 8 ++ [1]) (by simpa using ho)
  obtain ⟨b, rfl, _⟩ := hO.at (i := 0) (by omega)
  exact ⟨⟨b, 9, rc, fun i => (lst F 8 ++ [1]).getD i 0, rfl, by omega, by omega, hO⟩, h2.grown hg (fun k hk => by simp at hk; omega), grown_on h3 hg (fun k hk => by simp at hk; omega)⟩

theorem drawimage_any (g n cap : Nat) (ao : Option Addr) (f : Nat → Int) (w : World) (hc : Cur w g ao n cap f) :
    Calls Try.prog 23 #[.pointer (some ⟨g, 0, none⟩)] w fun e w' => Imaged w w' g ao n cap f e := by
  obtain ⟨i0, hi, hz0, hz1, hz2⟩ := info_parts Try.info3
  have HC := hide hc
  clear hc
  go_enter Try.func23, Try.ntmps23
  go_wp2_with fail
  refine (new_img _).mono ?_
  rintro e w0 ⟨rfl, hr0, hg0⟩
  have HI0 : Hid (Img w w0 g ao n cap f (fun _ => 0)) := ⟨hr0, HC.out.grown (hg0 none) (fun k hk => by cases hk), hg0 _, HC.out.lt⟩
  clear hr0 hg0 HC
  go_wp2_with fail
  go_loopw [4] (fun i wr => ∃ (k : Nat) (F : Nat → Int), k ≤ 6 ∧ i = .int .i64 k ∧ Hid (Img w wr g ao n cap f F)) (fun i _ => 6 - (intOf i).toNat)
  case atStart => exact ⟨0, _, by omega, rfl, HI0⟩
  case round =>
    obtain ⟨k, F, hk, rfl, HI⟩ := hrel
    clear HI0
    go_wp2_with fail
    refine (below_any g n cap 6 ao f _ (by decide) (by decide) HI.out.2.1).mono ?_
    rintro e w1 ⟨⟨x, rfl, hx0, hx1⟩, hcur, hgr⟩
    have HI1 := hide (HI.out.step hcur hgr)
    clear hcur hgr HI
    by_cases hlt : (k : Int) < x
    · go_wp2_with fail
      refine (below_any g n cap 8 ao f _ (by decide) (by decide) HI1.out.2.1).mono ?_
      rintro e w2 ⟨⟨y, rfl, hy0, hy1⟩, hcur, hgr⟩
      have HI2 := hide (HI1.out.step hcur hgr)
      clear hcur hgr HI1
      go_wp2_with fail
      refine (below_any g n cap 9 ao f _ (by decide) (by decide) HI2.out.2.1).mono ?_
      rintro e w3 ⟨⟨z, rfl, hz0', hz1'⟩, hcur, hgr⟩
      have HI3 := hide (HI2.out.step hcur hgr)
      clear hcur hgr HI2
      obtain ⟨j, rfl⟩ := Int.eq_ofNat_of_zero_le hy0
      have hcell := HI3.out.1.cell (i := j) (by omega)
      have hfr := HI3.out.1.frozen j
      have HI4 := hide (HI3.out.set (k := j) z)
      clear HI3
      go_wp2
      go_roundw
      case rel => exact ⟨k + 1, _, by omega, by go_num, HI4⟩
      case measure => simp [intOf]; omega
    · go_wp2_with fail
      refine (below_any g n cap 12 ao f _ (by decide) (by decide) HI1.out.2.1).mono ?_
      rintro e w2 ⟨⟨s, rfl, hs0, hs1⟩, hcur, hgr⟩
      have HI2 := hide (HI1.out.step hcur hgr)
      clear hcur hgr HI1
      by_cases s0 : s = 0
      · subst s0
        have hown := owns_of_row HI2.out.1 (Nat.le_refl _) (by omega)
        have hsz := HI2.out.2.2.1.size
        go_wp2_with (first
          | (at_builtin; refine wpList_append_own _ rfl _ _ 24 rfl w.heap.size 3 i0 (.int .i64 0) 1 8 Try.underlying24 hi hz0 hz1 hz2 rfl (by decide) _ _ _ rfl (hown.alloc _) ⟨w2.heap.size, 0, none⟩ 1 1 [.int .i64 1] rfl rfl (app_cell _ _ _) (app_one _ _) (app_len (by omega)) (by omega) (by simp; omega) ?_; intro v' w4 hown' hgrow hnn))
        have R := hide (img_app HI2.out hown' hgrow)
        clear hown' hgrow hown hnn
        go_wp2
        go_ret
        exact R.out
      · by_cases s1 : s = 1
        · subst s1
          go_wp2_with fail
          refine (pick_any g n cap 3 3 ao (some ⟨w2.heap.size, 0, none⟩) f (fun i => [-1, 200, 201].getD i 0) _ (by decide) (by decide) (HI2.out.alloc _).2.1 (lit_cells w2 [-1, 200, 201] 3 g HI2.out.2.1.lt)).mono ?_
          rintro e w3 ⟨⟨i, hi3, rfl⟩, hcur, hgr⟩
          have HI3 := hide ((HI2.out.alloc _).step hcur hgr)
          clear hcur hgr HI2
          generalize ([-1, 200, 201] : List Int).getD i 0 = z
          have hcell := HI3.out.1.cell (i := 0) (by omega)
          have hfr := HI3.out.1.frozen 0
          have HI4 := hide (HI3.out.set (k := 0) z)
          clear HI3
          go_wp2
          go_ret
          exact HI4.out.out (by omega) (by omega) _
        · by_cases s2 : s = 2
          · subst s2
            go_wp2
            go_ret
            exact HI2.out.out (by omega) (by omega) _
          · have d0 : decide (s = 0) = false := by simpa using s0
            have d1 : decide (s = 1) = false := by simpa using s1
            have d2 : decide (s = 2) = false := by simpa using s2
            go_wp2
            go_ret
            exact HI2.out.out (by omega) (by omega) _
end Go.Proofs.Ythbegalohfbibaa

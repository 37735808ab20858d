/- l1DrawNums, l4Dent of the model. -/
import Derived.Test.YtkeojhnifnkpiaaDrawNZ
import Derived.Test.YtkeojhnifnkpiaaBelowBZ

namespace Go.Proofs.Ytkeojhnifnkpiaa
open Go.ChangeShapes Go.WideShapes Go.ChangeAt Go.RowKit
set_option linter.unusedVariables false
set_option linter.unusedSimpArgs false
set_option maxRecDepth 100000

/-- Bytes that the draws build. -/
def BW (w wr : World) (g : Nat) (ao : Option Addr) (n cap : Nat) (f : Nat → Int) (v : Value) (L : List Int) : Prop := wr.ownsRow w.heap.size 5 1 v L.length (L.map (.int .u8)) ∧ (∀ z ∈ L, 0 ≤ z ∧ z ≤ 255) ∧ CurW w wr g ao n cap f
theorem BW.cur {w wr w1 : World} {g : Nat} {ao : Option Addr} {n cap : Nat} {f : Nat → Int} {v : Value} {L : List Int} (h : BW w wr g ao n cap f v L) (hc : Cur w1 g ao n cap f) (hg : wr.grownBy w1 (some g)) : BW w w1 g ao n cap f v L := ⟨owns_cur h.1 hg h.2.2.2.2, h.2.1, h.2.2.step hc hg⟩
theorem BW.alloc {w wr : World} {g : Nat} {ao : Option Addr} {n cap : Nat} {f : Nat → Int} {v : Value} {L : List Int} (h : BW w wr g ao n cap f v L) (o : Obj) : BW w (wr.alloc o) g ao n cap f v L := h.cur (h.2.2.1.alloc o) (grown_alloc _ _ _)
theorem BW.below {w wr w1 : World} {g : Nat} {ao : Option Addr} {n cap : Nat} {f : Nat → Int} {v : Value} {L : List Int} (h : BW w wr g ao n cap f v L) (hb : Below wr.heap.size wr w1) : BW w w1 g ao n cap f v L := ⟨gbelow h.1 hb, h.2.1, h.2.2.below hb⟩
theorem BW.app {w wr w1 : World} {g : Nat} {ao : Option Addr} {n cap : Nat} {f : Nat → Int} {v v' : Value} {L M : List Int} (h : BW w wr g ao n cap f v L) (ho : w1.ownsRow w.heap.size 5 1 v' (L ++ M).length ((L ++ M).map (.int .u8))) (hg : wr.grownBy w1 v.ownBlock) (hM : ∀ z ∈ M, 0 ≤ z ∧ z ≤ 255) : BW w w1 g ao n cap f v' (L ++ M) :=
  ⟨ho, fun z hz => (List.mem_append.1 hz).elim (h.2.1 z) (hM z), h.2.2.app hg (fun k hk => (World.ownsRow.lt h.1 k hk).1)⟩
theorem BW.size {w wr : World} {g : Nat} {ao : Option Addr} {n cap : Nat} {f : Nat → Int} {v : Value} {L : List Int} (h : BW w wr g ao n cap f v L) : w.heap.size ≤ wr.heap.size := h.2.2.2.1.size

theorem pick6 (j : Nat) (hj : j < 6) : 0 ≤ ([0, 1, 127, 128, 300, 2147483647] : List Int).getD j 0 ∧ ([0, 1, 127, 128, 300, 2147483647] : List Int).getD j 0 ≤ 2147483647 := by
  match j, hj with
  | 0, _ => decide
  | 1, _ => decide
  | 2, _ => decide
  | 3, _ => decide
  | 4, _ => decide
  | 5, _ => decide
theorem pick3 (j : Nat) (hj : j < 3) : 0 ≤ ([0, 128, 255] : List Int).getD j 0 ∧ ([0, 128, 255] : List Int).getD j 0 ≤ 255 := by
  match j, hj with
  | 0, _ => decide
  | 1, _ => decide
  | 2, _ => decide

set_option maxHeartbeats 2000000 in
theorem dnums (g n cap : Nat) (ao : Option Addr) (f : Nat → Int) (w : World) (hc : Cur w g ao n cap f) :
    Calls Try.prog 84 #[.pointer (some ⟨g, 0, none⟩)] w fun e w' => ∃ v L, e = .returned v ∧ L.length ≤ 40 ∧ BW w w' g ao n cap f v L := by
  obtain ⟨i0, hi, hz0, hz1, hz2⟩ := info_parts Try.info5
  have HC := hide hc
  clear hc
  go_enter Try.func84, Try.ntmps84
  go_wp2
  go_loopw [3, 4] (fun v i wr => ∃ (k : Nat) (L : List Int), k ≤ 4 ∧ i = .int .i64 k ∧ L.length ≤ k * 5 ∧ Hid (BW w wr g ao n cap f v L)) (fun _ i _ => 4 - (intOf i).toNat)
  case atStart => exact ⟨0, [], by omega, rfl, by simp, gempty (Nat.le_refl _), by simp, (CurW.refl HC.out).alloc _⟩
  case round =>
    obtain ⟨k, L, hk, rfl, hL, hB⟩ := hrel
    have hks : k * 5 ≤ 20 := by omega
    go_wp2_with fail
    refine (below_any g n cap 4 ao f _ (by decide) (by decide) hB.out.2.2.1).mono ?_
    rintro e w1 ⟨⟨x, rfl, hx0, hx1⟩, hcur, hgr⟩
    have HB1 := hide (hB.out.cur hcur hgr)
    clear hcur hgr hB
    by_cases hlt : (k : Int) < x
    · go_wp2_with fail
      refine (pick_any g n cap 6 6 ao (some ⟨w1.heap.size, 0, none⟩) f (fun i => [0, 1, 127, 128, 300, 2147483647].getD i 0) _ (by decide) (by decide) (HB1.out.alloc _).2.2.1 (lit_cells w1 [0, 1, 127, 128, 300, 2147483647] 3 g HB1.out.2.2.1.lt)).mono ?_
      rintro e w2 ⟨⟨j, hj, rfl⟩, hcur, hgr⟩
      have HB2 := hide ((HB1.out.alloc _).cur hcur hgr)
      have hz := pick6 j hj
      generalize ([0, 1, 127, 128, 300, 2147483647] : List Int).getD j 0 = z at hz
      clear hcur hgr HB1 hj
      go_wp2_with fail
      refine (put_spec z _ hz.1 hz.2).mono ?_
      rintro e w3 ⟨v3, rfl, ho3, hb3⟩
      have HB3 := hide (HB2.out.below hb3)
      have hpl := pb_len 4 z
      have HP : Hid (∀ y ∈ pb 4 z, 0 ≤ y ∧ y ≤ 255) := pb_byte z hz.1 hz.2
      have HSR := hide (Src.of_owns ho3)
      generalize pb 4 z = M at hpl HP HSR
      clear ho3 hb3 HB2
      go_wp2_with (first
        | (at_builtin; refine wpList_append_src rfl _ _ 22 rfl w.heap.size 5 i0 (.int .u8 0) 1 Try.underlying22 hi hz0 hz1 hz2 rfl .u8 _ L rfl HB3.out.1 _ M rfl HSR.out (by unfold maxLen; omega) (by omega) HB3.out.size ?_; intro v' w4 hown' hgrow))
      have HB4 := hide (HB3.out.app hown' hgrow HP.out)
      clear hown' hgrow
      go_wp2
      go_roundw
      case rel => exact ⟨k + 1, L ++ M, by omega, by go_num, by simp; omega, HB4.out⟩
      case measure => simp [intOf]; omega
    · go_wp2_with fail
      refine (once_any g n cap 3 ao f _ (by decide) (by decide) HB1.out.2.2.1).mono ?_
      rintro e w2 ⟨⟨y, rfl⟩, hcur, hgr⟩
      have HB2 := hide (HB1.out.cur hcur hgr)
      clear hcur hgr HB1
      cases y
      · go_wp2
        go_ret
        exact ⟨_, L, rfl, by omega, HB2.out⟩
      · go_wp2_with fail
        refine (pick_any g n cap 3 3 ao (some ⟨w2.heap.size, 0, none⟩) f (fun i => [0, 128, 255].getD i 0) _ (by decide) (by decide) (HB2.out.alloc _).2.2.1 (lit_cells w2 [0, 128, 255] 3 g HB2.out.2.2.1.lt)).mono ?_
        rintro e w3 ⟨⟨j, hj, rfl⟩, hcur, hgr⟩
        have HB3 := hide ((HB2.out.alloc _).cur hcur hgr)
        have hz := pick3 j hj
        generalize ([0, 128, 255] : List Int).getD j 0 = z at hz
        clear hcur hgr HB2 hj
        go_wp2_with fail
        refine (below_any g n cap 3 ao f _ (by decide) (by decide) HB3.out.2.2.1).mono ?_
        rintro e w4 ⟨⟨y, rfl, hy0, hy1⟩, hcur, hgr⟩
        have HB4 := hide (HB3.out.cur hcur hgr)
        clear hcur hgr HB3
        have HSR : Hid (Src .u8 (w4.alloc (.cells #[.int .u8 z, .int .u8 y] 5)) (.slice (some ⟨w4.heap.size, 0, none⟩) 2 2) [z, y]) := .inr ⟨⟨w4.heap.size, 0, none⟩, 2, rfl, gcells w4 [.int .u8 z, .int .u8 y] 5⟩
        go_wp2_with (first
          | (at_builtin; refine wpList_append_src rfl _ _ 22 rfl w.heap.size 5 i0 (.int .u8 0) 1 Try.underlying22 hi hz0 hz1 hz2 rfl .u8 _ L rfl (HB4.out.alloc _).1 _ [z, y] rfl HSR.out (by unfold maxLen; simp; omega) (by simp; omega) (HB4.out.alloc _).size ?_; intro v' w5 hown' hgrow))
        have HB5 := hide ((HB4.out.alloc _).app hown' hgrow (by simp; omega))
        clear hown' hgrow
        go_wp2
        go_ret
        exact ⟨_, L ++ [z, y], rfl, by simp; omega, HB5.out⟩
end Go.Proofs.Ytkeojhnifnkpiaa

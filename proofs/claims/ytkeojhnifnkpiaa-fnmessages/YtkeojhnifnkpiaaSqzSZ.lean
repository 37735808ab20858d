/- Squeeze of the model. -/
import Derived.Test.YtkeojhnifnkpiaaRunSZ
import Derived.Deep.Cut

namespace Go.Proofs.Ytkeojhnifnkpiaa
open Go.ChangeShapes Go.WideShapes Go.ChangeAt Go.RowKit
set_option linter.unusedVariables false
set_option linter.unusedSimpArgs false
set_option maxRecDepth 100000

theorem sqz_step (f : Nat → Int) (n a : Nat) (h : a < n) : sqz f n n a =
    (if 3 ≤ (bst f n a (min a 255)).2 then (128 + ((bst f n a (min a 255)).2 : Int)) :: ((bst f n a (min a 255)).1 : Int) :: sqz f n n (a + (bst f n a (min a 255)).2)
      else if f a = 0 ∨ 127 < f a then 0 :: f a :: sqz f n n (a + 1) else f a :: sqz f n n (a + 1)) := by
  obtain ⟨m, rfl⟩ : ∃ m, n = m + 1 := ⟨n - 1, by omega⟩
  have e : ∀ b, a < b → sqz f (m + 1) m b = sqz f (m + 1) (m + 1) b := fun b hb => sqz_fuel f (m + 1) m (m + 1) b (by omega) (by omega)
  conv => lhs; rw [sqz, if_pos h]
  split
  · next h3 => rw [e _ (by omega)]
  · rw [e _ (by omega)]
theorem sqz_end (f : Nat → Int) (n : Nat) : sqz f n n n = [] := by
  cases n with
  | zero => rfl
  | succ n => rw [sqz, if_neg (by omega)]

theorem bst_bd (f : Nat → Int) (n a k : Nat) (hk : k ≤ 255) : (bst f n a k).1 ≤ 255 ∧ (bst f n a k).2 ≤ 100 ∧ (3 ≤ (bst f n a k).2 → a + (bst f n a k).2 ≤ n) := by
  rcases bst_is f n a k with e | ⟨h1, h2, e⟩
  · rw [e]; simp
  · refine ⟨by omega, by rw [e]; exact run_le _ _ _ _, fun h3 => ?_⟩
    have := run_same f n a (bst f n a k).1 ((bst f n a k).2 - 1) (by rw [← e]; omega)
    omega

theorem squeeze_spec (ao : Option Addr) (n cap : Nat) (f : Nat → Int) (w : World) (hn : n ≤ 1073741824) (hs : SL .u8 w ao n f) (hf : ∀ i, i < n → 0 ≤ f i ∧ f i ≤ 255) :
    Calls Try.prog 99 #[.slice ao n cap] w fun e w' => ∃ v, e = .returned v ∧ w'.ownsRow w.heap.size 5 1 v (squeeze f n).length ((squeeze f n).map (.int .u8)) ∧ v ≠ .slice none 0 0 ∧ Below w.heap.size w w' := by
  obtain ⟨i0, hi, hz0, hz1, hz2⟩ := info_parts Try.info5
  by_cases h3 : 3000 < n
  · have hq : squeeze f n = [] := by unfold squeeze; rw [if_pos h3]
    rw [hq]
    clear hs hf hq
    go_enter Try.func99, Try.ntmps99
    go_wp2
    go_ret
    exact ⟨_, rfl, gempty (Nat.le_refl _), (fun e => by cases e), (Below.refl _ _).alloc (Nat.le_refl _) _⟩
  · have hq : squeeze f n = sqz f n n 0 := by unfold squeeze; rw [if_neg h3]
    rw [hq]
    have HS := hide hs
    have HF := hide hf
    clear hs hf hq
    go_enter Try.func99, Try.ntmps99
    go_wp2
    go_loopw [3, 4, 5, 6] (fun v i _ _ wr => ∃ (a r : Nat) (L : List Int), a ≤ n ∧ r ≤ 2 * a ∧ i = .int .i64 a ∧ Hid (L ++ sqz f n n a = sqz f n n 0 ∧ L.length = r) ∧ wr.ownsRow w.heap.size 5 1 v r (L.map (.int .u8)) ∧ Hid (v ≠ .slice none 0 0) ∧ Below w.heap.size w wr) (fun _ i _ _ _ => n - (intOf i).toNat)
    case atStart => exact ⟨0, 0, [], by omega, by omega, rfl, ⟨rfl, rfl⟩, gempty (Nat.le_refl _), (fun e => by cases e), (Below.refl _ _).alloc (Nat.le_refl _) _⟩
    case round =>
      obtain ⟨a, r, L, han, hra, rfl, hL, hown, hnv, hbel⟩ := hrel
      by_cases hlt : a < n
      · obtain ⟨b, off, rfl, hb, hc0⟩ := HS.out a hlt
        have hy := HF.out a hlt
        obtain ⟨hp1, hp2, hp3⟩ := bst_bd f n a (min a 255) (by omega)
        have hstep := hide (sqz_step f n a hlt)
        have hbest := hide (best_spec (some ⟨b, off, none⟩) n cap a f wr (by omega) hlt (HS.out.below hbel))
        have hc1 : ∀ q, (wr.drewN q).cell? ⟨b, off + a, none⟩ = some (.int .u8 (f a)) := fun q => (hbel.cell (p := ⟨b, off + a, none⟩) hb).trans hc0
        generalize hbp : bst f n a (min a 255) = p at *
        obtain ⟨bk, l⟩ := p
        simp only at hp1 hp2 hp3 hstep hbest
        generalize hfa : f a = y at *
        have HOW := hide (And.intro hown hbel)
        have HC := hide hc1
        clear hbp hfa hown hbel hc1
        go_wp2_with fail
        refine hbest.out.mono ?_
        rintro e w2 ⟨rfl, q, hw2⟩
        rw [hw2]
        clear hw2 hbest
        have hown := gdrawn HOW.out.1 q
        have hbel := Below.drawn HOW.out.2 q
        have hc := HC.out q
        clear HOW HC
        generalize wr.drewN q = wq at *
        by_cases hl3 : 3 ≤ l
        · have hw1 : IntKind.u8.wrap (128 + (l : Int)) = 128 + (l : Int) := by rw [IntKind.wrap_u8]; omega
          have hw2 : IntKind.u8.wrap (bk : Int) = (bk : Int) := by rw [IntKind.wrap_u8]; omega
          go_wp2_with (first
            | (at_builtin; refine wpList_append_own _ rfl _ _ 22 rfl w.heap.size 5 i0 (.int .u8 0) 1 1 Try.underlying22 hi hz0 hz1 hz2 rfl (by decide) _ _ _ rfl (hown.alloc _) ⟨wq.heap.size, 0, none⟩ 2 2 ([128 + (l : Int), (bk : Int)].map (.int .u8)) rfl rfl (gcells _ _ _) (gones _ _) (glens (by omega)) (by omega) (by have := hbel.size; simp; omega) ?_; intro v' w3 hown' hgrow hnn))
          have R := hide (gpush (M := [128 + (l : Int), (bk : Int)]) hbel hbel.size hown hown' hgrow)
          have hnv' : Hid (v' ≠ .slice none 0 0) := fun e => hnv.out (hnn.1 e).1
          clear hown' hgrow hnn hown hbel
          go_wp2
          go_roundw
          case rel => exact ⟨a + l, r + 2, L ++ [128 + (l : Int), (bk : Int)], by omega, by omega, by go_num, ⟨by rw [← hL.out.1, hstep.out, if_pos hl3]; simp, by simp [hL.out.2]⟩, R.out.1, hnv', R.out.2⟩
          case measure => simp [intOf]; omega
        · have hl3' : ¬ (3 : Int) ≤ (l : Int) := by omega
          by_cases hy0 : y = 0
          · have hor : y = 0 ∨ 127 < y := .inl hy0
            subst hy0
            go_upto_region 12 with (first
              | (at_builtin; refine wpList_append_own _ rfl _ _ 22 rfl w.heap.size 5 i0 (.int .u8 0) 1 1 Try.underlying22 hi hz0 hz1 hz2 rfl (by decide) _ _ _ rfl (hown.alloc _) ⟨wq.heap.size, 0, none⟩ 1 1 ([(0 : Int)].map (.int .u8)) rfl rfl (gcells _ _ _) (gones _ _) (glens (by omega)) (by omega) (by have := hbel.size; simp; omega) ?_; intro v1 w3 hown1 hgrow1 hnn1))
            obtain ⟨hown3, hbel3⟩ := gpush (M := [(0 : Int)]) hbel hbel.size hown hown1 hgrow1
            have hnv1 : Hid (v1 ≠ .slice none 0 0) := fun e => hnv.out (hnn1.1 e).1
            have hc3 : w3.cell? ⟨b, off + a, none⟩ = some (.int .u8 0) := (hbel3.cell (p := ⟨b, off + a, none⟩) hb).trans hc0
            clear hown1 hgrow1 hnn1 hown hbel hc
            go_wp2_with (first
              | (at_builtin; refine wpList_append_own _ rfl _ _ 22 rfl w.heap.size 5 i0 (.int .u8 0) 1 1 Try.underlying22 hi hz0 hz1 hz2 rfl (by decide) _ _ _ rfl (hown3.alloc _) ⟨w3.heap.size, 0, none⟩ 1 1 ([(0 : Int)].map (.int .u8)) rfl rfl (gcells _ _ _) (gones _ _) (glens (by omega)) (by omega) (by have := hbel3.size; simp; omega) ?_; intro v2 w4 hown2 hgrow2 hnn2))
            have R := hide (gpush (M := [(0 : Int)]) hbel3 hbel3.size hown3 hown2 hgrow2)
            have hnv' : Hid (v2 ≠ .slice none 0 0) := fun e => hnv1.out (hnn2.1 e).1
            clear hown2 hgrow2 hnn2 hown3 hbel3
            go_wp2
            go_roundw
            case rel => exact ⟨a + 1, r + 1 + 1, L ++ [0] ++ [(0 : Int)], by omega, by omega, by go_num, ⟨by rw [← hL.out.1, hstep.out, if_neg hl3, if_pos hor]; simp, by simp [hL.out.2]⟩, R.out.1, hnv', R.out.2⟩
            case measure => simp [intOf]; omega
          · by_cases hy1 : 127 < y
            · have hor : y = 0 ∨ 127 < y := .inr hy1
              have hd0 : decide (y = 0) = false := by simpa using hy0
              go_upto_region 12 with (first
                | (at_builtin; refine wpList_append_own _ rfl _ _ 22 rfl w.heap.size 5 i0 (.int .u8 0) 1 1 Try.underlying22 hi hz0 hz1 hz2 rfl (by decide) _ _ _ rfl (hown.alloc _) ⟨wq.heap.size, 0, none⟩ 1 1 ([(0 : Int)].map (.int .u8)) rfl rfl (gcells _ _ _) (gones _ _) (glens (by omega)) (by omega) (by have := hbel.size; simp; omega) ?_; intro v1 w3 hown1 hgrow1 hnn1))
              obtain ⟨hown3, hbel3⟩ := gpush (M := [(0 : Int)]) hbel hbel.size hown hown1 hgrow1
              have hnv1 : Hid (v1 ≠ .slice none 0 0) := fun e => hnv.out (hnn1.1 e).1
              have hc3 : w3.cell? ⟨b, off + a, none⟩ = some (.int .u8 y) := (hbel3.cell (p := ⟨b, off + a, none⟩) hb).trans hc0
              clear hown1 hgrow1 hnn1 hown hbel hc
              go_wp2_with (first
                | (at_builtin; refine wpList_append_own _ rfl _ _ 22 rfl w.heap.size 5 i0 (.int .u8 0) 1 1 Try.underlying22 hi hz0 hz1 hz2 rfl (by decide) _ _ _ rfl (hown3.alloc _) ⟨w3.heap.size, 0, none⟩ 1 1 ([y].map (.int .u8)) rfl rfl (gcells _ _ _) (gones _ _) (glens (by omega)) (by omega) (by have := hbel3.size; simp; omega) ?_; intro v2 w4 hown2 hgrow2 hnn2))
              have R := hide (gpush (M := [y]) hbel3 hbel3.size hown3 hown2 hgrow2)
              have hnv' : Hid (v2 ≠ .slice none 0 0) := fun e => hnv1.out (hnn2.1 e).1
              clear hown2 hgrow2 hnn2 hown3 hbel3
              go_wp2
              go_roundw
              case rel => exact ⟨a + 1, r + 1 + 1, L ++ [0] ++ [y], by omega, by omega, by go_num, ⟨by rw [← hL.out.1, hstep.out, if_neg hl3, if_pos hor]; simp, by simp [hL.out.2]⟩, R.out.1, hnv', R.out.2⟩
              case measure => simp [intOf]; omega
            · have hor : ¬ (y = 0 ∨ 127 < y) := by omega
              have hd0 : decide (y = 0) = false := by simpa using hy0
              have hd1 : decide (127 < y) = false := by simpa using hy1
              go_wp2_with (first
                | (at_builtin; refine wpList_append_own _ rfl _ _ 22 rfl w.heap.size 5 i0 (.int .u8 0) 1 1 Try.underlying22 hi hz0 hz1 hz2 rfl (by decide) _ _ _ rfl (hown.alloc _) ⟨wq.heap.size, 0, none⟩ 1 1 ([y].map (.int .u8)) rfl rfl (gcells _ _ _) (gones _ _) (glens (by omega)) (by omega) (by have := hbel.size; simp; omega) ?_; intro v2 w4 hown2 hgrow2 hnn2))
              have R := hide (gpush (M := [y]) hbel hbel.size hown hown2 hgrow2)
              have hnv' : Hid (v2 ≠ .slice none 0 0) := fun e => hnv.out (hnn2.1 e).1
              clear hown2 hgrow2 hnn2 hown hbel
              go_wp2
              go_roundw
              case rel => exact ⟨a + 1, r + 1, L ++ [y], by omega, by omega, by go_num, ⟨by rw [← hL.out.1, hstep.out, if_neg hl3, if_neg hor]; simp, by simp [hL.out.2]⟩, R.out.1, hnv', R.out.2⟩
              case measure => simp [intOf]; omega
      · obtain rfl : a = n := by omega
        go_wp2
        go_ret
        refine ⟨_, rfl, ?_, hnv.out, hbel⟩
        have e := hL.out.1
        rw [sqz_end, List.append_nil] at e
        rw [← e, hL.out.2]
        exact hown
end Go.Proofs.Ytkeojhnifnkpiaa

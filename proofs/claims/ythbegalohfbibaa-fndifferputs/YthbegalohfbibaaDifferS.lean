/- Differ of the model. -/
import Derived.Test.YthbegalohfbibaaApp
namespace Go.Proofs.Ythbegalohfbibaa
open Go.ChangeShapes Go.WideShapes Go.ChangeAt Go.RowKit

/-- The places below k at which s does not hold. -/
def dif (s : Nat → Bool) : Nat → List Int
  | 0 => []
  | k + 1 => if s k then dif s k else dif s k ++ [(k : Int)]
theorem dif_len (s : Nat → Bool) (k : Nat) : (dif s k).length ≤ k := by
  induction k with
  | zero => simp [dif]
  | succ k ih =>
    simp only [dif]
    split
    · omega
    · simp; omega
theorem dif_congr {s t : Nat → Bool} {k : Nat} (h : ∀ i, i < k → s i = t i) : dif s k = dif t k := by
  induction k with
  | zero => rfl
  | succ k ih => rw [dif, dif, ih (fun i hi => h i (by omega)), h k (by omega)]
theorem dif_nil {s : Nat → Bool} {k : Nat} (h : ∀ i, i < k → s i = true) : dif s k = [] := by
  induction k with
  | zero => rfl
  | succ k ih => rw [dif, if_pos (h k (by omega)), ih (fun i hi => h i (by omega))]

/-- Whether both have the same at place i, or both have none. -/
def alike (f g : Nat → Int) (n m i : Nat) : Bool := (decide (i < n) == decide (i < m)) && ((if i < n then f i else 0) == (if i < m then g i else 0))

theorem differ_spec (ao bo : Option Addr) (n m ca cb : Nat) (f g : Nat → Int) (w : World) (_hn : n ≤ 2097152) (_hm : m ≤ 2097152) (hA : SL .i64 w ao n f) (hB : SL .i64 w bo m g) :
    Calls Try.prog 11 #[.slice ao n ca, .slice bo m cb] w fun e w' => ∃ v, e = .returned v ∧ w'.ownsRow w.heap.size 3 1 v (dif (alike f g n m) 8).length ((dif (alike f g n m) 8).map (.int .i64)) ∧ Below w.heap.size w w' := by
  obtain ⟨i0, hi, hz0, hz1, hz2⟩ := info_parts Try.info3
  go_enter Try.func11, Try.ntmps11
  go_wp2
  go_loopw [5, 6] (fun v i wr => ∃ (k r : Nat) (L : List Int), k ≤ 8 ∧ i = .int .i64 k ∧ r ≤ k ∧ Hid (L = dif (alike f g n m) k ∧ L.length = r) ∧ wr.ownsRow w.heap.size 3 1 v r (L.map (.int .i64)) ∧ Below w.heap.size w wr) (fun _ i _ => 8 - (intOf i).toNat)
  case atStart => exact ⟨0, 0, [], by omega, rfl, by omega, ⟨rfl, rfl⟩, owns_empty (Nat.le_refl _), (Below.refl _ _).alloc (Nat.le_refl _) _⟩
  case round =>
    obtain ⟨k, r, L, hk, rfl, hr, hL, hown, hbel⟩ := hrel
    by_cases hlt : k < 8
    · by_cases h1 : k < n
      · have d1 : decide ((k : Int) < (n : Int)) = true := by simp; omega
        by_cases h2 : k < m
        · have d2 : decide ((k : Int) < (m : Int)) = true := by simp; omega
          obtain ⟨b, off, rfl, hb, hc0⟩ := hA k h1
          have hc := (hbel.cell (p := ⟨b, off + k, none⟩) hb).trans hc0
          obtain ⟨b', off', rfl, hb', hc0'⟩ := hB k h2
          have hc' := (hbel.cell (p := ⟨b', off' + k, none⟩) hb').trans hc0'
          by_cases he : f k = g k
          · have hsame : Hid (alike f g n m k = true) := (show _ = true by simp [alike, h1, h2, he])
            rw [← he] at hc'
            clear hA hB hc0 hc0' he
            generalize f k = y at *
            go_wp2
            go_quiet (fail)
            go_wp2
            go_roundw
            case rel => exact ⟨k + 1, r, L, by omega, by go_num, by omega, ⟨by rw [hL.out.1, dif, if_pos hsame.out], hL.out.2⟩, owns_drawn hown _, Below.drawn hbel _⟩
            case measure => simp [intOf]; omega
          · have hsame : Hid (alike f g n m k = false) := (show _ = false by simp [alike, h1, h2, he])
            clear hA hB hc0 hc0'
            generalize f k = y at *
            generalize g k = z at *
            have hd : decide (y = z) = false := by simpa using he
            have hownq := fun q => hide (owns_drawn hown q)
            have hbelq := fun q => hide (Below.drawn hbel q)
            clear hown
            go_wp2
            go_quiet (fail)
            have hown2 := (hownq nq).out
            have hbel2 := (hbelq nq).out
            clear hownq hbelq
            generalize wr.drewN nq = wq at *
            go_wp2_with (first
              | (at_builtin; refine wpList_append_own _ rfl _ _ 24 rfl w.heap.size 3 i0 (.int .i64 0) 1 8 Try.underlying24 hi hz0 hz1 hz2 rfl (by decide) _ _ _ rfl (hown2.alloc _) ⟨wq.heap.size, 0, none⟩ 1 1 [.int .i64 (k : Int)] rfl rfl (app_cell _ _ _) (app_one _ _) (app_len (by omega)) (by omega) (by have := hbel2.size; simp; omega) ?_; intro v' w1 hown' hgrow hnn))
            have R := push hbel2 hbel2.size hown2 hown' hgrow
            clear hown' hgrow hown2 hnn
            go_wp2
            go_roundw
            case rel => exact ⟨k + 1, r + 1, L ++ [(k : Int)], by omega, by go_num, by omega, ⟨by rw [dif, if_neg (by rw [hsame.out]; simp), hL.out.1], by simp [hL.out.2]⟩, R.1, R.2⟩
            case measure => simp [intOf]; omega
        · have d2 : decide ((k : Int) < (m : Int)) = false := by simp; omega
          have hsame : Hid (alike f g n m k = false) := (show _ = false by simp [alike, h1, h2])
          clear hA hB
          have hownq := fun q => hide (owns_drawn hown q)
          have hbelq := fun q => hide (Below.drawn hbel q)
          clear hown
          go_wp2
          go_quiet (fail)
          have hown2 := (hownq nq).out
          have hbel2 := (hbelq nq).out
          clear hownq hbelq
          generalize wr.drewN nq = wq at *
          go_wp2_with (first
            | (at_builtin; refine wpList_append_own _ rfl _ _ 24 rfl w.heap.size 3 i0 (.int .i64 0) 1 8 Try.underlying24 hi hz0 hz1 hz2 rfl (by decide) _ _ _ rfl (hown2.alloc _) ⟨wq.heap.size, 0, none⟩ 1 1 [.int .i64 (k : Int)] rfl rfl (app_cell _ _ _) (app_one _ _) (app_len (by omega)) (by omega) (by have := hbel2.size; simp; omega) ?_; intro v' w1 hown' hgrow hnn))
          have R := push hbel2 hbel2.size hown2 hown' hgrow
          clear hown' hgrow hown2 hnn
          go_wp2
          go_roundw
          case rel => exact ⟨k + 1, r + 1, L ++ [(k : Int)], by omega, by go_num, by omega, ⟨by rw [dif, if_neg (by rw [hsame.out]; simp), hL.out.1], by simp [hL.out.2]⟩, R.1, R.2⟩
          case measure => simp [intOf]; omega
      · have d1 : decide ((k : Int) < (n : Int)) = false := by simp; omega
        by_cases h2 : k < m
        · have d2 : decide ((k : Int) < (m : Int)) = true := by simp; omega
          have hsame : Hid (alike f g n m k = false) := (show _ = false by simp [alike, h1, h2])
          clear hA hB
          have hownq := fun q => hide (owns_drawn hown q)
          have hbelq := fun q => hide (Below.drawn hbel q)
          clear hown
          go_wp2
          go_quiet (fail)
          have hown2 := (hownq nq).out
          have hbel2 := (hbelq nq).out
          clear hownq hbelq
          generalize wr.drewN nq = wq at *
          go_wp2_with (first
            | (at_builtin; refine wpList_append_own _ rfl _ _ 24 rfl w.heap.size 3 i0 (.int .i64 0) 1 8 Try.underlying24 hi hz0 hz1 hz2 rfl (by decide) _ _ _ rfl (hown2.alloc _) ⟨wq.heap.size, 0, none⟩ 1 1 [.int .i64 (k : Int)] rfl rfl (app_cell _ _ _) (app_one _ _) (app_len (by omega)) (by omega) (by have := hbel2.size; simp; omega) ?_; intro v' w1 hown' hgrow hnn))
          have R := push hbel2 hbel2.size hown2 hown' hgrow
          clear hown' hgrow hown2 hnn
          go_wp2
          go_roundw
          case rel => exact ⟨k + 1, r + 1, L ++ [(k : Int)], by omega, by go_num, by omega, ⟨by rw [dif, if_neg (by rw [hsame.out]; simp), hL.out.1], by simp [hL.out.2]⟩, R.1, R.2⟩
          case measure => simp [intOf]; omega
        · have d2 : decide ((k : Int) < (m : Int)) = false := by simp; omega
          have hsame : Hid (alike f g n m k = true) := (show _ = true by simp [alike, h1, h2])
          clear hA hB
          go_wp2
          go_quiet (fail)
          go_wp2
          go_roundw
          case rel => exact ⟨k + 1, r, L, by omega, by go_num, by omega, ⟨by rw [hL.out.1, dif, if_pos hsame.out], hL.out.2⟩, owns_drawn hown _, Below.drawn hbel _⟩
          case measure => simp [intOf]; omega
    · have hkn : k = 8 := by omega
      subst hkn
      go_wp2
      go_ret
      refine ⟨_, rfl, ?_, hbel⟩
      obtain ⟨rfl, rfl⟩ := hL.out
      exact hown
end Go.Proofs.Ythbegalohfbibaa

/- Clear, of the program and of its model. -/
import Derived.Test.YthbegalohfbibabApp
namespace Go.Proofs.Ythbegalohfbibab
open Go.ChangeShapes Go.WideShapes Go.ChangeAt Go.RowKit

/-- The first k without x. -/
def kept (f : Nat → Int) (x : Int) : Nat → List Int
  | 0 => []
  | k + 1 => if f k = x then kept f x k else kept f x k ++ [f k]

theorem kept_len (f : Nat → Int) (x : Int) (k : Nat) : (kept f x k).length ≤ k := by
  induction k with
  | zero => simp [kept]
  | succ k ih =>
    simp only [kept]
    split
    · omega
    · simp; omega

theorem without_any (ao : Option Addr) (n cap : Nat) (f : Nat → Int) (x : Int) (w : World) (hn : n ≤ 2097152) (hs : SL .i64 w ao n f) :
    Calls Try.prog 23 #[.slice ao n cap, .int .i64 x] w fun e w' => ∃ v, e = .returned v ∧ w'.ownsRow w.heap.size 3 1 v (kept f x n).length ((kept f x n).map (.int .i64)) ∧ Below w.heap.size w w' := by
  obtain ⟨i0, hi, hz0, hz1, hz2⟩ := info_parts Try.info3
  go_enter Try.func23, Try.ntmps23
  go_wp2
  go_loopw [5, 7, 10] (fun v _ i wr => ∃ (k m : Nat) (L : List Int), k ≤ n ∧ i = .int .i64 k ∧ m ≤ k ∧ Hid (L = kept f x k ∧ L.length = m) ∧ wr.ownsRow w.heap.size 3 1 v m (L.map (.int .i64)) ∧ Below w.heap.size w wr) (fun _ _ i _ => n - (intOf i).toNat)
  case atStart => exact ⟨0, 0, [], by omega, rfl, by omega, ⟨rfl, rfl⟩, owns_nil, Below.refl _ _⟩
  case round =>
    obtain ⟨k, m, L, hk, rfl, hm, hL, hown, hbel⟩ := hrel
    by_cases hlt : k < n
    · obtain ⟨b, off, rfl, hb, hc0⟩ := hs k hlt
      have hc := (hbel.cell (p := ⟨b, off + k, none⟩) hb).trans hc0
      clear hs hc0
      generalize hy : f k = y at *
      have B : Hid (f k = y) := hy
      clear hy
      by_cases he : y = x
      · subst he
        go_wp2
        go_roundw
        case rel => exact ⟨k + 1, m, L, by omega, by go_num, by omega, ⟨by rw [hL.out.1, kept, if_pos B.out], hL.out.2⟩, hown, hbel⟩
        case measure => simp [intOf]; omega
      · have hd : decide (y = x) = false := by simpa using he
        go_wp2_with (first
          | (at_builtin; refine wpList_append_own _ rfl _ _ 31 rfl w.heap.size 3 i0 (.int .i64 0) 1 8 Try.underlying31 hi hz0 hz1 hz2 rfl (by decide) _ _ _ rfl (hown.alloc _) ⟨wr.heap.size, 0, none⟩ 1 1 [.int .i64 y] rfl rfl (app_cell _ _ _) (app_one _ _) (app_len (by omega)) (by omega) (by have := hbel.size; simp; omega) ?_; intro v' w1 hown' hgrow hnn))
        have R := push hbel hbel.size hown hown' hgrow
        clear hown' hgrow hown hnn
        go_wp2
        go_roundw
        case rel => exact ⟨k + 1, m + 1, L ++ [y], by omega, by go_num, by omega, ⟨by rw [kept, if_neg (by rw [B.out]; exact he), hL.out.1, B.out], by simp [hL.out.2]⟩, R.1, R.2⟩
        case measure => simp [intOf]; omega
    · have hkn : k = n := by omega
      subst hkn
      go_wp2
      go_ret
      refine ⟨_, rfl, ?_, hbel⟩
      obtain ⟨rfl, rfl⟩ := hL.out
      exact hown

theorem clear_impl (ao : Option Addr) (n cap : Nat) (f : Nat → Int) (x : Int) (w : World) (hn : n ≤ 2097152) (hs : SL .i64 w ao n f) :
    Calls Try.prog 12 #[.slice ao n cap, .int .i64 x] w fun e w' => ∃ v, e = .returned v ∧ w'.ownsRow w.heap.size 3 1 v (kept f x n).length ((kept f x n).map (.int .i64)) ∧ Below w.heap.size w w' := by
  have h := without_any ao n cap f x w hn hs
  go_enter Try.func12, Try.ntmps12
  go_wp2_with fail
  refine h.mono ?_
  rintro e w1 ⟨v, rfl, ho, hb⟩
  go_wp2
  go_ret
  exact ⟨_, rfl, ho, hb⟩

theorem clear_spec (ao : Option Addr) (n cap : Nat) (f : Nat → Int) (x : Int) (w : World) (hn : n ≤ 2097152) (hs : SL .i64 w ao n f) :
    Calls Try.prog 11 #[.slice ao n cap, .int .i64 x] w fun e w' => ∃ v, e = .returned v ∧ w'.ownsRow w.heap.size 3 1 v (kept f x n).length ((kept f x n).map (.int .i64)) ∧ Below w.heap.size w w' := by
  obtain ⟨i0, hi, hz0, hz1, hz2⟩ := info_parts Try.info3
  go_enter Try.func11, Try.ntmps11
  go_wp2
  go_loopw [5, 6] (fun v i wr => ∃ (k m : Nat) (L : List Int), k ≤ n ∧ i = .int .i64 k ∧ m ≤ k ∧ Hid (L = kept f x k ∧ L.length = m) ∧ wr.ownsRow w.heap.size 3 1 v m (L.map (.int .i64)) ∧ Below w.heap.size w wr) (fun _ i _ => n - (intOf i).toNat)
  case atStart => exact ⟨0, 0, [], by omega, rfl, by omega, ⟨rfl, rfl⟩, owns_empty (Nat.le_refl _), (Below.refl _ _).alloc (Nat.le_refl _) _⟩
  case round =>
    obtain ⟨k, m, L, hk, rfl, hm, hL, hown, hbel⟩ := hrel
    by_cases hlt : k < n
    · obtain ⟨b, off, rfl, hb, hc0⟩ := hs k hlt
      have hc := (hbel.cell (p := ⟨b, off + k, none⟩) hb).trans hc0
      clear hs hc0
      generalize hy : f k = y at *
      have B : Hid (f k = y) := hy
      clear hy
      by_cases he : y = x
      · subst he
        go_wp2
        go_roundw
        case rel => exact ⟨k + 1, m, L, by omega, by go_num, by omega, ⟨by rw [hL.out.1, kept, if_pos B.out], hL.out.2⟩, hown, hbel⟩
        case measure => simp [intOf]; omega
      · have hd : decide (y = x) = false := by simpa using he
        go_wp2_with (first
          | (at_builtin; refine wpList_append_own _ rfl _ _ 22 rfl w.heap.size 3 i0 (.int .i64 0) 1 8 Try.underlying22 hi hz0 hz1 hz2 rfl (by decide) _ _ _ rfl (hown.alloc _) ⟨wr.heap.size, 0, none⟩ 1 1 [.int .i64 y] rfl rfl (app_cell _ _ _) (app_one _ _) (app_len (by omega)) (by omega) (by have := hbel.size; simp; omega) ?_; intro v' w1 hown' hgrow hnn))
        have R := push hbel hbel.size hown hown' hgrow
        clear hown' hgrow hown hnn
        go_wp2
        go_roundw
        case rel => exact ⟨k + 1, m + 1, L ++ [y], by omega, by go_num, by omega, ⟨by rw [kept, if_neg (by rw [B.out]; exact he), hL.out.1, B.out], by simp [hL.out.2]⟩, R.1, R.2⟩
        case measure => simp [intOf]; omega
    · have hkn : k = n := by omega
      subst hkn
      go_wp2
      go_ret
      refine ⟨_, rfl, ?_, hbel⟩
      obtain ⟨rfl, rfl⟩ := hL.out
      exact hown
end Go.Proofs.Ythbegalohfbibab

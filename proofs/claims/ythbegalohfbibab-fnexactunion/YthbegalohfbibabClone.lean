/- slices.Clone at ints; the same by append. -/
import Derived.Test.YthbegalohfbibabApp
import Derived.Lib.SliceRun
namespace Go.Proofs.Ythbegalohfbibab
open Go.ChangeShapes Go.WideShapes Go.ChangeAt Go.RowKit

/-- The first n, as a list. -/
def lst (f : Nat → Int) (n : Nat) : List Int := (List.range n).map f

theorem lst_len (f : Nat → Int) (n : Nat) : (lst f n).length = n := by simp [lst]
theorem lst_getD (f : Nat → Int) (n i : Nat) (h : i < n) : (lst f n).getD i 0 = f i := by simp [lst, List.getD, h]

theorem news_of {w w' : World} {ad : Addr} {n : Nat} {f : Nat → Int} (hs : SL .i64 w (some ad) n f) (hb : Below w.heap.size w w') :
    ∀ j u, ((lst f n).map (Value.int .i64))[j]? = some u → w'.cell? (ad.add j) = some u := by
  intro j u h
  have hj : j < n := by
    by_cases hj : j < n
    · exact hj
    · rw [List.getElem?_eq_none (by simp [lst]; omega)] at h; cases h
  have e : u = .int .i64 (f j) := by simpa [lst, hj] using h.symm
  obtain ⟨b, off, ea, hlt, hc⟩ := hs j hj
  simp only [Option.some.injEq] at ea
  subst ea
  rw [Addr.add_lit, e]
  exact (hb.cell (p := ⟨b, off + j, none⟩) hlt).trans hc

theorem clone_nil (w : World) :
    Calls Try.prog 31 #[.slice none 0 0] w fun e w' => e = .returned (.slice none 0 0) ∧ w' = w := by
  have hnil : ∀ w, (binOp .eql 22 (.slice none 0 0) (.slice none 0 0)).run Try.prog w = .ok (.bool true) w := fun w => Lib.run_eql_slice_nil w 22 3 none 0 0 0 0 Try.underlying22
  go_enter Try.func31, Try.ntmps31
  go_wp2
  go_ret
  exact ⟨rfl, rfl⟩

theorem clone_any (ad : Addr) (n cap : Nat) (f : Nat → Int) (w : World) (hn : n ≤ 2097152) (hs : SL .i64 w (some ad) n f) :
    Calls Try.prog 31 #[.slice (some ad) n cap] w fun e w' => ∃ v, e = .returned v ∧ w'.ownsRow w.heap.size 3 1 v n ((lst f n).map (.int .i64)) ∧ Below w.heap.size w w' := by
  obtain ⟨i0, hi, hz0, hz1, hz2⟩ := info_parts Try.info3
  have hnil : ∀ w, (binOp .eql 22 (.slice (some ad) n cap) (.slice none 0 0)).run Try.prog w = .ok (.bool false) w := fun w => Lib.run_eql_slice_nil w 22 3 (some ad) n cap 0 0 Try.underlying22
  have hnews := hide (news_of hs ((Below.refl w.heap.size w).alloc (Nat.le_refl _) (.cells #[] 3)))
  have hone := hide (app_ones .i64 (lst f n))
  clear hs
  go_enter Try.func31, Try.ntmps31
  go_wp2_with (first
    | (at_builtin; refine wpList_append_own _ rfl _ _ 22 rfl w.heap.size 3 i0 (.int .i64 0) 1 8 Try.underlying22 hi hz0 hz1 hz2 rfl (by decide) _ _ _ rfl (owns_empty (Nat.le_refl _)) ad n cap ((lst f n).map (.int .i64)) rfl (by simp [lst]) hnews.out hone.out (app_lens (by omega)) (by omega) (by simp) ?_; intro v' w1 hown' hgrow hnn))
  go_wp2
  go_ret
  exact ⟨_, rfl, by simpa using hown', grown_below ((Below.refl w.heap.size w).alloc (Nat.le_refl _) _) (by simp) (owns_empty (Nat.le_refl _)) hgrow⟩
end Go.Proofs.Ythbegalohfbibab

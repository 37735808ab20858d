/- Put, of the program and of its model. -/
import Derived.Test.YthbegalohfbibaaClone
import Derived.Test.YthbegalohfbibaaIn
namespace Go.Proofs.Ythbegalohfbibaa
open Go.ChangeShapes Go.WideShapes Go.ChangeAt Go.RowKit

/-- With x at that place. -/
def putAt (f : Nat → Int) (at_ x : Int) (i : Nat) : Int := if (i : Int) = at_ then x else f i

theorem putAt_out {f : Nat → Int} {at_ x : Int} {n : Nat} (h : at_ < 0 ∨ (n : Int) ≤ at_) (i : Nat) (hi : i < n) : putAt f at_ x i = f i := by
  unfold putAt; rw [if_neg (by omega)]

theorem own_lst {w : World} {B n : Nat} {v : Value} {f : Nat → Int} (h : w.ownsRow B 3 1 v n ((lst f n).map (.int .i64))) :
    ∃ ao cap, v = .slice ao n cap ∧ Own w B 3 ao n (fun i => .int .i64 (f i)) := by
  obtain ⟨ao, cap, rfl, _, ho⟩ := Own.of_owns h
  exact ⟨ao, cap, rfl, ho.congr fun i hi => by rw [lst_getD f n i hi]⟩

theorem put_own {w : World} {B n k : Nat} {g : Nat} {f : Nat → Int} {x : Int} (h : Own w B 3 (some ⟨g, 0, none⟩) n (fun i => .int .i64 (f i))) :
    Own (w.setCell ⟨g, k, none⟩ (.int .i64 x)) B 3 (some ⟨g, 0, none⟩) n (fun i => .int .i64 (putAt f (k : Int) x i)) := by
  refine (h.set k _).congr fun j hj => ?_
  by_cases e : j = k
  · subst e; simp [putAt]
  · rw [if_neg e, putAt, if_neg (by omega)]

theorem put_impl_c (ad : Addr) (n cap : Nat) (f : Nat → Int) (at_ x : Int) (w : World) (hn : n ≤ 2097152) (hs : SL .i64 w (some ad) n f) :
    Calls Try.prog 13 #[.slice (some ad) n cap, .int .i64 at_, .int .i64 x] w fun e w' => ∃ ro rc, e = .returned (.slice ro n rc) ∧ Own w' w.heap.size 3 ro n (fun i => .int .i64 (putAt f at_ x i)) ∧ Below w.heap.size w w' := by
  have hcl := clone_any ad n cap f w hn hs
  clear hs
  by_cases h0 : at_ < 0
  · go_enter Try.func13, Try.ntmps13
    go_wp2_with fail
    refine hcl.mono ?_
    rintro e w1 ⟨v, rfl, ho0, hb⟩
    obtain ⟨ao, c, rfl, ho⟩ := own_lst ho0
    clear hcl ho0
    have h0' : decide (0 ≤ at_) = false := by simpa using h0
    go_wp2
    go_ret
    exact ⟨_, _, rfl, ho.congr fun i hi => by rw [putAt_out (.inl h0) i hi], hb⟩
  · by_cases h1 : at_ < n
    · obtain ⟨k, rfl⟩ : ∃ k : Nat, at_ = k := ⟨at_.toNat, by omega⟩
      have hk : k < n := by omega
      go_enter Try.func13, Try.ntmps13
      go_wp2_with fail
      refine hcl.mono ?_
      rintro e w1 ⟨v, rfl, ho0, hb⟩
      obtain ⟨ao, c, rfl, ho⟩ := own_lst ho0
      clear hcl ho0
      obtain ⟨g, rfl, hB, hg, hc, hf⟩ := ho.at hk
      have R := put_own (k := k) (x := x) ho
      have R2 := hb.setCell (p := ⟨g, k, none⟩) hB (.int .i64 x)
      clear ho
      go_wp2
      go_ret
      exact ⟨_, _, rfl, R, R2⟩
    · go_enter Try.func13, Try.ntmps13
      go_wp2_with fail
      refine hcl.mono ?_
      rintro e w1 ⟨v, rfl, ho0, hb⟩
      obtain ⟨ao, c, rfl, ho⟩ := own_lst ho0
      clear hcl ho0
      have h0' : decide (0 ≤ at_) = true := by simp; omega
      have h1' : decide (at_ < (n : Int)) = false := by simp; omega
      go_wp2
      go_ret
      exact ⟨_, _, rfl, ho.congr fun i hi => by rw [putAt_out (.inr (by omega)) i hi], hb⟩

theorem put_spec_c (ad : Addr) (n cap : Nat) (f : Nat → Int) (at_ x : Int) (w : World) (hn : n ≤ 2097152) (hs : SL .i64 w (some ad) n f) :
    Calls Try.prog 21 #[.slice (some ad) n cap, .int .i64 at_, .int .i64 x] w fun e w' => ∃ ro rc, e = .returned (.slice ro n rc) ∧ Own w' w.heap.size 3 ro n (fun i => .int .i64 (putAt f at_ x i)) ∧ Below w.heap.size w w' := by
  obtain ⟨i0, hi, hz0, hz1, hz2⟩ := info_parts Try.info3
  have hnews := hide (news_of hs ((Below.refl w.heap.size w).alloc (Nat.le_refl _) (.cells #[] 3)))
  have hone := hide (app_ones .i64 (lst f n))
  clear hs
  by_cases h : at_ < 0 ∨ (n : Int) - 1 < at_
  · go_enter Try.func21, Try.ntmps21
    go_wp2_with (first
      | (at_builtin; refine wpList_append_own _ rfl _ _ 24 rfl w.heap.size 3 i0 (.int .i64 0) 1 8 Try.underlying24 hi hz0 hz1 hz2 rfl (by decide) _ _ _ rfl (owns_empty (Nat.le_refl _)) ad n cap ((lst f n).map (.int .i64)) rfl (by simp [lst]) hnews.out hone.out (app_lens (by omega)) (by omega) (by simp) ?_; intro v' w1 hown' hgrow hnn)
      | (go_at_call 29; fail))
    have hb := grown_below ((Below.refl w.heap.size w).alloc (Nat.le_refl _) _) (by simp) (owns_empty (Nat.le_refl _)) hgrow
    obtain ⟨ao, c, rfl, ho⟩ := own_lst (f := f) (n := n) (by simpa using hown')
    clear hown' hgrow hnn hnews hone
    go_wp2_with (go_at_call 29; refine (in_no _ _ _ _ h).mono ?_; rintro e w' ⟨rfl, rfl⟩)
    go_ret
    exact ⟨_, _, rfl, ho.congr fun i hi => by rw [putAt_out (by omega) i hi], hb⟩
  · obtain ⟨k, rfl⟩ : ∃ k : Nat, at_ = k := ⟨at_.toNat, by omega⟩
    have hk : k < n := by omega
    go_enter Try.func21, Try.ntmps21
    go_wp2_with (first
      | (at_builtin; refine wpList_append_own _ rfl _ _ 24 rfl w.heap.size 3 i0 (.int .i64 0) 1 8 Try.underlying24 hi hz0 hz1 hz2 rfl (by decide) _ _ _ rfl (owns_empty (Nat.le_refl _)) ad n cap ((lst f n).map (.int .i64)) rfl (by simp [lst]) hnews.out hone.out (app_lens (by omega)) (by omega) (by simp) ?_; intro v' w1 hown' hgrow hnn)
      | (go_at_call 29; fail))
    have hb := grown_below ((Below.refl w.heap.size w).alloc (Nat.le_refl _) _) (by simp) (owns_empty (Nat.le_refl _)) hgrow
    obtain ⟨ao, c, rfl, ho⟩ := own_lst (f := f) (n := n) (by simpa using hown')
    clear hown' hgrow hnn hnews hone
    obtain ⟨g, rfl, hB, hg, hc, hf⟩ := ho.at hk
    have R := put_own (k := k) (x := x) ho
    have R2 := hb.setCell (p := ⟨g, k, none⟩) hB (.int .i64 x)
    clear ho
    go_wp2_with (go_at_call 29; refine (in_yes _ _ _ _ (by omega) (by omega)).mono ?_; rintro e w' ⟨rfl, rfl⟩)
    go_ret
    exact ⟨_, _, rfl, R, R2⟩
end Go.Proofs.Ythbegalohfbibaa

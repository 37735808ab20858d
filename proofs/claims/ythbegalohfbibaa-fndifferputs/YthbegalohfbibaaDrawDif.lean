/- DrawDiffer hands on two lists of ints. -/
import Derived.Test.YthbegalohfbibaaDrawImg
namespace Go.Proofs.Ythbegalohfbibaa
open Go.ChangeShapes Go.WideShapes Go.ChangeAt Go.RowKit

/-- Two lists of ints, each of one to nine. -/
def Two (w' : World) (e : Ending) : Prop :=
  ∃ (b1 n1 c1 b2 n2 c2 : Nat) (F1 F2 : Nat → Int), e = .returned (.tuple #[.slice (some ⟨b1, 0, none⟩) n1 c1, .slice (some ⟨b2, 0, none⟩) n2 c2]) ∧ n1 ≤ 9 ∧ n2 ≤ 9 ∧ SL .i64 w' (some ⟨b1, 0, none⟩) n1 F1 ∧ SL .i64 w' (some ⟨b2, 0, none⟩) n2 F2

theorem sl_grown {w w' : World} {k : IntKind} {B g n : Nat} {ao : Option Addr} {F : Nat → Int} (h : Own w B 3 ao n (fun i => .int k (F i))) (hg : w.grownBy w' (some g)) (hB : g < B) : Own w' B 3 ao n (fun i => .int k (F i)) := by
  rcases h with h | ⟨b, ea, hb, c, hc, hs, hF⟩
  · exact .inl h
  · exact .inr ⟨b, ea, hb, c, (hg.block b (Array.getElem?_eq_some_iff.1 hc).1 (by simp; omega)).trans hc, hs, hF⟩

theorem below_of {w w1 w2 : World} {g : Nat} (b1 : Below w.heap.size w w1) (hg : w1.grownBy w2 (some g)) (h : w.heap.size ≤ g) : Below w.heap.size w w2 :=
  b1.grown hg b1.size (fun k hk => by simp at hk; omega)

theorem draw_differ (ao : Option Addr) (n cap : Nat) (f : Nat → Int) (w : World) (hn : n ≤ 1048576) (hs : SL .u8 w ao n f) (hf : ∀ i, i < n → 0 ≤ f i ∧ f i ≤ 255) :
    Calls Try.prog 8 #[.slice ao n cap] w fun e w' => Two w' e ∧ Below w.heap.size w w' := by
  have HS := hide hs
  have HF := hide hf
  clear hs hf
  go_enter Try.func8, Try.ntmps8
  go_wp2_with fail
  refine (new_any ao n cap f _ hn HS.out HF.out).mono ?_
  rintro e w1 ⟨rfl, hc, b1⟩
  have HC := hide hc
  have HB := hide b1
  clear hc b1
  go_wp2_with fail
  refine (drawimage_any w.heap.size n cap ao f _ HC.out).mono ?_
  rintro e w2 ⟨⟨ba, na, ca, Fa, rfl, ha0, ha9, oa⟩, hc2, hg2⟩
  have HA := hide oa
  have HB2 := hide (below_of HB.out hg2 (Nat.le_refl _))
  have HC2 := hide hc2
  have hlt1 : w.heap.size < w1.heap.size := HC.out.lt
  clear oa hc2 hg2 HB HC
  go_wp2_with fail
  refine (once_any w.heap.size n cap 3 ao f _ (by decide) (by decide) HC2.out).mono ?_
  rintro e w3 ⟨⟨x, rfl⟩, hc3, hg3⟩
  have HA3 := hide (sl_grown HA.out hg3 hlt1)
  have HB3 := hide (below_of HB2.out hg3 (Nat.le_refl _))
  have HC3 := hide hc3
  clear hc3 hg3 HA HB2 HC2
  cases x with
  | true =>
    go_wp2_with fail
    refine (put_spec_c ⟨ba, 0, none⟩ na ca Fa 2 5 _ (by omega) HA3.out.sl).mono ?_
    rintro e w4 ⟨ro, rc, rfl, o4, b4⟩
    have HA4 := hide (HA3.out.sl.below b4)
    have HO4 := hide o4
    have HB4 := hide (HB3.out.trans (b4.mono HB3.out.size))
    obtain ⟨b', rfl, _⟩ := o4.at ha0
    clear o4 b4
    go_wp2
    go_ret2
    exact ⟨⟨_, _, _, _, _, _, Fa, _, rfl, ha9, ha9, HA4.out, HO4.out.sl⟩, HB4.out⟩
  | false =>
    go_wp2_with fail
    refine (drawimage_any w.heap.size n cap ao f _ HC3.out).mono ?_
    rintro e w4 ⟨⟨bb, nb, cb, Fb, rfl, hb0, hb9, ob⟩, hc4, hg4⟩
    have HA4 := hide (sl_grown HA3.out hg4 hlt1)
    have HO4 := hide ob
    have HB4 := hide (below_of HB3.out hg4 (Nat.le_refl _))
    clear ob hc4 hg4
    go_wp2
    go_ret2
    exact ⟨⟨_, _, _, _, _, _, Fa, Fb, rfl, ha9, hb9, HA4.out.sl, HO4.out.sl⟩, HB4.out⟩

/-- sameInts of two that are alike. -/
theorem same_yes (ao bo : Option Addr) (n ca cb : Nat) (f g : Nat → Int) (w : World) (hn : n ≤ 1048576) (hA : SL .i64 w ao n f) (hB : SL .i64 w bo n g) (he : ∀ i, i < n → f i = g i) :
    Calls Try.prog 10 #[.slice ao n ca, .slice bo n cb] w fun e w' => e = .returned (.bool true) ∧ ∃ q, w' = w.drewN q := by
  go_enter Try.func10, Try.ntmps10
  go_wp2
  go_loopw [5] (fun i wr => ∃ k : Nat, k ≤ n ∧ i = .int .i64 k ∧ ∃ q, wr = w.drewN q) (fun i _ => n - (intOf i).toNat)
  case atStart => exact ⟨0, Nat.zero_le _, rfl, 0, rfl⟩
  case round =>
    obtain ⟨k, hk, rfl, q, rfl⟩ := hrel
    by_cases hlt : k < n
    · obtain ⟨b, off, rfl, hb, hc⟩ := hA k hlt
      obtain ⟨b', off', rfl, hb', hc'⟩ := hB k hlt
      rw [← he k hlt] at hc'
      clear hA hB he
      go_wp2
      go_quiet (fail)
      go_wp2
      go_roundw
      case rel => exact ⟨k + 1, by omega, by go_num, _, rfl⟩
      case measure => simp [intOf]; omega
    · go_wp2
      go_ret
      exact ⟨rfl, q, rfl⟩
end Go.Proofs.Ythbegalohfbibaa

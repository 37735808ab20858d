/- Newer of the program. -/
import Derived.Test.YtjbhgedbkajmdaaNwP
import Derived.Test.YtjbhgedbkajmdaaMokI3
import Derived.Lib.MinMax
namespace Go.Proofs.Ytjbhgedbkajmdaa
open Go.ChangeShapes Go.WideShapes Go.ChangeAt Go.RowKit
set_option linter.unusedVariables false
set_option linter.unusedSimpArgs false
set_option maxRecDepth 100000

/-- A slice that is nil, or leads to a row. -/
def Sl (ao : Option Addr) (n cap : Nat) : Prop := (ao = none ∧ n = 0 ∧ cap = 0) ∨ ∃ b off, ao = some ⟨b, off, none⟩ ∧ n ≤ cap

theorem firstof_any (ao : Option Addr) (n cap : Nat) (w : World) (h : Sl ao n cap) :
    Calls Try.prog 71 #[.slice ao n cap] w fun e w' => (∃ c, e = .returned (.slice ao (min 1 n) c)) ∧ w' = w := by
  rcases h with ⟨rfl, rfl, rfl⟩ | ⟨b, off, rfl, hc⟩
  · go_enter Try.func71, Try.ntmps71
    go_wp2
    go_ret
    exact ⟨⟨_, rfl⟩, rfl⟩
  · by_cases h0 : n = 0
    · subst h0
      have hc0 : (0 : Int) ≤ (cap : Int) := by omega
      go_enter Try.func71, Try.ntmps71
      go_wp2
      go_ret
      exact ⟨⟨_, rfl⟩, rfl⟩
    · have e1 : min (1 : Int) (n : Int) = 1 := by omega
      have e2 : min 1 n = 1 := by omega
      have hc1 : (1 : Int) ≤ (n : Int) := by omega
      have hc2 : (1 : Int) ≤ (cap : Int) := by omega
      rw [e2]
      go_enter Try.func71, Try.ntmps71
      go_wp2
      go_ret
      exact ⟨⟨_, rfl⟩, rfl⟩

theorem hasfirst_any (ao bo : Option Addr) (n m ca cb : Nat) (f g : Nat → Int) (w : World) (hn : n ≤ 1048576) (hA : SL .i64 w ao n f) (hB : SL .i64 w bo m g) (b : Bool) (hb : b = true ↔ FstIn f g n m) :
    Calls Try.prog 72 #[.slice ao n ca, .slice bo m cb] w fun e w' => e = .returned (.bool b) ∧ w' = w := by
  have HA := hide hA
  by_cases m0 : m = 0
  · subst m0
    obtain rfl : b = true := hb.2 (.inl rfl)
    go_enter Try.func72, Try.ntmps72
    go_wp2
    go_ret
    exact ⟨rfl, rfl⟩
  · have hm0 : decide ((m : Int) = 0) = false := by simpa using m0
    have hm1 : ¬ (m : Int) = 0 := by omega
    have hm3 : 0 < m := by omega
    have hm2 : (0 : Int) < (m : Int) := by omega
    obtain ⟨b', off', rfl, hb', hc'⟩ := hB 0 (by omega)
    obtain ⟨y, hy0⟩ : ∃ y, g 0 = y := ⟨_, rfl⟩
    rw [hy0, Nat.add_zero] at hc'
    by_cases h1 : ∃ i, i < n ∧ f i = y
    · obtain rfl : b = true := hb.2 (.inr (by rw [hy0]; exact h1))
      have H1 := hide h1
      clear h1 hy0 hA hB hb
      go_enter Try.func72, Try.ntmps72
      go_wp2_with (first
        | (go_at_call 75; refine (scontains_yes _ _ _ f _ _ (by omega) HA.out H1.out).mono ?_; rintro e9 w9 ⟨rfl, hw9⟩; rw [hw9]; clear hw9)
        | fail)
      go_ret
      exact ⟨rfl, rfl⟩
    · have H1 : Hid (∀ i, i < n → f i ≠ y) := fun i hi e => h1 ⟨i, hi, e⟩
      obtain rfl : b = false := by
        cases b
        · rfl
        · rcases hb.1 rfl with h | ⟨i, hi, e⟩
          · omega
          · rw [hy0] at e; exact absurd ⟨i, hi, e⟩ h1
      clear h1 hy0 hA hB hb
      go_enter Try.func72, Try.ntmps72
      go_wp2_with (first
        | (go_at_call 75; refine (scontains_no _ _ _ f _ _ (by omega) HA.out H1.out).mono ?_; rintro e9 w9 ⟨rfl, hw9⟩; rw [hw9]; clear hw9)
        | fail)
      go_ret
      exact ⟨by simp [m0], rfl⟩

theorem same_first (f g : Nat → Int) (n m : Nat) : SameI f g (min 1 n) (min 1 m) ↔ SameF f g n m := by
  constructor
  · rintro ⟨h1, h2⟩
    by_cases h0 : n = 0
    · exact .inl ⟨h0, by omega⟩
    · exact .inr ⟨by omega, by omega, h2 0 (by omega)⟩
  · rintro (⟨rfl, rfl⟩ | ⟨h1, h2, h3⟩)
    · exact ⟨rfl, fun i hi => by omega⟩
    · exact ⟨by omega, fun i hi => by obtain rfl : i = 0 := by omega
                                      exact h3⟩

theorem bool_of (P : Prop) : ∃ b : Bool, b = true ↔ P := by
  rcases Classical.em P with h | h
  · exact ⟨true, by simp [h]⟩
  · exact ⟨false, by simp [h]⟩

set_option maxHeartbeats 1000000 in
theorem newer_impl (ao bo : Option Addr) (n m ca cb : Nat) (f g : Nat → Int) (w : World) (hn : n ≤ 1048576) (hm : m ≤ 1048576) (hA : SL .i64 w ao n f) (hB : SL .i64 w bo m g) (sA : Sl ao n ca) (sB : Sl bo m cb) :
    Calls Try.prog 26 #[.slice ao n ca, .slice bo m cb] w fun e w' => ∃ r : Int, e = .returned (.int .i64 r) ∧ NewIs f g n m r ∧ ∃ q, w' = w.drewN q := by
  have HA : Hid (∀ q, SL .i64 (w.drewN q) ao n f) := fun q => hA
  have HB : Hid (∀ q, SL .i64 (w.drewN q) bo m g) := fun q => hB
  have HA1 : Hid (SL .i64 w ao (min 1 n) f) := fun i hi => hA i (by omega)
  have HB1 : Hid (SL .i64 w bo (min 1 m) g) := fun i hi => hB i (by omega)
  have h1n : min 1 n ≤ 1 := by omega
  have HSF := hide (same_first f g n m)
  obtain ⟨b1, hb1⟩ := bool_of (FstIn f g n m)
  obtain ⟨b2, hb2⟩ := bool_of (FstIn g f m n)
  have F1 := hide (firstof_any ao n ca w sA)
  have F2 := hide (firstof_any bo m cb w sB)
  have G1 : Hid (∀ q, Calls Try.prog 72 #[.slice ao n ca, .slice bo m cb] (w.drewN q) fun e w' => e = .returned (.bool b1) ∧ w' = w.drewN q) := fun q => hasfirst_any ao bo n m ca cb f g (w.drewN q) hn hA hB b1 hb1
  have G2 : Hid (∀ q, Calls Try.prog 72 #[.slice bo m cb, .slice ao n ca] (w.drewN q) fun e w' => e = .returned (.bool b2) ∧ w' = w.drewN q) := fun q => hasfirst_any bo ao m n cb ca g f (w.drewN q) hm hB hA b2 hb2
  have P1 := hide hb1
  have P2 := hide hb2
  clear hA hB sA sB hb1 hb2
  generalize min 1 n = n1 at *
  generalize min 1 m = m1 at *
  go_enter Try.func26, Try.ntmps26
  go_wp2_with fail
  refine F1.out.mono ?_
  rintro e w1 ⟨⟨c1, rfl⟩, hw⟩
  rw [hw]
  clear hw F1
  go_wp2_with fail
  refine F2.out.mono ?_
  rintro e w2 ⟨⟨c2, rfl⟩, hw⟩
  rw [hw]
  clear hw F2
  go_wp2_with fail
  refine (sequal_any ao bo n1 m1 c1 c2 f g w (by omega) HA1.out HB1.out).mono ?_
  rintro e w3 ⟨h3, q, hw⟩
  rw [hw]
  clear hw
  rcases h3 with ⟨hs, rfl⟩ | ⟨hs, rfl⟩
  · have R : Hid (NewIs f g n m 0) := .inl ⟨HSF.out.1 hs, rfl⟩
    go_wp2
    go_ret
    exact ⟨0, rfl, R.out, q, rfl⟩
  · have NS : Hid (¬ SameF f g n m) := fun h => hs (HSF.out.2 h)
    clear hs
    go_wp2_with fail
    refine (G1.out q).mono ?_
    rintro e w4 ⟨rfl, hw⟩
    rw [hw]
    clear hw
    cases b1
    · go_wp2_with fail
      refine (G2.out q).mono ?_
      rintro e w4 ⟨rfl, hw⟩
      rw [hw]
      clear hw
      have N1 : Hid (¬ FstIn f g n m) := fun h => by have := P1.out.2 h; cases this
      cases b2
      · have R : Hid (NewIs f g n m 3) := .inr (.inr (.inr ⟨NS.out, N1.out, fun h => (by have := P2.out.2 h; cases this), rfl⟩))
        go_wp2
        go_ret
        exact ⟨3, rfl, R.out, q, rfl⟩
      · have R : Hid (NewIs f g n m 2) := .inr (.inr (.inl ⟨NS.out, N1.out, P2.out.1 rfl, rfl⟩))
        go_wp2
        go_ret
        exact ⟨2, rfl, R.out, q, rfl⟩
    · have R : Hid (NewIs f g n m 1) := .inr (.inl ⟨NS.out, P1.out.1 rfl, rfl⟩)
      go_wp2
      go_ret
      exact ⟨1, rfl, R.out, q, rfl⟩
end Go.Proofs.Ytjbhgedbkajmdaa

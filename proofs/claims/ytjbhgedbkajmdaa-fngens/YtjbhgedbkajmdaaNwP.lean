/- Newer: what is answered (pure), and the model's. -/
import Derived.Test.YtjbhgedbkajmdaaGenS
namespace Go.Proofs.Ytjbhgedbkajmdaa
open Go.ChangeShapes Go.WideShapes Go.ChangeAt Go.RowKit
set_option linter.unusedVariables false
set_option linter.unusedSimpArgs false
set_option maxRecDepth 100000

/-- Both have none, or their first ones are the same. -/
def SameF (f g : Nat → Int) (n m : Nat) : Prop := (n = 0 ∧ m = 0) ∨ (0 < n ∧ 0 < m ∧ f 0 = g 0)
/-- The first one of the second is in the first, or it has none. -/
def FstIn (f g : Nat → Int) (n m : Nat) : Prop := m = 0 ∨ ∃ i, i < n ∧ f i = g 0
/-- What Newer answers. -/
def NewIs (f g : Nat → Int) (n m : Nat) (r : Int) : Prop :=
  (SameF f g n m ∧ r = 0) ∨ (¬ SameF f g n m ∧ FstIn f g n m ∧ r = 1) ∨ (¬ SameF f g n m ∧ ¬ FstIn f g n m ∧ FstIn g f m n ∧ r = 2) ∨ (¬ SameF f g n m ∧ ¬ FstIn f g n m ∧ ¬ FstIn g f m n ∧ r = 3)
theorem NewIs.uniq {f g : Nat → Int} {n m : Nat} {r s : Int} (h : NewIs f g n m r) (h' : NewIs f g n m s) : r = s := by
  rcases h with ⟨a, rfl⟩ | ⟨a, b, rfl⟩ | ⟨a, b, c, rfl⟩ | ⟨a, b, c, rfl⟩ <;> rcases h' with ⟨a', rfl⟩ | ⟨a', b', rfl⟩ | ⟨a', b', c', rfl⟩ | ⟨a', b', c', rfl⟩ <;> first | rfl | (exact absurd a a') | (exact absurd a' a) | (exact absurd b b') | (exact absurd b' b) | (exact absurd c c') | (exact absurd c' c)

set_option maxHeartbeats 1000000 in
theorem newer_spec (ao bo : Option Addr) (n m ca cb : Nat) (f g : Nat → Int) (w : World) (hn : n ≤ 1048576) (hm : m ≤ 1048576) (hA : SL .i64 w ao n f) (hB : SL .i64 w bo m g) :
    Calls Try.prog 30 #[.slice ao n ca, .slice bo m cb] w fun e w' => ∃ r : Int, e = .returned (.int .i64 r) ∧ NewIs f g n m r ∧ ∃ q, w' = w.drewN q := by
  have HA : Hid (∀ q, SL .i64 (w.drewN q) ao n f) := fun q => hA
  have HB : Hid (∀ q, SL .i64 (w.drewN q) bo m g) := fun q => hB
  by_cases n0 : n = 0
  · subst n0
    by_cases m0 : m = 0
    · subst m0
      go_enter Try.func30, Try.ntmps30
      go_wp2
      go_ret
      exact ⟨0, rfl, .inl ⟨.inl ⟨rfl, rfl⟩, rfl⟩, 0, rfl⟩
    · have hm0 : decide ((m : Int) = 0) = false := by simpa using m0
      have hm1 : ¬ (m : Int) = 0 := by omega
      obtain ⟨b, off, rfl, hb, hc⟩ := hB 0 (by omega)
      have R : Hid (NewIs f g 0 m 2) := by
        refine .inr (.inr (.inl ⟨?_, ?_, .inl rfl, rfl⟩))
        · rintro (⟨_, h⟩ | ⟨h, _⟩) <;> omega
        · rintro (h | ⟨i, h, _⟩) <;> omega
      generalize hy : g 0 = y at *
      clear hy hA hB HB
      rw [Nat.add_zero] at hc
      go_enter Try.func30, Try.ntmps30
      go_wp2
      go_quiet (fail)
      go_wp2_with (first
        | (go_at_call 73; refine (has_no _ _ _ f _ _ (by omega) (HA.out _) (fun i hi => absurd hi (Nat.not_lt_zero _))).mono ?_; rintro e9 w9 ⟨rfl, hw9⟩; rw [hw9]; clear hw9)
        | fail)
      go_ret
      exact ⟨2, rfl, R.out, _, rfl⟩
  · obtain ⟨b, off, rfl, hb, hc⟩ := hA 0 (by omega)
    have hn0 : decide ((n : Int) = 0) = false := by simpa using n0
    have hn1 : ¬ (n : Int) = 0 := by omega
    have hn2 : (0 : Int) < (n : Int) := by omega
    have hn3 : 0 < n := by omega
    by_cases m0 : m = 0
    · subst m0
      have R : Hid (NewIs f g n 0 1) := by
        refine .inr (.inl ⟨?_, .inl rfl, rfl⟩)
        rintro (⟨h, _⟩ | ⟨_, h, _⟩) <;> omega
      generalize hx : f 0 = x at *
      clear hx hA hB HA HB
      rw [Nat.add_zero] at hc
      go_enter Try.func30, Try.ntmps30
      go_wp2
      go_quiet (fail)
      go_wp2
      go_ret
      exact ⟨1, rfl, R.out, _, rfl⟩
    · have hm0 : decide ((m : Int) = 0) = false := by simpa using m0
      have hm1 : ¬ (m : Int) = 0 := by omega
      have hm2 : (0 : Int) < (m : Int) := by omega
      have hm3 : 0 < m := by omega
      obtain ⟨b', off', rfl, hb', hc'⟩ := hB 0 (by omega)
      have HX : Hid (∃ x, f 0 = x) := ⟨_, rfl⟩
      obtain ⟨x, hx0⟩ : ∃ x, f 0 = x := ⟨_, rfl⟩
      obtain ⟨y, hy0⟩ : ∃ y, g 0 = y := ⟨_, rfl⟩
      rw [hx0, Nat.add_zero] at hc
      rw [hy0, Nat.add_zero] at hc'
      have X := hide hx0
      have Y := hide hy0
      clear hx0 hy0 hA hB HX
      by_cases hxy : x = y
      · subst hxy
        have R : Hid (NewIs f g n m 0) := .inl ⟨.inr ⟨by omega, by omega, by rw [X.out, Y.out]⟩, rfl⟩
        go_enter Try.func30, Try.ntmps30
        go_wp2
        go_quiet (fail)
        go_wp2
        go_ret
        exact ⟨0, rfl, R.out, _, rfl⟩
      · have hd : decide (x = y) = false := by simpa using hxy
        have ns : Hid (¬ SameF f g n m) := by
          rintro (⟨h, _⟩ | ⟨_, _, h⟩)
          · omega
          · rw [X.out, Y.out] at h; exact hxy h
        by_cases h1 : ∃ i, i < n ∧ f i = y
        · have H1 := hide h1
          have R : Hid (NewIs f g n m 1) := .inr (.inl ⟨ns.out, .inr (by rw [Y.out]; exact h1), rfl⟩)
          clear h1
          go_enter Try.func30, Try.ntmps30
          go_wp2
          go_quiet (fail)
          go_wp2_with (first
            | (go_at_call 73; refine (has_yes _ _ _ f _ _ (by omega) (HA.out _) H1.out).mono ?_; rintro e9 w9 ⟨rfl, hw9⟩; rw [hw9]; clear hw9)
            | fail)
          go_ret
          exact ⟨1, rfl, R.out, _, rfl⟩
        · have H1 : Hid (∀ i, i < n → f i ≠ y) := fun i hi e => h1 ⟨i, hi, e⟩
          have nf : Hid (¬ FstIn f g n m) := by
            rintro (h | ⟨i, hi, e⟩)
            · omega
            · rw [Y.out] at e; exact h1 ⟨i, hi, e⟩
          clear h1
          by_cases h2 : ∃ i, i < m ∧ g i = x
          · have H2 := hide h2
            have R : Hid (NewIs f g n m 2) := .inr (.inr (.inl ⟨ns.out, nf.out, .inr (by rw [X.out]; exact h2), rfl⟩))
            clear h2
            have C1 : Hid (∀ q, Calls Try.prog 73 #[.slice (some ⟨b, off, none⟩) n ca, .int .i64 y] (w.drewN q) fun e w' => e = .returned (.bool false) ∧ w' = w.drewN q) := fun q => has_no _ n ca f y _ hn (HA.out q) H1.out
            have C2 : Hid (∀ q, Calls Try.prog 73 #[.slice (some ⟨b', off', none⟩) m cb, .int .i64 x] (w.drewN q) fun e w' => e = .returned (.bool true) ∧ w' = w.drewN q) := fun q => has_yes _ m cb g x _ hm (HB.out q) H2.out
            clear HA HB
            go_enter Try.func30, Try.ntmps30
            go_wp2
            go_quiet (fail)
            go_wp2_with fail
            refine (C1.out _).mono ?_
            rintro e9 w9 ⟨rfl, hw9⟩
            rw [hw9]
            clear hw9
            go_wp2_with fail
            refine (C2.out _).mono ?_
            rintro e9 w9 ⟨rfl, hw9⟩
            rw [hw9]
            clear hw9
            go_wp2
            go_ret
            exact ⟨2, rfl, R.out, _, rfl⟩
          · have H2 : Hid (∀ i, i < m → g i ≠ x) := fun i hi e => h2 ⟨i, hi, e⟩
            have R : Hid (NewIs f g n m 3) := by
              refine .inr (.inr (.inr ⟨ns.out, nf.out, ?_, rfl⟩))
              rintro (h | ⟨i, hi, e⟩)
              · omega
              · rw [X.out] at e; exact h2 ⟨i, hi, e⟩
            clear h2
            have C1 : Hid (∀ q, Calls Try.prog 73 #[.slice (some ⟨b, off, none⟩) n ca, .int .i64 y] (w.drewN q) fun e w' => e = .returned (.bool false) ∧ w' = w.drewN q) := fun q => has_no _ n ca f y _ hn (HA.out q) H1.out
            have C2 : Hid (∀ q, Calls Try.prog 73 #[.slice (some ⟨b', off', none⟩) m cb, .int .i64 x] (w.drewN q) fun e w' => e = .returned (.bool false) ∧ w' = w.drewN q) := fun q => has_no _ m cb g x _ hm (HB.out q) H2.out
            clear HA HB
            go_enter Try.func30, Try.ntmps30
            go_wp2
            go_quiet (fail)
            go_wp2_with fail
            refine (C1.out _).mono ?_
            rintro e9 w9 ⟨rfl, hw9⟩
            rw [hw9]
            clear hw9
            go_wp2_with fail
            refine (C2.out _).mono ?_
            rintro e9 w9 ⟨rfl, hw9⟩
            rw [hw9]
            clear hw9
            go_wp2
            go_ret
            exact ⟨3, rfl, R.out, _, rfl⟩
end Go.Proofs.Ytjbhgedbkajmdaa

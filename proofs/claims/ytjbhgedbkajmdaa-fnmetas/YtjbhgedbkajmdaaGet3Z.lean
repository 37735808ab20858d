/- readNum of the program reads the same number, or panics where there is none. -/
import Derived.Test.YtjbhgedbkajmdaaGf

namespace Go.Proofs.Ytjbhgedbkajmdaa
open Go.ChangeShapes Go.WideShapes Go.ChangeAt Go.RowKit
set_option linter.unusedVariables false
set_option linter.unusedSimpArgs false

/-- How readNum ends. -/
def rend (r : Option (Int × Int)) (e : Ending) : Prop :=
  match r with
  | some (x, y) => e = .returned (.tuple #[.int .i64 x, .int .i64 y])
  | none => ∃ pv, e = .panicked [{ v := .iface 101 pv, recovered := false }]

theorem read_neg (ao : Option Addr) (n cap : Nat) (x : Int) (w : World) (hx : x < 0) (hx' : -9223372036854775808 ≤ x) :
    Calls Try.prog 94 #[.slice ao n cap, .int .i64 x] w fun e w' => rend none e ∧ w' = w := by
  go_enter Try.func94, Try.ntmps94
  go_wp2
  refine wp_loop_rounds 1 ?_
  rw [rounds_succ]
  go_wp2_with (go_at_call 98; refine (byte_no ao n cap _ _ (.inl hx)).mono ?_; rintro e w' ⟨⟨pv, rfl⟩, rfl⟩)
  exact ⟨rfl, ⟨_, rfl⟩, rfl⟩

set_option maxHeartbeats 1000000 in
theorem read_any (ao : Option Addr) (n cap a : Nat) (f : Nat → Int) (w : World) (hn : n ≤ 1048576) (ha : (a : Int) ≤ 9223372036854775807) (hs : SL .u8 w ao n f) (hf : ∀ i, i < n → 0 ≤ f i ∧ f i ≤ 255) :
    Calls Try.prog 94 #[.slice ao n cap, .int .i64 a] w fun e w' => rend (gr n f a 5 0) e ∧ w' = w := by
  go_enter Try.func94, Try.ntmps94
  go_wp2
  go_loop [6, 9] (fun x i => ∃ k : Nat, k ≤ 5 ∧ (k = 0 ∨ a + k ≤ n) ∧ i = .int .i64 k ∧ x = .int .i64 (gacc f a k) ∧ Hid (gr n f a 5 0 = gr n f a (5 - k) k)) (fun _ i => 5 - (intOf i).toNat)
  case atStart => exact ⟨0, Nat.zero_le _, .inl rfl, rfl, rfl, rfl⟩
  case round =>
    obtain ⟨k, hk, hkn, rfl, rfl, hg⟩ := hrel
    have hb := (gacc_bd f a k).1
    have hak : (a : Int) + k ≤ 9223372036854775807 := by omega
    by_cases hk5 : k < 5
    · have e5 : 5 - k = (5 - (k + 1)) + 1 := by omega
      by_cases hin : a + k < n
      · obtain ⟨b, off, rfl, hbs, hc⟩ := hs (a + k) hin
        have hz := hf (a + k) hin
        have hsh := shl_step f a k hk5
        have hbd := shl_bd f a k hk5
        have hg2 := hg.out
        rw [e5, gr_in hin] at hg2
        have hG := (gacc_bd f a (k + 1)).1
        have hGe : gacc f a (k + 1) = gacc f a k + f (a + k) % 128 * 128 ^ k := rfl
        generalize hd : f (a + k) = d at hc hz hsh hbd hg2 hGe
        generalize d % 128 * 128 ^ k = D at hsh hbd hGe
        have HG : Hid (gacc f a (k + 1) = gacc f a k + D) := hGe
        rw [hGe] at hg2 hG
        clear hs hf hd hGe hg e5 hkn
        by_cases hd : d < 128
        · rw [if_pos hd] at hg2
          by_cases hno : (0 < k ∧ d = 0) ∨ 2147483647 < gacc f a k + D
          · rw [if_pos hno] at hg2
            have fin : Hid (gr n f a 5 0 = none) := hg2
            clear hg2 HG
            by_cases h0 : 0 < k ∧ d = 0
            · have h1 : Hid (d = 0) := h0.2
              have h0' : 0 < k := h0.1
              clear hno h0
              go_wp2_with (first
                | (go_at_call 98; refine (byte_yes b off n cap (a + k) _ d _ (by omega) hin hn hc hz).mono ?_; rintro e w' ⟨rfl, rfl⟩)
                | (go_at_call 99; refine (short_no d k _ h1.out (by omega)).mono ?_; rintro e w' ⟨⟨pv, rfl⟩, rfl⟩))
              exact ⟨rfl, by rw [fin.out]; exact ⟨_, rfl⟩, rfl⟩
            · have h2 : 2147483647 < gacc f a k + D := hno.resolve_left h0
              have h1 : Hid (¬ (0 < (k : Int) ∧ d = 0)) := fun x => h0 ⟨by omega, x.2⟩
              clear hno h0
              go_wp2_with (first
                | (go_at_call 98; refine (byte_yes b off n cap (a + k) _ d _ (by omega) hin hn hc hz).mono ?_; rintro e w' ⟨rfl, rfl⟩)
                | (go_at_call 99; refine (short_yes d k _ h1.out).mono ?_; rintro e w' ⟨rfl, rfl⟩)
                | (go_at_call 82; refine (num_no _ _ (.inr h2)).mono ?_; rintro e w' ⟨⟨pv, rfl⟩, rfl⟩))
              exact ⟨rfl, by rw [fin.out]; exact ⟨_, rfl⟩, rfl⟩
          · rw [if_neg hno] at hg2
            have fin : Hid (gr n f a 5 0 = some (gacc f a k + D, (a : Int) + k + 1)) := hg2
            have h2 : gacc f a k + D ≤ 2147483647 := Int.not_lt.1 fun x => hno (.inr x)
            have h1 : Hid (¬ (0 < (k : Int) ∧ d = 0)) := fun x => hno (.inl ⟨by omega, x.2⟩)
            clear hg2 HG hno
            go_wp2_with (first
              | (go_at_call 98; refine (byte_yes b off n cap (a + k) _ d _ (by omega) hin hn hc hz).mono ?_; rintro e w' ⟨rfl, rfl⟩)
              | (go_at_call 99; refine (short_yes d k _ h1.out).mono ?_; rintro e w' ⟨rfl, rfl⟩)
              | (go_at_call 82; refine (num_yes _ _ ⟨hG, h2⟩).mono ?_; rintro e w' ⟨rfl, rfl⟩))
            go_ret2
            exact ⟨by rw [fin.out]; rfl, rfl⟩
        · rw [if_neg hd] at hg2
          have Hg2 : Hid _ := hg2
          clear hg2
          go_wp2_with (go_at_call 98; refine (byte_yes b off n cap (a + k) _ d _ (by omega) hin hn hc hz).mono ?_; rintro e w' ⟨rfl, rfl⟩)
          go_round
          case rel => exact ⟨k + 1, by omega, by omega, by go_num, by rw [HG.out], Hg2⟩
          case measure => simp [intOf]; omega
      · have hg2 := hg.out
        rw [e5, gr_out hin] at hg2
        have fin : Hid (gr n f a 5 0 = none) := hg2
        clear hg2 hg hs hf e5 hkn
        go_wp2_with (go_at_call 98; refine (byte_no ao n cap _ _ (by omega)).mono ?_; rintro e w' ⟨⟨pv, rfl⟩, rfl⟩)
        exact ⟨rfl, by rw [fin.out]; exact ⟨_, rfl⟩, rfl⟩
    · have e5 : k = 5 := by omega
      subst e5
      have fin : Hid (gr n f a 5 0 = none) := hg.out
      clear hs hf hg
      go_wp2
      exact ⟨rfl, by rw [fin.out]; exact ⟨_, rfl⟩, rfl⟩
end Go.Proofs.Ytjbhgedbkajmdaa

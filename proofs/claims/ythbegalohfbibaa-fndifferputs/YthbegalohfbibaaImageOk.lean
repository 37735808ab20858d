/- ImageOk, of the program and of its model. -/
import Derived.Test.YthbegalohfbibaaIdxF
import Derived.Test.YthbegalohfbibaaIn
namespace Go.Proofs.Ythbegalohfbibaa
open Go.ChangeShapes Go.WideShapes Go.ChangeAt Go.RowKit

theorem nowrite_any (x : Int) (w : World) : Calls Try.prog 27 #[.int .i64 x] w fun e w' => e = .returned (.bool (decide (x < 0 ∨ 200 < x))) ∧ w' = w := by
  by_cases h0 : x < 0
  · go_enter Try.func27, Try.ntmps27
    go_wp2
    go_ret
    exact ⟨by simp [h0], rfl⟩
  · by_cases h1 : 200 < x
    · go_enter Try.func27, Try.ntmps27
      go_wp2
      go_ret
      exact ⟨by simp, rfl⟩
    · go_enter Try.func27, Try.ntmps27
      go_wp2
      go_ret
      exact ⟨by simp [h0, h1], rfl⟩

/-- Eight numbers in 0 .. 200. -/
def IOk (f : Nat → Int) (n : Nat) : Prop := n = 8 ∧ ∀ i, i < n → 0 ≤ f i ∧ f i ≤ 200

theorem imageok_spec (ao : Option Addr) (n cap : Nat) (f : Nat → Int) (w : World) (hn : n ≤ 1048576) (hs : SL .i64 w ao n f) :
    Calls Try.prog 14 #[.slice ao n cap] w fun e w' => (∃ b : Bool, e = .returned (.bool b) ∧ (b = true ↔ IOk f n)) ∧ w' = w := by
  go_enter Try.func14, Try.ntmps14
  go_wp2
  go_loop [3] (fun i => ∃ k : Nat, k ≤ n ∧ i = .int .i64 k ∧ Hid (∀ j, j < k → 0 ≤ f j ∧ f j ≤ 200)) (fun i => n - (intOf i).toNat)
  case atStart => exact ⟨0, by omega, rfl, fun j hj => absurd hj (by omega)⟩
  case round =>
    obtain ⟨k, hk, rfl, A⟩ := hrel
    by_cases hlt : k < n
    · obtain ⟨b, off, rfl, hb, hc⟩ := hs k hlt
      clear hs
      by_cases hin : 0 ≤ f k ∧ f k ≤ 200
      · have B : Hid (0 ≤ f k ∧ f k ≤ 200) := hin
        obtain ⟨hin0, hin1⟩ := hin
        go_wp2_with (go_at_call 29; refine (in_yes _ _ _ _ hin0 hin1).mono ?_; rintro e w' ⟨rfl, rfl⟩)
        go_round
        case rel =>
          refine ⟨k + 1, by omega, by go_num, fun j hj => ?_⟩
          by_cases e : j = k
          · subst e; exact B.out
          · exact A.out j (by omega)
        case measure => simp [intOf]; omega
      · have hno : f k < 0 ∨ 200 < f k := by omega
        go_wp2_with (go_at_call 29; refine (in_no _ _ _ _ hno).mono ?_; rintro e w' ⟨rfl, rfl⟩)
        go_ret
        refine ⟨⟨_, rfl, ?_⟩, rfl⟩
        constructor
        · intro h; cases h
        · intro h; exact absurd (h.2 k hlt) hin
    · have hkn : k = n := by omega
      subst hkn
      by_cases h8 : k = 8
      · subst h8
        go_wp2
        go_ret
        exact ⟨.inr ⟨rfl, rfl, A.out⟩, rfl⟩
      · have hd : ((k : Int) == 8) = false := by simp; omega
        go_wp2
        go_ret
        exact ⟨.inl ⟨rfl, fun h => absurd h.1 h8⟩, rfl⟩

theorem imageok_impl (ao : Option Addr) (n cap : Nat) (f : Nat → Int) (w : World) (hn : n ≤ 1048576) (hs : SL .i64 w ao n f) :
    Calls Try.prog 12 #[.slice ao n cap] w fun e w' => (∃ b : Bool, e = .returned (.bool b) ∧ (b = true ↔ IOk f n)) ∧ w' = w := by
  have h2 : Hid (Calls Try.prog 26 #[.slice ao n cap, .func (.func 27) #[] #[]] w fun e w' => (∃ b : Bool, e = .returned (.bool b) ∧ (b = true ↔ ∃ i, i < n ∧ decide (f i < 0 ∨ 200 < f i) = true)) ∧ w' = w) :=
    cf_any 27 #[] (fun x => decide (x < 0 ∨ 200 < x)) ao n cap f w (enters_of Try.func27 (by kernel_rfl) rfl) (fun x => nowrite_any x _) hn hs
  clear hs
  by_cases h8 : n = 8
  · subst h8
    go_enter Try.func12, Try.ntmps12
    go_wp2_with fail
    refine h2.out.mono ?_
    rintro e w2 ⟨⟨c, rfl, hc⟩, rfl⟩
    clear h2
    go_wp2
    go_ret
    refine ⟨⟨_, rfl, ?_⟩, rfl⟩
    cases c with
    | true =>
      obtain ⟨i, hi, hx⟩ := hc.1 rfl
      constructor
      · intro h; cases h
      · intro h
        have := h.2 i hi
        simp at hx
        omega
    | false =>
      refine ⟨fun _ => ⟨rfl, fun i hi => ?_⟩, fun _ => rfl⟩
      have hx : ¬ (decide (f i < 0 ∨ 200 < f i) = true) := fun hx => by have := hc.2 ⟨i, hi, hx⟩; cases this
      simp at hx
      omega
  · have hd : decide ((n : Int) = 8) = false := by simp; omega
    clear h2
    go_enter Try.func12, Try.ntmps12
    go_wp2
    go_ret
    refine ⟨⟨_, rfl, ?_⟩, rfl⟩
    constructor
    · intro h; cases h
    · intro h; exact absurd h.1 h8
end Go.Proofs.Ythbegalohfbibaa

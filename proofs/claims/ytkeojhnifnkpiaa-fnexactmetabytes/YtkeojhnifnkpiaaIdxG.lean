/- (Beside the messages.) slices.IndexFunc and slices.ContainsFunc over a slice of ints, at a function that reads alone. -/
import Derived.Test.YtkeojhnifnkpiaaBase2
import Derived.Shelf.Abstract
namespace Go.Proofs.Ytkeojhnifnkpiaa
open Go.ChangeShapes Go.WideShapes Go.ChangeAt Go.RowKit
set_option linter.unusedVariables false
set_option linter.unusedSimpArgs false

/-- The first place below n at which p holds, or -1. -/
def IsFirst (p : Nat → Bool) (n : Nat) (r : Int) : Prop :=
  (r = -1 ∧ ∀ i, i < n → p i = false) ∨ ∃ k : Nat, r = k ∧ k < n ∧ p k = true ∧ ∀ i, i < k → p i = false

theorem idx_any (g : Nat) (lb : Array Value) (p : Int → Bool) (ao : Option Addr) (n cap : Nat) (f : Nat → Int) (w : World)
    (eg : ∀ args w, (callFunc g args).run Try.prog w = .ok (.enter g args) w)
    (hp : ∀ x, Calls Try.prog g (#[.int .i64 x] ++ lb) w fun e w' => e = .returned (.bool (p x)) ∧ w' = w)
    (hn : n ≤ 1048576) (hs : SL .i64 w ao n f) :
    Calls Try.prog 147 #[.slice ao n cap, .func (.func g) #[] lb] w fun e w' => (∃ r : Int, e = .returned (.int .i64 r) ∧ IsFirst (fun i => p (f i)) n r) ∧ w' = w := by
  go_enter Try.func147, Try.ntmps147
  go_wp2
  go_loop [5, 8] (fun _ i => ∃ k : Nat, k ≤ n ∧ i = .int .i64 k ∧ Hid (∀ j, j < k → p (f j) = false)) (fun _ i => n - (intOf i).toNat)
  case atStart => exact ⟨0, Nat.zero_le _, rfl, fun j hj => absurd hj (Nat.not_lt_zero _)⟩
  case round =>
    obtain ⟨k, hk, rfl, A⟩ := hrel
    by_cases hlt : k < n
    · obtain ⟨b, off, rfl, hb, hc⟩ := hs k hlt
      have hcall := hp (f k)
      clear hs hp
      generalize hy : f k = y at *
      have B : Hid (f k = y) := hy
      clear hy
      cases hq : p y with
      | true =>
        rw [hq] at hcall
        go_wp2_with (go_at_fn g; refine hcall.mono ?_; rintro e w' ⟨rfl, rfl⟩)
        go_ret
        exact ⟨⟨_, rfl, .inr ⟨k, rfl, hlt, by show p (f k) = true; rw [B.out]; exact hq, A.out⟩⟩, rfl⟩
      | false =>
        rw [hq] at hcall
        go_wp2_with (go_at_fn g; refine hcall.mono ?_; rintro e w' ⟨rfl, rfl⟩)
        go_round
        case rel =>
          refine ⟨k + 1, by omega, by go_num, fun j hj => ?_⟩
          by_cases e : j = k
          · subst e; rw [B.out]; exact hq
          · exact A.out j (by omega)
        case measure => simp [intOf]; omega
    · have hkn : k = n := by omega
      subst hkn
      go_wp2
      go_ret
      exact ⟨⟨_, rfl, .inl ⟨rfl, A.out⟩⟩, rfl⟩

theorem cf_any (g : Nat) (lb : Array Value) (p : Int → Bool) (ao : Option Addr) (n cap : Nat) (f : Nat → Int) (w : World)
    (eg : ∀ args w, (callFunc g args).run Try.prog w = .ok (.enter g args) w)
    (hp : ∀ x, Calls Try.prog g (#[.int .i64 x] ++ lb) w fun e w' => e = .returned (.bool (p x)) ∧ w' = w)
    (hn : n ≤ 1048576) (hs : SL .i64 w ao n f) :
    Calls Try.prog 138 #[.slice ao n cap, .func (.func g) #[] lb] w fun e w' => (∃ b : Bool, e = .returned (.bool b) ∧ (b = true ↔ ∃ i, i < n ∧ p (f i) = true)) ∧ w' = w := by
  have hi := idx_any g lb p ao n cap f w eg hp hn hs
  clear hp hs eg
  go_enter Try.func138, Try.ntmps138
  go_wp2_with (go_at_call 147; refine hi.mono ?_; rintro e w' ⟨⟨r, rfl, hr⟩, rfl⟩)
  go_ret
  refine ⟨⟨_, rfl, ?_⟩, rfl⟩
  rcases hr with ⟨rfl, h⟩ | ⟨k, rfl, hk, h1, h2⟩
  · constructor
    · intro h0; simp at h0
    · rintro ⟨i, hi, h1⟩; exact absurd (h i hi) (by simp [h1])
  · constructor
    · intro _; exact ⟨k, hk, h1⟩
    · intro _; simp
end Go.Proofs.Ytkeojhnifnkpiaa

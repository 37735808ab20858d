/- SumOf, of the program and of its model, answers the same number: two running sums, each by 65521. -/
import Derived.Test.YtkeojhnifnkpiaaGa

namespace Go.Proofs.Ytkeojhnifnkpiaa
open Go.ChangeShapes Go.WideShapes Go.ChangeAt Go.RowKit
set_option linter.unusedVariables false
set_option linter.unusedSimpArgs false

/-- The first running sum behind k bytes. -/
def sA (f : Nat → Int) : Nat → Int
  | 0 => 1
  | k + 1 => (sA f k + f k) % 65521
/-- The second one. -/
def sB (f : Nat → Int) : Nat → Int
  | 0 => 0
  | k + 1 => (sB f k + sA f (k + 1)) % 65521

theorem sA_bd (f : Nat → Int) (k : Nat) : 0 ≤ sA f k ∧ sA f k < 65521 := by
  cases k with
  | zero => simp [sA]
  | succ k => simp only [sA]; omega
theorem sB_bd (f : Nat → Int) (k : Nat) : 0 ≤ sB f k ∧ sB f k < 65521 := by
  cases k with
  | zero => simp [sB]
  | succ k => simp only [sB]; omega

theorem sum_spec (ao : Option Addr) (n cap : Nat) (f : Nat → Int) (w : World) (hn : n ≤ 1048576) (hs : SL .u8 w ao n f) (hf : ∀ i, i < n → 0 ≤ f i ∧ f i ≤ 255) :
    Calls Try.prog 95 #[.slice ao n cap] w fun e w' => e = .returned (.int .i64 (sB f n * 65536 + sA f n)) ∧ w' = w := by
  go_enter Try.func95, Try.ntmps95
  go_wp2
  go_loop [3, 4, 5] (fun x y i => ∃ k : Nat, k ≤ n ∧ i = .int .i64 k ∧ x = .int .i64 (sA f k) ∧ y = .int .i64 (sB f k)) (fun _ _ i => n - (intOf i).toNat)
  case atStart => exact ⟨0, Nat.zero_le _, rfl, rfl, rfl⟩
  case round =>
    obtain ⟨k, hk, rfl, rfl, rfl⟩ := hrel
    have ha := sA_bd f k
    have hb := sB_bd f k
    by_cases hlt : k < n
    · obtain ⟨b, off, rfl, hbs, hc⟩ := hs k hlt
      have hz := hf k hlt
      have ha' := sA_bd f (k + 1)
      have hb' := sB_bd f (k + 1)
      clear hs hf
      go_wp2
      go_round
      case rel => exact ⟨k + 1, by omega, by go_num, by simp [sA], by simp [sA, sB]⟩
      case measure => simp [intOf]; omega
    · have hkn : k = n := by omega
      subst hkn
      go_wp2
      go_ret
      exact ⟨rfl, rfl⟩
theorem sum_impl (ao : Option Addr) (n cap : Nat) (f : Nat → Int) (w : World) (hn : n ≤ 1048576) (hs : SL .u8 w ao n f) (hf : ∀ i, i < n → 0 ≤ f i ∧ f i ≤ 255) :
    Calls Try.prog 82 #[.slice ao n cap] w fun e w' => e = .returned (.int .i64 (sB f n * 65536 + sA f n)) ∧ w' = w := by
  go_enter Try.func82, Try.ntmps82
  go_wp2
  go_loop [3, 4, 9] (fun x y i => ∃ k : Nat, k ≤ n ∧ i = .int .i64 k ∧ x = .int .i64 (sA f k) ∧ y = .int .i64 (sB f k)) (fun _ _ i => n - (intOf i).toNat)
  case atStart => exact ⟨0, Nat.zero_le _, rfl, rfl, rfl⟩
  case round =>
    obtain ⟨k, hk, rfl, rfl, rfl⟩ := hrel
    have ha := sA_bd f k
    have hb := sB_bd f k
    by_cases hlt : k < n
    · obtain ⟨b, off, rfl, hbs, hc⟩ := hs k hlt
      have hz := hf k hlt
      clear hs hf
      go_wp2
      go_round
      case rel => exact ⟨k + 1, by omega, by go_num, by simp [sA], by simp [sA, sB]⟩
      case measure => simp [intOf]; omega
    · have hkn : k = n := by omega
      subst hkn
      go_wp2
      go_ret
      exact ⟨rfl, rfl⟩
end Go.Proofs.Ytkeojhnifnkpiaa

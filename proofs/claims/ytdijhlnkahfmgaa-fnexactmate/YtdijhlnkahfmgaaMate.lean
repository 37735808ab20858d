/- Mate, of the program and of its model. -/
import Derived.Test.YtdijhlnkahfmgaaIn
namespace Go.Proofs.Ytdijhlnkahfmgaa
open Go.ChangeShapes Go.WideShapes Go.ChangeAt Go.RowKit
set_option linter.unusedVariables false
set_option linter.unusedSimpArgs false
set_option maxRecDepth 100000

/-- The other one of the pair. -/
def mateX (x : Int) : Int := if x = 0 then 1 else if x = 1 then 0 else -1
theorem mate_i (x : Int) (w : World) : Calls Try.prog 5 #[.int .i64 x] w fun e w' => e = .returned (.int .i64 (mateX x)) ∧ w' = w := by
  by_cases h0 : x = 0
  · subst h0
    go_enter Try.func5, Try.ntmps5
    go_wp2
    go_ret
    exact ⟨rfl, rfl⟩
  · by_cases h1 : x = 1
    · subst h1
      go_enter Try.func5, Try.ntmps5
      go_wp2
      go_ret
      exact ⟨rfl, rfl⟩
    · have e0 : (x == 0) = false := by simpa using h0
      have e1 : (x == 1) = false := by simpa using h1
      have e2 : mateX x = -1 := by unfold mateX; rw [if_neg h0, if_neg h1]
      rw [e2]
      clear e2 h0 h1
      go_enter Try.func5, Try.ntmps5
      go_wp2
      go_ret
      exact ⟨rfl, rfl⟩
theorem mate_s (x : Int) (w : World) : Calls Try.prog 4 #[.int .i64 x] w fun e w' => e = .returned (.int .i64 (mateX x)) ∧ w' = w := by
  by_cases hin : 0 ≤ x ∧ x ≤ 1
  · obtain ⟨h0, h1⟩ := hin
    have e2 : mateX x = 1 - x := by rcases (show x = 0 ∨ x = 1 by omega) with rfl | rfl <;> rfl
    rw [e2]
    clear e2
    go_enter Try.func4, Try.ntmps4
    go_wp2_with fail
    refine (in_yes x 0 1 w h0 h1).mono ?_
    rintro e w1 ⟨rfl, hw⟩
    rw [hw]
    clear hw w1
    go_wp2
    go_ret
    exact ⟨rfl, rfl⟩
  · have hno : x < 0 ∨ 1 < x := by omega
    have e2 : mateX x = -1 := by unfold mateX; rw [if_neg (by omega), if_neg (by omega)]
    rw [e2]
    clear e2 hin
    go_enter Try.func4, Try.ntmps4
    go_wp2_with fail
    refine (in_no x 0 1 w hno).mono ?_
    rintro e w1 ⟨rfl, hw⟩
    rw [hw]
    clear hw w1
    go_wp2
    go_ret
    exact ⟨rfl, rfl⟩
end Go.Proofs.Ytdijhlnkahfmgaa

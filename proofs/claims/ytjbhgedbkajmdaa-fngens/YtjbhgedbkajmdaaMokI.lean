/- MsgOk of the program: its parts. -/
import Derived.Test.YtjbhgedbkajmdaaMokSA
namespace Go.Proofs.Ytjbhgedbkajmdaa
open Go.ChangeShapes Go.WideShapes Go.ChangeAt Go.RowKit
set_option linter.unusedVariables false
set_option linter.unusedSimpArgs false

theorem nocell_any (x : Int) (w : World) : Calls Try.prog 97 #[.int .i64 x] w fun e w' => e = .returned (.bool (decide (x < 0 ∨ 8 ≤ x))) ∧ w' = w := by
  by_cases h0 : x < 0
  · go_enter Try.func97, Try.ntmps97
    go_wp2
    go_ret
    exact ⟨by simp [h0], rfl⟩
  · go_enter Try.func97, Try.ntmps97
    go_wp2
    go_ret
    exact ⟨by simp [Int.not_lt.2 h0], rfl⟩
theorem nowrite_any (x : Int) (w : World) : Calls Try.prog 61 #[.int .i64 x] w fun e w' => e = .returned (.bool (decide (x < 0 ∨ 200 < x))) ∧ w' = w := by
  by_cases h0 : x < 0
  · go_enter Try.func61, Try.ntmps61
    go_wp2
    go_ret
    exact ⟨by simp [h0], rfl⟩
  · go_enter Try.func61, Try.ntmps61
    go_wp2
    go_ret
    exact ⟨by simp [Int.not_lt.2 h0], rfl⟩
theorem nogen_any (x : Int) (w : World) : Calls Try.prog 74 #[.int .i64 x] w fun e w' => e = .returned (.bool (decide (x < 1 ∨ 100000 < x))) ∧ w' = w := by
  by_cases h0 : x < 1
  · go_enter Try.func74, Try.ntmps74
    go_wp2
    go_ret
    exact ⟨by simp [h0], rfl⟩
  · go_enter Try.func74, Try.ntmps74
    go_wp2
    go_ret
    exact ⟨by simp [Int.not_lt.2 h0], rfl⟩
end Go.Proofs.Ytjbhgedbkajmdaa

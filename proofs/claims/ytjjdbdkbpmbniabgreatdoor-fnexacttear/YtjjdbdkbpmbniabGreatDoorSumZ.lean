/- SumOf, of the program and of its model, answers the same number: two running sums, each by 65521. -/
import Derived.Test.YtjjdbdkbpmbniabGreatDoorGa

namespace Go.Proofs.YtjjdbdkbpmbniabGreatDoor
open Go.ChangeShapes Go.WideShapes Go.ChangeAt Go.RowKit
set_option linter.unusedVariables false
set_option linter.unusedSimpArgs false

/-- The first running sum behind k bytes. -/
def sA (f : Nat → Int) : Nat → Int
  | 0 => 1
  | k + 1 => (sA f k + f k) % 65521
/-- The second one. -/
def sB (f : Nat → Int) : Nat → Int
  | 0 => 0
  | k + 1 => (sB f k + sA f (k + 1)) % 65521

theorem sA_bd (f : Nat → Int) (k : Nat) : 0 ≤ sA f k ∧ sA f k < 65521 := by
  cases k with
  | zero => simp [sA]
  | succ k => simp only [sA]; omega
theorem sB_bd (f : Nat → Int) (k : Nat) : 0 ≤ sB f k ∧ sB f k < 65521 := by
  cases k with
  | zero => simp [sB]
  | succ k => simp only [sB]; omega

end Go.Proofs.YtjjdbdkbpmbniabGreatDoor

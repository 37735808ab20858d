/- (Beside the messages.) slices.IndexFunc and slices.ContainsFunc over a slice of ints, at a function that reads alone. -/
import Derived.Test.YtkeojhnifnkpiabBase2
import Derived.Shelf.Abstract
namespace Go.Proofs.Ytkeojhnifnkpiab
open Go.ChangeShapes Go.WideShapes Go.ChangeAt Go.RowKit
set_option linter.unusedVariables false
set_option linter.unusedSimpArgs false

/-- The first place below n at which p holds, or -1. -/
def IsFirst (p : Nat → Bool) (n : Nat) (r : Int) : Prop :=
  (r = -1 ∧ ∀ i, i < n → p i = false) ∨ ∃ k : Nat, r = k ∧ k < n ∧ p k = true ∧ ∀ i, i < k → p i = false

end Go.Proofs.Ytkeojhnifnkpiab

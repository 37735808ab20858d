/- GensOk of the model. -/
import Derived.Test.YtkeojhnifnkpiabAppG
import Derived.Test.YtkeojhnifnkpiabIn
namespace Go.Proofs.Ytkeojhnifnkpiab
open Go.ChangeShapes Go.WideShapes Go.ChangeAt Go.RowKit
set_option linter.unusedVariables false
set_option linter.unusedSimpArgs false

/-- Generations: twelve at most, each from 1 to 100000, no two alike. -/
def GIn (f : Nat → Int) (n : Nat) : Prop := ∀ i, i < n → (1 ≤ f i ∧ f i ≤ 100000) ∧ ∀ j, j < i → f j ≠ f i
def GOk (f : Nat → Int) (n : Nat) : Prop := n ≤ 12 ∧ GIn f n

end Go.Proofs.Ytkeojhnifnkpiab

/- Marks, beside messages: MarksOk of the program and of its model. -/
import Derived.Test.YtkeojhnifnkpiabIdxG
import Derived.Test.YtkeojhnifnkpiabMokI
namespace Go.Proofs.Ytkeojhnifnkpiab
open Go.ChangeShapes Go.WideShapes Go.ChangeAt Go.RowKit
set_option linter.unusedVariables false
set_option linter.unusedSimpArgs false

/-- Ascending, each once, in 0 .. 7. -/
def KIn (f : Nat → Int) (n : Nat) : Prop := (∀ i, i < n → 0 ≤ f i ∧ f i ≤ 7) ∧ ∀ i, 1 ≤ i → i < n → f (i - 1) < f i

/-- Of a list. -/
def KOk (l : List Int) : Prop := KIn (fun i => l.getD i 0) l.length
end Go.Proofs.Ytkeojhnifnkpiab

/- MsgOk of the program: its parts. -/
import Derived.Test.YtjbhgedbkajmdabMokSA
namespace Go.Proofs.Ytjbhgedbkajmdab
open Go.ChangeShapes Go.WideShapes Go.ChangeAt Go.RowKit
set_option linter.unusedVariables false
set_option linter.unusedSimpArgs false

end Go.Proofs.Ytjbhgedbkajmdab

/- MsgOk of the model. -/
import Derived.Test.YtjbhgedbkajmdabMokS1
import Derived.Test.YtjbhgedbkajmdabMokS2
import Derived.Test.YtjbhgedbkajmdabMokS3
import Derived.Test.YtjbhgedbkajmdabMokS4
namespace Go.Proofs.Ytjbhgedbkajmdab
open Go.ChangeShapes Go.WideShapes Go.ChangeAt Go.RowKit
set_option linter.unusedVariables false
set_option linter.unusedSimpArgs false

end Go.Proofs.Ytjbhgedbkajmdab

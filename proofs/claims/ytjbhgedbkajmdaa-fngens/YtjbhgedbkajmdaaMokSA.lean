/- MsgOk of the model. -/
import Derived.Test.YtjbhgedbkajmdaaMokS1
import Derived.Test.YtjbhgedbkajmdaaMokS2
import Derived.Test.YtjbhgedbkajmdaaMokS3
import Derived.Test.YtjbhgedbkajmdaaMokS4
namespace Go.Proofs.Ytjbhgedbkajmdaa
open Go.ChangeShapes Go.WideShapes Go.ChangeAt Go.RowKit
set_option linter.unusedVariables false
set_option linter.unusedSimpArgs false

end Go.Proofs.Ytjbhgedbkajmdaa

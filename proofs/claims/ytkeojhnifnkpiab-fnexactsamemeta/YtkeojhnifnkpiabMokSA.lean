/- MsgOk of the model. -/
import Derived.Test.YtkeojhnifnkpiabMokS1
import Derived.Test.YtkeojhnifnkpiabMokS2
import Derived.Test.YtkeojhnifnkpiabMokS3
import Derived.Test.YtkeojhnifnkpiabMokS4
namespace Go.Proofs.Ytkeojhnifnkpiab
open Go.ChangeShapes Go.WideShapes Go.ChangeAt Go.RowKit
set_option linter.unusedVariables false
set_option linter.unusedSimpArgs false

end Go.Proofs.Ytkeojhnifnkpiab

/- MsgBytes of the program. -/
import Derived.Test.YtjbhgedbkajmdaaMbyIZ

namespace Go.Proofs.Ytjbhgedbkajmdaa
open Go.ChangeShapes Go.WideShapes Go.ChangeAt Go.RowKit
set_option linter.unusedVariables false
set_option linter.unusedSimpArgs false

end Go.Proofs.Ytjbhgedbkajmdaa

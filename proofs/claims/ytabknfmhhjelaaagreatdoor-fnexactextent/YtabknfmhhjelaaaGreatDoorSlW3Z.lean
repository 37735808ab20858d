/- What the laws of slots and of what is known want besides. -/
import Derived.Test.YtabknfmhhjelaaaGreatDoorSlPuZ

namespace Go.Proofs.YtabknfmhhjelaaaGreatDoor
open Go.ChangeShapes Go.WideShapes Go.ChangeAt Go.RowKit
set_option linter.unusedVariables false
set_option linter.unusedSimpArgs false
set_option maxRecDepth 100000

end Go.Proofs.YtabknfmhhjelaaaGreatDoor

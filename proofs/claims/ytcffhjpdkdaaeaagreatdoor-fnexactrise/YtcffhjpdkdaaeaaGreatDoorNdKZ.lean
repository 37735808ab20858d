/- What Rise answers is as much as there was. -/
import Derived.Test.YtcffhjpdkdaaeaaGreatDoorNdIZ
import Derived.Test.YtcffhjpdkdaaeaaGreatDoorNdJZ
import Derived.Test.YtcffhjpdkdaaeaaGreatDoorGu

namespace Go.Proofs.YtcffhjpdkdaaeaaGreatDoor
open Go.ChangeShapes Go.WideShapes Go.ChangeAt Go.RowKit
set_option linter.unusedVariables false
set_option linter.unusedSimpArgs false
theorem ntot_rsn (d : Nd) : ntot ((rsn Classical.propDecidable) d) = ntot d := by
  by_cases h : NOk d ∧ d.up = false
  · rw [rsn_yes h]; rfl
  · rw [rsn_no h]
end Go.Proofs.YtcffhjpdkdaaeaaGreatDoor

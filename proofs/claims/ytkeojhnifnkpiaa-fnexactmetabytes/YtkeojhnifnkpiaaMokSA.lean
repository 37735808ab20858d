/- MsgOk of the model. -/
import Derived.Test.YtkeojhnifnkpiaaMokS1
import Derived.Test.YtkeojhnifnkpiaaMokS2
import Derived.Test.YtkeojhnifnkpiaaMokS3
import Derived.Test.YtkeojhnifnkpiaaMokS4
namespace Go.Proofs.Ytkeojhnifnkpiaa
open Go.ChangeShapes Go.WideShapes Go.ChangeAt Go.RowKit
set_option linter.unusedVariables false
set_option linter.unusedSimpArgs false

theorem msgok_spec (ao : Option Addr) (n cap : Nat) (f : Nat → Int) (k c v h : Int) (w : World) (hn : n ≤ 1048576) (hcap : n ≤ cap) (hs : SL .i64 w ao n f) :
    Calls Try.prog 38 #[.agg #[.int .i64 k, .int .i64 c, .int .i64 v, .int .i64 h, .slice ao n cap]] w fun e w' => Tells w w' e (MOk k c v h f n) := by
  by_cases h5 : k = 5
  · subst h5; exact msgok5 ao n cap f c v h w hn hcap hs
  · by_cases h1 : k = 1
    · subst h1; exact msgok1 ao n cap f c v h w hn hcap hs
    · by_cases h2 : k = 2
      · subst h2; exact msgok2 ao n cap f c v h w hn hcap hs
      · by_cases h3 : k = 3
        · subst h3; exact msgok3 ao n cap f c v h w hn hcap hs
        · by_cases h4 : k = 4
          · subst h4; exact msgok4 ao n cap f c v h w hn hcap hs
          · exact msgok0 ao n cap f k c v h w hn hcap hs h5 h1 h2 h3 h4
end Go.Proofs.Ytkeojhnifnkpiaa

/-
  DERIVED. GIVEN WITH THE SEED: THE CARDS: each row of YtjjdbdkbpmbniaaDoorRows.lean that lists a variable, with what it lists TIED to the program's text (the seventh form; the later family's looks); each row that meets fmt, with fmt's text TOLD by the authors' own Lean function (tested against real Go, not proved from fmt's source: count such statements apart). THE CARD IS WHAT COUNTS. Prove the row's statement (the work); the ties are given (YtjjdbdkbpmbniaaDoorTie.lean); close each card by the builder's one call (the guide's Derived/Test/ToyasCard.lean, 'card_holds'). Laid BY PROGRAM, IN A SANDBOX (cutbox-door.mjs). By AI agents, Wed Nov 11 2026. No macro, syntax, notation, axiom, sorry.
-/
import Derived.Test.YtjjdbdkbpmbniaaDoorRows
import GoSem.ClaimSeven
namespace Go.Proofs.YtjjdbdkbpmbniaaDoor
namespace Rows

/-- THE TIED CARD OF 'laws.FnExactSlotOf'. -/
def fnExactSlotOfCard : Claim7 := { stood := { row := fnExactSlotOfRow, standIns := [], harness := (true, "9b80b9ebbcfdb879d914bc209fa8547d303c913b4d858afccc88cf1d5b7172ca"), looks := true }, kinds := [], alts := [], laidByText := true, laidKinds := [.handle], laidTests := true, laidLooks := .later }
def FnExactSlotOfCardSaid : Prop := Claim7.holds Tryd.pinned (.plain (OpenSpec.ofChange fnExactSlotOfSpec)) fnExactSlotOfCard

/-- THE SECOND FORM's CARD OF 'laws.FnExactSlotOf'. -/
def fnExactSlotOfUptoCard : Claim7 := { stood := { row := fnExactSlotOfUptoRow, standIns := [], harness := (true, "9b80b9ebbcfdb879d914bc209fa8547d303c913b4d858afccc88cf1d5b7172ca"), looks := true }, kinds := [], alts := [], laidByText := true, laidKinds := [.handle], laidTests := true, laidLooks := .later }
def FnExactSlotOfUptoCardSaid : Prop := Claim7.holds Tryd.pinned (.plain (OpenSpec.upto fnExactSlotOfSpec)) fnExactSlotOfUptoCard
end Rows
end Go.Proofs.YtjjdbdkbpmbniaaDoor

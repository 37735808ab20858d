/-
  DERIVED. GIVEN WITH THE SEED: THE CARDS: each row of YtjjdbdkbpmbniabGreatDoorRows.lean that lists a variable, with what it lists TIED to the program's text (the seventh form; the later family's looks); each row that meets fmt, with fmt's text TOLD by the authors' own Lean function (tested against real Go, not proved from fmt's source: count such statements apart). THE CARD IS WHAT COUNTS. Prove the row's statement (the work); the ties are given (YtjjdbdkbpmbniabGreatDoorTie.lean); close each card by the builder's one call (the guide's Derived/Test/ToyasCard.lean, 'card_holds'). Laid BY PROGRAM, IN A SANDBOX (cutbox-door.mjs). By AI agents, Wed Nov 11 2026. No macro, syntax, notation, axiom, sorry.
-/
import Derived.Test.YtjjdbdkbpmbniabGreatDoorRows
import GoSem.ClaimSeven
namespace Go.Proofs.YtjjdbdkbpmbniabGreatDoor
namespace Rows

/-- THE TIED CARD OF 'laws.FnExactTear'. -/
def fnExactTearCard : Claim7 := { stood := { row := fnExactTearRow, standIns := [], harness := (true, "9724c185abfb8198247ab0ae58dda3a5dc19f7a5c8b474fe323c28d0c12f8c8a"), looks := true }, kinds := [], alts := [], laidByText := true, laidKinds := [.handle], laidTests := true, laidLooks := .later }
def FnExactTearCardSaid : Prop := Claim7.holds Tryz.pinned (.plain (OpenSpec.ofChange fnExactTearSpec)) fnExactTearCard

/-- THE SECOND FORM's CARD OF 'laws.FnExactTear'. -/
def fnExactTearUptoCard : Claim7 := { stood := { row := fnExactTearUptoRow, standIns := [], harness := (true, "9724c185abfb8198247ab0ae58dda3a5dc19f7a5c8b474fe323c28d0c12f8c8a"), looks := true }, kinds := [], alts := [], laidByText := true, laidKinds := [.handle], laidTests := true, laidLooks := .later }
def FnExactTearUptoCardSaid : Prop := Claim7.holds Tryz.pinned (.plain (OpenSpec.upto fnExactTearSpec)) fnExactTearUptoCard
end Rows
end Go.Proofs.YtjjdbdkbpmbniabGreatDoor

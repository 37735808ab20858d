/-
  DERIVED. GIVEN WITH THE SEED: THE CARDS: each row of YtabknfmhhjelaaaGreatDoorRows.lean that lists a variable, with what it lists TIED to the program's text (the seventh form; the later family's looks); each row that meets fmt, with fmt's text TOLD by the authors' own Lean function (tested against real Go, not proved from fmt's source: count such statements apart). THE CARD IS WHAT COUNTS. Prove the row's statement (the work); the ties are given (YtabknfmhhjelaaaGreatDoorTie.lean); close each card by the builder's one call (the guide's Derived/Test/ToyasCard.lean, 'card_holds'). Laid BY PROGRAM, IN A SANDBOX (cutbox-door.mjs). By AI agents, Wed Nov 11 2026. No macro, syntax, notation, axiom, sorry.
-/
import Derived.Test.YtabknfmhhjelaaaGreatDoorRows
import GoSem.ClaimSeven
namespace Go.Proofs.YtabknfmhhjelaaaGreatDoor
namespace Rows

/-- THE TIED CARD OF 'laws.FnExactExtent'. -/
def fnExactExtentCard : Claim7 := { stood := { row := fnExactExtentRow, standIns := [], harness := (true, "e49b0cf59a9b9ba2c34e4fcef2127b4e6853428a10f0274b216d7c447311b6f5"), looks := true }, kinds := [], alts := [], laidByText := true, laidKinds := [.handle], laidTests := true, laidLooks := .later }
def FnExactExtentCardSaid : Prop := Claim7.holds Tryz.pinned (.plain (OpenSpec.ofChange fnExactExtentSpec)) fnExactExtentCard

/-- THE SECOND FORM's CARD OF 'laws.FnExactExtent'. -/
def fnExactExtentUptoCard : Claim7 := { stood := { row := fnExactExtentUptoRow, standIns := [], harness := (true, "e49b0cf59a9b9ba2c34e4fcef2127b4e6853428a10f0274b216d7c447311b6f5"), looks := true }, kinds := [], alts := [], laidByText := true, laidKinds := [.handle], laidTests := true, laidLooks := .later }
def FnExactExtentUptoCardSaid : Prop := Claim7.holds Tryz.pinned (.plain (OpenSpec.upto fnExactExtentSpec)) fnExactExtentUptoCard
end Rows
end Go.Proofs.YtabknfmhhjelaaaGreatDoor

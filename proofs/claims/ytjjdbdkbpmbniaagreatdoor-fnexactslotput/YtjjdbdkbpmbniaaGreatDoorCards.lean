/-
  DERIVED. GIVEN WITH THE SEED: THE CARDS: each row of YtjjdbdkbpmbniaaGreatDoorRows.lean that lists a variable, with what it lists TIED to the program's text (the seventh form; the later family's looks); each row that meets fmt, with fmt's text TOLD by the authors' own Lean function (tested against real Go, not proved from fmt's source: count such statements apart). THE CARD IS WHAT COUNTS. Prove the row's statement (the work); the ties are given (YtjjdbdkbpmbniaaGreatDoorTie.lean); close each card by the builder's one call (the guide's Derived/Test/ToyasCard.lean, 'card_holds'). Laid BY PROGRAM, IN A SANDBOX (cutbox-door.mjs). By AI agents, Wed Nov 11 2026. No macro, syntax, notation, axiom, sorry.
-/
import Derived.Test.YtjjdbdkbpmbniaaGreatDoorRows
import GoSem.ClaimSeven
namespace Go.Proofs.YtjjdbdkbpmbniaaGreatDoor
namespace Rows

/-- THE TIED CARD OF 'laws.FnTorn'. -/
def fnTornCard : Claim7 := { stood := { row := fnTornRow, standIns := [], harness := (true, "f40d55f701bf8e1e70de7877a262f056ed1ffa566c55ea91b1d94869d6d46b3d"), looks := true }, kinds := [], alts := [], laidByText := true, laidKinds := [.handle], laidTests := true, laidLooks := .later }
def FnTornCardSaid : Prop := Claim7.holds Tryz.pinned (.plain (OpenSpec.ofChange fnTornSpec)) fnTornCard

/-- THE TIED CARD OF 'laws.FnSlots'. -/
def fnSlotsCard : Claim7 := { stood := { row := fnSlotsRow, standIns := [], harness := (true, "f40d55f701bf8e1e70de7877a262f056ed1ffa566c55ea91b1d94869d6d46b3d"), looks := true }, kinds := [], alts := [], laidByText := true, laidKinds := [.handle], laidTests := true, laidLooks := .later }
def FnSlotsCardSaid : Prop := Claim7.holds Tryz.pinned (.plain (OpenSpec.ofChange fnSlotsSpec)) fnSlotsCard

/-- THE TIED CARD OF 'laws.FnExactSlotGet'. -/
def fnExactSlotGetCard : Claim7 := { stood := { row := fnExactSlotGetRow, standIns := [], harness := (true, "f40d55f701bf8e1e70de7877a262f056ed1ffa566c55ea91b1d94869d6d46b3d"), looks := true }, kinds := [], alts := [], laidByText := true, laidKinds := [.handle], laidTests := true, laidLooks := .later }
def FnExactSlotGetCardSaid : Prop := Claim7.holds Tryz.pinned (.plain (OpenSpec.ofChange fnExactSlotGetSpec)) fnExactSlotGetCard

/-- THE TIED CARD OF 'laws.FnExactSlotPut'. -/
def fnExactSlotPutCard : Claim7 := { stood := { row := fnExactSlotPutRow, standIns := [], harness := (true, "f40d55f701bf8e1e70de7877a262f056ed1ffa566c55ea91b1d94869d6d46b3d"), looks := true }, kinds := [], alts := [], laidByText := true, laidKinds := [.handle], laidTests := true, laidLooks := .later }
def FnExactSlotPutCardSaid : Prop := Claim7.holds Tryz.pinned (.plain (OpenSpec.ofChange fnExactSlotPutSpec)) fnExactSlotPutCard

/-- THE SECOND FORM's CARD OF 'laws.FnTorn'. -/
def fnTornUptoCard : Claim7 := { stood := { row := fnTornUptoRow, standIns := [], harness := (true, "f40d55f701bf8e1e70de7877a262f056ed1ffa566c55ea91b1d94869d6d46b3d"), looks := true }, kinds := [], alts := [], laidByText := true, laidKinds := [.handle], laidTests := true, laidLooks := .later }
def FnTornUptoCardSaid : Prop := Claim7.holds Tryz.pinned (.plain (OpenSpec.upto fnTornSpec)) fnTornUptoCard

/-- THE SECOND FORM's CARD OF 'laws.FnSlots'. -/
def fnSlotsUptoCard : Claim7 := { stood := { row := fnSlotsUptoRow, standIns := [], harness := (true, "f40d55f701bf8e1e70de7877a262f056ed1ffa566c55ea91b1d94869d6d46b3d"), looks := true }, kinds := [], alts := [], laidByText := true, laidKinds := [.handle], laidTests := true, laidLooks := .later }
def FnSlotsUptoCardSaid : Prop := Claim7.holds Tryz.pinned (.plain (OpenSpec.upto fnSlotsSpec)) fnSlotsUptoCard

/-- THE SECOND FORM's CARD OF 'laws.FnExactSlotGet'. -/
def fnExactSlotGetUptoCard : Claim7 := { stood := { row := fnExactSlotGetUptoRow, standIns := [], harness := (true, "f40d55f701bf8e1e70de7877a262f056ed1ffa566c55ea91b1d94869d6d46b3d"), looks := true }, kinds := [], alts := [], laidByText := true, laidKinds := [.handle], laidTests := true, laidLooks := .later }
def FnExactSlotGetUptoCardSaid : Prop := Claim7.holds Tryz.pinned (.plain (OpenSpec.upto fnExactSlotGetSpec)) fnExactSlotGetUptoCard

/-- THE SECOND FORM's CARD OF 'laws.FnExactSlotPut'. -/
def fnExactSlotPutUptoCard : Claim7 := { stood := { row := fnExactSlotPutUptoRow, standIns := [], harness := (true, "f40d55f701bf8e1e70de7877a262f056ed1ffa566c55ea91b1d94869d6d46b3d"), looks := true }, kinds := [], alts := [], laidByText := true, laidKinds := [.handle], laidTests := true, laidLooks := .later }
def FnExactSlotPutUptoCardSaid : Prop := Claim7.holds Tryz.pinned (.plain (OpenSpec.upto fnExactSlotPutSpec)) fnExactSlotPutUptoCard
end Rows
end Go.Proofs.YtjjdbdkbpmbniaaGreatDoor

/-
  DERIVED. GIVEN WITH THE SEED: THE CARDS: each row of YtkndnndildnbpaaGreatDoorRows.lean that lists a variable, with what it lists TIED to the program's text (the seventh form; the later family's looks); each row that meets fmt, with fmt's text TOLD by the authors' own Lean function (tested against real Go, not proved from fmt's source: count such statements apart). THE CARD IS WHAT COUNTS. Prove the row's statement (the work); the ties are given (YtkndnndildnbpaaGreatDoorTie.lean); close each card by the builder's one call (the guide's Derived/Test/ToyasCard.lean, 'card_holds'). Laid BY PROGRAM, IN A SANDBOX (cutbox-door.mjs). By AI agents, Wed Nov 11 2026. No macro, syntax, notation, axiom, sorry.
-/
import Derived.Test.YtkndnndildnbpaaGreatDoorRows
import GoSem.ClaimSeven
namespace Go.Proofs.YtkndnndildnbpaaGreatDoor
namespace Rows

/-- THE TIED CARD OF 'laws.FnExactNodeNew'. -/
def fnExactNodeNewCard : Claim7 := { stood := { row := fnExactNodeNewRow, standIns := [], harness := (true, "d25a2f62c915049414ac1c15986436378660b955fc87006f3df52b6520f99ce6"), looks := true }, kinds := [], alts := [], laidByText := true, laidKinds := [.handle], laidTests := true, laidLooks := .later }
def FnExactNodeNewCardSaid : Prop := Claim7.holds Tryz.pinned (.plain (OpenSpec.ofChange fnExactNodeNewSpec)) fnExactNodeNewCard

/-- THE TIED CARD OF 'laws.FnExactApply'. -/
def fnExactApplyCard : Claim7 := { stood := { row := fnExactApplyRow, standIns := [], harness := (true, "d25a2f62c915049414ac1c15986436378660b955fc87006f3df52b6520f99ce6"), looks := true }, kinds := [], alts := [], laidByText := true, laidKinds := [.handle], laidTests := true, laidLooks := .later }
def FnExactApplyCardSaid : Prop := Claim7.holds Tryz.pinned (.plain (OpenSpec.ofChange fnExactApplySpec)) fnExactApplyCard

/-- THE TIED CARD OF 'laws.FnExactJoin'. -/
def fnExactJoinCard : Claim7 := { stood := { row := fnExactJoinRow, standIns := [], harness := (true, "d25a2f62c915049414ac1c15986436378660b955fc87006f3df52b6520f99ce6"), looks := true }, kinds := [], alts := [], laidByText := true, laidKinds := [.handle], laidTests := true, laidLooks := .later }
def FnExactJoinCardSaid : Prop := Claim7.holds Tryz.pinned (.plain (OpenSpec.ofChange fnExactJoinSpec)) fnExactJoinCard

/-- THE TIED CARD OF 'laws.FnExactHear'. -/
def fnExactHearCard : Claim7 := { stood := { row := fnExactHearRow, standIns := [], harness := (true, "d25a2f62c915049414ac1c15986436378660b955fc87006f3df52b6520f99ce6"), looks := true }, kinds := [], alts := [], laidByText := true, laidKinds := [.handle], laidTests := true, laidLooks := .later }
def FnExactHearCardSaid : Prop := Claim7.holds Tryz.pinned (.plain (OpenSpec.ofChange fnExactHearSpec)) fnExactHearCard

/-- THE TIED CARD OF 'laws.FnExactWrite'. -/
def fnExactWriteCard : Claim7 := { stood := { row := fnExactWriteRow, standIns := [], harness := (true, "d25a2f62c915049414ac1c15986436378660b955fc87006f3df52b6520f99ce6"), looks := true }, kinds := [], alts := [], laidByText := true, laidKinds := [.handle], laidTests := true, laidLooks := .later }
def FnExactWriteCardSaid : Prop := Claim7.holds Tryz.pinned (.plain (OpenSpec.ofChange fnExactWriteSpec)) fnExactWriteCard

/-- THE TIED CARD OF 'laws.FnExactCopy'. -/
def fnExactCopyCard : Claim7 := { stood := { row := fnExactCopyRow, standIns := [], harness := (true, "d25a2f62c915049414ac1c15986436378660b955fc87006f3df52b6520f99ce6"), looks := true }, kinds := [], alts := [], laidByText := true, laidKinds := [.handle], laidTests := true, laidLooks := .later }
def FnExactCopyCardSaid : Prop := Claim7.holds Tryz.pinned (.plain (OpenSpec.ofChange fnExactCopySpec)) fnExactCopyCard

/-- THE TIED CARD OF 'laws.FnExactMayHold'. -/
def fnExactMayHoldCard : Claim7 := { stood := { row := fnExactMayHoldRow, standIns := [], harness := (true, "d25a2f62c915049414ac1c15986436378660b955fc87006f3df52b6520f99ce6"), looks := true }, kinds := [], alts := [], laidByText := true, laidKinds := [.handle, .sentinel, .sentinel, .sentinel, .sentinel, .sentinel], laidTests := true, laidLooks := .later }
def FnExactMayHoldCardSaid : Prop := Claim7.holds Tryz.pinned (.plain (OpenSpec.ofChange fnExactMayHoldSpec)) fnExactMayHoldCard

/-- THE TIED CARD OF 'laws.FnExactHold'. -/
def fnExactHoldCard : Claim7 := { stood := { row := fnExactHoldRow, standIns := [], harness := (true, "d25a2f62c915049414ac1c15986436378660b955fc87006f3df52b6520f99ce6"), looks := true }, kinds := [], alts := [], laidByText := true, laidKinds := [.handle, .sentinel, .sentinel, .sentinel, .sentinel, .sentinel], laidTests := true, laidLooks := .later }
def FnExactHoldCardSaid : Prop := Claim7.holds Tryz.pinned (.plain (OpenSpec.ofChange fnExactHoldSpec)) fnExactHoldCard

/-- THE TIED CARD OF 'laws.FnExactMayLead'. -/
def fnExactMayLeadCard : Claim7 := { stood := { row := fnExactMayLeadRow, standIns := [], harness := (true, "d25a2f62c915049414ac1c15986436378660b955fc87006f3df52b6520f99ce6"), looks := true }, kinds := [], alts := [], laidByText := true, laidKinds := [.handle, .sentinel, .sentinel, .sentinel, .sentinel, .sentinel, .sentinel, .sentinel, .sentinel, .sentinel], laidTests := true, laidLooks := .later }
def FnExactMayLeadCardSaid : Prop := Claim7.holds Tryz.pinned (.plain (OpenSpec.ofChange fnExactMayLeadSpec)) fnExactMayLeadCard

/-- THE TIED CARD OF 'laws.FnExactLead'. -/
def fnExactLeadCard : Claim7 := { stood := { row := fnExactLeadRow, standIns := [], harness := (true, "d25a2f62c915049414ac1c15986436378660b955fc87006f3df52b6520f99ce6"), looks := true }, kinds := [], alts := [], laidByText := true, laidKinds := [.handle, .sentinel, .sentinel, .sentinel, .sentinel, .sentinel, .sentinel, .sentinel, .sentinel, .sentinel], laidTests := true, laidLooks := .later }
def FnExactLeadCardSaid : Prop := Claim7.holds Tryz.pinned (.plain (OpenSpec.ofChange fnExactLeadSpec)) fnExactLeadCard

/-- THE TIED CARD OF 'laws.FnExactLeave'. -/
def fnExactLeaveCard : Claim7 := { stood := { row := fnExactLeaveRow, standIns := [], harness := (true, "d25a2f62c915049414ac1c15986436378660b955fc87006f3df52b6520f99ce6"), looks := true }, kinds := [], alts := [], laidByText := true, laidKinds := [.handle], laidTests := true, laidLooks := .later }
def FnExactLeaveCardSaid : Prop := Claim7.holds Tryz.pinned (.plain (OpenSpec.ofChange fnExactLeaveSpec)) fnExactLeaveCard

/-- THE TIED CARD OF 'laws.FnExactMayWrite'. -/
def fnExactMayWriteCard : Claim7 := { stood := { row := fnExactMayWriteRow, standIns := [], harness := (true, "d25a2f62c915049414ac1c15986436378660b955fc87006f3df52b6520f99ce6"), looks := true }, kinds := [], alts := [], laidByText := true, laidKinds := [.handle], laidTests := true, laidLooks := .later }
def FnExactMayWriteCardSaid : Prop := Claim7.holds Tryz.pinned (.plain (OpenSpec.ofChange fnExactMayWriteSpec)) fnExactMayWriteCard

/-- THE SECOND FORM's CARD OF 'laws.FnExactNodeNew'. -/
def fnExactNodeNewUptoCard : Claim7 := { stood := { row := fnExactNodeNewUptoRow, standIns := [], harness := (true, "d25a2f62c915049414ac1c15986436378660b955fc87006f3df52b6520f99ce6"), looks := true }, kinds := [], alts := [], laidByText := true, laidKinds := [.handle], laidTests := true, laidLooks := .later }
def FnExactNodeNewUptoCardSaid : Prop := Claim7.holds Tryz.pinned (.plain (OpenSpec.upto fnExactNodeNewSpec)) fnExactNodeNewUptoCard

/-- THE SECOND FORM's CARD OF 'laws.FnExactApply'. -/
def fnExactApplyUptoCard : Claim7 := { stood := { row := fnExactApplyUptoRow, standIns := [], harness := (true, "d25a2f62c915049414ac1c15986436378660b955fc87006f3df52b6520f99ce6"), looks := true }, kinds := [], alts := [], laidByText := true, laidKinds := [.handle], laidTests := true, laidLooks := .later }
def FnExactApplyUptoCardSaid : Prop := Claim7.holds Tryz.pinned (.plain (OpenSpec.upto fnExactApplySpec)) fnExactApplyUptoCard

/-- THE SECOND FORM's CARD OF 'laws.FnExactJoin'. -/
def fnExactJoinUptoCard : Claim7 := { stood := { row := fnExactJoinUptoRow, standIns := [], harness := (true, "d25a2f62c915049414ac1c15986436378660b955fc87006f3df52b6520f99ce6"), looks := true }, kinds := [], alts := [], laidByText := true, laidKinds := [.handle], laidTests := true, laidLooks := .later }
def FnExactJoinUptoCardSaid : Prop := Claim7.holds Tryz.pinned (.plain (OpenSpec.upto fnExactJoinSpec)) fnExactJoinUptoCard

/-- THE SECOND FORM's CARD OF 'laws.FnExactHear'. -/
def fnExactHearUptoCard : Claim7 := { stood := { row := fnExactHearUptoRow, standIns := [], harness := (true, "d25a2f62c915049414ac1c15986436378660b955fc87006f3df52b6520f99ce6"), looks := true }, kinds := [], alts := [], laidByText := true, laidKinds := [.handle], laidTests := true, laidLooks := .later }
def FnExactHearUptoCardSaid : Prop := Claim7.holds Tryz.pinned (.plain (OpenSpec.upto fnExactHearSpec)) fnExactHearUptoCard

/-- THE SECOND FORM's CARD OF 'laws.FnExactWrite'. -/
def fnExactWriteUptoCard : Claim7 := { stood := { row := fnExactWriteUptoRow, standIns := [], harness := (true, "d25a2f62c915049414ac1c15986436378660b955fc87006f3df52b6520f99ce6"), looks := true }, kinds := [], alts := [], laidByText := true, laidKinds := [.handle], laidTests := true, laidLooks := .later }
def FnExactWriteUptoCardSaid : Prop := Claim7.holds Tryz.pinned (.plain (OpenSpec.upto fnExactWriteSpec)) fnExactWriteUptoCard

/-- THE SECOND FORM's CARD OF 'laws.FnExactCopy'. -/
def fnExactCopyUptoCard : Claim7 := { stood := { row := fnExactCopyUptoRow, standIns := [], harness := (true, "d25a2f62c915049414ac1c15986436378660b955fc87006f3df52b6520f99ce6"), looks := true }, kinds := [], alts := [], laidByText := true, laidKinds := [.handle], laidTests := true, laidLooks := .later }
def FnExactCopyUptoCardSaid : Prop := Claim7.holds Tryz.pinned (.plain (OpenSpec.upto fnExactCopySpec)) fnExactCopyUptoCard

/-- THE SECOND FORM's CARD OF 'laws.FnExactMayHold'. -/
def fnExactMayHoldUptoCard : Claim7 := { stood := { row := fnExactMayHoldUptoRow, standIns := [], harness := (true, "d25a2f62c915049414ac1c15986436378660b955fc87006f3df52b6520f99ce6"), looks := true }, kinds := [], alts := [], laidByText := true, laidKinds := [.handle, .sentinel, .sentinel, .sentinel, .sentinel, .sentinel], laidTests := true, laidLooks := .later }
def FnExactMayHoldUptoCardSaid : Prop := Claim7.holds Tryz.pinned (.plain (OpenSpec.upto fnExactMayHoldSpec)) fnExactMayHoldUptoCard

/-- THE SECOND FORM's CARD OF 'laws.FnExactHold'. -/
def fnExactHoldUptoCard : Claim7 := { stood := { row := fnExactHoldUptoRow, standIns := [], harness := (true, "d25a2f62c915049414ac1c15986436378660b955fc87006f3df52b6520f99ce6"), looks := true }, kinds := [], alts := [], laidByText := true, laidKinds := [.handle, .sentinel, .sentinel, .sentinel, .sentinel, .sentinel], laidTests := true, laidLooks := .later }
def FnExactHoldUptoCardSaid : Prop := Claim7.holds Tryz.pinned (.plain (OpenSpec.upto fnExactHoldSpec)) fnExactHoldUptoCard

/-- THE SECOND FORM's CARD OF 'laws.FnExactMayLead'. -/
def fnExactMayLeadUptoCard : Claim7 := { stood := { row := fnExactMayLeadUptoRow, standIns := [], harness := (true, "d25a2f62c915049414ac1c15986436378660b955fc87006f3df52b6520f99ce6"), looks := true }, kinds := [], alts := [], laidByText := true, laidKinds := [.handle, .sentinel, .sentinel, .sentinel, .sentinel, .sentinel, .sentinel, .sentinel, .sentinel, .sentinel], laidTests := true, laidLooks := .later }
def FnExactMayLeadUptoCardSaid : Prop := Claim7.holds Tryz.pinned (.plain (OpenSpec.upto fnExactMayLeadSpec)) fnExactMayLeadUptoCard

/-- THE SECOND FORM's CARD OF 'laws.FnExactLead'. -/
def fnExactLeadUptoCard : Claim7 := { stood := { row := fnExactLeadUptoRow, standIns := [], harness := (true, "d25a2f62c915049414ac1c15986436378660b955fc87006f3df52b6520f99ce6"), looks := true }, kinds := [], alts := [], laidByText := true, laidKinds := [.handle, .sentinel, .sentinel, .sentinel, .sentinel, .sentinel, .sentinel, .sentinel, .sentinel, .sentinel], laidTests := true, laidLooks := .later }
def FnExactLeadUptoCardSaid : Prop := Claim7.holds Tryz.pinned (.plain (OpenSpec.upto fnExactLeadSpec)) fnExactLeadUptoCard

/-- THE SECOND FORM's CARD OF 'laws.FnExactLeave'. -/
def fnExactLeaveUptoCard : Claim7 := { stood := { row := fnExactLeaveUptoRow, standIns := [], harness := (true, "d25a2f62c915049414ac1c15986436378660b955fc87006f3df52b6520f99ce6"), looks := true }, kinds := [], alts := [], laidByText := true, laidKinds := [.handle], laidTests := true, laidLooks := .later }
def FnExactLeaveUptoCardSaid : Prop := Claim7.holds Tryz.pinned (.plain (OpenSpec.upto fnExactLeaveSpec)) fnExactLeaveUptoCard

/-- THE SECOND FORM's CARD OF 'laws.FnExactMayWrite'. -/
def fnExactMayWriteUptoCard : Claim7 := { stood := { row := fnExactMayWriteUptoRow, standIns := [], harness := (true, "d25a2f62c915049414ac1c15986436378660b955fc87006f3df52b6520f99ce6"), looks := true }, kinds := [], alts := [], laidByText := true, laidKinds := [.handle], laidTests := true, laidLooks := .later }
def FnExactMayWriteUptoCardSaid : Prop := Claim7.holds Tryz.pinned (.plain (OpenSpec.upto fnExactMayWriteSpec)) fnExactMayWriteUptoCard
end Rows
end Go.Proofs.YtkndnndildnbpaaGreatDoor

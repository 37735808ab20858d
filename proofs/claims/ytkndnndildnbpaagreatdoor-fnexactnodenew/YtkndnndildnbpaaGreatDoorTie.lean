/-
  DERIVED. GIVEN WITH THE SEED: THE PROGRAM's TIES (one call each: nine closed facts by the kernel) AND EACH ROW's TIE, after the 31st guide's Derived/Test/Toyas{Tie, Card}.lean. No idea stands in it: it is a product of the set-up. Laid BY PROGRAM, IN A SANDBOX (cutbox-door.mjs). By AI agents, Wed Nov 11 2026. No macro, syntax, notation, axiom, sorry.
-/
import Derived.Test.YtkndnndildnbpaaGreatDoorRows
import Derived.LaidByTextLater
import Derived.SevenTiedAt
import Derived.LaidSub
import Derived.LaidOnce
namespace Go.Proofs.YtkndnndildnbpaaGreatDoor
open Go
set_option maxRecDepth 100000
theorem seatTie1 : Tryz.prog.laidByTextLater [("errors.errorType", Rows.laid_errors_errorType), ("loop.example/g00399/impl.errNoPair", Rows.laid_loop_example_g00399_impl_errNoPair), ("loop.example/g00399/impl.errUnfit", Rows.laid_loop_example_g00399_impl_errUnfit), ("loop.example/g00399/impl.errHolds", Rows.laid_loop_example_g00399_impl_errHolds), ("loop.example/g00399/impl.errHoldsNot", Rows.laid_loop_example_g00399_impl_errHoldsNot), ("loop.example/g00399/impl.errLeads", Rows.laid_loop_example_g00399_impl_errLeads), ("loop.example/g00399/impl.errMateLeads", Rows.laid_loop_example_g00399_impl_errMateLeads), ("loop.example/g00399/impl.errJoined", Rows.laid_loop_example_g00399_impl_errJoined), ("loop.example/g00399/impl.errApart", Rows.laid_loop_example_g00399_impl_errApart), ("loop.example/g00399/impl.errCopies", Rows.laid_loop_example_g00399_impl_errCopies), ("loop.example/g00399/impl.errBehind", Rows.laid_loop_example_g00399_impl_errBehind), ("loop.example/g00399/impl.errNotQuiet", Rows.laid_loop_example_g00399_impl_errNotQuiet)] [.handle, .sentinel, .sentinel, .sentinel, .sentinel, .sentinel, .sentinel, .sentinel, .sentinel, .sentinel, .sentinel, .sentinel] true :=
  Program.laidByTextLater_by_one 225 8 2 (by kernel_rfl) (by kernel_rfl) (by kernel_rfl) (by kernel_rfl) (by kernel_rfl) (by kernel_rfl) (fun _ _ => by kernel_rfl)
theorem noOwnUnsafe : Tryz.pinned.checked.prog.headLifts.contains "ownunsafe" = false := by kernel_rfl
theorem tie : Tryz.prog.laidByTextLater [("errors.errorType", Rows.laid_errors_errorType)] [.handle] true :=
  Program.laidByTextLater.sub seatTie1 ["errors.errorType"] (by kernel_rfl) (by kernel_rfl)
theorem fnExactNodeNew_row_tie : Rows.fnExactNodeNewRow.laidByTextAt .later Tryz.pinned [.handle] true :=
  OpenClaim.laidByTextAt_later rfl rfl tie noOwnUnsafe
theorem fnExactApply_row_tie : Rows.fnExactApplyRow.laidByTextAt .later Tryz.pinned [.handle] true :=
  OpenClaim.laidByTextAt_later rfl rfl tie noOwnUnsafe
theorem fnExactJoin_row_tie : Rows.fnExactJoinRow.laidByTextAt .later Tryz.pinned [.handle] true :=
  OpenClaim.laidByTextAt_later rfl rfl tie noOwnUnsafe
theorem fnExactHear_row_tie : Rows.fnExactHearRow.laidByTextAt .later Tryz.pinned [.handle] true :=
  OpenClaim.laidByTextAt_later rfl rfl tie noOwnUnsafe
theorem fnExactWrite_row_tie : Rows.fnExactWriteRow.laidByTextAt .later Tryz.pinned [.handle] true :=
  OpenClaim.laidByTextAt_later rfl rfl tie noOwnUnsafe
theorem fnExactCopy_row_tie : Rows.fnExactCopyRow.laidByTextAt .later Tryz.pinned [.handle] true :=
  OpenClaim.laidByTextAt_later rfl rfl tie noOwnUnsafe
theorem fnExactLeave_row_tie : Rows.fnExactLeaveRow.laidByTextAt .later Tryz.pinned [.handle] true :=
  OpenClaim.laidByTextAt_later rfl rfl tie noOwnUnsafe
theorem fnExactMayWrite_row_tie : Rows.fnExactMayWriteRow.laidByTextAt .later Tryz.pinned [.handle] true :=
  OpenClaim.laidByTextAt_later rfl rfl tie noOwnUnsafe
theorem tie2 : Tryz.prog.laidByTextLater [("errors.errorType", Rows.laid_errors_errorType), ("loop.example/g00399/impl.errNoPair", Rows.laid_loop_example_g00399_impl_errNoPair), ("loop.example/g00399/impl.errUnfit", Rows.laid_loop_example_g00399_impl_errUnfit), ("loop.example/g00399/impl.errHolds", Rows.laid_loop_example_g00399_impl_errHolds), ("loop.example/g00399/impl.errMateLeads", Rows.laid_loop_example_g00399_impl_errMateLeads), ("loop.example/g00399/impl.errJoined", Rows.laid_loop_example_g00399_impl_errJoined)] [.handle, .sentinel, .sentinel, .sentinel, .sentinel, .sentinel] true :=
  Program.laidByTextLater.sub seatTie1 ["errors.errorType", "loop.example/g00399/impl.errNoPair", "loop.example/g00399/impl.errUnfit", "loop.example/g00399/impl.errHolds", "loop.example/g00399/impl.errMateLeads", "loop.example/g00399/impl.errJoined"] (by kernel_rfl) (by kernel_rfl)
theorem fnExactMayHold_row_tie : Rows.fnExactMayHoldRow.laidByTextAt .later Tryz.pinned [.handle, .sentinel, .sentinel, .sentinel, .sentinel, .sentinel] true :=
  OpenClaim.laidByTextAt_later rfl rfl tie2 noOwnUnsafe
theorem fnExactHold_row_tie : Rows.fnExactHoldRow.laidByTextAt .later Tryz.pinned [.handle, .sentinel, .sentinel, .sentinel, .sentinel, .sentinel] true :=
  OpenClaim.laidByTextAt_later rfl rfl tie2 noOwnUnsafe
theorem tie3 : Tryz.prog.laidByTextLater [("errors.errorType", Rows.laid_errors_errorType), ("loop.example/g00399/impl.errNoPair", Rows.laid_loop_example_g00399_impl_errNoPair), ("loop.example/g00399/impl.errUnfit", Rows.laid_loop_example_g00399_impl_errUnfit), ("loop.example/g00399/impl.errHoldsNot", Rows.laid_loop_example_g00399_impl_errHoldsNot), ("loop.example/g00399/impl.errLeads", Rows.laid_loop_example_g00399_impl_errLeads), ("loop.example/g00399/impl.errMateLeads", Rows.laid_loop_example_g00399_impl_errMateLeads), ("loop.example/g00399/impl.errApart", Rows.laid_loop_example_g00399_impl_errApart), ("loop.example/g00399/impl.errCopies", Rows.laid_loop_example_g00399_impl_errCopies), ("loop.example/g00399/impl.errBehind", Rows.laid_loop_example_g00399_impl_errBehind), ("loop.example/g00399/impl.errNotQuiet", Rows.laid_loop_example_g00399_impl_errNotQuiet)] [.handle, .sentinel, .sentinel, .sentinel, .sentinel, .sentinel, .sentinel, .sentinel, .sentinel, .sentinel] true :=
  Program.laidByTextLater.sub seatTie1 ["errors.errorType", "loop.example/g00399/impl.errNoPair", "loop.example/g00399/impl.errUnfit", "loop.example/g00399/impl.errHoldsNot", "loop.example/g00399/impl.errLeads", "loop.example/g00399/impl.errMateLeads", "loop.example/g00399/impl.errApart", "loop.example/g00399/impl.errCopies", "loop.example/g00399/impl.errBehind", "loop.example/g00399/impl.errNotQuiet"] (by kernel_rfl) (by kernel_rfl)
theorem fnExactMayLead_row_tie : Rows.fnExactMayLeadRow.laidByTextAt .later Tryz.pinned [.handle, .sentinel, .sentinel, .sentinel, .sentinel, .sentinel, .sentinel, .sentinel, .sentinel, .sentinel] true :=
  OpenClaim.laidByTextAt_later rfl rfl tie3 noOwnUnsafe
theorem fnExactLead_row_tie : Rows.fnExactLeadRow.laidByTextAt .later Tryz.pinned [.handle, .sentinel, .sentinel, .sentinel, .sentinel, .sentinel, .sentinel, .sentinel, .sentinel, .sentinel] true :=
  OpenClaim.laidByTextAt_later rfl rfl tie3 noOwnUnsafe
theorem fnExactNodeNewUpto_row_tie : Rows.fnExactNodeNewUptoRow.laidByTextAt .later Tryz.pinned [.handle] true :=
  OpenClaim.laidByTextAt_later rfl rfl tie noOwnUnsafe
theorem fnExactApplyUpto_row_tie : Rows.fnExactApplyUptoRow.laidByTextAt .later Tryz.pinned [.handle] true :=
  OpenClaim.laidByTextAt_later rfl rfl tie noOwnUnsafe
theorem fnExactJoinUpto_row_tie : Rows.fnExactJoinUptoRow.laidByTextAt .later Tryz.pinned [.handle] true :=
  OpenClaim.laidByTextAt_later rfl rfl tie noOwnUnsafe
theorem fnExactHearUpto_row_tie : Rows.fnExactHearUptoRow.laidByTextAt .later Tryz.pinned [.handle] true :=
  OpenClaim.laidByTextAt_later rfl rfl tie noOwnUnsafe
theorem fnExactWriteUpto_row_tie : Rows.fnExactWriteUptoRow.laidByTextAt .later Tryz.pinned [.handle] true :=
  OpenClaim.laidByTextAt_later rfl rfl tie noOwnUnsafe
theorem fnExactCopyUpto_row_tie : Rows.fnExactCopyUptoRow.laidByTextAt .later Tryz.pinned [.handle] true :=
  OpenClaim.laidByTextAt_later rfl rfl tie noOwnUnsafe
theorem fnExactMayHoldUpto_row_tie : Rows.fnExactMayHoldUptoRow.laidByTextAt .later Tryz.pinned [.handle, .sentinel, .sentinel, .sentinel, .sentinel, .sentinel] true :=
  OpenClaim.laidByTextAt_later rfl rfl tie2 noOwnUnsafe
theorem fnExactHoldUpto_row_tie : Rows.fnExactHoldUptoRow.laidByTextAt .later Tryz.pinned [.handle, .sentinel, .sentinel, .sentinel, .sentinel, .sentinel] true :=
  OpenClaim.laidByTextAt_later rfl rfl tie2 noOwnUnsafe
theorem fnExactMayLeadUpto_row_tie : Rows.fnExactMayLeadUptoRow.laidByTextAt .later Tryz.pinned [.handle, .sentinel, .sentinel, .sentinel, .sentinel, .sentinel, .sentinel, .sentinel, .sentinel, .sentinel] true :=
  OpenClaim.laidByTextAt_later rfl rfl tie3 noOwnUnsafe
theorem fnExactLeadUpto_row_tie : Rows.fnExactLeadUptoRow.laidByTextAt .later Tryz.pinned [.handle, .sentinel, .sentinel, .sentinel, .sentinel, .sentinel, .sentinel, .sentinel, .sentinel, .sentinel] true :=
  OpenClaim.laidByTextAt_later rfl rfl tie3 noOwnUnsafe
theorem fnExactLeaveUpto_row_tie : Rows.fnExactLeaveUptoRow.laidByTextAt .later Tryz.pinned [.handle] true :=
  OpenClaim.laidByTextAt_later rfl rfl tie noOwnUnsafe
theorem fnExactMayWriteUpto_row_tie : Rows.fnExactMayWriteUptoRow.laidByTextAt .later Tryz.pinned [.handle] true :=
  OpenClaim.laidByTextAt_later rfl rfl tie noOwnUnsafe
end Go.Proofs.YtkndnndildnbpaaGreatDoor

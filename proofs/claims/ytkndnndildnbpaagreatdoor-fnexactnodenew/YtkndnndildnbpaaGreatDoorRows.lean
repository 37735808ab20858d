/-
  NARROWER THAN 'FOR EVERY INPUT', by the rows' own cells (each row's printed sentence says how): FnExactNodeNew: laid · FnExactApply: laid · FnExactJoin: laid · FnExactHear: laid · FnExactWrite: laid · FnExactCopy: laid · FnExactMayHold: ifaces, laid · FnExactHold: ifaces, laid · FnExactMayLead: ifaces, laid · FnExactLead: ifaces, laid · FnExactLeave: laid · FnExactMayWrite: laid.
  DERIVED. THE GIVEN ROWS OF THIS SEAT. 12 by the template 'for every input the law returns true; each argument reads behind the call as it read before'; 0 by the template 'total and deterministic' (their statements: YtkndnndildnbpaaGreatDoorTotals.lean).
  GIVEN WITH THE SEED: the statements are not yours to turn. If you find one false, say at which input.
  Laid BY PROGRAM, IN A SANDBOX (cutbox-rows.mjs): the forced cells as the released guide's own fill.sh prints them over the translation c7bf3e08d45db956… (all of the seat's roots in one cut). By AI agents, Wed Nov 11 2026. No macro, syntax, notation, axiom, sorry.
-/
import Derived.Test.YtkndnndildnbpaaGreatDoorChecked
import GoSem.Claim
import GoSem.ClaimJoined
import GoSem.ClaimMapViews
import Derived.JoinedTies
import Derived.KernelRfl
namespace Go.Proofs.YtkndnndildnbpaaGreatDoor
/- THE CELL 'sum', in the pinned program and in every row, IS THE sha256 OF THE DUMP (.gsa) THAT YtkndnndildnbpaaGreatDoorProg.lean LOADS. Nothing in Lean hashes anything: it is a label: what it is worth is what the hold of that sum in a sandbox is worth. -/
noncomputable def Tryz.pinned : Pinned := { name := "ytkndnndildnbpaagreatdoor", sum := "c7bf3e08d45db956953e76aeeccceb3c5bc9eb1a76f4d67203832c89e6c01629", checked := Tryz.checked }
namespace Rows
def none {H : Type} : Left H := { results := [], args := [] }

/- WHAT THE LISTED PACKAGE-LEVEL VARIABLES READ AS WHEN THE CALL BEGINS. Each datum BY PROGRAM (the guide's laid-datum.mjs) off the statement by which the dump's own 'gosem.cut.vars' lays the variable. In a bare row this is a premise. The card (YtkndnndildnbpaaGreatDoorCards.lean) ties it to the program's text. -/
def laid_errors_errorType {H : Type} : DataW H := .iface "internal/reflectlite.rtype" (.agg [.ptr (.lit (.string [101, 114, 114, 111, 114]))])
def laid_loop_example_g00399_impl_errNoPair {H : Type} : DataW H := .iface "*errors.errorString" (.ptr (.agg [.lit (.string [116, 104, 101, 121, 32, 97, 114, 101, 32, 110, 111, 116, 32, 116, 119, 111, 32, 110, 111, 100, 101, 115, 32, 111, 102, 32, 116, 104, 101, 32, 112, 97, 105, 114])]))
def laid_loop_example_g00399_impl_errUnfit {H : Type} : DataW H := .iface "*errors.errorString" (.ptr (.agg [.lit (.string [105, 116, 32, 105, 115, 32, 100, 111, 119, 110, 44, 32, 116, 111, 114, 110, 32, 111, 114, 32, 111, 108, 100])]))
def laid_loop_example_g00399_impl_errHolds {H : Type} : DataW H := .iface "*errors.errorString" (.ptr (.agg [.lit (.string [105, 116, 32, 104, 111, 108, 100, 115, 32, 105, 116, 115, 32, 109, 97, 116, 101, 32, 102, 111, 114, 32, 111, 108, 100, 32, 97, 108, 114, 101, 97, 100, 121])]))
def laid_loop_example_g00399_impl_errMateLeads {H : Type} : DataW H := .iface "*errors.errorString" (.ptr (.agg [.lit (.string [105, 116, 115, 32, 109, 97, 116, 101, 32, 108, 101, 97, 100, 115])]))
def laid_loop_example_g00399_impl_errJoined {H : Type} : DataW H := .iface "*errors.errorString" (.ptr (.agg [.lit (.string [105, 116, 32, 104, 101, 97, 114, 115, 32, 105, 116, 115, 32, 109, 97, 116, 101])]))
def laid_loop_example_g00399_impl_errHoldsNot {H : Type} : DataW H := .iface "*errors.errorString" (.ptr (.agg [.lit (.string [105, 116, 32, 100, 111, 101, 115, 32, 110, 111, 116, 32, 104, 111, 108, 100, 32, 105, 116, 115, 32, 109, 97, 116, 101, 32, 102, 111, 114, 32, 111, 108, 100])]))
def laid_loop_example_g00399_impl_errLeads {H : Type} : DataW H := .iface "*errors.errorString" (.ptr (.agg [.lit (.string [105, 116, 32, 108, 101, 97, 100, 115, 32, 97, 108, 114, 101, 97, 100, 121])]))
def laid_loop_example_g00399_impl_errApart {H : Type} : DataW H := .iface "*errors.errorString" (.ptr (.agg [.lit (.string [116, 104, 101, 121, 32, 100, 111, 32, 110, 111, 116, 32, 104, 101, 97, 114, 32, 101, 97, 99, 104, 32, 111, 116, 104, 101, 114])]))
def laid_loop_example_g00399_impl_errCopies {H : Type} : DataW H := .iface "*errors.errorString" (.ptr (.agg [.lit (.string [111, 110, 101, 32, 111, 102, 32, 116, 104, 101, 109, 32, 99, 111, 112, 105, 101, 115, 32, 116, 111, 32, 116, 104, 101, 32, 111, 116, 104, 101, 114, 32, 111, 110, 101])]))
def laid_loop_example_g00399_impl_errBehind {H : Type} : DataW H := .iface "*errors.errorString" (.ptr (.agg [.lit (.string [116, 104, 101, 105, 114, 32, 108, 97, 115, 116, 32, 119, 114, 105, 116, 101, 115, 32, 97, 114, 101, 32, 110, 111, 116, 32, 116, 104, 101, 32, 115, 97, 109, 101])]))
def laid_loop_example_g00399_impl_errNotQuiet {H : Type} : DataW H := .iface "*errors.errorString" (.ptr (.agg [.lit (.string [115, 111, 109, 101, 116, 104, 105, 110, 103, 32, 105, 115, 32, 111, 110, 32, 105, 116, 115, 32, 119, 97, 121, 32, 98, 101, 116, 119, 101, 101, 110, 32, 116, 104, 101, 109])]))

/-- 'laws.FnExactNodeNew': WHATEVER THE INPUT: true; the input reads as it did. -/
def fnExactNodeNewSpec : ChangeSpec := { name := "fnExactNodeNew", fn := fun _ => fun
  | [d] => { results := [.lit (.bool true)], args := [d] }
  | _ => none }
def fnExactNodeNewRow : OpenClaim := { program := "ytkndnndildnbpaagreatdoor", sum := "c7bf3e08d45db956953e76aeeccceb3c5bc9eb1a76f4d67203832c89e6c01629", func := "loop.example/g00399/laws.FnExactNodeNew", spec := "fnExactNodeNew", inPlace := ["internal/reflectlite.ValueOf", "(internal/reflectlite.Value).Type", "(internal/reflectlite.Value).IsNil", "internal/reflectlite.TypeOf", "(internal/reflectlite.Value).Elem", "(internal/reflectlite.Value).Set"], unfollowed := true, recurses := true, named := ["errors.errorType"], apart := false, laid := [("errors.errorType", laid_errors_errorType)] }
def FnExactNodeNewSaid : Prop := fnExactNodeNewRow.holds Tryz.pinned (OpenSpec.ofChange fnExactNodeNewSpec)

/-- ITS FALSE NEIGHBOUR: 'it returns false'. Refute it at one input. -/
def fnExactNodeNewWrong : ChangeSpec := { name := "fnExactNodeNew", fn := fun _ => fun
  | [d] => { results := [.lit (.bool false)], args := [d] }
  | _ => none }
def FnExactNodeNewWrongFalsely : Prop := fnExactNodeNewRow.holds Tryz.pinned (OpenSpec.ofChange fnExactNodeNewWrong)

/-- 'laws.FnExactApply': WHATEVER THE INPUT: true; the input reads as it did. -/
def fnExactApplySpec : ChangeSpec := { name := "fnExactApply", fn := fun _ => fun
  | [d1, d2, d3, d4] => { results := [.lit (.bool true)], args := [d1, d2, d3, d4] }
  | _ => none }
def fnExactApplyRow : OpenClaim := { program := "ytkndnndildnbpaagreatdoor", sum := "c7bf3e08d45db956953e76aeeccceb3c5bc9eb1a76f4d67203832c89e6c01629", func := "loop.example/g00399/laws.FnExactApply", spec := "fnExactApply", inPlace := ["internal/reflectlite.ValueOf", "(internal/reflectlite.Value).Type", "(internal/reflectlite.Value).IsNil", "internal/reflectlite.TypeOf", "(internal/reflectlite.Value).Elem", "(internal/reflectlite.Value).Set", "slices.overlaps[int]"], unfollowed := true, recurses := true, named := ["errors.errorType"], apart := false, laid := [("errors.errorType", laid_errors_errorType)] }
def FnExactApplySaid : Prop := fnExactApplyRow.holds Tryz.pinned (OpenSpec.ofChange fnExactApplySpec)

/-- ITS FALSE NEIGHBOUR: 'it returns false'. Refute it at one input. -/
def fnExactApplyWrong : ChangeSpec := { name := "fnExactApply", fn := fun _ => fun
  | [d1, d2, d3, d4] => { results := [.lit (.bool false)], args := [d1, d2, d3, d4] }
  | _ => none }
def FnExactApplyWrongFalsely : Prop := fnExactApplyRow.holds Tryz.pinned (OpenSpec.ofChange fnExactApplyWrong)

/-- 'laws.FnExactJoin': WHATEVER THE INPUT: true; the input reads as it did. -/
def fnExactJoinSpec : ChangeSpec := { name := "fnExactJoin", fn := fun _ => fun
  | [d1, d2] => { results := [.lit (.bool true)], args := [d1, d2] }
  | _ => none }
def fnExactJoinRow : OpenClaim := { program := "ytkndnndildnbpaagreatdoor", sum := "c7bf3e08d45db956953e76aeeccceb3c5bc9eb1a76f4d67203832c89e6c01629", func := "loop.example/g00399/laws.FnExactJoin", spec := "fnExactJoin", inPlace := ["internal/reflectlite.ValueOf", "(internal/reflectlite.Value).Type", "(internal/reflectlite.Value).IsNil", "internal/reflectlite.TypeOf", "(internal/reflectlite.Value).Elem", "(internal/reflectlite.Value).Set", "slices.overlaps[int]"], unfollowed := true, recurses := true, named := ["errors.errorType"], apart := false, laid := [("errors.errorType", laid_errors_errorType)] }
def FnExactJoinSaid : Prop := fnExactJoinRow.holds Tryz.pinned (OpenSpec.ofChange fnExactJoinSpec)

/-- ITS FALSE NEIGHBOUR: 'it returns false'. Refute it at one input. -/
def fnExactJoinWrong : ChangeSpec := { name := "fnExactJoin", fn := fun _ => fun
  | [d1, d2] => { results := [.lit (.bool false)], args := [d1, d2] }
  | _ => none }
def FnExactJoinWrongFalsely : Prop := fnExactJoinRow.holds Tryz.pinned (OpenSpec.ofChange fnExactJoinWrong)

/-- 'laws.FnExactHear': WHATEVER THE INPUT: true; the input reads as it did. -/
def fnExactHearSpec : ChangeSpec := { name := "fnExactHear", fn := fun _ => fun
  | [d1, d2, d3] => { results := [.lit (.bool true)], args := [d1, d2, d3] }
  | _ => none }
def fnExactHearRow : OpenClaim := { program := "ytkndnndildnbpaagreatdoor", sum := "c7bf3e08d45db956953e76aeeccceb3c5bc9eb1a76f4d67203832c89e6c01629", func := "loop.example/g00399/laws.FnExactHear", spec := "fnExactHear", inPlace := ["internal/reflectlite.ValueOf", "(internal/reflectlite.Value).Type", "(internal/reflectlite.Value).IsNil", "internal/reflectlite.TypeOf", "(internal/reflectlite.Value).Elem", "(internal/reflectlite.Value).Set", "slices.overlaps[int]"], unfollowed := true, recurses := true, named := ["errors.errorType"], apart := false, laid := [("errors.errorType", laid_errors_errorType)] }
def FnExactHearSaid : Prop := fnExactHearRow.holds Tryz.pinned (OpenSpec.ofChange fnExactHearSpec)

/-- ITS FALSE NEIGHBOUR: 'it returns false'. Refute it at one input. -/
def fnExactHearWrong : ChangeSpec := { name := "fnExactHear", fn := fun _ => fun
  | [d1, d2, d3] => { results := [.lit (.bool false)], args := [d1, d2, d3] }
  | _ => none }
def FnExactHearWrongFalsely : Prop := fnExactHearRow.holds Tryz.pinned (OpenSpec.ofChange fnExactHearWrong)

/-- 'laws.FnExactWrite': WHATEVER THE INPUT: true; the input reads as it did. -/
def fnExactWriteSpec : ChangeSpec := { name := "fnExactWrite", fn := fun _ => fun
  | [d1, d2, d3] => { results := [.lit (.bool true)], args := [d1, d2, d3] }
  | _ => none }
def fnExactWriteRow : OpenClaim := { program := "ytkndnndildnbpaagreatdoor", sum := "c7bf3e08d45db956953e76aeeccceb3c5bc9eb1a76f4d67203832c89e6c01629", func := "loop.example/g00399/laws.FnExactWrite", spec := "fnExactWrite", inPlace := ["internal/reflectlite.ValueOf", "(internal/reflectlite.Value).Type", "(internal/reflectlite.Value).IsNil", "internal/reflectlite.TypeOf", "(internal/reflectlite.Value).Elem", "(internal/reflectlite.Value).Set", "slices.overlaps[int]"], unfollowed := true, recurses := true, named := ["errors.errorType"], apart := false, laid := [("errors.errorType", laid_errors_errorType)] }
def FnExactWriteSaid : Prop := fnExactWriteRow.holds Tryz.pinned (OpenSpec.ofChange fnExactWriteSpec)

/-- ITS FALSE NEIGHBOUR: 'it returns false'. Refute it at one input. -/
def fnExactWriteWrong : ChangeSpec := { name := "fnExactWrite", fn := fun _ => fun
  | [d1, d2, d3] => { results := [.lit (.bool false)], args := [d1, d2, d3] }
  | _ => none }
def FnExactWriteWrongFalsely : Prop := fnExactWriteRow.holds Tryz.pinned (OpenSpec.ofChange fnExactWriteWrong)

/-- 'laws.FnExactCopy': WHATEVER THE INPUT: true; the input reads as it did. -/
def fnExactCopySpec : ChangeSpec := { name := "fnExactCopy", fn := fun _ => fun
  | [d1, d2] => { results := [.lit (.bool true)], args := [d1, d2] }
  | _ => none }
def fnExactCopyRow : OpenClaim := { program := "ytkndnndildnbpaagreatdoor", sum := "c7bf3e08d45db956953e76aeeccceb3c5bc9eb1a76f4d67203832c89e6c01629", func := "loop.example/g00399/laws.FnExactCopy", spec := "fnExactCopy", inPlace := ["internal/reflectlite.ValueOf", "(internal/reflectlite.Value).Type", "(internal/reflectlite.Value).IsNil", "internal/reflectlite.TypeOf", "(internal/reflectlite.Value).Elem", "(internal/reflectlite.Value).Set"], unfollowed := true, recurses := true, named := ["errors.errorType"], apart := false, laid := [("errors.errorType", laid_errors_errorType)] }
def FnExactCopySaid : Prop := fnExactCopyRow.holds Tryz.pinned (OpenSpec.ofChange fnExactCopySpec)

/-- ITS FALSE NEIGHBOUR: 'it returns false'. Refute it at one input. -/
def fnExactCopyWrong : ChangeSpec := { name := "fnExactCopy", fn := fun _ => fun
  | [d1, d2] => { results := [.lit (.bool false)], args := [d1, d2] }
  | _ => none }
def FnExactCopyWrongFalsely : Prop := fnExactCopyRow.holds Tryz.pinned (OpenSpec.ofChange fnExactCopyWrong)

/-- 'laws.FnExactMayHold': WHATEVER THE INPUT: true; the input reads as it did. -/
def fnExactMayHoldSpec : ChangeSpec := { name := "fnExactMayHold", vars := ["loop.example/g00399/impl.errNoPair", "loop.example/g00399/impl.errUnfit", "loop.example/g00399/impl.errHolds", "loop.example/g00399/impl.errJoined", "loop.example/g00399/impl.errMateLeads"], fn := fun _ => fun
  | [d1, d2, g1, g2, g3, g4, g5] => { results := [.lit (.bool true)], args := [d1, d2], vars := [g1, g2, g3, g4, g5] }
  | _ => none }
def fnExactMayHoldRow : OpenClaim := { program := "ytkndnndildnbpaagreatdoor", sum := "c7bf3e08d45db956953e76aeeccceb3c5bc9eb1a76f4d67203832c89e6c01629", func := "loop.example/g00399/laws.FnExactMayHold", spec := "fnExactMayHold", inPlace := ["internal/reflectlite.ValueOf", "(internal/reflectlite.Value).Type", "(internal/reflectlite.Value).IsNil", "internal/reflectlite.TypeOf", "(internal/reflectlite.Value).Elem", "(internal/reflectlite.Value).Set"], unfollowed := true, recurses := true, named := ["loop.example/g00399/impl.errNoPair", "loop.example/g00399/impl.errUnfit", "loop.example/g00399/impl.errHolds", "loop.example/g00399/impl.errJoined", "loop.example/g00399/impl.errMateLeads", "errors.errorType"], ifaces := true, apart := false, laid := [("errors.errorType", laid_errors_errorType), ("loop.example/g00399/impl.errNoPair", laid_loop_example_g00399_impl_errNoPair), ("loop.example/g00399/impl.errUnfit", laid_loop_example_g00399_impl_errUnfit), ("loop.example/g00399/impl.errHolds", laid_loop_example_g00399_impl_errHolds), ("loop.example/g00399/impl.errMateLeads", laid_loop_example_g00399_impl_errMateLeads), ("loop.example/g00399/impl.errJoined", laid_loop_example_g00399_impl_errJoined)] }
def FnExactMayHoldSaid : Prop := fnExactMayHoldRow.holds Tryz.pinned (OpenSpec.ofChange fnExactMayHoldSpec)

/-- ITS FALSE NEIGHBOUR: 'it returns false'. Refute it at one input. -/
def fnExactMayHoldWrong : ChangeSpec := { name := "fnExactMayHold", vars := ["loop.example/g00399/impl.errNoPair", "loop.example/g00399/impl.errUnfit", "loop.example/g00399/impl.errHolds", "loop.example/g00399/impl.errJoined", "loop.example/g00399/impl.errMateLeads"], fn := fun _ => fun
  | [d1, d2, g1, g2, g3, g4, g5] => { results := [.lit (.bool false)], args := [d1, d2], vars := [g1, g2, g3, g4, g5] }
  | _ => none }
def FnExactMayHoldWrongFalsely : Prop := fnExactMayHoldRow.holds Tryz.pinned (OpenSpec.ofChange fnExactMayHoldWrong)

/-- 'laws.FnExactHold': WHATEVER THE INPUT: true; the input reads as it did. -/
def fnExactHoldSpec : ChangeSpec := { name := "fnExactHold", vars := ["loop.example/g00399/impl.errNoPair", "loop.example/g00399/impl.errUnfit", "loop.example/g00399/impl.errHolds", "loop.example/g00399/impl.errJoined", "loop.example/g00399/impl.errMateLeads"], fn := fun _ => fun
  | [d1, d2, d3, g1, g2, g3, g4, g5] => { results := [.lit (.bool true)], args := [d1, d2, d3], vars := [g1, g2, g3, g4, g5] }
  | _ => none }
def fnExactHoldRow : OpenClaim := { program := "ytkndnndildnbpaagreatdoor", sum := "c7bf3e08d45db956953e76aeeccceb3c5bc9eb1a76f4d67203832c89e6c01629", func := "loop.example/g00399/laws.FnExactHold", spec := "fnExactHold", inPlace := ["internal/reflectlite.ValueOf", "(internal/reflectlite.Value).Type", "(internal/reflectlite.Value).IsNil", "internal/reflectlite.TypeOf", "(internal/reflectlite.Value).Elem", "(internal/reflectlite.Value).Set"], unfollowed := true, recurses := true, named := ["loop.example/g00399/impl.errNoPair", "loop.example/g00399/impl.errUnfit", "loop.example/g00399/impl.errHolds", "loop.example/g00399/impl.errJoined", "loop.example/g00399/impl.errMateLeads", "errors.errorType"], ifaces := true, apart := false, laid := [("errors.errorType", laid_errors_errorType), ("loop.example/g00399/impl.errNoPair", laid_loop_example_g00399_impl_errNoPair), ("loop.example/g00399/impl.errUnfit", laid_loop_example_g00399_impl_errUnfit), ("loop.example/g00399/impl.errHolds", laid_loop_example_g00399_impl_errHolds), ("loop.example/g00399/impl.errMateLeads", laid_loop_example_g00399_impl_errMateLeads), ("loop.example/g00399/impl.errJoined", laid_loop_example_g00399_impl_errJoined)] }
def FnExactHoldSaid : Prop := fnExactHoldRow.holds Tryz.pinned (OpenSpec.ofChange fnExactHoldSpec)

/-- ITS FALSE NEIGHBOUR: 'it returns false'. Refute it at one input. -/
def fnExactHoldWrong : ChangeSpec := { name := "fnExactHold", vars := ["loop.example/g00399/impl.errNoPair", "loop.example/g00399/impl.errUnfit", "loop.example/g00399/impl.errHolds", "loop.example/g00399/impl.errJoined", "loop.example/g00399/impl.errMateLeads"], fn := fun _ => fun
  | [d1, d2, d3, g1, g2, g3, g4, g5] => { results := [.lit (.bool false)], args := [d1, d2, d3], vars := [g1, g2, g3, g4, g5] }
  | _ => none }
def FnExactHoldWrongFalsely : Prop := fnExactHoldRow.holds Tryz.pinned (OpenSpec.ofChange fnExactHoldWrong)

/-- 'laws.FnExactMayLead': WHATEVER THE INPUT: true; the input reads as it did. -/
def fnExactMayLeadSpec : ChangeSpec := { name := "fnExactMayLead", vars := ["loop.example/g00399/impl.errHoldsNot", "loop.example/g00399/impl.errNoPair", "loop.example/g00399/impl.errUnfit", "loop.example/g00399/impl.errLeads", "loop.example/g00399/impl.errApart", "loop.example/g00399/impl.errCopies", "loop.example/g00399/impl.errMateLeads", "loop.example/g00399/impl.errBehind", "loop.example/g00399/impl.errNotQuiet"], fn := fun _ => fun
  | [d1, d2, d3, g1, g2, g3, g4, g5, g6, g7, g8, g9] => { results := [.lit (.bool true)], args := [d1, d2, d3], vars := [g1, g2, g3, g4, g5, g6, g7, g8, g9] }
  | _ => none }
def fnExactMayLeadRow : OpenClaim := { program := "ytkndnndildnbpaagreatdoor", sum := "c7bf3e08d45db956953e76aeeccceb3c5bc9eb1a76f4d67203832c89e6c01629", func := "loop.example/g00399/laws.FnExactMayLead", spec := "fnExactMayLead", inPlace := ["internal/reflectlite.ValueOf", "(internal/reflectlite.Value).Type", "(internal/reflectlite.Value).IsNil", "internal/reflectlite.TypeOf", "(internal/reflectlite.Value).Elem", "(internal/reflectlite.Value).Set"], unfollowed := true, recurses := true, named := ["loop.example/g00399/impl.errHoldsNot", "loop.example/g00399/impl.errNoPair", "loop.example/g00399/impl.errUnfit", "loop.example/g00399/impl.errLeads", "errors.errorType", "loop.example/g00399/impl.errApart", "loop.example/g00399/impl.errCopies", "loop.example/g00399/impl.errMateLeads", "loop.example/g00399/impl.errBehind", "loop.example/g00399/impl.errNotQuiet"], ifaces := true, apart := false, laid := [("errors.errorType", laid_errors_errorType), ("loop.example/g00399/impl.errNoPair", laid_loop_example_g00399_impl_errNoPair), ("loop.example/g00399/impl.errUnfit", laid_loop_example_g00399_impl_errUnfit), ("loop.example/g00399/impl.errHoldsNot", laid_loop_example_g00399_impl_errHoldsNot), ("loop.example/g00399/impl.errLeads", laid_loop_example_g00399_impl_errLeads), ("loop.example/g00399/impl.errMateLeads", laid_loop_example_g00399_impl_errMateLeads), ("loop.example/g00399/impl.errApart", laid_loop_example_g00399_impl_errApart), ("loop.example/g00399/impl.errCopies", laid_loop_example_g00399_impl_errCopies), ("loop.example/g00399/impl.errBehind", laid_loop_example_g00399_impl_errBehind), ("loop.example/g00399/impl.errNotQuiet", laid_loop_example_g00399_impl_errNotQuiet)] }
def FnExactMayLeadSaid : Prop := fnExactMayLeadRow.holds Tryz.pinned (OpenSpec.ofChange fnExactMayLeadSpec)

/-- ITS FALSE NEIGHBOUR: 'it returns false'. Refute it at one input. -/
def fnExactMayLeadWrong : ChangeSpec := { name := "fnExactMayLead", vars := ["loop.example/g00399/impl.errHoldsNot", "loop.example/g00399/impl.errNoPair", "loop.example/g00399/impl.errUnfit", "loop.example/g00399/impl.errLeads", "loop.example/g00399/impl.errApart", "loop.example/g00399/impl.errCopies", "loop.example/g00399/impl.errMateLeads", "loop.example/g00399/impl.errBehind", "loop.example/g00399/impl.errNotQuiet"], fn := fun _ => fun
  | [d1, d2, d3, g1, g2, g3, g4, g5, g6, g7, g8, g9] => { results := [.lit (.bool false)], args := [d1, d2, d3], vars := [g1, g2, g3, g4, g5, g6, g7, g8, g9] }
  | _ => none }
def FnExactMayLeadWrongFalsely : Prop := fnExactMayLeadRow.holds Tryz.pinned (OpenSpec.ofChange fnExactMayLeadWrong)

/-- 'laws.FnExactLead': WHATEVER THE INPUT: true; the input reads as it did. -/
def fnExactLeadSpec : ChangeSpec := { name := "fnExactLead", vars := ["loop.example/g00399/impl.errHoldsNot", "loop.example/g00399/impl.errNoPair", "loop.example/g00399/impl.errUnfit", "loop.example/g00399/impl.errLeads", "loop.example/g00399/impl.errApart", "loop.example/g00399/impl.errCopies", "loop.example/g00399/impl.errMateLeads", "loop.example/g00399/impl.errBehind", "loop.example/g00399/impl.errNotQuiet"], fn := fun _ => fun
  | [d1, d2, d3, g1, g2, g3, g4, g5, g6, g7, g8, g9] => { results := [.lit (.bool true)], args := [d1, d2, d3], vars := [g1, g2, g3, g4, g5, g6, g7, g8, g9] }
  | _ => none }
def fnExactLeadRow : OpenClaim := { program := "ytkndnndildnbpaagreatdoor", sum := "c7bf3e08d45db956953e76aeeccceb3c5bc9eb1a76f4d67203832c89e6c01629", func := "loop.example/g00399/laws.FnExactLead", spec := "fnExactLead", inPlace := ["internal/reflectlite.ValueOf", "(internal/reflectlite.Value).Type", "(internal/reflectlite.Value).IsNil", "internal/reflectlite.TypeOf", "(internal/reflectlite.Value).Elem", "(internal/reflectlite.Value).Set"], unfollowed := true, recurses := true, named := ["loop.example/g00399/impl.errHoldsNot", "loop.example/g00399/impl.errNoPair", "loop.example/g00399/impl.errUnfit", "loop.example/g00399/impl.errLeads", "errors.errorType", "loop.example/g00399/impl.errApart", "loop.example/g00399/impl.errCopies", "loop.example/g00399/impl.errMateLeads", "loop.example/g00399/impl.errBehind", "loop.example/g00399/impl.errNotQuiet"], ifaces := true, apart := false, laid := [("errors.errorType", laid_errors_errorType), ("loop.example/g00399/impl.errNoPair", laid_loop_example_g00399_impl_errNoPair), ("loop.example/g00399/impl.errUnfit", laid_loop_example_g00399_impl_errUnfit), ("loop.example/g00399/impl.errHoldsNot", laid_loop_example_g00399_impl_errHoldsNot), ("loop.example/g00399/impl.errLeads", laid_loop_example_g00399_impl_errLeads), ("loop.example/g00399/impl.errMateLeads", laid_loop_example_g00399_impl_errMateLeads), ("loop.example/g00399/impl.errApart", laid_loop_example_g00399_impl_errApart), ("loop.example/g00399/impl.errCopies", laid_loop_example_g00399_impl_errCopies), ("loop.example/g00399/impl.errBehind", laid_loop_example_g00399_impl_errBehind), ("loop.example/g00399/impl.errNotQuiet", laid_loop_example_g00399_impl_errNotQuiet)] }
def FnExactLeadSaid : Prop := fnExactLeadRow.holds Tryz.pinned (OpenSpec.ofChange fnExactLeadSpec)

/-- ITS FALSE NEIGHBOUR: 'it returns false'. Refute it at one input. -/
def fnExactLeadWrong : ChangeSpec := { name := "fnExactLead", vars := ["loop.example/g00399/impl.errHoldsNot", "loop.example/g00399/impl.errNoPair", "loop.example/g00399/impl.errUnfit", "loop.example/g00399/impl.errLeads", "loop.example/g00399/impl.errApart", "loop.example/g00399/impl.errCopies", "loop.example/g00399/impl.errMateLeads", "loop.example/g00399/impl.errBehind", "loop.example/g00399/impl.errNotQuiet"], fn := fun _ => fun
  | [d1, d2, d3, g1, g2, g3, g4, g5, g6, g7, g8, g9] => { results := [.lit (.bool false)], args := [d1, d2, d3], vars := [g1, g2, g3, g4, g5, g6, g7, g8, g9] }
  | _ => none }
def FnExactLeadWrongFalsely : Prop := fnExactLeadRow.holds Tryz.pinned (OpenSpec.ofChange fnExactLeadWrong)

/-- 'laws.FnExactLeave': WHATEVER THE INPUT: true; the input reads as it did. -/
def fnExactLeaveSpec : ChangeSpec := { name := "fnExactLeave", fn := fun _ => fun
  | [d] => { results := [.lit (.bool true)], args := [d] }
  | _ => none }
def fnExactLeaveRow : OpenClaim := { program := "ytkndnndildnbpaagreatdoor", sum := "c7bf3e08d45db956953e76aeeccceb3c5bc9eb1a76f4d67203832c89e6c01629", func := "loop.example/g00399/laws.FnExactLeave", spec := "fnExactLeave", inPlace := ["internal/reflectlite.ValueOf", "(internal/reflectlite.Value).Type", "(internal/reflectlite.Value).IsNil", "internal/reflectlite.TypeOf", "(internal/reflectlite.Value).Elem", "(internal/reflectlite.Value).Set"], unfollowed := true, recurses := true, named := ["errors.errorType"], apart := false, laid := [("errors.errorType", laid_errors_errorType)] }
def FnExactLeaveSaid : Prop := fnExactLeaveRow.holds Tryz.pinned (OpenSpec.ofChange fnExactLeaveSpec)

/-- ITS FALSE NEIGHBOUR: 'it returns false'. Refute it at one input. -/
def fnExactLeaveWrong : ChangeSpec := { name := "fnExactLeave", fn := fun _ => fun
  | [d] => { results := [.lit (.bool false)], args := [d] }
  | _ => none }
def FnExactLeaveWrongFalsely : Prop := fnExactLeaveRow.holds Tryz.pinned (OpenSpec.ofChange fnExactLeaveWrong)

/-- 'laws.FnExactMayWrite': WHATEVER THE INPUT: true; the input reads as it did. -/
def fnExactMayWriteSpec : ChangeSpec := { name := "fnExactMayWrite", fn := fun _ => fun
  | [d] => { results := [.lit (.bool true)], args := [d] }
  | _ => none }
def fnExactMayWriteRow : OpenClaim := { program := "ytkndnndildnbpaagreatdoor", sum := "c7bf3e08d45db956953e76aeeccceb3c5bc9eb1a76f4d67203832c89e6c01629", func := "loop.example/g00399/laws.FnExactMayWrite", spec := "fnExactMayWrite", inPlace := ["internal/reflectlite.ValueOf", "(internal/reflectlite.Value).Type", "(internal/reflectlite.Value).IsNil", "internal/reflectlite.TypeOf", "(internal/reflectlite.Value).Elem", "(internal/reflectlite.Value).Set"], unfollowed := true, recurses := true, named := ["errors.errorType"], apart := false, laid := [("errors.errorType", laid_errors_errorType)] }
def FnExactMayWriteSaid : Prop := fnExactMayWriteRow.holds Tryz.pinned (OpenSpec.ofChange fnExactMayWriteSpec)

/-- ITS FALSE NEIGHBOUR: 'it returns false'. Refute it at one input. -/
def fnExactMayWriteWrong : ChangeSpec := { name := "fnExactMayWrite", fn := fun _ => fun
  | [d] => { results := [.lit (.bool false)], args := [d] }
  | _ => none }
def FnExactMayWriteWrongFalsely : Prop := fnExactMayWriteRow.holds Tryz.pinned (OpenSpec.ofChange fnExactMayWriteWrong)

/- THE SECOND FORM. 'bulk': how many values and letters a reading holds, each counted each time it is reached (what is shared counts as often as it is met; a slice's spare places count too). A statement '..UptoSaid' is the law's where the arguments, and the package variables that the reading takes, are together of bulk at most 1048576: NARROWER than '..Said'. Prove '..Said' where nothing that the law and all that it calls make is longer than what came in: it says more and counts as full. Else prove '..UptoSaid'. A law counts once. -/
mutual
def uptoBulk {H : Type} : DataW H → Nat
  | .lit (.string bytes) => bytes.length + 1
  | .lit _ => 1
  | .nil => 1
  | .ptr d => uptoBulk d + 1
  | .slice elems spare => uptoBulkAll elems + uptoBulkAll spare + 1
  | .agg parts => uptoBulkAll parts + 1
  | .iface _ d => uptoBulk d + 1
  | .map entries => uptoBulkEntries entries + 1
  | .held _ => 1
def uptoBulkAll {H : Type} : List (DataW H) → Nat
  | [] => 0
  | d :: r => uptoBulk d + uptoBulkAll r
def uptoBulkEntries {H : Type} : List (Lit × DataW H) → Nat
  | [] => 0
  | x :: r => uptoBulkEntry x + uptoBulkEntries r
def uptoBulkEntry {H : Type} : Lit × DataW H → Nat
  | (.string bytes, d) => bytes.length + uptoBulk d + 1
  | (_, d) => uptoBulk d + 1
 end
def uptoSmall : (H : Type) → List (DataW H) → Bool := fun _ ds => decide (uptoBulkAll ds ≤ 1048576)
def OpenSpec.upto (s : _root_.Go.ChangeSpec) : _root_.Go.OpenSpec := { _root_.Go.OpenSpec.ofChange s with cond := some uptoSmall }

/-- 'laws.FnExactNodeNew', WHERE WHAT IT READS IS OF BULK AT MOST 1048576: true; the input reads as it did. -/
def fnExactNodeNewUptoRow : OpenClaim := { program := "ytkndnndildnbpaagreatdoor", sum := "c7bf3e08d45db956953e76aeeccceb3c5bc9eb1a76f4d67203832c89e6c01629", func := "loop.example/g00399/laws.FnExactNodeNew", spec := "fnExactNodeNew", inPlace := ["internal/reflectlite.ValueOf", "(internal/reflectlite.Value).Type", "(internal/reflectlite.Value).IsNil", "internal/reflectlite.TypeOf", "(internal/reflectlite.Value).Elem", "(internal/reflectlite.Value).Set"], unfollowed := true, recurses := true, named := ["errors.errorType"], apart := false, laid := [("errors.errorType", laid_errors_errorType)], narrowed := true }
def FnExactNodeNewUptoSaid : Prop := fnExactNodeNewUptoRow.holds Tryz.pinned (OpenSpec.upto fnExactNodeNewSpec)

/-- 'laws.FnExactApply', WHERE WHAT IT READS IS OF BULK AT MOST 1048576: true; the input reads as it did. -/
def fnExactApplyUptoRow : OpenClaim := { program := "ytkndnndildnbpaagreatdoor", sum := "c7bf3e08d45db956953e76aeeccceb3c5bc9eb1a76f4d67203832c89e6c01629", func := "loop.example/g00399/laws.FnExactApply", spec := "fnExactApply", inPlace := ["internal/reflectlite.ValueOf", "(internal/reflectlite.Value).Type", "(internal/reflectlite.Value).IsNil", "internal/reflectlite.TypeOf", "(internal/reflectlite.Value).Elem", "(internal/reflectlite.Value).Set", "slices.overlaps[int]"], unfollowed := true, recurses := true, named := ["errors.errorType"], apart := false, laid := [("errors.errorType", laid_errors_errorType)], narrowed := true }
def FnExactApplyUptoSaid : Prop := fnExactApplyUptoRow.holds Tryz.pinned (OpenSpec.upto fnExactApplySpec)

/-- 'laws.FnExactJoin', WHERE WHAT IT READS IS OF BULK AT MOST 1048576: true; the input reads as it did. -/
def fnExactJoinUptoRow : OpenClaim := { program := "ytkndnndildnbpaagreatdoor", sum := "c7bf3e08d45db956953e76aeeccceb3c5bc9eb1a76f4d67203832c89e6c01629", func := "loop.example/g00399/laws.FnExactJoin", spec := "fnExactJoin", inPlace := ["internal/reflectlite.ValueOf", "(internal/reflectlite.Value).Type", "(internal/reflectlite.Value).IsNil", "internal/reflectlite.TypeOf", "(internal/reflectlite.Value).Elem", "(internal/reflectlite.Value).Set", "slices.overlaps[int]"], unfollowed := true, recurses := true, named := ["errors.errorType"], apart := false, laid := [("errors.errorType", laid_errors_errorType)], narrowed := true }
def FnExactJoinUptoSaid : Prop := fnExactJoinUptoRow.holds Tryz.pinned (OpenSpec.upto fnExactJoinSpec)

/-- 'laws.FnExactHear', WHERE WHAT IT READS IS OF BULK AT MOST 1048576: true; the input reads as it did. -/
def fnExactHearUptoRow : OpenClaim := { program := "ytkndnndildnbpaagreatdoor", sum := "c7bf3e08d45db956953e76aeeccceb3c5bc9eb1a76f4d67203832c89e6c01629", func := "loop.example/g00399/laws.FnExactHear", spec := "fnExactHear", inPlace := ["internal/reflectlite.ValueOf", "(internal/reflectlite.Value).Type", "(internal/reflectlite.Value).IsNil", "internal/reflectlite.TypeOf", "(internal/reflectlite.Value).Elem", "(internal/reflectlite.Value).Set", "slices.overlaps[int]"], unfollowed := true, recurses := true, named := ["errors.errorType"], apart := false, laid := [("errors.errorType", laid_errors_errorType)], narrowed := true }
def FnExactHearUptoSaid : Prop := fnExactHearUptoRow.holds Tryz.pinned (OpenSpec.upto fnExactHearSpec)

/-- 'laws.FnExactWrite', WHERE WHAT IT READS IS OF BULK AT MOST 1048576: true; the input reads as it did. -/
def fnExactWriteUptoRow : OpenClaim := { program := "ytkndnndildnbpaagreatdoor", sum := "c7bf3e08d45db956953e76aeeccceb3c5bc9eb1a76f4d67203832c89e6c01629", func := "loop.example/g00399/laws.FnExactWrite", spec := "fnExactWrite", inPlace := ["internal/reflectlite.ValueOf", "(internal/reflectlite.Value).Type", "(internal/reflectlite.Value).IsNil", "internal/reflectlite.TypeOf", "(internal/reflectlite.Value).Elem", "(internal/reflectlite.Value).Set", "slices.overlaps[int]"], unfollowed := true, recurses := true, named := ["errors.errorType"], apart := false, laid := [("errors.errorType", laid_errors_errorType)], narrowed := true }
def FnExactWriteUptoSaid : Prop := fnExactWriteUptoRow.holds Tryz.pinned (OpenSpec.upto fnExactWriteSpec)

/-- 'laws.FnExactCopy', WHERE WHAT IT READS IS OF BULK AT MOST 1048576: true; the input reads as it did. -/
def fnExactCopyUptoRow : OpenClaim := { program := "ytkndnndildnbpaagreatdoor", sum := "c7bf3e08d45db956953e76aeeccceb3c5bc9eb1a76f4d67203832c89e6c01629", func := "loop.example/g00399/laws.FnExactCopy", spec := "fnExactCopy", inPlace := ["internal/reflectlite.ValueOf", "(internal/reflectlite.Value).Type", "(internal/reflectlite.Value).IsNil", "internal/reflectlite.TypeOf", "(internal/reflectlite.Value).Elem", "(internal/reflectlite.Value).Set"], unfollowed := true, recurses := true, named := ["errors.errorType"], apart := false, laid := [("errors.errorType", laid_errors_errorType)], narrowed := true }
def FnExactCopyUptoSaid : Prop := fnExactCopyUptoRow.holds Tryz.pinned (OpenSpec.upto fnExactCopySpec)

/-- 'laws.FnExactMayHold', WHERE WHAT IT READS IS OF BULK AT MOST 1048576: true; the input reads as it did. -/
def fnExactMayHoldUptoRow : OpenClaim := { program := "ytkndnndildnbpaagreatdoor", sum := "c7bf3e08d45db956953e76aeeccceb3c5bc9eb1a76f4d67203832c89e6c01629", func := "loop.example/g00399/laws.FnExactMayHold", spec := "fnExactMayHold", inPlace := ["internal/reflectlite.ValueOf", "(internal/reflectlite.Value).Type", "(internal/reflectlite.Value).IsNil", "internal/reflectlite.TypeOf", "(internal/reflectlite.Value).Elem", "(internal/reflectlite.Value).Set"], unfollowed := true, recurses := true, named := ["loop.example/g00399/impl.errNoPair", "loop.example/g00399/impl.errUnfit", "loop.example/g00399/impl.errHolds", "loop.example/g00399/impl.errJoined", "loop.example/g00399/impl.errMateLeads", "errors.errorType"], ifaces := true, apart := false, laid := [("errors.errorType", laid_errors_errorType), ("loop.example/g00399/impl.errNoPair", laid_loop_example_g00399_impl_errNoPair), ("loop.example/g00399/impl.errUnfit", laid_loop_example_g00399_impl_errUnfit), ("loop.example/g00399/impl.errHolds", laid_loop_example_g00399_impl_errHolds), ("loop.example/g00399/impl.errMateLeads", laid_loop_example_g00399_impl_errMateLeads), ("loop.example/g00399/impl.errJoined", laid_loop_example_g00399_impl_errJoined)], narrowed := true }
def FnExactMayHoldUptoSaid : Prop := fnExactMayHoldUptoRow.holds Tryz.pinned (OpenSpec.upto fnExactMayHoldSpec)

/-- 'laws.FnExactHold', WHERE WHAT IT READS IS OF BULK AT MOST 1048576: true; the input reads as it did. -/
def fnExactHoldUptoRow : OpenClaim := { program := "ytkndnndildnbpaagreatdoor", sum := "c7bf3e08d45db956953e76aeeccceb3c5bc9eb1a76f4d67203832c89e6c01629", func := "loop.example/g00399/laws.FnExactHold", spec := "fnExactHold", inPlace := ["internal/reflectlite.ValueOf", "(internal/reflectlite.Value).Type", "(internal/reflectlite.Value).IsNil", "internal/reflectlite.TypeOf", "(internal/reflectlite.Value).Elem", "(internal/reflectlite.Value).Set"], unfollowed := true, recurses := true, named := ["loop.example/g00399/impl.errNoPair", "loop.example/g00399/impl.errUnfit", "loop.example/g00399/impl.errHolds", "loop.example/g00399/impl.errJoined", "loop.example/g00399/impl.errMateLeads", "errors.errorType"], ifaces := true, apart := false, laid := [("errors.errorType", laid_errors_errorType), ("loop.example/g00399/impl.errNoPair", laid_loop_example_g00399_impl_errNoPair), ("loop.example/g00399/impl.errUnfit", laid_loop_example_g00399_impl_errUnfit), ("loop.example/g00399/impl.errHolds", laid_loop_example_g00399_impl_errHolds), ("loop.example/g00399/impl.errMateLeads", laid_loop_example_g00399_impl_errMateLeads), ("loop.example/g00399/impl.errJoined", laid_loop_example_g00399_impl_errJoined)], narrowed := true }
def FnExactHoldUptoSaid : Prop := fnExactHoldUptoRow.holds Tryz.pinned (OpenSpec.upto fnExactHoldSpec)

/-- 'laws.FnExactMayLead', WHERE WHAT IT READS IS OF BULK AT MOST 1048576: true; the input reads as it did. -/
def fnExactMayLeadUptoRow : OpenClaim := { program := "ytkndnndildnbpaagreatdoor", sum := "c7bf3e08d45db956953e76aeeccceb3c5bc9eb1a76f4d67203832c89e6c01629", func := "loop.example/g00399/laws.FnExactMayLead", spec := "fnExactMayLead", inPlace := ["internal/reflectlite.ValueOf", "(internal/reflectlite.Value).Type", "(internal/reflectlite.Value).IsNil", "internal/reflectlite.TypeOf", "(internal/reflectlite.Value).Elem", "(internal/reflectlite.Value).Set"], unfollowed := true, recurses := true, named := ["loop.example/g00399/impl.errHoldsNot", "loop.example/g00399/impl.errNoPair", "loop.example/g00399/impl.errUnfit", "loop.example/g00399/impl.errLeads", "errors.errorType", "loop.example/g00399/impl.errApart", "loop.example/g00399/impl.errCopies", "loop.example/g00399/impl.errMateLeads", "loop.example/g00399/impl.errBehind", "loop.example/g00399/impl.errNotQuiet"], ifaces := true, apart := false, laid := [("errors.errorType", laid_errors_errorType), ("loop.example/g00399/impl.errNoPair", laid_loop_example_g00399_impl_errNoPair), ("loop.example/g00399/impl.errUnfit", laid_loop_example_g00399_impl_errUnfit), ("loop.example/g00399/impl.errHoldsNot", laid_loop_example_g00399_impl_errHoldsNot), ("loop.example/g00399/impl.errLeads", laid_loop_example_g00399_impl_errLeads), ("loop.example/g00399/impl.errMateLeads", laid_loop_example_g00399_impl_errMateLeads), ("loop.example/g00399/impl.errApart", laid_loop_example_g00399_impl_errApart), ("loop.example/g00399/impl.errCopies", laid_loop_example_g00399_impl_errCopies), ("loop.example/g00399/impl.errBehind", laid_loop_example_g00399_impl_errBehind), ("loop.example/g00399/impl.errNotQuiet", laid_loop_example_g00399_impl_errNotQuiet)], narrowed := true }
def FnExactMayLeadUptoSaid : Prop := fnExactMayLeadUptoRow.holds Tryz.pinned (OpenSpec.upto fnExactMayLeadSpec)

/-- 'laws.FnExactLead', WHERE WHAT IT READS IS OF BULK AT MOST 1048576: true; the input reads as it did. -/
def fnExactLeadUptoRow : OpenClaim := { program := "ytkndnndildnbpaagreatdoor", sum := "c7bf3e08d45db956953e76aeeccceb3c5bc9eb1a76f4d67203832c89e6c01629", func := "loop.example/g00399/laws.FnExactLead", spec := "fnExactLead", inPlace := ["internal/reflectlite.ValueOf", "(internal/reflectlite.Value).Type", "(internal/reflectlite.Value).IsNil", "internal/reflectlite.TypeOf", "(internal/reflectlite.Value).Elem", "(internal/reflectlite.Value).Set"], unfollowed := true, recurses := true, named := ["loop.example/g00399/impl.errHoldsNot", "loop.example/g00399/impl.errNoPair", "loop.example/g00399/impl.errUnfit", "loop.example/g00399/impl.errLeads", "errors.errorType", "loop.example/g00399/impl.errApart", "loop.example/g00399/impl.errCopies", "loop.example/g00399/impl.errMateLeads", "loop.example/g00399/impl.errBehind", "loop.example/g00399/impl.errNotQuiet"], ifaces := true, apart := false, laid := [("errors.errorType", laid_errors_errorType), ("loop.example/g00399/impl.errNoPair", laid_loop_example_g00399_impl_errNoPair), ("loop.example/g00399/impl.errUnfit", laid_loop_example_g00399_impl_errUnfit), ("loop.example/g00399/impl.errHoldsNot", laid_loop_example_g00399_impl_errHoldsNot), ("loop.example/g00399/impl.errLeads", laid_loop_example_g00399_impl_errLeads), ("loop.example/g00399/impl.errMateLeads", laid_loop_example_g00399_impl_errMateLeads), ("loop.example/g00399/impl.errApart", laid_loop_example_g00399_impl_errApart), ("loop.example/g00399/impl.errCopies", laid_loop_example_g00399_impl_errCopies), ("loop.example/g00399/impl.errBehind", laid_loop_example_g00399_impl_errBehind), ("loop.example/g00399/impl.errNotQuiet", laid_loop_example_g00399_impl_errNotQuiet)], narrowed := true }
def FnExactLeadUptoSaid : Prop := fnExactLeadUptoRow.holds Tryz.pinned (OpenSpec.upto fnExactLeadSpec)

/-- 'laws.FnExactLeave', WHERE WHAT IT READS IS OF BULK AT MOST 1048576: true; the input reads as it did. -/
def fnExactLeaveUptoRow : OpenClaim := { program := "ytkndnndildnbpaagreatdoor", sum := "c7bf3e08d45db956953e76aeeccceb3c5bc9eb1a76f4d67203832c89e6c01629", func := "loop.example/g00399/laws.FnExactLeave", spec := "fnExactLeave", inPlace := ["internal/reflectlite.ValueOf", "(internal/reflectlite.Value).Type", "(internal/reflectlite.Value).IsNil", "internal/reflectlite.TypeOf", "(internal/reflectlite.Value).Elem", "(internal/reflectlite.Value).Set"], unfollowed := true, recurses := true, named := ["errors.errorType"], apart := false, laid := [("errors.errorType", laid_errors_errorType)], narrowed := true }
def FnExactLeaveUptoSaid : Prop := fnExactLeaveUptoRow.holds Tryz.pinned (OpenSpec.upto fnExactLeaveSpec)

/-- 'laws.FnExactMayWrite', WHERE WHAT IT READS IS OF BULK AT MOST 1048576: true; the input reads as it did. -/
def fnExactMayWriteUptoRow : OpenClaim := { program := "ytkndnndildnbpaagreatdoor", sum := "c7bf3e08d45db956953e76aeeccceb3c5bc9eb1a76f4d67203832c89e6c01629", func := "loop.example/g00399/laws.FnExactMayWrite", spec := "fnExactMayWrite", inPlace := ["internal/reflectlite.ValueOf", "(internal/reflectlite.Value).Type", "(internal/reflectlite.Value).IsNil", "internal/reflectlite.TypeOf", "(internal/reflectlite.Value).Elem", "(internal/reflectlite.Value).Set"], unfollowed := true, recurses := true, named := ["errors.errorType"], apart := false, laid := [("errors.errorType", laid_errors_errorType)], narrowed := true }
def FnExactMayWriteUptoSaid : Prop := fnExactMayWriteUptoRow.holds Tryz.pinned (OpenSpec.upto fnExactMayWriteSpec)

end Rows
end Go.Proofs.YtkndnndildnbpaaGreatDoor

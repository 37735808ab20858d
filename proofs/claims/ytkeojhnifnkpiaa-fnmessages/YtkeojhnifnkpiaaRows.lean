/-
  No cell of these rows narrows 'for every input' (looked for: loops, veiled, ifaces, maps, wideKeys, modest, calm, conditions, laid).
  DERIVED. THE GIVEN ROWS OF THIS SEAT. 6 by the template 'for every input the law returns true; each argument reads behind the call as it read before'; 0 by the template 'total and deterministic' (their statements: YtkeojhnifnkpiaaTotals.lean).
  GIVEN WITH THE SEED: the statements are not yours to turn. If you find one false, say at which input.
  Laid BY PROGRAM, IN A SANDBOX (cutbox-rows.mjs): the forced cells as the released guide's own fill.sh prints them over the translation 9dc86ffc3cf87e17… (all of the seat's roots in one cut). By AI agents, Wed Nov 11 2026. No macro, syntax, notation, axiom, sorry.
-/
import Derived.Test.YtkeojhnifnkpiaaChecked
import GoSem.Claim
import GoSem.ClaimJoined
import GoSem.ClaimMapViews
import Derived.JoinedTies
import Derived.KernelRfl
namespace Go.Proofs.Ytkeojhnifnkpiaa
/- THE CELL 'sum', in the pinned program and in every row, IS THE sha256 OF THE DUMP (.gsa) THAT YtkeojhnifnkpiaaProg.lean LOADS. Nothing in Lean hashes anything: it is a label: what it is worth is what the hold of that sum in a sandbox is worth. -/
noncomputable def Try.pinned : Pinned := { name := "ytkeojhnifnkpiaa", sum := "9dc86ffc3cf87e17f81e2f69ee4c4cde8ec514db50d4f2047e9b76b776e4a40e", checked := Try.checked }
namespace Rows
def none {H : Type} : Left H := { results := [], args := [] }

/-- 'laws.FnMetas': WHATEVER THE INPUT: true; the input reads as it did. -/
def fnMetasSpec : ChangeSpec := { name := "fnMetas", fn := fun _ => fun
  | [d] => { results := [.lit (.bool true)], args := [d] }
  | _ => none }
def fnMetasRow : OpenClaim := { program := "ytkeojhnifnkpiaa", sum := "9dc86ffc3cf87e17f81e2f69ee4c4cde8ec514db50d4f2047e9b76b776e4a40e", func := "loop.example/g00399/laws.FnMetas", spec := "fnMetas", unfollowed := true, recurses := true, apart := false }
def FnMetasSaid : Prop := fnMetasRow.holds Try.pinned (OpenSpec.ofChange fnMetasSpec)

/-- ITS FALSE NEIGHBOUR: 'it returns false'. Refute it at one input. -/
def fnMetasWrong : ChangeSpec := { name := "fnMetas", fn := fun _ => fun
  | [d] => { results := [.lit (.bool false)], args := [d] }
  | _ => none }
def FnMetasWrongFalsely : Prop := fnMetasRow.holds Try.pinned (OpenSpec.ofChange fnMetasWrong)

/-- 'laws.FnMessages': WHATEVER THE INPUT: true; the input reads as it did. -/
def fnMessagesSpec : ChangeSpec := { name := "fnMessages", fn := fun _ => fun
  | [d] => { results := [.lit (.bool true)], args := [d] }
  | _ => none }
def fnMessagesRow : OpenClaim := { program := "ytkeojhnifnkpiaa", sum := "9dc86ffc3cf87e17f81e2f69ee4c4cde8ec514db50d4f2047e9b76b776e4a40e", func := "loop.example/g00399/laws.FnMessages", spec := "fnMessages", unfollowed := true, recurses := true, apart := false }
def FnMessagesSaid : Prop := fnMessagesRow.holds Try.pinned (OpenSpec.ofChange fnMessagesSpec)

/-- ITS FALSE NEIGHBOUR: 'it returns false'. Refute it at one input. -/
def fnMessagesWrong : ChangeSpec := { name := "fnMessages", fn := fun _ => fun
  | [d] => { results := [.lit (.bool false)], args := [d] }
  | _ => none }
def FnMessagesWrongFalsely : Prop := fnMessagesRow.holds Try.pinned (OpenSpec.ofChange fnMessagesWrong)

/-- 'laws.FnExactMetaOk': WHATEVER THE INPUT: true; the input reads as it did. -/
def fnExactMetaOkSpec : ChangeSpec := { name := "fnExactMetaOk", fn := fun _ => fun
  | [d] => { results := [.lit (.bool true)], args := [d] }
  | _ => none }
def fnExactMetaOkRow : OpenClaim := { program := "ytkeojhnifnkpiaa", sum := "9dc86ffc3cf87e17f81e2f69ee4c4cde8ec514db50d4f2047e9b76b776e4a40e", func := "loop.example/g00399/laws.FnExactMetaOk", spec := "fnExactMetaOk", unfollowed := true, recurses := true, apart := false }
def FnExactMetaOkSaid : Prop := fnExactMetaOkRow.holds Try.pinned (OpenSpec.ofChange fnExactMetaOkSpec)

/-- ITS FALSE NEIGHBOUR: 'it returns false'. Refute it at one input. -/
def fnExactMetaOkWrong : ChangeSpec := { name := "fnExactMetaOk", fn := fun _ => fun
  | [d] => { results := [.lit (.bool false)], args := [d] }
  | _ => none }
def FnExactMetaOkWrongFalsely : Prop := fnExactMetaOkRow.holds Try.pinned (OpenSpec.ofChange fnExactMetaOkWrong)

/-- 'laws.FnExactMetaNew': WHATEVER THE INPUT: true; the input reads as it did. -/
def fnExactMetaNewSpec : ChangeSpec := { name := "fnExactMetaNew", fn := fun _ => fun
  | [d] => { results := [.lit (.bool true)], args := [d] }
  | _ => none }
def fnExactMetaNewRow : OpenClaim := { program := "ytkeojhnifnkpiaa", sum := "9dc86ffc3cf87e17f81e2f69ee4c4cde8ec514db50d4f2047e9b76b776e4a40e", func := "loop.example/g00399/laws.FnExactMetaNew", spec := "fnExactMetaNew", unfollowed := true, recurses := true, apart := false }
def FnExactMetaNewSaid : Prop := fnExactMetaNewRow.holds Try.pinned (OpenSpec.ofChange fnExactMetaNewSpec)

/-- ITS FALSE NEIGHBOUR: 'it returns false'. Refute it at one input. -/
def fnExactMetaNewWrong : ChangeSpec := { name := "fnExactMetaNew", fn := fun _ => fun
  | [d] => { results := [.lit (.bool false)], args := [d] }
  | _ => none }
def FnExactMetaNewWrongFalsely : Prop := fnExactMetaNewRow.holds Try.pinned (OpenSpec.ofChange fnExactMetaNewWrong)

/-- 'laws.FnExactMetaBytes': WHATEVER THE INPUT: true; the input reads as it did. -/
def fnExactMetaBytesSpec : ChangeSpec := { name := "fnExactMetaBytes", fn := fun _ => fun
  | [d] => { results := [.lit (.bool true)], args := [d] }
  | _ => none }
def fnExactMetaBytesRow : OpenClaim := { program := "ytkeojhnifnkpiaa", sum := "9dc86ffc3cf87e17f81e2f69ee4c4cde8ec514db50d4f2047e9b76b776e4a40e", func := "loop.example/g00399/laws.FnExactMetaBytes", spec := "fnExactMetaBytes", unfollowed := true, recurses := true, apart := false }
def FnExactMetaBytesSaid : Prop := fnExactMetaBytesRow.holds Try.pinned (OpenSpec.ofChange fnExactMetaBytesSpec)

/-- ITS FALSE NEIGHBOUR: 'it returns false'. Refute it at one input. -/
def fnExactMetaBytesWrong : ChangeSpec := { name := "fnExactMetaBytes", fn := fun _ => fun
  | [d] => { results := [.lit (.bool false)], args := [d] }
  | _ => none }
def FnExactMetaBytesWrongFalsely : Prop := fnExactMetaBytesRow.holds Try.pinned (OpenSpec.ofChange fnExactMetaBytesWrong)

/-- 'laws.FnExactMetaOf': WHATEVER THE INPUT: true; the input reads as it did. -/
def fnExactMetaOfSpec : ChangeSpec := { name := "fnExactMetaOf", fn := fun _ => fun
  | [d] => { results := [.lit (.bool true)], args := [d] }
  | _ => none }
def fnExactMetaOfRow : OpenClaim := { program := "ytkeojhnifnkpiaa", sum := "9dc86ffc3cf87e17f81e2f69ee4c4cde8ec514db50d4f2047e9b76b776e4a40e", func := "loop.example/g00399/laws.FnExactMetaOf", spec := "fnExactMetaOf", unfollowed := true, recurses := true, apart := false }
def FnExactMetaOfSaid : Prop := fnExactMetaOfRow.holds Try.pinned (OpenSpec.ofChange fnExactMetaOfSpec)

/-- ITS FALSE NEIGHBOUR: 'it returns false'. Refute it at one input. -/
def fnExactMetaOfWrong : ChangeSpec := { name := "fnExactMetaOf", fn := fun _ => fun
  | [d] => { results := [.lit (.bool false)], args := [d] }
  | _ => none }
def FnExactMetaOfWrongFalsely : Prop := fnExactMetaOfRow.holds Try.pinned (OpenSpec.ofChange fnExactMetaOfWrong)

/- THE SECOND FORM. 'bulk': how many values and letters a reading holds, each counted each time it is reached (what is shared counts as often as it is met; a slice's spare places count too). A statement '..UptoSaid' is the law's where the arguments, and the package variables that the reading takes, are together of bulk at most 1048576: NARROWER than '..Said'. Prove '..Said' where nothing that the law and all that it calls make is longer than what came in: it says more and counts as full. Else prove '..UptoSaid'. A law counts once. -/
mutual
def uptoBulk {H : Type} : DataW H → Nat
  | .lit (.string bytes) => bytes.length + 1
  | .lit _ => 1
  | .nil => 1
  | .ptr d => uptoBulk d + 1
  | .slice elems spare => uptoBulkAll elems + uptoBulkAll spare + 1
  | .agg parts => uptoBulkAll parts + 1
  | .iface _ d => uptoBulk d + 1
  | .map entries => uptoBulkEntries entries + 1
  | .held _ => 1
def uptoBulkAll {H : Type} : List (DataW H) → Nat
  | [] => 0
  | d :: r => uptoBulk d + uptoBulkAll r
def uptoBulkEntries {H : Type} : List (Lit × DataW H) → Nat
  | [] => 0
  | x :: r => uptoBulkEntry x + uptoBulkEntries r
def uptoBulkEntry {H : Type} : Lit × DataW H → Nat
  | (.string bytes, d) => bytes.length + uptoBulk d + 1
  | (_, d) => uptoBulk d + 1
 end
def uptoSmall : (H : Type) → List (DataW H) → Bool := fun _ ds => decide (uptoBulkAll ds ≤ 1048576)
def OpenSpec.upto (s : _root_.Go.ChangeSpec) : _root_.Go.OpenSpec := { _root_.Go.OpenSpec.ofChange s with cond := some uptoSmall }

/-- 'laws.FnMetas', WHERE WHAT IT READS IS OF BULK AT MOST 1048576: true; the input reads as it did. -/
def fnMetasUptoRow : OpenClaim := { program := "ytkeojhnifnkpiaa", sum := "9dc86ffc3cf87e17f81e2f69ee4c4cde8ec514db50d4f2047e9b76b776e4a40e", func := "loop.example/g00399/laws.FnMetas", spec := "fnMetas", unfollowed := true, recurses := true, apart := false, narrowed := true }
def FnMetasUptoSaid : Prop := fnMetasUptoRow.holds Try.pinned (OpenSpec.upto fnMetasSpec)

/-- 'laws.FnMessages', WHERE WHAT IT READS IS OF BULK AT MOST 1048576: true; the input reads as it did. -/
def fnMessagesUptoRow : OpenClaim := { program := "ytkeojhnifnkpiaa", sum := "9dc86ffc3cf87e17f81e2f69ee4c4cde8ec514db50d4f2047e9b76b776e4a40e", func := "loop.example/g00399/laws.FnMessages", spec := "fnMessages", unfollowed := true, recurses := true, apart := false, narrowed := true }
def FnMessagesUptoSaid : Prop := fnMessagesUptoRow.holds Try.pinned (OpenSpec.upto fnMessagesSpec)

/-- 'laws.FnExactMetaOk', WHERE WHAT IT READS IS OF BULK AT MOST 1048576: true; the input reads as it did. -/
def fnExactMetaOkUptoRow : OpenClaim := { program := "ytkeojhnifnkpiaa", sum := "9dc86ffc3cf87e17f81e2f69ee4c4cde8ec514db50d4f2047e9b76b776e4a40e", func := "loop.example/g00399/laws.FnExactMetaOk", spec := "fnExactMetaOk", unfollowed := true, recurses := true, apart := false, narrowed := true }
def FnExactMetaOkUptoSaid : Prop := fnExactMetaOkUptoRow.holds Try.pinned (OpenSpec.upto fnExactMetaOkSpec)

/-- 'laws.FnExactMetaNew', WHERE WHAT IT READS IS OF BULK AT MOST 1048576: true; the input reads as it did. -/
def fnExactMetaNewUptoRow : OpenClaim := { program := "ytkeojhnifnkpiaa", sum := "9dc86ffc3cf87e17f81e2f69ee4c4cde8ec514db50d4f2047e9b76b776e4a40e", func := "loop.example/g00399/laws.FnExactMetaNew", spec := "fnExactMetaNew", unfollowed := true, recurses := true, apart := false, narrowed := true }
def FnExactMetaNewUptoSaid : Prop := fnExactMetaNewUptoRow.holds Try.pinned (OpenSpec.upto fnExactMetaNewSpec)

/-- 'laws.FnExactMetaBytes', WHERE WHAT IT READS IS OF BULK AT MOST 1048576: true; the input reads as it did. -/
def fnExactMetaBytesUptoRow : OpenClaim := { program := "ytkeojhnifnkpiaa", sum := "9dc86ffc3cf87e17f81e2f69ee4c4cde8ec514db50d4f2047e9b76b776e4a40e", func := "loop.example/g00399/laws.FnExactMetaBytes", spec := "fnExactMetaBytes", unfollowed := true, recurses := true, apart := false, narrowed := true }
def FnExactMetaBytesUptoSaid : Prop := fnExactMetaBytesUptoRow.holds Try.pinned (OpenSpec.upto fnExactMetaBytesSpec)

/-- 'laws.FnExactMetaOf', WHERE WHAT IT READS IS OF BULK AT MOST 1048576: true; the input reads as it did. -/
def fnExactMetaOfUptoRow : OpenClaim := { program := "ytkeojhnifnkpiaa", sum := "9dc86ffc3cf87e17f81e2f69ee4c4cde8ec514db50d4f2047e9b76b776e4a40e", func := "loop.example/g00399/laws.FnExactMetaOf", spec := "fnExactMetaOf", unfollowed := true, recurses := true, apart := false, narrowed := true }
def FnExactMetaOfUptoSaid : Prop := fnExactMetaOfUptoRow.holds Try.pinned (OpenSpec.upto fnExactMetaOfSpec)

end Rows
end Go.Proofs.Ytkeojhnifnkpiaa

/-
  No cell of these rows narrows 'for every input' (looked for: loops, veiled, ifaces, maps, wideKeys, modest, calm, conditions, laid).
  DERIVED. THE GIVEN ROWS OF THIS SEAT. 4 by the template 'for every input the law returns true; each argument reads behind the call as it read before'; 0 by the template 'total and deterministic' (their statements: YtjbhgedbkajmdaaTotals.lean).
  GIVEN WITH THE SEED: the statements are not yours to turn. If you find one false, say at which input.
  Laid BY PROGRAM, IN A SANDBOX (cutbox-rows.mjs): the forced cells as the released guide's own fill.sh prints them over the translation 8b597cbc6d1d0133… (all of the seat's roots in one cut). By AI agents, Wed Nov 11 2026. No macro, syntax, notation, axiom, sorry.
-/
import Derived.Test.YtjbhgedbkajmdaaChecked
import GoSem.Claim
import GoSem.ClaimJoined
import GoSem.ClaimMapViews
import Derived.JoinedTies
import Derived.KernelRfl
namespace Go.Proofs.Ytjbhgedbkajmdaa
/- THE CELL 'sum', in the pinned program and in every row, IS THE sha256 OF THE DUMP (.gsa) THAT YtjbhgedbkajmdaaProg.lean LOADS. Nothing in Lean hashes anything: it is a label: what it is worth is what the hold of that sum in a sandbox is worth. -/
noncomputable def Try.pinned : Pinned := { name := "ytjbhgedbkajmdaa", sum := "8b597cbc6d1d0133f7c60f6a9ba7860772953b9b261f156c65e6bb18336c2b8b", checked := Try.checked }
namespace Rows
def none {H : Type} : Left H := { results := [], args := [] }

/-- 'laws.FnMetas': WHATEVER THE INPUT: true; the input reads as it did. -/
def fnMetasSpec : ChangeSpec := { name := "fnMetas", fn := fun _ => fun
  | [d] => { results := [.lit (.bool true)], args := [d] }
  | _ => none }
def fnMetasRow : OpenClaim := { program := "ytjbhgedbkajmdaa", sum := "8b597cbc6d1d0133f7c60f6a9ba7860772953b9b261f156c65e6bb18336c2b8b", func := "loop.example/g00399/laws.FnMetas", spec := "fnMetas", unfollowed := true, recurses := true, apart := false }
def FnMetasSaid : Prop := fnMetasRow.holds Try.pinned (OpenSpec.ofChange fnMetasSpec)

/-- ITS FALSE NEIGHBOUR: 'it returns false'. Refute it at one input. -/
def fnMetasWrong : ChangeSpec := { name := "fnMetas", fn := fun _ => fun
  | [d] => { results := [.lit (.bool false)], args := [d] }
  | _ => none }
def FnMetasWrongFalsely : Prop := fnMetasRow.holds Try.pinned (OpenSpec.ofChange fnMetasWrong)

/-- 'laws.FnGens': WHATEVER THE INPUT: true; the input reads as it did. -/
def fnGensSpec : ChangeSpec := { name := "fnGens", fn := fun _ => fun
  | [d] => { results := [.lit (.bool true)], args := [d] }
  | _ => none }
def fnGensRow : OpenClaim := { program := "ytjbhgedbkajmdaa", sum := "8b597cbc6d1d0133f7c60f6a9ba7860772953b9b261f156c65e6bb18336c2b8b", func := "loop.example/g00399/laws.FnGens", spec := "fnGens", apart := false }
def FnGensSaid : Prop := fnGensRow.holds Try.pinned (OpenSpec.ofChange fnGensSpec)

/-- ITS FALSE NEIGHBOUR: 'it returns false'. Refute it at one input. -/
def fnGensWrong : ChangeSpec := { name := "fnGens", fn := fun _ => fun
  | [d] => { results := [.lit (.bool false)], args := [d] }
  | _ => none }
def FnGensWrongFalsely : Prop := fnGensRow.holds Try.pinned (OpenSpec.ofChange fnGensWrong)

/-- 'laws.FnExactGensOk': WHATEVER THE INPUT: true; the input reads as it did. -/
def fnExactGensOkSpec : ChangeSpec := { name := "fnExactGensOk", fn := fun _ => fun
  | [d] => { results := [.lit (.bool true)], args := [d] }
  | _ => none }
def fnExactGensOkRow : OpenClaim := { program := "ytjbhgedbkajmdaa", sum := "8b597cbc6d1d0133f7c60f6a9ba7860772953b9b261f156c65e6bb18336c2b8b", func := "loop.example/g00399/laws.FnExactGensOk", spec := "fnExactGensOk", apart := false }
def FnExactGensOkSaid : Prop := fnExactGensOkRow.holds Try.pinned (OpenSpec.ofChange fnExactGensOkSpec)

/-- ITS FALSE NEIGHBOUR: 'it returns false'. Refute it at one input. -/
def fnExactGensOkWrong : ChangeSpec := { name := "fnExactGensOk", fn := fun _ => fun
  | [d] => { results := [.lit (.bool false)], args := [d] }
  | _ => none }
def FnExactGensOkWrongFalsely : Prop := fnExactGensOkRow.holds Try.pinned (OpenSpec.ofChange fnExactGensOkWrong)

/-- 'laws.FnExactGenPush': WHATEVER THE INPUT: true; the input reads as it did. -/
def fnExactGenPushSpec : ChangeSpec := { name := "fnExactGenPush", fn := fun _ => fun
  | [d1, d2] => { results := [.lit (.bool true)], args := [d1, d2] }
  | _ => none }
def fnExactGenPushRow : OpenClaim := { program := "ytjbhgedbkajmdaa", sum := "8b597cbc6d1d0133f7c60f6a9ba7860772953b9b261f156c65e6bb18336c2b8b", func := "loop.example/g00399/laws.FnExactGenPush", spec := "fnExactGenPush", apart := false }
def FnExactGenPushSaid : Prop := fnExactGenPushRow.holds Try.pinned (OpenSpec.ofChange fnExactGenPushSpec)

/-- ITS FALSE NEIGHBOUR: 'it returns false'. Refute it at one input. -/
def fnExactGenPushWrong : ChangeSpec := { name := "fnExactGenPush", fn := fun _ => fun
  | [d1, d2] => { results := [.lit (.bool false)], args := [d1, d2] }
  | _ => none }
def FnExactGenPushWrongFalsely : Prop := fnExactGenPushRow.holds Try.pinned (OpenSpec.ofChange fnExactGenPushWrong)

/- THE SECOND FORM. 'bulk': how many values and letters a reading holds, each counted each time it is reached (what is shared counts as often as it is met; a slice's spare places count too). A statement '..UptoSaid' is the law's where the arguments, and the package variables that the reading takes, are together of bulk at most 1048576: NARROWER than '..Said'. Prove '..Said' where nothing that the law and all that it calls make is longer than what came in: it says more and counts as full. Else prove '..UptoSaid'. A law counts once. -/
mutual
def uptoBulk {H : Type} : DataW H → Nat
  | .lit (.string bytes) => bytes.length + 1
  | .lit _ => 1
  | .nil => 1
  | .ptr d => uptoBulk d + 1
  | .slice elems spare => uptoBulkAll elems + uptoBulkAll spare + 1
  | .agg parts => uptoBulkAll parts + 1
  | .iface _ d => uptoBulk d + 1
  | .map entries => uptoBulkEntries entries + 1
  | .held _ => 1
def uptoBulkAll {H : Type} : List (DataW H) → Nat
  | [] => 0
  | d :: r => uptoBulk d + uptoBulkAll r
def uptoBulkEntries {H : Type} : List (Lit × DataW H) → Nat
  | [] => 0
  | x :: r => uptoBulkEntry x + uptoBulkEntries r
def uptoBulkEntry {H : Type} : Lit × DataW H → Nat
  | (.string bytes, d) => bytes.length + uptoBulk d + 1
  | (_, d) => uptoBulk d + 1
 end
def uptoSmall : (H : Type) → List (DataW H) → Bool := fun _ ds => decide (uptoBulkAll ds ≤ 1048576)
def OpenSpec.upto (s : _root_.Go.ChangeSpec) : _root_.Go.OpenSpec := { _root_.Go.OpenSpec.ofChange s with cond := some uptoSmall }

/-- 'laws.FnMetas', WHERE WHAT IT READS IS OF BULK AT MOST 1048576: true; the input reads as it did. -/
def fnMetasUptoRow : OpenClaim := { program := "ytjbhgedbkajmdaa", sum := "8b597cbc6d1d0133f7c60f6a9ba7860772953b9b261f156c65e6bb18336c2b8b", func := "loop.example/g00399/laws.FnMetas", spec := "fnMetas", unfollowed := true, recurses := true, apart := false, narrowed := true }
def FnMetasUptoSaid : Prop := fnMetasUptoRow.holds Try.pinned (OpenSpec.upto fnMetasSpec)

/-- 'laws.FnGens', WHERE WHAT IT READS IS OF BULK AT MOST 1048576: true; the input reads as it did. -/
def fnGensUptoRow : OpenClaim := { program := "ytjbhgedbkajmdaa", sum := "8b597cbc6d1d0133f7c60f6a9ba7860772953b9b261f156c65e6bb18336c2b8b", func := "loop.example/g00399/laws.FnGens", spec := "fnGens", apart := false, narrowed := true }
def FnGensUptoSaid : Prop := fnGensUptoRow.holds Try.pinned (OpenSpec.upto fnGensSpec)

/-- 'laws.FnExactGensOk', WHERE WHAT IT READS IS OF BULK AT MOST 1048576: true; the input reads as it did. -/
def fnExactGensOkUptoRow : OpenClaim := { program := "ytjbhgedbkajmdaa", sum := "8b597cbc6d1d0133f7c60f6a9ba7860772953b9b261f156c65e6bb18336c2b8b", func := "loop.example/g00399/laws.FnExactGensOk", spec := "fnExactGensOk", apart := false, narrowed := true }
def FnExactGensOkUptoSaid : Prop := fnExactGensOkUptoRow.holds Try.pinned (OpenSpec.upto fnExactGensOkSpec)

/-- 'laws.FnExactGenPush', WHERE WHAT IT READS IS OF BULK AT MOST 1048576: true; the input reads as it did. -/
def fnExactGenPushUptoRow : OpenClaim := { program := "ytjbhgedbkajmdaa", sum := "8b597cbc6d1d0133f7c60f6a9ba7860772953b9b261f156c65e6bb18336c2b8b", func := "loop.example/g00399/laws.FnExactGenPush", spec := "fnExactGenPush", apart := false, narrowed := true }
def FnExactGenPushUptoSaid : Prop := fnExactGenPushUptoRow.holds Try.pinned (OpenSpec.upto fnExactGenPushSpec)

end Rows
end Go.Proofs.Ytjbhgedbkajmdaa

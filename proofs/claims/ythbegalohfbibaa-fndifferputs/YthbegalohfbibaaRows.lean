/-
  No cell of these rows narrows 'for every input' (looked for: loops, veiled, ifaces, maps, wideKeys, modest, calm, conditions, laid).
  DERIVED. THE GIVEN ROWS OF THIS SEAT. 4 by the template 'for every input the law returns true; each argument reads behind the call as it read before'; 0 by the template 'total and deterministic' (their statements: YthbegalohfbibaaTotals.lean).
  GIVEN WITH THE SEED: the statements are not yours to turn. If you find one false, say at which input.
  Laid BY PROGRAM, IN A SANDBOX (cutbox-rows.mjs): the forced cells as the released guide's own fill.sh prints them over the translation be35f73a6087b162… (all of the seat's roots in one cut). By AI agents, Wed Nov 11 2026. No macro, syntax, notation, axiom, sorry.
-/
import Derived.Test.YthbegalohfbibaaChecked
import GoSem.Claim
import GoSem.ClaimJoined
import GoSem.ClaimMapViews
import Derived.JoinedTies
import Derived.KernelRfl
namespace Go.Proofs.Ythbegalohfbibaa
/- THE CELL 'sum', in the pinned program and in every row, IS THE sha256 OF THE DUMP (.gsa) THAT YthbegalohfbibaaProg.lean LOADS. Nothing in Lean hashes anything: it is a label: what it is worth is what the hold of that sum in a sandbox is worth. -/
noncomputable def Try.pinned : Pinned := { name := "ythbegalohfbibaa", sum := "be35f73a6087b162e34aaab5ca65ea3eaa2f6ad3b65f724ba34943cffc78eda8", checked := Try.checked }
namespace Rows
def none {H : Type} : Left H := { results := [], args := [] }

/-- 'laws.FnDifferPuts': WHATEVER THE INPUT: true; the input reads as it did. -/
def fnDifferPutsSpec : ChangeSpec := { name := "fnDifferPuts", fn := fun _ => fun
  | [d] => { results := [.lit (.bool true)], args := [d] }
  | _ => none }
def fnDifferPutsRow : OpenClaim := { program := "ythbegalohfbibaa", sum := "be35f73a6087b162e34aaab5ca65ea3eaa2f6ad3b65f724ba34943cffc78eda8", func := "loop.example/g00399/laws.FnDifferPuts", spec := "fnDifferPuts", unfollowed := true, recurses := true, apart := false }
def FnDifferPutsSaid : Prop := fnDifferPutsRow.holds Try.pinned (OpenSpec.ofChange fnDifferPutsSpec)

/-- ITS FALSE NEIGHBOUR: 'it returns false'. Refute it at one input. -/
def fnDifferPutsWrong : ChangeSpec := { name := "fnDifferPuts", fn := fun _ => fun
  | [d] => { results := [.lit (.bool false)], args := [d] }
  | _ => none }
def FnDifferPutsWrongFalsely : Prop := fnDifferPutsRow.holds Try.pinned (OpenSpec.ofChange fnDifferPutsWrong)

/-- 'laws.FnExactImageOk': WHATEVER THE INPUT: true; the input reads as it did. -/
def fnExactImageOkSpec : ChangeSpec := { name := "fnExactImageOk", fn := fun _ => fun
  | [d] => { results := [.lit (.bool true)], args := [d] }
  | _ => none }
def fnExactImageOkRow : OpenClaim := { program := "ythbegalohfbibaa", sum := "be35f73a6087b162e34aaab5ca65ea3eaa2f6ad3b65f724ba34943cffc78eda8", func := "loop.example/g00399/laws.FnExactImageOk", spec := "fnExactImageOk", unfollowed := true, recurses := true, apart := false }
def FnExactImageOkSaid : Prop := fnExactImageOkRow.holds Try.pinned (OpenSpec.ofChange fnExactImageOkSpec)

/-- ITS FALSE NEIGHBOUR: 'it returns false'. Refute it at one input. -/
def fnExactImageOkWrong : ChangeSpec := { name := "fnExactImageOk", fn := fun _ => fun
  | [d] => { results := [.lit (.bool false)], args := [d] }
  | _ => none }
def FnExactImageOkWrongFalsely : Prop := fnExactImageOkRow.holds Try.pinned (OpenSpec.ofChange fnExactImageOkWrong)

/-- 'laws.FnExactImageNew': WHATEVER THE INPUT: true; the input reads as it did. -/
def fnExactImageNewSpec : ChangeSpec := { name := "fnExactImageNew", fn := fun _ => fun
  | [] => { results := [.lit (.bool true)], args := [] }
  | _ => none }
def fnExactImageNewRow : OpenClaim := { program := "ythbegalohfbibaa", sum := "be35f73a6087b162e34aaab5ca65ea3eaa2f6ad3b65f724ba34943cffc78eda8", func := "loop.example/g00399/laws.FnExactImageNew", spec := "fnExactImageNew", apart := false }
def FnExactImageNewSaid : Prop := fnExactImageNewRow.holds Try.pinned (OpenSpec.ofChange fnExactImageNewSpec)

/-- ITS FALSE NEIGHBOUR: 'it returns false'. Refute it at one input. -/
def fnExactImageNewWrong : ChangeSpec := { name := "fnExactImageNew", fn := fun _ => fun
  | [] => { results := [.lit (.bool false)], args := [] }
  | _ => none }
def FnExactImageNewWrongFalsely : Prop := fnExactImageNewRow.holds Try.pinned (OpenSpec.ofChange fnExactImageNewWrong)

/-- 'laws.FnExactPut': WHATEVER THE INPUT: true; the input reads as it did. -/
def fnExactPutSpec : ChangeSpec := { name := "fnExactPut", fn := fun _ => fun
  | [d1, d2, d3] => { results := [.lit (.bool true)], args := [d1, d2, d3] }
  | _ => none }
def fnExactPutRow : OpenClaim := { program := "ythbegalohfbibaa", sum := "be35f73a6087b162e34aaab5ca65ea3eaa2f6ad3b65f724ba34943cffc78eda8", func := "loop.example/g00399/laws.FnExactPut", spec := "fnExactPut", apart := false }
def FnExactPutSaid : Prop := fnExactPutRow.holds Try.pinned (OpenSpec.ofChange fnExactPutSpec)

/-- ITS FALSE NEIGHBOUR: 'it returns false'. Refute it at one input. -/
def fnExactPutWrong : ChangeSpec := { name := "fnExactPut", fn := fun _ => fun
  | [d1, d2, d3] => { results := [.lit (.bool false)], args := [d1, d2, d3] }
  | _ => none }
def FnExactPutWrongFalsely : Prop := fnExactPutRow.holds Try.pinned (OpenSpec.ofChange fnExactPutWrong)

/- THE SECOND FORM. 'bulk': how many values and letters a reading holds, each counted each time it is reached (what is shared counts as often as it is met; a slice's spare places count too). A statement '..UptoSaid' is the law's where the arguments, and the package variables that the reading takes, are together of bulk at most 1048576: NARROWER than '..Said'. Prove '..Said' where nothing that the law and all that it calls make is longer than what came in: it says more and counts as full. Else prove '..UptoSaid'. A law counts once. -/
mutual
def uptoBulk {H : Type} : DataW H → Nat
  | .lit (.string bytes) => bytes.length + 1
  | .lit _ => 1
  | .nil => 1
  | .ptr d => uptoBulk d + 1
  | .slice elems spare => uptoBulkAll elems + uptoBulkAll spare + 1
  | .agg parts => uptoBulkAll parts + 1
  | .iface _ d => uptoBulk d + 1
  | .map entries => uptoBulkEntries entries + 1
  | .held _ => 1
def uptoBulkAll {H : Type} : List (DataW H) → Nat
  | [] => 0
  | d :: r => uptoBulk d + uptoBulkAll r
def uptoBulkEntries {H : Type} : List (Lit × DataW H) → Nat
  | [] => 0
  | x :: r => uptoBulkEntry x + uptoBulkEntries r
def uptoBulkEntry {H : Type} : Lit × DataW H → Nat
  | (.string bytes, d) => bytes.length + uptoBulk d + 1
  | (_, d) => uptoBulk d + 1
 end
def uptoSmall : (H : Type) → List (DataW H) → Bool := fun _ ds => decide (uptoBulkAll ds ≤ 1048576)
def OpenSpec.upto (s : _root_.Go.ChangeSpec) : _root_.Go.OpenSpec := { _root_.Go.OpenSpec.ofChange s with cond := some uptoSmall }

/-- 'laws.FnDifferPuts', WHERE WHAT IT READS IS OF BULK AT MOST 1048576: true; the input reads as it did. -/
def fnDifferPutsUptoRow : OpenClaim := { program := "ythbegalohfbibaa", sum := "be35f73a6087b162e34aaab5ca65ea3eaa2f6ad3b65f724ba34943cffc78eda8", func := "loop.example/g00399/laws.FnDifferPuts", spec := "fnDifferPuts", unfollowed := true, recurses := true, apart := false, narrowed := true }
def FnDifferPutsUptoSaid : Prop := fnDifferPutsUptoRow.holds Try.pinned (OpenSpec.upto fnDifferPutsSpec)

/-- 'laws.FnExactImageOk', WHERE WHAT IT READS IS OF BULK AT MOST 1048576: true; the input reads as it did. -/
def fnExactImageOkUptoRow : OpenClaim := { program := "ythbegalohfbibaa", sum := "be35f73a6087b162e34aaab5ca65ea3eaa2f6ad3b65f724ba34943cffc78eda8", func := "loop.example/g00399/laws.FnExactImageOk", spec := "fnExactImageOk", unfollowed := true, recurses := true, apart := false, narrowed := true }
def FnExactImageOkUptoSaid : Prop := fnExactImageOkUptoRow.holds Try.pinned (OpenSpec.upto fnExactImageOkSpec)

/-- 'laws.FnExactImageNew', WHERE WHAT IT READS IS OF BULK AT MOST 1048576: true; the input reads as it did. -/
def fnExactImageNewUptoRow : OpenClaim := { program := "ythbegalohfbibaa", sum := "be35f73a6087b162e34aaab5ca65ea3eaa2f6ad3b65f724ba34943cffc78eda8", func := "loop.example/g00399/laws.FnExactImageNew", spec := "fnExactImageNew", apart := false, narrowed := true }
def FnExactImageNewUptoSaid : Prop := fnExactImageNewUptoRow.holds Try.pinned (OpenSpec.upto fnExactImageNewSpec)

/-- 'laws.FnExactPut', WHERE WHAT IT READS IS OF BULK AT MOST 1048576: true; the input reads as it did. -/
def fnExactPutUptoRow : OpenClaim := { program := "ythbegalohfbibaa", sum := "be35f73a6087b162e34aaab5ca65ea3eaa2f6ad3b65f724ba34943cffc78eda8", func := "loop.example/g00399/laws.FnExactPut", spec := "fnExactPut", apart := false, narrowed := true }
def FnExactPutUptoSaid : Prop := fnExactPutUptoRow.holds Try.pinned (OpenSpec.upto fnExactPutSpec)

end Rows
end Go.Proofs.Ythbegalohfbibaa

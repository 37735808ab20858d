/- append of one int to a row of the call's own. -/
import Derived.Test.YtkndnndildnbpaaGreatDoorGa
import Derived.Test.YtkndnndildnbpaaGreatDoorGb
import Derived.Lib.AppendZeros
import Derived.Shelf.Spec.SlicesInsertGrow

namespace Go.Proofs.YtkndnndildnbpaaGreatDoor
open Go.ChangeShapes Go.WideShapes Go.ChangeAt Go.RowKit
set_option linter.unusedVariables false
set_option linter.unusedSimpArgs false
set_option maxRecDepth 100000

theorem grown_below {B : Nat} {w wr w0 w1 : World} {v : Value} {k : Nat} {e : TypeId} {xs : List Value} (hb : Below B w w0) (hw : B ≤ w0.heap.size) (ho : wr.ownsRow B e 1 v k xs) (hg : w0.grownBy w1 v.ownBlock) : Below B w w1 := by
  refine hb.grown hg hw ?_
  intro g hgv
  rcases ho.2 with ⟨rfl, _⟩ | ⟨g', cap, cur, rfl, hge, _⟩
  · simp [Value.ownBlock] at hgv
  · simp [Value.ownBlock] at hgv; omega

/-- Behind 'append(out, x)'. -/
theorem push {B : Nat} {w wr w1 : World} {v v' : Value} {k : Nat} {x : Int} {L : List Int} (hb : Below B w wr) (hw : B ≤ wr.heap.size) (ho : wr.ownsRow B 3 1 v k (L.map (.int .i64)))
    (h1 : w1.ownsRow B 3 1 v' (k + 1) (L.map (.int .i64) ++ [.int .i64 x])) (hg : (wr.alloc (.cells #[.int .i64 x] 3)).grownBy w1 v.ownBlock) :
    w1.ownsRow B 3 1 v' (k + 1) ((L ++ [x]).map (.int .i64)) ∧ Below B w w1 :=
  ⟨by simpa using h1, grown_below (hb.alloc hw _) (by simp; omega) ho hg⟩

end Go.Proofs.YtkndnndildnbpaaGreatDoor

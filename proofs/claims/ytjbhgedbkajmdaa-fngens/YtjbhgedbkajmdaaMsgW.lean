/- A message in a block. -/
import Derived.Test.YtjbhgedbkajmdaaMsgL
namespace Go.Proofs.Ytjbhgedbkajmdaa
open Go.ChangeShapes Go.WideShapes Go.ChangeAt Go.RowKit
set_option linter.unusedVariables false
set_option linter.unusedSimpArgs false

/-- Block g holds a message. -/
def MB (w : World) (g : Nat) (t : TypeId) (k c v d : Int) (ao : Option Addr) (n cap : Nat) : Prop :=
  w.heap[g]? = some (.cells #[.int .i64 k, .int .i64 c, .int .i64 v, .int .i64 d, .slice ao n cap] t (0, 0))
theorem MB.lt {w : World} {g : Nat} {t : TypeId} {k c v d : Int} {ao : Option Addr} {n cap : Nat} (h : MB w g t k c v d ao n cap) : g < w.heap.size := (Array.getElem?_eq_some_iff.1 h).1
theorem MB.new (w : World) (t : TypeId) (k c v d : Int) (ao : Option Addr) (n cap : Nat) : MB (w.alloc (.cells #[.int .i64 k, .int .i64 c, .int .i64 v, .int .i64 d, .slice ao n cap] t)) w.heap.size t k c v d ao n cap := Deep.blk_alloc_new _ _
theorem MB.below {w w' : World} {g B : Nat} {t : TypeId} {k c v d : Int} {ao : Option Addr} {n cap : Nat} (h : MB w g t k c v d ao n cap) (hb : Below B w w') (hg : g < B) : MB w' g t k c v d ao n cap := (hb.block g hg).trans h
theorem MB.cells {w : World} {g : Nat} {t : TypeId} {k c v d : Int} {ao : Option Addr} {n cap : Nat} (h : MB w g t k c v d ao n cap) :
    w.cell? ⟨g, 0, none⟩ = some (.int .i64 k) ∧ w.cell? ⟨g, 1, none⟩ = some (.int .i64 c) ∧ w.cell? ⟨g, 2, none⟩ = some (.int .i64 v) ∧ w.cell? ⟨g, 3, none⟩ = some (.int .i64 d) ∧ w.cell? ⟨g, 4, none⟩ = some (.slice ao n cap) :=
  ⟨blk_cell h rfl, blk_cell h rfl, blk_cell h rfl, blk_cell h rfl, blk_cell h rfl⟩
end Go.Proofs.Ytjbhgedbkajmdaa

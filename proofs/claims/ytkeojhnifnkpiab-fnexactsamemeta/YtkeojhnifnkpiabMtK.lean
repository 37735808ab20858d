/- A block that holds what is known. -/
import Derived.Test.YtkeojhnifnkpiabMtW3
import Derived.Test.YtkeojhnifnkpiabMtW4
namespace Go.Proofs.Ytkeojhnifnkpiab
open Go.ChangeShapes Go.WideShapes Go.ChangeAt Go.RowKit
set_option linter.unusedVariables false
set_option linter.unusedSimpArgs false

def KB (w : World) (b : Nat) (t : TypeId) (go : Option Addr) (gl gc : Nat) (bo : Option Addr) (n bc : Nat) (fi ol he : Bool) (la : Int) : Prop :=
  w.heap[b]? = some (.cells #[.slice go gl gc, .slice bo n bc, .bool fi, .bool ol, .bool he, .int .i64 la] t (0, 0))
theorem KB.lt {w : World} {b : Nat} {t : TypeId} {go : Option Addr} {gl gc : Nat} {bo : Option Addr} {n bc : Nat} {fi ol he : Bool} {la : Int} (h : KB w b t go gl gc bo n bc fi ol he la) : b < w.heap.size := (Array.getElem?_eq_some_iff.1 h).1
theorem KB.new (w : World) (t : TypeId) (go : Option Addr) (gl gc : Nat) (bo : Option Addr) (n bc : Nat) (fi ol he : Bool) (la : Int) : KB (w.alloc (.cells #[.slice go gl gc, .slice bo n bc, .bool fi, .bool ol, .bool he, .int .i64 la] t)) w.heap.size t go gl gc bo n bc fi ol he la := Deep.blk_alloc_new _ _
theorem KB.below {w w' : World} {b X : Nat} {t : TypeId} {go : Option Addr} {gl gc : Nat} {bo : Option Addr} {n bc : Nat} {fi ol he : Bool} {la : Int} (h : KB w b t go gl gc bo n bc fi ol he la) (hb : Below X w w') (hg : b < X) : KB w' b t go gl gc bo n bc fi ol he la := (hb.block b hg).trans h
theorem KB.b {w w' : World} {b : Nat} {t : TypeId} {go : Option Addr} {gl gc : Nat} {bo : Option Addr} {n bc : Nat} {fi ol he : Bool} {la : Int} (h : KB w b t go gl gc bo n bc fi ol he la) (hb : Below w.heap.size w w') : KB w' b t go gl gc bo n bc fi ol he la := (hb.block b h.lt).trans h
theorem KB.cells {w : World} {b : Nat} {t : TypeId} {go : Option Addr} {gl gc : Nat} {bo : Option Addr} {n bc : Nat} {fi ol he : Bool} {la : Int} (h : KB w b t go gl gc bo n bc fi ol he la) :
    w.cell? ⟨b, 0, none⟩ = some (.slice go gl gc) ∧ w.cell? ⟨b, 1, none⟩ = some (.slice bo n bc) ∧ w.cell? ⟨b, 2, none⟩ = some (.bool fi) ∧ w.cell? ⟨b, 3, none⟩ = some (.bool ol) ∧ w.cell? ⟨b, 4, none⟩ = some (.bool he) ∧ w.cell? ⟨b, 5, none⟩ = some (.int .i64 la) :=
  ⟨mblk h rfl, mblk h rfl, mblk h rfl, mblk h rfl, mblk h rfl, mblk h rfl⟩
theorem KB.froz {w : World} {b : Nat} {t : TypeId} {go : Option Addr} {gl gc : Nat} {bo : Option Addr} {n bc : Nat} {fi ol he : Bool} {la : Int} (h : KB w b t go gl gc bo n bc fi ol he la) : ∀ i, w.frozen? ⟨b, i, none⟩ = false := fun i => by
  unfold KB at h; simp [World.frozen?, h]
/-- What the laws take is not too long. -/
theorem bd_of {g : List Int} {n : Nat} {L : Nat → List Int} (h : (g.length : Int) + ((n : Int) + (psum L n : Int)) ≤ 1048576) : Bd g n L := by
  refine ⟨by omega, by omega, fun i hi => ?_⟩
  have := psum_one L i n hi
  omega
theorem bal1 (w : World) (o : Obj) : Below w.heap.size w (w.alloc o) := (Below.refl _ _).alloc (Nat.le_refl _) _
theorem alsz (w : World) (o : Obj) : (w.alloc o).heap.size = w.heap.size + 1 := by simp
end Go.Proofs.Ytkeojhnifnkpiab

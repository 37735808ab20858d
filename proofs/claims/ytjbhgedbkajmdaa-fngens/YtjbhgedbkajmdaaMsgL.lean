/- Messages as the laws hand them on: szMsg, toMsg, eqMsg, markMsg, heldMsg. -/
import Derived.Test.YtjbhgedbkajmdaaIntM
import Derived.Test.YtjbhgedbkajmdaaMarkM
import Derived.Test.YtjbhgedbkajmdaaBodS
namespace Go.Proofs.Ytjbhgedbkajmdaa
open Go.ChangeShapes Go.WideShapes Go.ChangeAt Go.RowKit
set_option linter.unusedVariables false
set_option linter.unusedSimpArgs false

theorem row_set {w : World} {g n : Nat} {t : TypeId} {F : Nat → Value} (h : w.rowIs g t n F) (p : Addr) (hp : p.block ≠ g) (v : Value) : (w.setCell p v).rowIs g t n F :=
  h.of_block (by simp only [World.setCell, Array.getElem?_modify]; rw [if_neg hp])

/-- Of what was there block g alone was written. -/
def OnlyG (g : Nat) (w w' : World) : Prop := Below g w w' ∧ ∀ j, j < w.heap.size → j ≠ g → w'.heap[j]? = w.heap[j]?
theorem OnlyG.own {g n B : Nat} {w w' : World} {t : TypeId} {ao : Option Addr} {F : Nat → Value} (h : OnlyG g w w') (r : Own w B t ao n F) (hB : g < B) : Own w' B t ao n F := by
  rcases r with r | ⟨g', ea, hB', c, hc, hs, hF⟩
  · exact .inl r
  · exact .inr ⟨g', ea, hB', c, (h.2 g' (Array.getElem?_eq_some_iff.1 hc).1 (by omega)).trans hc, hs, hF⟩
theorem OnlyG.own' {g n B : Nat} {w w' : World} {t : TypeId} {ao : Option Addr} {F : Nat → Value} (h : OnlyG g w w') (r : Own w B t ao n F) (hB : ∀ g', ao = some ⟨g', 0, none⟩ → g' ≠ g) : Own w' B t ao n F := by
  rcases r with r | ⟨g', ea, hB', c, hc, hs, hF⟩
  · exact .inl r
  · exact .inr ⟨g', ea, hB', c, (h.2 g' (Array.getElem?_eq_some_iff.1 hc).1 (hB g' ea)).trans hc, hs, hF⟩

end Go.Proofs.Ytjbhgedbkajmdaa

/- Bytes in memory of their own, between two marks of the heap. -/
import Derived.Test.YtkndnndildnbpaaGreatDoorGd
import Derived.Test.YtkndnndildnbpaaGreatDoorBytZ

namespace Go.Proofs.YtkndnndildnbpaaGreatDoor
open Go.ChangeShapes Go.WideShapes Go.ChangeAt Go.RowKit
set_option linter.unusedVariables false
set_option linter.unusedSimpArgs false

def Rb (w : World) (B T : Nat) (ao : Option Addr) (n : Nat) (F : Nat → Value) : Prop :=
  n = 0 ∨ ∃ g, ao = some ⟨g, 0, none⟩ ∧ (B ≤ g ∧ g < T) ∧ ∃ c : Array Value, w.heap[g]? = some (.cells c 5 (0, 0)) ∧ n ≤ c.size ∧ ∀ i, i < n → c[i]? = some (F i)
theorem Rb.of {w : World} {B : Nat} {ao : Option Addr} {n : Nat} {F : Nat → Value} (h : Own w B 5 ao n F) : Rb w B w.heap.size ao n F := by
  rcases h with h | ⟨g, e, hB, c, hc, r⟩
  · exact .inl h
  · exact .inr ⟨g, e, ⟨hB, (Array.getElem?_eq_some_iff.1 hc).1⟩, c, hc, r⟩
theorem Rb.own {w : World} {B T : Nat} {ao : Option Addr} {n : Nat} {F : Nat → Value} (h : Rb w B T ao n F) : Own w B 5 ao n F := by
  rcases h with h | ⟨g, e, hB, c, r⟩
  · exact .inl h
  · exact .inr ⟨g, e, hB.1, c, r⟩
theorem Rb.kept {w w' : World} {B T : Nat} {ao : Option Addr} {n : Nat} {F : Nat → Value} (h : Rb w B T ao n F) (hk : ∀ j, B ≤ j → j < T → w'.heap[j]? = w.heap[j]?) : Rb w' B T ao n F := by
  rcases h with h | ⟨g, e, hB, c, hc, r⟩
  · exact .inl h
  · exact .inr ⟨g, e, hB, c, (hk g hB.1 hB.2).trans hc, r⟩
theorem Rb.below {w w' : World} {B T X : Nat} {ao : Option Addr} {n : Nat} {F : Nat → Value} (h : Rb w B T ao n F) (hb : Below X w w') (hT : T ≤ X) : Rb w' B T ao n F := h.kept fun j _ hj => hb.block j (by omega)
end Go.Proofs.YtkndnndildnbpaaGreatDoor

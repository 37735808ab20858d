/- Memory of a call's own, between two marks of the heap. -/
import Derived.Test.YtkeojhnifnkpiaaMsL4Z

namespace Go.Proofs.Ytkeojhnifnkpiaa
open Go.ChangeShapes Go.WideShapes Go.ChangeAt Go.RowKit
set_option linter.unusedVariables false
set_option linter.unusedSimpArgs false

def OwnT (w : World) (B T : Nat) (t : TypeId) (ao : Option Addr) (n : Nat) (F : Nat → Value) : Prop :=
  n = 0 ∨ ∃ g, ao = some ⟨g, 0, none⟩ ∧ (B ≤ g ∧ g < T) ∧ ∃ c : Array Value, w.heap[g]? = some (.cells c t (0, 0)) ∧ n ≤ c.size ∧ ∀ i, i < n → c[i]? = some (F i)
theorem OwnT.of {w : World} {B : Nat} {t : TypeId} {ao : Option Addr} {n : Nat} {F : Nat → Value} (h : Own w B t ao n F) : OwnT w B w.heap.size t ao n F := by
  rcases h with h | ⟨g, e, hB, c, hc, r⟩
  · exact .inl h
  · exact .inr ⟨g, e, ⟨hB, (Array.getElem?_eq_some_iff.1 hc).1⟩, c, hc, r⟩
theorem OwnT.own {w : World} {B T : Nat} {t : TypeId} {ao : Option Addr} {n : Nat} {F : Nat → Value} (h : OwnT w B T t ao n F) : Own w B t ao n F := by
  rcases h with h | ⟨g, e, hB, c, r⟩
  · exact .inl h
  · exact .inr ⟨g, e, hB.1, c, r⟩
theorem OwnT.kept {w w' : World} {B T : Nat} {t : TypeId} {ao : Option Addr} {n : Nat} {F : Nat → Value} (h : OwnT w B T t ao n F) (hk : ∀ j, B ≤ j → j < T → w'.heap[j]? = w.heap[j]?) : OwnT w' B T t ao n F := by
  rcases h with h | ⟨g, e, hB, c, hc, r⟩
  · exact .inl h
  · exact .inr ⟨g, e, hB, c, (hk g hB.1 hB.2).trans hc, r⟩
theorem OwnT.below {w w' : World} {B T X : Nat} {t : TypeId} {ao : Option Addr} {n : Nat} {F : Nat → Value} (h : OwnT w B T t ao n F) (hb : Below X w w') (hT : T ≤ X) : OwnT w' B T t ao n F :=
  h.kept fun j _ hj => hb.block j (by omega)
theorem OwnT.only {w w' : World} {B T B' T' : Nat} {t : TypeId} {ao : Option Addr} {n : Nat} {F : Nat → Value} (h : OwnT w B T t ao n F) (ho : OnlyBT B' T' w w') (hd : T ≤ B' ∨ T' ≤ B) : OwnT w' B T t ao n F :=
  h.kept fun j h1 h2 => ho.2.2 j (by omega)
/-- What was written anew within. -/
theorem OwnT.again {w w' : World} {B T : Nat} {t : TypeId} {ao : Option Addr} {n : Nat} {F G : Nat → Value} (h : OwnT w B T t ao n F) (ho : Own w' B t ao n G) : OwnT w' B T t ao n G := by
  rcases h with h | ⟨g, e, hB, c, hc, r⟩
  · exact .inl h
  · rcases ho with h | ⟨g', e', hB', c', r'⟩
    · exact .inl h
    · rw [e] at e'
      cases e'
      exact .inr ⟨g, e, hB, c', r'⟩
theorem OM.below' {w w' : World} {B T X g n : Nat} {M : Nat → Mg} {c : Array Value} {R : Nat → Option Addr × Nat} (h : OM w B T g n M c R) (hb : Below X w w') (hT : T ≤ X) : OM w' B T g n M c R :=
  h.kept (fun j _ hj => hb.block j (by omega)) hb.size
end Go.Proofs.Ytkeojhnifnkpiaa

/- l6Copy of the model. -/
import Derived.Test.YtabknfmhhjelaaaGreatDoorGl
import Derived.Deep.RegionHeld3
import Derived.Deep.AppendLies

namespace Go.Proofs.YtabknfmhhjelaaaGreatDoor
open Go.ChangeShapes Go.WideShapes Go.ChangeAt Go.RowKit
set_option linter.unusedVariables false
set_option linter.unusedSimpArgs false
set_option maxRecDepth 100000

/-- A row that append has laid: in its own block, or a new one. -/
def Laid (w w' : World) (b : Nat) (ao : Option Addr) (L : List Int) : Prop :=
  L.length = 0 ∨ ∃ g, ao = some ⟨g, 0, none⟩ ∧ (g = b ∨ g = w.heap.size) ∧ g < w'.heap.size ∧ ∃ cs : Array Value, w'.heap[g]? = some (.cells cs 5 (0, 0)) ∧ L.length ≤ cs.size ∧ ∀ i, i < L.length → cs[i]? = some (bv L i)
theorem Laid.lt {w w' : World} {b : Nat} {ao : Option Addr} {L : List Int} (h : Laid w w' b ao L) : ∀ g, ao = some ⟨g, 0, none⟩ → 0 < L.length → g < w'.heap.size ∧ (g = b ∨ g = w.heap.size) := by
  intro g e hp
  rcases h with h | ⟨g', e', hg1, hlt, _⟩
  · omega
  · rw [e'] at e
    cases e
    exact ⟨hlt, hg1⟩
theorem CpK.grown {w W5 w7 : World} {aA aB : Option Addr} {cA cB b2 : Nat} {A C : List Int} (hk : CpK w W5 aA aB cA cB A C) (hg : W5.grownBy w7 (some b2)) (hb2 : w.heap.size + 1 + 1 ≤ b2) : CpK w w7 aA aB cA cB A C :=
  ⟨hk.1.grown hg hk.1.size (fun k e => by cases e; omega), (hg.block _ hk.2.1.lt (by simp; omega)).trans hk.2.1, (hg.block _ hk.2.2.1.lt (by simp; omega)).trans hk.2.2.1, Nat.le_trans hk.2.2.2 hg.size⟩
theorem Laid.b {w w' w'' : World} {b : Nat} {ao : Option Addr} {L : List Int} (h : Laid w w' b ao L) (hb : Below w'.heap.size w' w'') : Laid w w'' b ao L := by
  rcases h with h | ⟨g, e, hg1, hlt, cs, hc, r⟩
  · exact .inl h
  · exact .inr ⟨g, e, hg1, Nat.lt_of_lt_of_le hlt hb.size, cs, (hb.block g hlt).trans hc, r⟩

end Go.Proofs.YtabknfmhhjelaaaGreatDoor

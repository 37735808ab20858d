/- What is known of others: how it lies in memory, and what is one. -/
import Derived.Test.YtkeojhnifnkpiabMkOk
import Derived.Test.YtkeojhnifnkpiabMokI3
namespace Go.Proofs.Ytkeojhnifnkpiab
open Go.ChangeShapes Go.WideShapes Go.ChangeAt Go.RowKit
set_option linter.unusedVariables false
set_option linter.unusedSimpArgs false

theorem mblk {w : World} {g i : Nat} {cs : Array Value} {t : TypeId} {fr : Nat × Nat} {v : Value} (h : w.heap[g]? = some (.cells cs t fr)) (hv : cs[i]? = some v) : w.cell? ⟨g, i, none⟩ = some v := by
  simp [World.cell?, h, hv]
/-- The first n of a slice of slices of numbers. -/
def BV (w : World) (bo : Option Addr) (n : Nat) (L : Nat → List Int) : Prop :=
  ∀ i, i < n → ∃ b off ro rc, bo = some ⟨b, off, none⟩ ∧ w.cell? ⟨b, off + i, none⟩ = some (.slice ro (L i).length rc) ∧ (L i).length ≤ rc ∧ SL .i64 w ro (L i).length (fun j => (L i).getD j 0)
theorem BV.below {w w' : World} {bo : Option Addr} {n : Nat} {L : Nat → List Int} (h : BV w bo n L) (hb : Below w.heap.size w w') : BV w' bo n L := fun i hi => by
  obtain ⟨b, off, ro, rc, e, hc, hr, hs⟩ := h i hi
  exact ⟨b, off, ro, rc, e, (hb.cell (lt_of_cell hc)).trans hc, hr, hs.below hb⟩
/-- Generations and marks. -/
def MV (w : World) (go : Option Addr) (gc : Nat) (bo : Option Addr) (bc : Nat) (g : List Int) (n : Nat) (L : Nat → List Int) : Prop :=
  (g.length ≤ gc ∧ n ≤ bc) ∧ SL .i64 w go g.length (fun i => g.getD i 0) ∧ BV w bo n L
theorem MV.below {w w' : World} {go bo : Option Addr} {gc bc n : Nat} {g : List Int} {L : Nat → List Int} (h : MV w go gc bo bc g n L) (hb : Below w.heap.size w w') : MV w' go gc bo bc g n L :=
  ⟨h.1, h.2.1.below hb, h.2.2.below hb⟩
/-- Nothing of it is too long. -/
def Bd (g : List Int) (n : Nat) (L : Nat → List Int) : Prop := g.length ≤ 1048576 ∧ n ≤ 1048576 ∧ ∀ i, i < n → (L i).length ≤ 1048576
/-- What is one. -/
def MtOk (g : List Int) (n : Nat) (L : Nat → List Int) (ol he : Bool) (la : Int) : Prop :=
  (GOk (fun i => g.getD i 0) g.length ∧ 0 < g.length) ∧ (n = 3 ∧ ∀ i, i < n → KOk (L i)) ∧ (0 ≤ la ∧ la ≤ 200) ∧ ¬ (ol = true ∧ he = true)
end Go.Proofs.Ytkeojhnifnkpiab

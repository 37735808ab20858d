/- What is known, marked, and found so. -/
import Derived.Test.YtkeojhnifnkpiabMtW2
namespace Go.Proofs.Ytkeojhnifnkpiab
open Go.ChangeShapes Go.WideShapes Go.ChangeAt Go.RowKit
set_option linter.unusedVariables false
set_option linter.unusedSimpArgs false
set_option maxRecDepth 100000

/-- A row marked: what else there is stays as it was. -/
def Mkd (w w' : World) (B T n : Nat) (ao : Option Addr) (k : Int) : Prop :=
  (n = 0 ∧ w' = w) ∨ ∃ γ, ao = some ⟨γ, 0, none⟩ ∧ 0 < n ∧ Only γ w w' ∧ Rt w' B T ao n (fun t => .int .i64 (k + t))
/-- Of what there was, blocks from B on below T alone were written. -/
def OnB (B T : Nat) (w w' : World) : Prop := Below B w w' ∧ ∀ j, j < w.heap.size → T ≤ j → w'.heap[j]? = w.heap[j]?
theorem OnB.refl (B T : Nat) (w : World) : OnB B T w w := ⟨Below.refl _ _, fun _ _ _ => rfl⟩
theorem OnB.trans {B T : Nat} {w w1 w2 : World} (h : OnB B T w w1) (h' : OnB B T w1 w2) : OnB B T w w2 :=
  ⟨h.1.trans h'.1, fun j h1 h2 => (h'.2 j (Nat.lt_of_lt_of_le h1 h.1.size) h2).trans (h.2 j h1 h2)⟩
theorem OnB.of_below {B T : Nat} {w w1 : World} (h : Below w.heap.size w w1) (hB : B ≤ w.heap.size) : OnB B T w w1 := ⟨h.mono hB, fun j h1 _ => h.block j h1⟩
theorem OnB.only {B T γ : Nat} {w w1 : World} (h : Only γ w w1) (hγ : B ≤ γ ∧ γ < T) : OnB B T w w1 := ⟨h.1.mono hγ.1, fun j _ h2 => h.2.2 j (by omega)⟩
theorem Mkd.onb {w w' : World} {B T n : Nat} {ao : Option Addr} {k : Int} (h : Mkd w w' B T n ao k) : OnB B T w w' := by
  rcases h with ⟨_, rfl⟩ | ⟨γ, e, hp, ho, hr⟩
  · exact OnB.refl _ _ _
  · obtain ⟨γ', e', hg⟩ := hr.at hp
    rw [e] at e'
    cases e'
    exact OnB.only ho hg
theorem OR.mkd {w w' : World} {B T n j : Nat} {k : Int} {L : Nat → List Int} {R : Nat → Option Addr × Nat} (h : OR w B T n L R) (hj : j < n) (hw : Mkd w w' B T (L j).length (R j).1 k) : OR w' B T n (fun i => if i = j then mkl k (L j).length else L i) R := h.mark hj hw
theorem SR.mkd {w w' : World} {B T B' T' n m : Nat} {bo ao : Option Addr} {k : Int} {L : Nat → List Int} {R : Nat → Option Addr × Nat} {F : Nat → Value} (h : SR w B T bo n L R) (hr : Rt w B' T' ao m F) (hw : Mkd w w' B' T' m ao k) : SR w' B T bo n L R := by
  rcases hw with ⟨_, rfl⟩ | ⟨γ, e, hp, ho, _⟩
  · exact h
  · rcases hr with hr | ⟨g, e', _, c, hc, _⟩
    · omega
    · rw [e] at e'
      cases e'
      exact h.only hc ho

/-- .. also what it was marked by. -/
def mgs (g : List Int) (k : Int) : List Int := mkl k g.length
def mbs (g : List Int) (L : Nat → List Int) (n : Nat) (k : Int) : Nat → List Int := mrk L (k + g.length) n

end Go.Proofs.Ytkeojhnifnkpiab

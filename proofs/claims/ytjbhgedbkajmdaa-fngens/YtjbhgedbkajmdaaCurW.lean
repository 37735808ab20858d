/- What is made beside a cursor. -/
import Derived.Test.YtjbhgedbkajmdaaDrawB
import Derived.Test.YtjbhgedbkajmdaaAppG
namespace Go.Proofs.Ytjbhgedbkajmdaa
open Go.ChangeShapes Go.WideShapes Go.ChangeAt Go.RowKit
set_option linter.unusedVariables false
set_option linter.unusedSimpArgs false
set_option maxRecDepth 100000

theorem cur_far {w : World} {R g j : Nat} (h : ¬ g = R) (v : Value) : (w.setCell ⟨R, j, none⟩ v).heap[g]? = w.heap[g]? := by
  simp only [World.setCell, Array.getElem?_modify]
  rw [if_neg (fun e => h e.symm)]
/-- From w on nothing but the cursor at g was written, and what is new. -/
def CurW (w wr : World) (g : Nat) (ao : Option Addr) (n cap : Nat) (f : Nat → Int) : Prop := Cur wr g ao n cap f ∧ w.grownBy wr (some g) ∧ g < w.heap.size
theorem CurW.refl {w : World} {g n cap : Nat} {ao : Option Addr} {f : Nat → Int} (h : Cur w g ao n cap f) : CurW w w g ao n cap f := ⟨h, ⟨rfl, rfl, rfl, Nat.le_refl _, fun _ _ _ => rfl⟩, h.lt⟩
theorem CurW.step {w wr w1 : World} {g n cap : Nat} {ao : Option Addr} {f : Nat → Int} (h : CurW w wr g ao n cap f) (hc : Cur w1 g ao n cap f) (hg : wr.grownBy w1 (some g)) : CurW w w1 g ao n cap f := ⟨hc, grown_trans h.2.1 hg, h.2.2⟩
theorem CurW.trans {w wr w1 : World} {g n cap : Nat} {ao : Option Addr} {f : Nat → Int} (h : CurW w wr g ao n cap f) (h' : CurW wr w1 g ao n cap f) : CurW w w1 g ao n cap f := h.step h'.1 h'.2.1
theorem CurW.alloc {w wr : World} {g n cap : Nat} {ao : Option Addr} {f : Nat → Int} (h : CurW w wr g ao n cap f) (o : Obj) : CurW w (wr.alloc o) g ao n cap f := h.step (h.1.alloc o) (grown_alloc _ _ _)
theorem grown_of_below {w w' : World} (h : Below w.heap.size w w') (row : Option Nat) : w.grownBy w' row := ⟨h.os, h.tape, h.output, h.size, fun k hk _ => h.block k hk⟩
theorem CurW.below {w wr w1 : World} {g n cap : Nat} {ao : Option Addr} {f : Nat → Int} (h : CurW w wr g ao n cap f) (hb : Below wr.heap.size wr w1) : CurW w w1 g ao n cap f :=
  h.step (h.1.grown (grown_of_below hb none) (fun k hk => by cases hk)) (grown_of_below hb _)
theorem CurW.app {w wr w1 : World} {g n cap : Nat} {ao : Option Addr} {f : Nat → Int} {row : Option Nat} (h : CurW w wr g ao n cap f) (hg : wr.grownBy w1 row) (hr : ∀ k, row = some k → w.heap.size ≤ k) : CurW w w1 g ao n cap f :=
  ⟨h.1.grown hg (fun k hk => by have := hr k hk; have := h.2.2; omega), ⟨hg.os.trans h.2.1.os, hg.tape.trans h.2.1.tape, hg.output.trans h.2.1.output, Nat.le_trans h.2.1.size hg.size, fun i hi hn => (hg.block i (Nat.lt_of_lt_of_le hi h.2.1.size) (fun e => by have := hr i e.symm; omega)).trans (h.2.1.block i hi hn)⟩, h.2.2⟩
theorem CurW.set {w wr : World} {g n cap b i : Nat} {ao : Option Addr} {f : Nat → Int} {v : Value} (h : CurW w wr g ao n cap f) (hb : w.heap.size ≤ b) : CurW w (wr.setCell ⟨b, i, none⟩ v) g ao n cap f :=
  h.app (row := some b) ⟨rfl, rfl, rfl, by simp [World.setCell], fun k hk hne => cur_far (fun e => hne (by rw [e])) v⟩ (fun k hk => by cases hk; exact hb)
/-- Memory from B on stays where only the cursor below B and what is new is written. -/
theorem own_cur {w w1 : World} {B g : Nat} {t : TypeId} {ao : Option Addr} {l : Nat} {F : Nat → Value} (h : Own w B t ao l F) (hg : w.grownBy w1 (some g)) (hB : g < B) : Own w1 B t ao l F := by
  rcases h with h | ⟨b, e, hb, c, hc, r⟩
  · exact .inl h
  · exact .inr ⟨b, e, hb, c, (hg.block b (Array.getElem?_eq_some_iff.1 hc).1 (by simp; omega)).trans hc, r⟩
theorem owns_cur {w w' : World} {B g s : Nat} {t : TypeId} {v : Value} {n : Nat} {xs : List Value} (h : w.ownsRow B t s v n xs) (hg : w.grownBy w' (some g)) (hB : g < B) : w'.ownsRow B t s v n xs := by
  obtain ⟨h1, h2⟩ := h
  refine ⟨h1, ?_⟩
  rcases h2 with h2 | ⟨b, c, cur, e, hb, hh, r⟩
  · exact .inl h2
  · exact .inr ⟨b, c, cur, e, hb, (hg.block b (Array.getElem?_eq_some_iff.1 hh).1 (by simp; omega)).trans hh, r⟩

end Go.Proofs.Ytjbhgedbkajmdaa

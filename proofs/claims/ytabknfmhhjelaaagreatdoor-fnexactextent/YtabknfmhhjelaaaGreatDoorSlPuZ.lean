/- SlotPut of both. -/
import Derived.Test.YtabknfmhhjelaaaGreatDoorSlPcZ

namespace Go.Proofs.YtabknfmhhjelaaaGreatDoor
open Go.ChangeShapes Go.WideShapes Go.ChangeAt Go.RowKit
set_option linter.unusedVariables false
set_option linter.unusedSimpArgs false
set_option maxRecDepth 100000

/-- What a put hands back. -/
def PtOut (w w' : World) (A C : List Int) (e : Ending) : Prop := ∃ bA bB dA dB, e = .returned (.agg #[.slice bA A.length dA, .slice bB C.length dB]) ∧ OSl w' w.heap.size w'.heap.size bA dA bB dB A C ∧ Below w.heap.size w w' ∧ NC bA dA ∧ NC bB dB
theorem PtOut.congr {w w' : World} {A C A' C' : List Int} {e : Ending} (h : PtOut w w' A C e) (eA : A = A') (eC : C = C') : PtOut w w' A' C' e := by rw [← eA, ← eC]; exact h
/-- What is told of a slot, in one form. -/
theorem SlOut.tell {w w' : World} {D : List Int} {e : Ending} (h : SlOut w w' D e) : ∃ (a1 a2 : Option Addr) (l1 k1 l2 k2 : Nat) (b1 b2 b3 b4 : Bool) (x : Int), e = .returned (.tuple #[.agg #[.slice a1 l1 k1, .slice a2 l2 k2, .bool b1, .bool b2, .bool b3, .int .i64 x], .int .i64 ((sqv Classical.propDecidable) D), .bool b4]) ∧ Below w.heap.size w w' := by
  obtain ⟨h1, hb⟩ := h
  rcases h1 with ⟨g, L, fi, ol, he, la, q, go, bo, gc, bc, hM, rfl, _⟩ | ⟨hno, rfl⟩
  · exact ⟨_, _, _, _, _, _, _, _, _, _, _, by rw [sqv_is hM], hb⟩
  · exact ⟨_, _, _, _, _, _, _, _, _, _, _, by rw [sqv_no hno], hb⟩
/-- The blocks of a put: the slots, what is known, the answer. -/
def PuK (w W : World) (aA aB : Option Addr) (cA cB : Nat) (A C : List Int) (go : Option Addr) (gc : Nat) (bo : Option Addr) (bc : Nat) (g : List Int) (n : Nat) (L : Nat → List Int) (fi ol he : Bool) (la : Int) : Prop :=
  Below w.heap.size w W ∧ SB W w.heap.size 35 aA A.length cA aB C.length cB ∧ KB (W) (w.heap.size + 1) 34 go g.length gc bo n bc fi ol he la ∧ SB W (w.heap.size + 1 + 1) 35 none 0 0 none 0 0 ∧ w.heap.size + 1 + 1 + 1 ≤ W.heap.size
theorem PuK.b {w W W' : World} {aA aB : Option Addr} {cA cB : Nat} {A C : List Int} {go : Option Addr} {gc : Nat} {bo : Option Addr} {bc : Nat} {g : List Int} {n : Nat} {L : Nat → List Int} {fi ol he : Bool} {la : Int} (h : PuK w W aA aB cA cB A C go gc bo bc g n L fi ol he la) (hb : Below W.heap.size W W') : PuK w W' aA aB cA cB A C go gc bo bc g n L fi ol he la :=
  ⟨h.1.trans (hb.mono h.1.size), h.2.1.b hb, h.2.2.1.b hb, h.2.2.2.1.b hb, Nat.le_trans h.2.2.2.2 hb.size⟩

theorem PuK.set {w W : World} {aA aB : Option Addr} {cA cB X i : Nat} {A C : List Int} {go : Option Addr} {gc : Nat} {bo : Option Addr} {bc : Nat} {g : List Int} {n : Nat} {L : Nat → List Int} {fi ol he : Bool} {la : Int} {v : Value} (h : PuK w W aA aB cA cB A C go gc bo bc g n L fi ol he la) (hX : w.heap.size + 1 + 1 + 1 ≤ X) : PuK w (W.setCell ⟨X, i, none⟩ v) aA aB cA cB A C go gc bo bc g n L fi ol he la :=
  ⟨h.1.setCell (p := ⟨X, i, none⟩) (show w.heap.size ≤ X by omega) _, h.2.1.far (by omega), (far_set (by omega)).trans h.2.2.1, h.2.2.2.1.far (by omega), by have := h.2.2.2.2; simpa [World.setCell] using this⟩

end Go.Proofs.YtabknfmhhjelaaaGreatDoor

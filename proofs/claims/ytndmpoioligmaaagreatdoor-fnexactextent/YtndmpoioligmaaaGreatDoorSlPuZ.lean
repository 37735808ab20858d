/- SlotPut of both. -/
import Derived.Test.YtndmpoioligmaaaGreatDoorSlPcZ

namespace Go.Proofs.YtndmpoioligmaaaGreatDoor
open Go.ChangeShapes Go.WideShapes Go.ChangeAt Go.RowKit
set_option linter.unusedVariables false
set_option linter.unusedSimpArgs false
set_option maxRecDepth 100000

/-- The slots behind a put of X. -/
def ptA (D : (p : Prop) → Decidable p) (A C X : List Int) : List Int := @ite (List Int) (X = [] ∨ Lat A C) (D _) A X
def ptB (D : (p : Prop) → Decidable p) (A C X : List Int) : List Int := @ite (List Int) (X = [] ∨ ¬ Lat A C) (D _) C X
theorem ptA_nil (A C : List Int) : (ptA Classical.propDecidable) A C [] = A := by unfold ptA; rw [if_pos (.inl rfl)]
theorem ptB_nil (A C : List Int) : (ptB Classical.propDecidable) A C [] = C := by unfold ptB; rw [if_pos (.inl rfl)]
theorem ptA_lat {A C X : List Int} (h : Lat A C) : (ptA Classical.propDecidable) A C X = A := by unfold ptA; rw [if_pos (.inr h)]
theorem ptB_lat {A C X : List Int} (h : Lat A C) (hX : X ≠ []) : (ptB Classical.propDecidable) A C X = X := by unfold ptB; rw [if_neg (fun e => e.elim hX (fun e => e h))]
theorem ptA_not {A C X : List Int} (h : ¬ Lat A C) (hX : X ≠ []) : (ptA Classical.propDecidable) A C X = X := by unfold ptA; rw [if_neg (fun e => e.elim hX h)]
theorem ptB_not {A C X : List Int} (h : ¬ Lat A C) : (ptB Classical.propDecidable) A C X = C := by unfold ptB; rw [if_pos (.inr h)]
/-- What a put hands back. -/
def PtOut (w w' : World) (A C : List Int) (e : Ending) : Prop := ∃ bA bB dA dB, e = .returned (.agg #[.slice bA A.length dA, .slice bB C.length dB]) ∧ OSl w' w.heap.size w'.heap.size bA dA bB dB A C ∧ Below w.heap.size w w' ∧ NC bA dA ∧ NC bB dB
theorem PtOut.congr {w w' : World} {A C A' C' : List Int} {e : Ending} (h : PtOut w w' A C e) (eA : A = A') (eC : C = C') : PtOut w w' A' C' e := by rw [← eA, ← eC]; exact h
theorem slm_ne {g : List Int} {n : Nat} {L : Nat → List Int} {fi ol he : Bool} {la q : Int} (h : MtOk g n L ol he la) (hq : 1 ≤ q ∧ q ≤ 1000000) : (slm Classical.propDecidable) g n L fi ol he la q ≠ [] := by
  rw [slm_yes h hq]
  intro e
  have := congrArg List.length e
  simp [slb, s4] at this
theorem Rb.tyfar {w : World} {B T X i : Nat} {ao : Option Addr} {n : Nat} {F : Nat → Value} {aA aB : Option Addr} {nA cA nB cB : Nat} {v : Value} (h : Rb w B T ao n F) (hS : SB w X 35 aA nA cA aB nB cB) : Rb (w.setCell ⟨X, i, none⟩ v) B T ao n F := by
  rcases h with h | ⟨g, e, hB, c, hc, r⟩
  · exact .inl h
  · refine .inr ⟨g, e, hB, c, (far_set (fun e2 => ?_)).trans hc, r⟩
    subst e2
    rw [show w.heap[g]? = _ from hS] at hc
    simp at hc
theorem OSl.tyfar {w : World} {B T X i : Nat} {aA : Option Addr} {cA : Nat} {aB : Option Addr} {cB : Nat} {A C : List Int} {xA xB : Option Addr} {nA yA nB yB : Nat} {v : Value} (h : OSl w B T aA cA aB cB A C) (hS : SB w X 35 xA nA yA xB nB yB) : OSl (w.setCell ⟨X, i, none⟩ v) B T aA cA aB cB A C :=
  ⟨⟨h.1.1, by have := h.1.2; simpa [World.setCell] using this⟩, h.2.1, h.2.2.1.tyfar hS, h.2.2.2.1.tyfar hS, h.2.2.2.2⟩
theorem nc_owns {w : World} {B n : Nat} {xo : Option Addr} {xc : Nat} {xs : List Value} (h : w.ownsRow B 5 1 (.slice xo n xc) n xs) : NC xo xc := fun e => by
  rcases h.2 with ⟨h, _⟩ | ⟨_, _, _, h, _⟩
  · simp at h; exact h.2.2
  · simp [e] at h
/-- A new row in a slot's place. -/
theorem osl_put0 {w : World} {B T T' : Nat} {aA aB aX : Option Addr} {cA cB cX : Nat} {A C X : List Int} (h : OSl w B T aA cA aB cB A C) (hr : Rb w T' w.heap.size aX X.length (bv X)) (hc : X.length ≤ cX) (hT : T ≤ T') : OSl w B w.heap.size aX cX aB cB X C :=
  ⟨⟨by have := h.1; omega, Nat.le_refl _⟩, ⟨hc, h.2.1.2⟩, hr.wide (by have := h.1; omega) (Nat.le_refl _), h.2.2.2.1.wide (Nat.le_refl _) (by have := h.1; omega), fun γ e hp hp2 e2 => rb_apart (h.2.2.2.1.wide (Nat.le_refl _) hT) hr γ e2 hp2 hp e⟩
theorem osl_put1 {w : World} {B T T' : Nat} {aA aB aX : Option Addr} {cA cB cX : Nat} {A C X : List Int} (h : OSl w B T aA cA aB cB A C) (hr : Rb w T' w.heap.size aX X.length (bv X)) (hc : X.length ≤ cX) (hT : T ≤ T') : OSl w B w.heap.size aA cA aX cX A X :=
  ⟨⟨by have := h.1; omega, Nat.le_refl _⟩, ⟨h.2.1.1, hc⟩, h.2.2.1.wide (Nat.le_refl _) (by have := h.1; omega), hr.wide (by have := h.1; omega) (Nat.le_refl _), fun γ e hp hp2 e2 => rb_apart (h.2.2.1.wide (Nat.le_refl _) hT) hr γ e hp hp2 e2⟩

/-- What is told of a slot, in one form. -/
theorem SlOut.tell {w w' : World} {D : List Int} {e : Ending} (h : SlOut w w' D e) : ∃ (a1 a2 : Option Addr) (l1 k1 l2 k2 : Nat) (b1 b2 b3 b4 : Bool) (x : Int), e = .returned (.tuple #[.agg #[.slice a1 l1 k1, .slice a2 l2 k2, .bool b1, .bool b2, .bool b3, .int .i64 x], .int .i64 ((sqv Classical.propDecidable) D), .bool b4]) ∧ Below w.heap.size w w' := by
  obtain ⟨h1, hb⟩ := h
  rcases h1 with ⟨g, L, fi, ol, he, la, q, go, bo, gc, bc, hM, rfl, _⟩ | ⟨hno, rfl⟩
  · exact ⟨_, _, _, _, _, _, _, _, _, _, _, by rw [sqv_is hM], hb⟩
  · exact ⟨_, _, _, _, _, _, _, _, _, _, _, by rw [sqv_no hno], hb⟩
/-- The blocks of a put: the slots, what is known, the answer. -/
def PuK (w W : World) (aA aB : Option Addr) (cA cB : Nat) (A C : List Int) (go : Option Addr) (gc : Nat) (bo : Option Addr) (bc : Nat) (g : List Int) (n : Nat) (L : Nat → List Int) (fi ol he : Bool) (la : Int) : Prop :=
  Below w.heap.size w W ∧ SB W w.heap.size 35 aA A.length cA aB C.length cB ∧ KB (W) (w.heap.size + 1) 34 go g.length gc bo n bc fi ol he la ∧ SB W (w.heap.size + 1 + 1) 35 none 0 0 none 0 0 ∧ w.heap.size + 1 + 1 + 1 ≤ W.heap.size
theorem PuK.b {w W W' : World} {aA aB : Option Addr} {cA cB : Nat} {A C : List Int} {go : Option Addr} {gc : Nat} {bo : Option Addr} {bc : Nat} {g : List Int} {n : Nat} {L : Nat → List Int} {fi ol he : Bool} {la : Int} (h : PuK w W aA aB cA cB A C go gc bo bc g n L fi ol he la) (hb : Below W.heap.size W W') : PuK w W' aA aB cA cB A C go gc bo bc g n L fi ol he la :=
  ⟨h.1.trans (hb.mono h.1.size), h.2.1.b hb, h.2.2.1.b hb, h.2.2.2.1.b hb, Nat.le_trans h.2.2.2.2 hb.size⟩

theorem puk_new (w : World) (aA aB : Option Addr) (cA cB : Nat) (A C : List Int) (go : Option Addr) (gc : Nat) (bo : Option Addr) (bc : Nat) (g : List Int) (n : Nat) (L : Nat → List Int) (fi ol he : Bool) (la : Int) : PuK w (((w.alloc (.cells #[.slice aA A.length cA, .slice aB C.length cB] 35)).alloc (.cells #[.slice go g.length gc, .slice bo n bc, .bool fi, .bool ol, .bool he, .int .i64 la] 34)).alloc (.cells #[.slice none 0 0, .slice none 0 0] 35)) aA aB cA cB A C go gc bo bc g n L fi ol he la := by
  obtain ⟨s0, s1, s2, s4⟩ := bal3 w (.cells #[.slice aA A.length cA, .slice aB C.length cB] 35) (.cells #[.slice go g.length gc, .slice bo n bc, .bool fi, .bool ol, .bool he, .int .i64 la] 34) (.cells #[.slice none 0 0, .slice none 0 0] 35)
  exact ⟨((bal1 _ _).alloc (by simp) _).alloc (by simp; omega) _, s0, s1, s2, by rw [s4]; exact Nat.le_refl _⟩
/-- The slots handed back. -/
theorem pu_end {w W : World} {aA aB bA bB : Option Addr} {cA cB dA dB B T : Nat} {A C A' C' : List Int} {go : Option Addr} {gc : Nat} {bo : Option Addr} {bc : Nat} {g : List Int} {n : Nat} {L : Nat → List Int} {fi ol he : Bool} {la : Int} (h : PuK w W aA aB cA cB A C go gc bo bc g n L fi ol he la) (ho : OSl W B T bA dA bB dB A' C') (hB : w.heap.size + 1 + 1 + 1 ≤ B) (h1 : NC bA dA) (h2 : NC bB dB) :
    PtOut w ((W.setCell ⟨w.heap.size + 1 + 1, 0, none⟩ (.slice bA A'.length dA)).setCell ⟨w.heap.size + 1 + 1, 1, none⟩ (.slice bB C'.length dB)) A' C' (.returned (.agg #[.slice bA A'.length dA, .slice bB C'.length dB])) := by
  have hs : ((W.setCell ⟨w.heap.size + 1 + 1, 0, none⟩ (.slice bA A'.length dA)).setCell ⟨w.heap.size + 1 + 1, 1, none⟩ (.slice bB C'.length dB)).heap.size = W.heap.size := by simp [World.setCell]
  refine ⟨_, _, _, _, rfl, ?_, (h.1.setCell (p := ⟨w.heap.size + 1 + 1, 0, none⟩) (show w.heap.size ≤ w.heap.size + 1 + 1 by omega) _).setCell (p := ⟨w.heap.size + 1 + 1, 1, none⟩) (show w.heap.size ≤ w.heap.size + 1 + 1 by omega) _, h1, h2⟩
  exact (ho.kept (fun j h1 _ => (far_set (by omega)).trans (far_set (by omega))) (by omega)).wider (by omega) (by have := ho.1; omega) (Nat.le_refl _)
theorem PuK.set {w W : World} {aA aB : Option Addr} {cA cB X i : Nat} {A C : List Int} {go : Option Addr} {gc : Nat} {bo : Option Addr} {bc : Nat} {g : List Int} {n : Nat} {L : Nat → List Int} {fi ol he : Bool} {la : Int} {v : Value} (h : PuK w W aA aB cA cB A C go gc bo bc g n L fi ol he la) (hX : w.heap.size + 1 + 1 + 1 ≤ X) : PuK w (W.setCell ⟨X, i, none⟩ v) aA aB cA cB A C go gc bo bc g n L fi ol he la :=
  ⟨h.1.setCell (p := ⟨X, i, none⟩) (show w.heap.size ≤ X by omega) _, h.2.1.far (by omega), (far_set (by omega)).trans h.2.2.1, h.2.2.2.1.far (by omega), by have := h.2.2.2.2; simpa [World.setCell] using this⟩

end Go.Proofs.YtndmpoioligmaaaGreatDoor

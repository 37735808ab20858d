/- A node that came in, a node that is handed back: where all lies while a law looks at it. -/
import Derived.Test.YtkndnndildnbpaaGreatDoorGu
import Derived.Test.YtkndnndildnbpaaGreatDoorNdOZ
import Derived.Test.YtkndnndildnbpaaGreatDoorHz

namespace Go.Proofs.YtkndnndildnbpaaGreatDoor
open Go.ChangeShapes Go.WideShapes Go.ChangeAt Go.RowKit
set_option linter.unusedVariables false
set_option linter.unusedSimpArgs false
set_option maxRecDepth 100000

/-- The node as it came in. -/
def Y0 (w V : World) (a : Na) (d : Nd) : Prop := Below w.heap.size w V ∧ NB V w.heap.size 39 a d
theorem Y0.onb {w V V' : World} {a : Na} {d : Nd} {B T : Nat} (h : Y0 w V a d) (ho : OnB B T V V') (hB : w.heap.size < B) : Y0 w V' a d := ⟨h.1.trans (ho.1.mono (by omega)), h.2.below ho.1 hB⟩
theorem Y0.b {w V V' : World} {a : Na} {d : Nd} (h : Y0 w V a d) (hb : Below V.heap.size V V') : Y0 w V' a d := ⟨h.1.trans (hb.mono h.1.size), h.2.b hb⟩
/-- A node of the law's own: the block of its variable, where its rows lie, what they hold. -/
def GN (V : World) (X B : Nat) (b : Na) (d dm : Nd) : Prop := NB V X 31 b d ∧ ON V B X b dm
theorem GN.kept {V V' : World} {X B : Nat} {b : Na} {d dm : Nd} (h : GN V X B b d dm) (hk : ∀ j, B ≤ j → j ≤ X → V'.heap[j]? = V.heap[j]?) (hs : V.heap.size ≤ V'.heap.size) : GN V' X B b d dm :=
  ⟨(hk X h.2.1.1 (Nat.le_refl _)).trans h.1, h.2.kept (fun j h1 h2 => hk j h1 (by omega)) hs⟩
theorem GN.onb {V V' : World} {X B B' T' : Nat} {b : Na} {d dm : Nd} (h : GN V X B b d dm) (ho : OnB B' T' V V') (hT : X < B' ∨ T' ≤ B) : GN V' X B b d dm :=
  h.kept (fun j h1 h2 => by
    have hlt := h.1.lt
    rcases hT with hT | hT
    · exact ho.1.block j (by omega)
    · exact ho.2 j (by omega) (by omega)) ho.1.size
theorem GN.b {V V' : World} {X B : Nat} {b : Na} {d dm : Nd} (h : GN V X B b d dm) (hb : Below V.heap.size V V') : GN V' X B b d dm :=
  h.onb (OnB.of_below (B := V.heap.size) (T := V.heap.size) hb (Nat.le_refl _)) (.inl h.1.lt)
theorem GN.new {w1 : World} {B : Nat} {b : Na} {d : Nd} (h : ON w1 B w1.heap.size b d) : GN (w1.alloc (.cells (nds b d) 31)) w1.heap.size B b d d :=
  ⟨NB.new _ _ _ _, h.below (bal1 w1 _) (Nat.le_refl _)⟩
/-- .. marked. -/
theorem GN.mk {V V' : World} {X B : Nat} {b : Na} {d dm : Nd} (h : GN V X B b d d) (ho : OnB B X V V') (hn : ON V' B X b dm) : GN V' X B b d dm := ⟨(ho.2 X h.1.lt (Nat.le_refl _)).trans h.1, hn⟩
/-- The model's answer. -/
def MN (V : World) (X B : Nat) (b : Na) (d : Nd) : Prop := NB V X 31 b d ∧ RN V B X b d
theorem MN.onb {V V' : World} {X B B' T' : Nat} {b : Na} {d : Nd} (h : MN V X B b d) (ho : OnB B' T' V V') (hT : X < B') : MN V' X B b d :=
  ⟨(ho.1.block X hT).trans h.1, h.2.kept (fun j _ h2 => ho.1.block j (by omega)) ho.1.size⟩
theorem MN.b {V V' : World} {X B : Nat} {b : Na} {d : Nd} (h : MN V X B b d) (hb : Below V.heap.size V V') : MN V' X B b d :=
  h.onb (OnB.of_below (B := V.heap.size) (T := V.heap.size) hb (Nat.le_refl _)) h.1.lt
theorem MN.new {w1 : World} {B : Nat} {b : Na} {d : Nd} (h : RN w1 B w1.heap.size b d) : MN (w1.alloc (.cells (nds b d) 31)) w1.heap.size B b d :=
  ⟨NB.new _ _ _ _, h.below (bal1 w1 _) (Nat.le_refl _)⟩
theorem kdrew (V : World) : Below V.heap.size V V.drew := Below.drawn (Below.refl _ _) 1
theorem kncnt_nn (d : Nd) : 0 ≤ ncnt d := by unfold ncnt; omega
theorem kncnt_le (d : Nd) : ncnt d ≤ ntot d := by unfold ncnt ntot; omega
/-- The two nodes as they came in. -/
def Y2 (w V : World) (a1 a2 : Na) (d1 d2 : Nd) : Prop := Below w.heap.size w V ∧ NB V w.heap.size 39 a1 d1 ∧ NB V (w.heap.size + 1) 39 a2 d2
theorem Y2.onb {w V V' : World} {a1 a2 : Na} {d1 d2 : Nd} {B T : Nat} (h : Y2 w V a1 a2 d1 d2) (ho : OnB B T V V') (hB : w.heap.size + 1 < B) : Y2 w V' a1 a2 d1 d2 :=
  ⟨h.1.trans (ho.1.mono (by omega)), h.2.1.below ho.1 (by omega), h.2.2.below ho.1 hB⟩
theorem Y2.b {w V V' : World} {a1 a2 : Na} {d1 d2 : Nd} (h : Y2 w V a1 a2 d1 d2) (hb : Below V.heap.size V V') : Y2 w V' a1 a2 d1 d2 := ⟨h.1.trans (hb.mono h.1.size), h.2.1.b hb, h.2.2.b hb⟩
theorem Y2.new (w : World) (a1 a2 : Na) (d1 d2 : Nd) : Y2 w ((w.alloc (.cells (nds a1 d1) 39)).alloc (.cells (nds a2 d2) 39)) a1 a2 d1 d2 := by
  have h1 := NB.new w 39 a1 d1
  have h2 := NB.new (w.alloc (.cells (nds a1 d1) 39)) 39 a2 d2
  have e : (w.alloc (.cells (nds a1 d1) 39)).heap.size = w.heap.size + 1 := by simp
  have b := bal1 (w.alloc (.cells (nds a1 d1) 39)) (.cells (nds a2 d2) 39)
  rw [e] at h2 b
  exact ⟨(bal1 w _).trans (b.mono (by omega)), h1.below b (by omega), h2⟩
theorem kntot_nn (d : Nd) : 0 ≤ ntot d := by unfold ntot; omega
/-- Told by a proposition. -/
def dcd (D : (p : Prop) → Decidable p) (p : Prop) : Bool := @decide p (D p)
theorem dcd_yes {p : Prop} (h : p) : dcd Classical.propDecidable p = true := @decide_eq_true p (Classical.propDecidable p) h
theorem dcd_no {p : Prop} (h : ¬ p) : dcd Classical.propDecidable p = false := @decide_eq_false p (Classical.propDecidable p) h
theorem tells_dcd {w w' : World} {e : Ending} {p : Prop} (h : Tells w w' e p) : e = .returned (.bool (dcd Classical.propDecidable p)) ∧ Below w.heap.size w w' := by
  obtain ⟨⟨hp, rfl⟩ | ⟨hp, rfl⟩, hb⟩ := h
  · exact ⟨by rw [dcd_yes hp], hb⟩
  · exact ⟨by rw [dcd_no hp], hb⟩
theorem Y2.far {w V V' : World} {a1 a2 : Na} {d1 d2 : Nd} {X : Nat} (h : Y2 w V a1 a2 d1 d2) (ho : Only X V V') (hX : w.heap.size + 1 < X) : Y2 w V' a1 a2 d1 d2 := ⟨h.1.trans (ho.1.mono (by omega)), h.2.1.far ho (by omega), h.2.2.far ho (by omega)⟩
/-- A node that a call handed back, in a block among its rows. -/
def M3 (V : World) (X B T : Nat) (b : Na) (d : Nd) : Prop := NB V X 31 b d ∧ RN V B T b d ∧ X < T
theorem M3.onb {V V' : World} {X B T B' T' : Nat} {b : Na} {d : Nd} (h : M3 V X B T b d) (ho : OnB B' T' V V') (hT : T ≤ B') : M3 V' X B T b d :=
  ⟨(ho.1.block X (Nat.lt_of_lt_of_le h.2.2 hT)).trans h.1, h.2.1.kept (fun j _ h2 => ho.1.block j (by omega)) ho.1.size, h.2.2⟩
theorem M3.b {V V' : World} {X B T : Nat} {b : Na} {d : Nd} (h : M3 V X B T b d) (hb : Below V.heap.size V V') : M3 V' X B T b d :=
  ⟨h.1.b hb, h.2.1.below hb h.2.1.1.2, h.2.2⟩
theorem rn_up3 {w w' : World} {B : Nat} {a : Na} {d : Nd} (h : RN w B w.heap.size a d) (hb : Below w.heap.size w w') : RN w' B w'.heap.size a d := (h.below hb (Nat.le_refl _)).wider (Nat.le_refl _) hb.size (Nat.le_refl _)
theorem rn_beside3 {w w' : World} {B T g : Nat} {c : Array Value} {b : Na} {d : Nd} (h : RN w B T b d) (hc : w.heap[g]? = some (.cells c 31 (0, 0))) (ho : Only g w w') : RN w' B T b d := by
  obtain ⟨h1, h2, h3, R, Q, h5⟩ := h
  refine ⟨by rw [ho.2.1]; exact h1, h2, h3, R, Q, ra_beside h5 hc (fun r hr => ?_) ho⟩
  rcases drows_t (am := b) (R' := R) (dm := d) (List.mem_append_right _ hr) with h | h | h | h <;> rw [h] <;> decide
theorem alloc_drew3 (w : World) (o : Obj) : Below w.drew.heap.size w.drew (w.alloc o).drew := bal1 w.drew o
end Go.Proofs.YtkndnndildnbpaaGreatDoor

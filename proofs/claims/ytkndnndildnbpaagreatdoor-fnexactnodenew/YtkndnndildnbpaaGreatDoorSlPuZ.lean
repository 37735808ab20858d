/- SlotPut of both. -/
import Derived.Test.YtkndnndildnbpaaGreatDoorSlPcZ

namespace Go.Proofs.YtkndnndildnbpaaGreatDoor
open Go.ChangeShapes Go.WideShapes Go.ChangeAt Go.RowKit
set_option linter.unusedVariables false
set_option linter.unusedSimpArgs false
set_option maxRecDepth 100000

/-- The slots behind a put of X. -/
def ptA (D : (p : Prop) → Decidable p) (A C X : List Int) : List Int := @ite (List Int) (X = [] ∨ Lat A C) (D _) A X
def ptB (D : (p : Prop) → Decidable p) (A C X : List Int) : List Int := @ite (List Int) (X = [] ∨ ¬ Lat A C) (D _) C X
theorem ptA_nil (A C : List Int) : (ptA Classical.propDecidable) A C [] = A := by unfold ptA; rw [if_pos (.inl rfl)]
theorem ptB_nil (A C : List Int) : (ptB Classical.propDecidable) A C [] = C := by unfold ptB; rw [if_pos (.inl rfl)]
theorem ptA_lat {A C X : List Int} (h : Lat A C) : (ptA Classical.propDecidable) A C X = A := by unfold ptA; rw [if_pos (.inr h)]
theorem ptB_lat {A C X : List Int} (h : Lat A C) (hX : X ≠ []) : (ptB Classical.propDecidable) A C X = X := by unfold ptB; rw [if_neg (fun e => e.elim hX (fun e => e h))]
theorem ptA_not {A C X : List Int} (h : ¬ Lat A C) (hX : X ≠ []) : (ptA Classical.propDecidable) A C X = X := by unfold ptA; rw [if_neg (fun e => e.elim hX h)]
theorem ptB_not {A C X : List Int} (h : ¬ Lat A C) : (ptB Classical.propDecidable) A C X = C := by unfold ptB; rw [if_pos (.inr h)]
/-- What a put hands back. -/
def PtOut (w w' : World) (A C : List Int) (e : Ending) : Prop := ∃ bA bB dA dB, e = .returned (.agg #[.slice bA A.length dA, .slice bB C.length dB]) ∧ OSl w' w.heap.size w'.heap.size bA dA bB dB A C ∧ Below w.heap.size w w' ∧ NC bA dA ∧ NC bB dB
theorem PtOut.congr {w w' : World} {A C A' C' : List Int} {e : Ending} (h : PtOut w w' A C e) (eA : A = A') (eC : C = C') : PtOut w w' A' C' e := by rw [← eA, ← eC]; exact h
theorem slm_ne {g : List Int} {n : Nat} {L : Nat → List Int} {fi ol he : Bool} {la q : Int} (h : MtOk g n L ol he la) (hq : 1 ≤ q ∧ q ≤ 1000000) : (slm Classical.propDecidable) g n L fi ol he la q ≠ [] := by
  rw [slm_yes h hq]
  intro e
  have := congrArg List.length e
  simp [slb, s4] at this
theorem Rb.tyfar {w : World} {B T X i : Nat} {ao : Option Addr} {n : Nat} {F : Nat → Value} {aA aB : Option Addr} {nA cA nB cB : Nat} {v : Value} (h : Rb w B T ao n F) (hS : SB w X 28 aA nA cA aB nB cB) : Rb (w.setCell ⟨X, i, none⟩ v) B T ao n F := by
  rcases h with h | ⟨g, e, hB, c, hc, r⟩
  · exact .inl h
  · refine .inr ⟨g, e, hB, c, (far_set (fun e2 => ?_)).trans hc, r⟩
    subst e2
    rw [show w.heap[g]? = _ from hS] at hc
    simp at hc
theorem OSl.tyfar {w : World} {B T X i : Nat} {aA : Option Addr} {cA : Nat} {aB : Option Addr} {cB : Nat} {A C : List Int} {xA xB : Option Addr} {nA yA nB yB : Nat} {v : Value} (h : OSl w B T aA cA aB cB A C) (hS : SB w X 28 xA nA yA xB nB yB) : OSl (w.setCell ⟨X, i, none⟩ v) B T aA cA aB cB A C :=
  ⟨⟨h.1.1, by have := h.1.2; simpa [World.setCell] using this⟩, h.2.1, h.2.2.1.tyfar hS, h.2.2.2.1.tyfar hS, h.2.2.2.2⟩
theorem nc_owns {w : World} {B n : Nat} {xo : Option Addr} {xc : Nat} {xs : List Value} (h : w.ownsRow B 5 1 (.slice xo n xc) n xs) : NC xo xc := fun e => by
  rcases h.2 with ⟨h, _⟩ | ⟨_, _, _, h, _⟩
  · simp at h; exact h.2.2
  · simp [e] at h
/-- A new row in a slot's place. -/
theorem osl_put0 {w : World} {B T T' : Nat} {aA aB aX : Option Addr} {cA cB cX : Nat} {A C X : List Int} (h : OSl w B T aA cA aB cB A C) (hr : Rb w T' w.heap.size aX X.length (bv X)) (hc : X.length ≤ cX) (hT : T ≤ T') : OSl w B w.heap.size aX cX aB cB X C :=
  ⟨⟨by have := h.1; omega, Nat.le_refl _⟩, ⟨hc, h.2.1.2⟩, hr.wide (by have := h.1; omega) (Nat.le_refl _), h.2.2.2.1.wide (Nat.le_refl _) (by have := h.1; omega), fun γ e hp hp2 e2 => rb_apart (h.2.2.2.1.wide (Nat.le_refl _) hT) hr γ e2 hp2 hp e⟩
theorem osl_put1 {w : World} {B T T' : Nat} {aA aB aX : Option Addr} {cA cB cX : Nat} {A C X : List Int} (h : OSl w B T aA cA aB cB A C) (hr : Rb w T' w.heap.size aX X.length (bv X)) (hc : X.length ≤ cX) (hT : T ≤ T') : OSl w B w.heap.size aA cA aX cX A X :=
  ⟨⟨by have := h.1; omega, Nat.le_refl _⟩, ⟨h.2.1.1, hc⟩, h.2.2.1.wide (Nat.le_refl _) (by have := h.1; omega), hr.wide (by have := h.1; omega) (Nat.le_refl _), fun γ e hp hp2 e2 => rb_apart (h.2.2.1.wide (Nat.le_refl _) hT) hr γ e hp hp2 e2⟩

set_option maxHeartbeats 1000000 in
theorem next_impl (ao : Option Addr) (cap : Nat) (D : List Int) (go bo : Option Addr) (gc bc : Nat) (g : List Int) (n : Nat) (L : Nat → List Int) (fi ol he : Bool) (la : Int) (w : World) (hg : ErrT w) (hD : VBy w ao cap D) (hd : Bd g n L) (hv : MV w go gc bo bc g n L) :
    Calls Tryz.prog 139 #[.slice ao D.length cap, .agg #[.slice go g.length gc, .slice bo n bc, .bool fi, .bool ol, .bool he, .int .i64 la]] w fun e w' => ∃ x, e = .returned x ∧ w'.ownsRow w.heap.size 5 1 x ((slm Classical.propDecidable) g n L fi ol he la ((sqv Classical.propDecidable) D + 1)).length (((slm Classical.propDecidable) g n L fi ol he la ((sqv Classical.propDecidable) D + 1)).map (.int .u8)) ∧ Below w.heap.size w w' := by
  have hq := sqv_bd D
  obtain ⟨W, hW⟩ : ∃ W, W = w.alloc (.cells #[.slice go g.length gc, .slice bo n bc, .bool fi, .bool ol, .bool he, .int .i64 la] 25) := ⟨_, rfl⟩
  have hb0 : Below w.heap.size w W := by rw [hW]; exact bal1 _ _
  have hK0 : KB (W) (w.heap.size) 25 go g.length gc bo n bc fi ol he la := by rw [hW]; exact KB.new w _ _ _ _ _ _ _ _ _ _ _
  have hb : Below w.heap.size w W.drew := Below.drawn hb0 1
  have hK : KB (W.drew) (w.heap.size) 25 go g.length gc bo n bc fi ol he la := hK0.b (Below.drawn (Below.refl _ _) 1)
  clear hb0 hK0
  have hc1 := hide (seqof_impl ao cap D W.drew (hg.below hb) (hD.below hb))
  have HK := hide (And.intro hb (And.intro hK (hv.below hb)))
  have HD := hide hd
  have hS := hK.cells
  clear hg hD hd hv hb hK
  generalize (sqv Classical.propDecidable) D = z at *
  obtain ⟨hq0, hq1⟩ := hq
  have hwz : IntKind.i64.wrap (z + 1) = z + 1 := by rw [IntKind.wrap_i64]; omega
  go_enter Tryz.func139, Tryz.ntmps139
  go_wp2_with fail
  rw [← hW]
  clear hW
  go_region_held3 (fun w' => (w'.cell? ⟨w.heap.size, 0, none⟩ = some (.slice go g.length gc) ∧ w'.cell? ⟨w.heap.size, 1, none⟩ = some (.slice bo n bc) ∧ w'.cell? ⟨w.heap.size, 2, none⟩ = some (.bool fi) ∧ w'.cell? ⟨w.heap.size, 3, none⟩ = some (.bool ol) ∧ w'.cell? ⟨w.heap.size, 4, none⟩ = some (.bool he) ∧ w'.cell? ⟨w.heap.size, 5, none⟩ = some (.int .i64 la))) (first | with_reducible assumption | exact hS) (first
    | (go_at_call 205; refine hc1.out.mono ?_; rintro e w1 ⟨rfl, b1⟩; have H1 := hide (And.intro (HK.out.1.trans (b1.mono HK.out.1.size)) (And.intro (HK.out.2.1.b b1) (HK.out.2.2.below b1))); have hk1 := H1.out.2.1.cells; clear b1)
    | (go_at_call 206; refine (slotbytes_impl go bo gc bc g n L fi ol he la (z + 1) w1 HD.out H1.out.2.2 (by omega) (by omega)).mono ?_; rintro e w2 ⟨x, rfl, ho, b2⟩; have H2 := hide (And.intro (gmono ho H1.out.1.size) (H1.out.1.trans (b2.mono H1.out.1.size))); have hk2 := (H1.out.2.1.b b2).cells; clear ho b2))
  clear hS hk1 hk2 hc1 HK H1
  go_wp2
  go_ret
  exact ⟨_, rfl, H2.out⟩

/-- What is told of a slot, in one form. -/
theorem SlOut.tell {w w' : World} {D : List Int} {e : Ending} (h : SlOut w w' D e) : ∃ (a1 a2 : Option Addr) (l1 k1 l2 k2 : Nat) (b1 b2 b3 b4 : Bool) (x : Int), e = .returned (.tuple #[.agg #[.slice a1 l1 k1, .slice a2 l2 k2, .bool b1, .bool b2, .bool b3, .int .i64 x], .int .i64 ((sqv Classical.propDecidable) D), .bool b4]) ∧ Below w.heap.size w w' := by
  obtain ⟨h1, hb⟩ := h
  rcases h1 with ⟨g, L, fi, ol, he, la, q, go, bo, gc, bc, hM, rfl, _⟩ | ⟨hno, rfl⟩
  · exact ⟨_, _, _, _, _, _, _, _, _, _, _, by rw [sqv_is hM], hb⟩
  · exact ⟨_, _, _, _, _, _, _, _, _, _, _, by rw [sqv_no hno], hb⟩
/-- The blocks of a put: the slots, what is known, the answer. -/
def PuK (w W : World) (aA aB : Option Addr) (cA cB : Nat) (A C : List Int) (go : Option Addr) (gc : Nat) (bo : Option Addr) (bc : Nat) (g : List Int) (n : Nat) (L : Nat → List Int) (fi ol he : Bool) (la : Int) : Prop :=
  Below w.heap.size w W ∧ SB W w.heap.size 28 aA A.length cA aB C.length cB ∧ KB (W) (w.heap.size + 1) 25 go g.length gc bo n bc fi ol he la ∧ SB W (w.heap.size + 1 + 1) 28 none 0 0 none 0 0 ∧ w.heap.size + 1 + 1 + 1 ≤ W.heap.size
theorem PuK.b {w W W' : World} {aA aB : Option Addr} {cA cB : Nat} {A C : List Int} {go : Option Addr} {gc : Nat} {bo : Option Addr} {bc : Nat} {g : List Int} {n : Nat} {L : Nat → List Int} {fi ol he : Bool} {la : Int} (h : PuK w W aA aB cA cB A C go gc bo bc g n L fi ol he la) (hb : Below W.heap.size W W') : PuK w W' aA aB cA cB A C go gc bo bc g n L fi ol he la :=
  ⟨h.1.trans (hb.mono h.1.size), h.2.1.b hb, h.2.2.1.b hb, h.2.2.2.1.b hb, Nat.le_trans h.2.2.2.2 hb.size⟩

theorem puk_new (w : World) (aA aB : Option Addr) (cA cB : Nat) (A C : List Int) (go : Option Addr) (gc : Nat) (bo : Option Addr) (bc : Nat) (g : List Int) (n : Nat) (L : Nat → List Int) (fi ol he : Bool) (la : Int) : PuK w (((w.alloc (.cells #[.slice aA A.length cA, .slice aB C.length cB] 28)).alloc (.cells #[.slice go g.length gc, .slice bo n bc, .bool fi, .bool ol, .bool he, .int .i64 la] 25)).alloc (.cells #[.slice none 0 0, .slice none 0 0] 28)) aA aB cA cB A C go gc bo bc g n L fi ol he la := by
  obtain ⟨s0, s1, s2, s4⟩ := bal3 w (.cells #[.slice aA A.length cA, .slice aB C.length cB] 28) (.cells #[.slice go g.length gc, .slice bo n bc, .bool fi, .bool ol, .bool he, .int .i64 la] 25) (.cells #[.slice none 0 0, .slice none 0 0] 28)
  exact ⟨((bal1 _ _).alloc (by simp) _).alloc (by simp; omega) _, s0, s1, s2, by rw [s4]; exact Nat.le_refl _⟩
/-- The slots handed back. -/
theorem pu_end {w W : World} {aA aB bA bB : Option Addr} {cA cB dA dB B T : Nat} {A C A' C' : List Int} {go : Option Addr} {gc : Nat} {bo : Option Addr} {bc : Nat} {g : List Int} {n : Nat} {L : Nat → List Int} {fi ol he : Bool} {la : Int} (h : PuK w W aA aB cA cB A C go gc bo bc g n L fi ol he la) (ho : OSl W B T bA dA bB dB A' C') (hB : w.heap.size + 1 + 1 + 1 ≤ B) (h1 : NC bA dA) (h2 : NC bB dB) :
    PtOut w ((W.setCell ⟨w.heap.size + 1 + 1, 0, none⟩ (.slice bA A'.length dA)).setCell ⟨w.heap.size + 1 + 1, 1, none⟩ (.slice bB C'.length dB)) A' C' (.returned (.agg #[.slice bA A'.length dA, .slice bB C'.length dB])) := by
  have hs : ((W.setCell ⟨w.heap.size + 1 + 1, 0, none⟩ (.slice bA A'.length dA)).setCell ⟨w.heap.size + 1 + 1, 1, none⟩ (.slice bB C'.length dB)).heap.size = W.heap.size := by simp [World.setCell]
  refine ⟨_, _, _, _, rfl, ?_, (h.1.setCell (p := ⟨w.heap.size + 1 + 1, 0, none⟩) (show w.heap.size ≤ w.heap.size + 1 + 1 by omega) _).setCell (p := ⟨w.heap.size + 1 + 1, 1, none⟩) (show w.heap.size ≤ w.heap.size + 1 + 1 by omega) _, h1, h2⟩
  exact (ho.kept (fun j h1 _ => (far_set (by omega)).trans (far_set (by omega))) (by omega)).wider (by omega) (by have := ho.1; omega) (Nat.le_refl _)
theorem PuK.set {w W : World} {aA aB : Option Addr} {cA cB X i : Nat} {A C : List Int} {go : Option Addr} {gc : Nat} {bo : Option Addr} {bc : Nat} {g : List Int} {n : Nat} {L : Nat → List Int} {fi ol he : Bool} {la : Int} {v : Value} (h : PuK w W aA aB cA cB A C go gc bo bc g n L fi ol he la) (hX : w.heap.size + 1 + 1 + 1 ≤ X) : PuK w (W.setCell ⟨X, i, none⟩ v) aA aB cA cB A C go gc bo bc g n L fi ol he la :=
  ⟨h.1.setCell (p := ⟨X, i, none⟩) (show w.heap.size ≤ X by omega) _, h.2.1.far (by omega), (far_set (by omega)).trans h.2.2.1, h.2.2.2.1.far (by omega), by have := h.2.2.2.2; simpa [World.setCell] using this⟩

set_option maxHeartbeats 2000000 in
theorem slotput_spec (aA aB : Option Addr) (cA cB : Nat) (A C : List Int) (go bo : Option Addr) (gc bc : Nat) (g : List Int) (n : Nat) (L : Nat → List Int) (fi ol he : Bool) (la : Int) (w : World) (hA : VBy w aA cA A) (hB : VBy w aB cB C) (nA : NC aA cA) (nB : NC aB cB) (hd : Bd g n L) (hv : MV w go gc bo bc g n L) :
    Calls Tryz.prog 54 #[.agg #[.slice aA A.length cA, .slice aB C.length cB], .agg #[.slice go g.length gc, .slice bo n bc, .bool fi, .bool ol, .bool he, .int .i64 la]] w fun e w' => PtOut w w' ((ptA Classical.propDecidable) A C ((slm Classical.propDecidable) g n L fi ol he la ((sqv Classical.propDecidable) ((latL Classical.propDecidable) A C) + 1))) ((ptB Classical.propDecidable) A C ((slm Classical.propDecidable) g n L fi ol he la ((sqv Classical.propDecidable) ((latL Classical.propDecidable) A C) + 1))) e := by
  obtain ⟨W, hW⟩ : ∃ W, W = (((w.alloc (.cells #[.slice aA A.length cA, .slice aB C.length cB] 28)).alloc (.cells #[.slice go g.length gc, .slice bo n bc, .bool fi, .bool ol, .bool he, .int .i64 la] 25)).alloc (.cells #[.slice none 0 0, .slice none 0 0] 28)) := ⟨_, rfl⟩
  have hk : PuK w W aA aB cA cB A C go gc bo bc g n L fi ol he la := by rw [hW]; exact puk_new w aA aB cA cB A C go gc bo bc g n L fi ol he la
  have hcall := hide (copys_spec aA aB cA cB A C W (hA.below hk.1) (hB.below hk.1) nA nB)
  have HK := hide hk
  have HVA := hide hA
  have HVB := hide hB
  have HD := hide hd
  have HV := hide hv
  clear hA hB hd hv hk nA nB
  have hq := sqv_bd ((latL Classical.propDecidable) A C)
  go_enter Tryz.func54, Tryz.ntmps54
  go_wp2_with fail
  rw [← hW]
  clear hW
  refine hcall.out.mono ?_
  rintro e w1 ⟨bA, bB, dA, dB, rfl, o1, b1, n1, n2⟩
  have bX := bal1 w1 (.cells #[.slice bA A.length dA, .slice bB C.length dB] 28)
  have H1 : Hid ((PuK w (w1.alloc (.cells #[.slice bA A.length dA, .slice bB C.length dB] 28)) aA aB cA cB A C go gc bo bc g n L fi ol he la) ∧ SB (w1.alloc (.cells #[.slice bA A.length dA, .slice bB C.length dB] 28)) w1.heap.size 28 bA A.length dA bB C.length dB ∧ OSl (w1.alloc (.cells #[.slice bA A.length dA, .slice bB C.length dB] 28)) W.heap.size w1.heap.size bA dA bB dB A C ∧ (w.heap.size + 1 + 1 + 1 ≤ W.heap.size ∧ W.heap.size ≤ w1.heap.size)) := ⟨(HK.out.b b1).b bX, SB.new w1 _ _ _ _ _ _ _, o1.below bX (Nat.le_refl _), HK.out.2.2.2.2, b1.size⟩
  have HN := hide (And.intro n1 n2)
  obtain ⟨p0, p1⟩ := H1.out.1.2.1.cells
  clear o1 b1 bX n1 n2 hcall HK
  go_wp2_with fail
  generalize w1.alloc (.cells #[.slice bA A.length dA, .slice bB C.length dB] 28) = W1 at *
  generalize w1.heap.size = X1 at *
  refine (slotget_spec aA aB cA cB A C W1 (HVA.out.below H1.out.1.1) (HVB.out.below H1.out.1.1)).mono ?_
  rintro e w2 h2
  obtain ⟨a1, a2, l1, k1, l2, k2, t1, t2, t3, t4, x5, rfl, b2⟩ := h2.tell
  have bY := bal1 w2 (.cells #[.slice a1 l1 k1, .slice a2 l2 k2, .bool t1, .bool t2, .bool t3, .int .i64 x5] 25)
  have b2' : Below W1.heap.size W1 (w2.alloc (.cells #[.slice a1 l1 k1, .slice a2 l2 k2, .bool t1, .bool t2, .bool t3, .int .i64 x5] 25)) := b2.trans (bY.mono b2.size)
  have hX1 := H1.out.2.1.lt
  have H2 : Hid ((PuK w (w2.alloc (.cells #[.slice a1 l1 k1, .slice a2 l2 k2, .bool t1, .bool t2, .bool t3, .int .i64 x5] 25)) aA aB cA cB A C go gc bo bc g n L fi ol he la) ∧ SB (w2.alloc (.cells #[.slice a1 l1 k1, .slice a2 l2 k2, .bool t1, .bool t2, .bool t3, .int .i64 x5] 25)) X1 28 bA A.length dA bB C.length dB ∧ OSl (w2.alloc (.cells #[.slice a1 l1 k1, .slice a2 l2 k2, .bool t1, .bool t2, .bool t3, .int .i64 x5] 25)) W.heap.size X1 bA dA bB dB A C ∧ (w.heap.size + 1 + 1 + 1 ≤ W.heap.size ∧ W.heap.size ≤ X1)) := ⟨H1.out.1.b b2', H1.out.2.1.b b2', H1.out.2.2.1.below b2' (by omega), H1.out.2.2.2⟩
  have hmk := hide (mtok_spec go bo gc bc g n L fi ol he la _ HD.out (HV.out.below H2.out.1.1))
  obtain ⟨m0, m1, m2, m3, m4, m5⟩ := H2.out.1.2.2.1.cells
  clear b2 bY b2' H1 h2 hX1 p0 p1
  have HXq : Hid (∃ z, z = (sqv Classical.propDecidable) ((latL Classical.propDecidable) A C)) := ⟨_, rfl⟩
  obtain ⟨z, hz⟩ := HXq.out
  rw [← hz] at hq ⊢
  have HZ := hide hz
  clear hz
  go_wp2_with fail
  generalize (w2.alloc (.cells #[.slice a1 l1 k1, .slice a2 l2 k2, .bool t1, .bool t2, .bool t3, .int .i64 x5] 25)) = W2 at *
  refine hmk.out.mono ?_
  rintro e w3 ⟨h3, b3⟩
  have hX2 := H2.out.2.1.lt
  have H3 : Hid ((PuK w w3 aA aB cA cB A C go gc bo bc g n L fi ol he la) ∧ SB w3 X1 28 bA A.length dA bB C.length dB ∧ OSl w3 W.heap.size X1 bA dA bB dB A C ∧ (w.heap.size + 1 + 1 + 1 ≤ W.heap.size ∧ W.heap.size ≤ X1)) := ⟨H2.out.1.b b3, H2.out.2.1.b b3, H2.out.2.2.1.below b3 (by omega), H2.out.2.2.2⟩
  clear b3 H2 hmk m0 m1 m2 m3 m4 m5 hX2
  rcases h3 with ⟨hok, rfl⟩ | ⟨hok, rfl⟩
  case inr =>
    have HE : Hid ((slm Classical.propDecidable) g n L fi ol he la ((sqv Classical.propDecidable) ((latL Classical.propDecidable) A C) + 1) = []) := slm_no (fun h => hok h.1)
    clear hok
    obtain ⟨o0, o1⟩ := H3.out.2.1.cells
    obtain ⟨r0, r1⟩ := H3.out.1.2.2.2.1.cells
    have rz := H3.out.1.2.2.2.1.froz
    go_wp2
    refine bodyPost_ret (v := .agg #[.slice bA A.length dA, .slice bB C.length dB]) (by simp [results, Tryz.results54, go_sem, r0, r1]) rfl ?_
    exact (pu_end H3.out.1 H3.out.2.2.1 H3.out.2.2.2.1 HN.out.1 HN.out.2).congr (by rw [HE.out, ptA_nil]) (by rw [HE.out, ptB_nil])
  by_cases hmx : (1000000 : Int) ≤ z
  case pos =>
    have HE : Hid ((slm Classical.propDecidable) g n L fi ol he la ((sqv Classical.propDecidable) ((latL Classical.propDecidable) A C) + 1) = []) := slm_no (fun h => by have := h.2; rw [← HZ.out] at this; omega)
    obtain ⟨o0, o1⟩ := H3.out.2.1.cells
    obtain ⟨r0, r1⟩ := H3.out.1.2.2.2.1.cells
    have rz := H3.out.1.2.2.2.1.froz
    go_wp2
    refine bodyPost_ret (v := .agg #[.slice bA A.length dA, .slice bB C.length dB]) (by simp [results, Tryz.results54, go_sem, r0, r1]) rfl ?_
    exact (pu_end H3.out.1 H3.out.2.2.1 H3.out.2.2.2.1 HN.out.1 HN.out.2).congr (by rw [HE.out, ptA_nil]) (by rw [HE.out, ptB_nil])
  obtain ⟨p0, p1⟩ := H3.out.1.2.1.cells
  go_wp2_with fail
  refine (which_spec aA aB cA cB A C w3 (HVA.out.below H3.out.1.1) (HVB.out.below H3.out.1.1)).mono ?_
  rintro e w4 ⟨x, rfl, hx, b4⟩
  have hX3 := H3.out.2.1.lt
  have H4 : Hid ((PuK w w4 aA aB cA cB A C go gc bo bc g n L fi ol he la) ∧ SB w4 X1 28 bA A.length dA bB C.length dB ∧ OSl w4 W.heap.size X1 bA dA bB dB A C ∧ (w.heap.size + 1 + 1 + 1 ≤ W.heap.size ∧ W.heap.size ≤ X1)) := ⟨H3.out.1.b b4, H3.out.2.1.b b4, H3.out.2.2.1.below b4 (by omega), H3.out.2.2.2⟩
  clear b4 H3 p0 p1 hX3
  have hxl : (Lat A C ∧ x = 0) ∨ (¬ Lat A C ∧ ¬ x = 0) := by
    rcases hx with ⟨h, e⟩ | ⟨h, _, e⟩ | ⟨h1, h2, e⟩
    · exact .inl ⟨h, e⟩
    · exact .inr ⟨h, by omega⟩
    · exact .inr ⟨wh_no h1 h2, by omega⟩
  clear hx
  rcases hxl with ⟨hl, rfl⟩ | ⟨hl, hx0⟩
  · have HLt := hide hl
    clear hl
    have hsl := hide (slot_spec go bo gc bc g n L fi ol he la (z + 1) w4 HD.out (HV.out.below H4.out.1.1) (by omega) (by omega))
    rw [mtb_yes hok, ← slm_yes hok ⟨by omega, by omega⟩, HZ.out] at hsl
    obtain ⟨X, hX⟩ : ∃ X, X = (slm Classical.propDecidable) g n L fi ol he la ((sqv Classical.propDecidable) ((latL Classical.propDecidable) A C) + 1) := ⟨_, rfl⟩
    have HXn : Hid (X ≠ []) := by rw [hX, ← HZ.out]; exact slm_ne hok ⟨by omega, by omega⟩
    have HX := hide hX
    rw [← hX, ← HZ.out] at hsl
    obtain ⟨m0, m1, m2, m3, m4, m5⟩ := H4.out.1.2.2.1.cells
    clear hX
    go_wp2_with fail
    refine hsl.out.mono ?_
    rintro e w5 ⟨v5, rfl, ho5, b5⟩
    obtain ⟨xo, xc, rfl, hxc, hr5⟩ := rb_owns ho5
    have hx5 : NC xo xc := fun e => by
      rcases ho5.2 with ⟨h, _⟩ | ⟨_, _, _, h, _⟩
      · simp at h; exact h.2.2
      · simp [e] at h
    have hX4 := H4.out.2.1.lt
    have H5a : Hid ((PuK w w5 aA aB cA cB A C go gc bo bc g n L fi ol he la) ∧ SB w5 X1 28 bA A.length dA bB C.length dB ∧ OSl w5 W.heap.size X1 bA dA bB dB A C ∧ (w.heap.size + 1 + 1 + 1 ≤ W.heap.size ∧ W.heap.size ≤ X1)) := ⟨H4.out.1.b b5, H4.out.2.1.b b5, H4.out.2.2.1.below b5 (by omega), H4.out.2.2.2⟩
    have HO5 := hide (osl_put1 H5a.out.2.2.1 hr5 hxc (Nat.le_of_lt hX4))
    obtain ⟨o0, o1⟩ := H5a.out.2.1.cells
    have oz := H5a.out.2.1.froz
    have HK5 : Hid (PuK w (w5.setCell ⟨X1, 1, none⟩ (.slice xo X.length xc)) aA aB cA cB A C go gc bo bc g n L fi ol he la) := H5a.out.1.set (by have := H5a.out.2.2.2; omega)
    have hS6 := H5a.out.2.1.set1 (a' := xo) (n' := X.length) (c' := xc)
    obtain ⟨r0, r1⟩ := HK5.out.2.2.2.1.cells
    have rz := HK5.out.2.2.2.1.froz
    obtain ⟨s0, s1⟩ := hS6.cells
    have hB5 := H5a.out.2.2.2.1
    have HX1 : Hid (X1 < w5.heap.size ∧ W.heap.size ≤ X1) := ⟨H5a.out.2.1.lt, H5a.out.2.2.2.2⟩
    clear ho5 b5 hr5 hsl m0 m1 m2 m3 m4 m5 hS6
    go_wp2
    refine bodyPost_ret (v := .agg #[.slice bA A.length dA, .slice xo X.length xc]) (by simp [results, Tryz.results54, go_sem, r0, r1]) rfl ?_
    rw [← HX.out]
    have hF : OSl (w5.setCell ⟨X1, 1, none⟩ (.slice xo X.length xc)) W.heap.size w5.heap.size bA dA xo xc A X := by
      exact HO5.out.tyfar H5a.out.2.1
    exact (pu_end HK5.out hF hB5 HN.out.1 hx5).congr (by rw [ptA_lat HLt.out]) (by rw [ptB_lat HLt.out HXn.out])
  · have HLt := hide hl
    clear hl
    have hsl := hide (slot_spec go bo gc bc g n L fi ol he la (z + 1) w4 HD.out (HV.out.below H4.out.1.1) (by omega) (by omega))
    rw [mtb_yes hok, ← slm_yes hok ⟨by omega, by omega⟩, HZ.out] at hsl
    obtain ⟨X, hX⟩ : ∃ X, X = (slm Classical.propDecidable) g n L fi ol he la ((sqv Classical.propDecidable) ((latL Classical.propDecidable) A C) + 1) := ⟨_, rfl⟩
    have HXn : Hid (X ≠ []) := by rw [hX, ← HZ.out]; exact slm_ne hok ⟨by omega, by omega⟩
    have HX := hide hX
    rw [← hX, ← HZ.out] at hsl
    obtain ⟨m0, m1, m2, m3, m4, m5⟩ := H4.out.1.2.2.1.cells
    clear hX
    go_wp2_with fail
    refine hsl.out.mono ?_
    rintro e w5 ⟨v5, rfl, ho5, b5⟩
    obtain ⟨xo, xc, rfl, hxc, hr5⟩ := rb_owns ho5
    have hx5 : NC xo xc := fun e => by
      rcases ho5.2 with ⟨h, _⟩ | ⟨_, _, _, h, _⟩
      · simp at h; exact h.2.2
      · simp [e] at h
    have hX4 := H4.out.2.1.lt
    have H5a : Hid ((PuK w w5 aA aB cA cB A C go gc bo bc g n L fi ol he la) ∧ SB w5 X1 28 bA A.length dA bB C.length dB ∧ OSl w5 W.heap.size X1 bA dA bB dB A C ∧ (w.heap.size + 1 + 1 + 1 ≤ W.heap.size ∧ W.heap.size ≤ X1)) := ⟨H4.out.1.b b5, H4.out.2.1.b b5, H4.out.2.2.1.below b5 (by omega), H4.out.2.2.2⟩
    have HO5 := hide (osl_put0 H5a.out.2.2.1 hr5 hxc (Nat.le_of_lt hX4))
    obtain ⟨o0, o1⟩ := H5a.out.2.1.cells
    have oz := H5a.out.2.1.froz
    have HK5 : Hid (PuK w (w5.setCell ⟨X1, 0, none⟩ (.slice xo X.length xc)) aA aB cA cB A C go gc bo bc g n L fi ol he la) := H5a.out.1.set (by have := H5a.out.2.2.2; omega)
    have hS6 := H5a.out.2.1.set0 (a' := xo) (n' := X.length) (c' := xc)
    obtain ⟨r0, r1⟩ := HK5.out.2.2.2.1.cells
    have rz := HK5.out.2.2.2.1.froz
    obtain ⟨s0, s1⟩ := hS6.cells
    have hB5 := H5a.out.2.2.2.1
    have HX1 : Hid (X1 < w5.heap.size ∧ W.heap.size ≤ X1) := ⟨H5a.out.2.1.lt, H5a.out.2.2.2.2⟩
    clear ho5 b5 hr5 hsl m0 m1 m2 m3 m4 m5 hS6
    go_wp2
    refine bodyPost_ret (v := .agg #[.slice xo X.length xc, .slice bB C.length dB]) (by simp [results, Tryz.results54, go_sem, r0, r1]) rfl ?_
    rw [← HX.out]
    have hF : OSl (w5.setCell ⟨X1, 0, none⟩ (.slice xo X.length xc)) W.heap.size w5.heap.size xo xc bB dB X C := by
      exact HO5.out.tyfar H5a.out.2.1
    exact (pu_end HK5.out hF hB5 hx5 HN.out.2).congr (by rw [ptA_not HLt.out HXn.out]) (by rw [ptB_not HLt.out])

set_option maxHeartbeats 2000000 in
theorem slotput_impl (aA aB : Option Addr) (cA cB : Nat) (A C : List Int) (go bo : Option Addr) (gc bc : Nat) (g : List Int) (n : Nat) (L : Nat → List Int) (fi ol he : Bool) (la : Int) (w : World) (hg : ErrT w) (hA : VBy w aA cA A) (hB : VBy w aB cB C) (nA : NC aA cA) (nB : NC aB cB) (hd : Bd g n L) (hv : MV w go gc bo bc g n L) :
    Calls Tryz.prog 58 #[.agg #[.slice aA A.length cA, .slice aB C.length cB], .agg #[.slice go g.length gc, .slice bo n bc, .bool fi, .bool ol, .bool he, .int .i64 la]] w fun e w' => PtOut w w' ((ptA Classical.propDecidable) A C ((slm Classical.propDecidable) g n L fi ol he la ((sqv Classical.propDecidable) ((latL Classical.propDecidable) A C) + 1))) ((ptB Classical.propDecidable) A C ((slm Classical.propDecidable) g n L fi ol he la ((sqv Classical.propDecidable) ((latL Classical.propDecidable) A C) + 1))) e := by
  obtain ⟨W, hW⟩ : ∃ W, W = (((w.alloc (.cells #[.slice aA A.length cA, .slice aB C.length cB] 28)).alloc (.cells #[.slice go g.length gc, .slice bo n bc, .bool fi, .bool ol, .bool he, .int .i64 la] 25)).alloc (.cells #[.slice none 0 0, .slice none 0 0] 28)) := ⟨_, rfl⟩
  have hk : PuK w W aA aB cA cB A C go gc bo bc g n L fi ol he la := by rw [hW]; exact puk_new w aA aB cA cB A C go gc bo bc g n L fi ol he la
  have hcall := hide (clones_impl aA aB cA cB A C W (hA.below hk.1) (hB.below hk.1) nA nB)
  have HK := hide hk
  have HG := hide hg
  have HBA := hide hA.by
  have HBB := hide hB.by
  have HD := hide hd
  have HV := hide hv
  clear hA hB hd hv hk nA nB hg
  have hq := sqv_bd ((latL Classical.propDecidable) A C)
  go_enter Tryz.func58, Tryz.ntmps58
  go_wp2_with fail
  rw [← hW]
  clear hW
  refine hcall.out.mono ?_
  rintro e w1 ⟨bA, bB, dA, dB, rfl, o1, b1, n1, n2⟩
  have bX := bal1 w1 (.cells #[.slice bA A.length dA, .slice bB C.length dB] 28)
  have H1 : Hid ((PuK w (w1.alloc (.cells #[.slice bA A.length dA, .slice bB C.length dB] 28)) aA aB cA cB A C go gc bo bc g n L fi ol he la) ∧ SB (w1.alloc (.cells #[.slice bA A.length dA, .slice bB C.length dB] 28)) w1.heap.size 28 bA A.length dA bB C.length dB ∧ OSl (w1.alloc (.cells #[.slice bA A.length dA, .slice bB C.length dB] 28)) W.heap.size w1.heap.size bA dA bB dB A C ∧ (w.heap.size + 1 + 1 + 1 ≤ W.heap.size ∧ W.heap.size ≤ w1.heap.size)) := ⟨(HK.out.b b1).b bX, SB.new w1 _ _ _ _ _ _ _, o1.below bX (Nat.le_refl _), HK.out.2.2.2.2, b1.size⟩
  have HN := hide (And.intro n1 n2)
  clear o1 b1 bX n1 n2 hcall HK
  go_wp2_with fail
  generalize w1.alloc (.cells #[.slice bA A.length dA, .slice bB C.length dB] 28) = W1 at *
  generalize w1.heap.size = X1 at *
  refine (latest_impl X1 bA bB dA dB A C W1 (HG.out.below H1.out.1.1) H1.out.2.1 (H1.out.2.2.1.va HBA.out) (H1.out.2.2.1.vb HBB.out)).mono ?_
  rintro e w2 ⟨rfl, b2⟩
  have hX1 := H1.out.2.1.lt
  have H2 : Hid ((PuK w w2 aA aB cA cB A C go gc bo bc g n L fi ol he la) ∧ SB w2 X1 28 bA A.length dA bB C.length dB ∧ OSl w2 W.heap.size X1 bA dA bB dB A C ∧ (w.heap.size + 1 + 1 + 1 ≤ W.heap.size ∧ W.heap.size ≤ X1)) := ⟨H1.out.1.b b2, H1.out.2.1.b b2, H1.out.2.2.1.below b2 (by omega), H1.out.2.2.2⟩
  have bd : Below w2.heap.size w2 w2.drew := Below.drawn (Below.refl _ _) 1
  have hX2 := H2.out.2.1.lt
  have H2d : Hid ((PuK w w2.drew aA aB cA cB A C go gc bo bc g n L fi ol he la) ∧ SB w2.drew X1 28 bA A.length dA bB C.length dB ∧ OSl w2.drew W.heap.size X1 bA dA bB dB A C ∧ (w.heap.size + 1 + 1 + 1 ≤ W.heap.size ∧ W.heap.size ≤ X1)) := ⟨H2.out.1.b bd, H2.out.2.1.b bd, H2.out.2.2.1.below bd (by omega), H2.out.2.2.2⟩
  clear b2 H1 hX1 H2
  obtain ⟨ao, cap, hc, hvl⟩ := lat_cell H2d.out.2.1 (H2d.out.2.2.1.va HBA.out) (H2d.out.2.2.1.vb HBB.out)
  have hnx := hide (next_impl ao cap ((latL Classical.propDecidable) A C) go bo gc bc g n L fi ol he la w2.drew (HG.out.below H2d.out.1.1) hvl HD.out (HV.out.below H2d.out.1.1))
  obtain ⟨X, hX⟩ : ∃ X, X = (slm Classical.propDecidable) g n L fi ol he la ((sqv Classical.propDecidable) ((latL Classical.propDecidable) A C) + 1) := ⟨_, rfl⟩
  rw [← hX] at hnx
  have HX := hide hX
  have hS := And.intro hc H2d.out.1.2.2.1.cells
  have hX4d : X1 < w2.drew.heap.size := hX2
  have HLC : Hid (∀ w', SB w' X1 28 bA A.length dA bB C.length dB → w'.cell? ⟨X1, (latN Classical.propDecidable) A C, none⟩ = some (.slice ao ((latL Classical.propDecidable) A C).length cap)) := fun w' h => by
    have h0 := H2d.out.2.1.cells
    by_cases hl : Lat A C
    · rw [latN_yes hl] at hc ⊢
      rw [h.cells.1, ← hc, h0.1]
    · rw [latN_no hl] at hc ⊢
      rw [h.cells.2, ← hc, h0.2]
  clear hX hvl bd hc
  go_wp2_with fail
  go_region_held3 (fun w' => w'.cell? ⟨X1, (latN Classical.propDecidable) A C, none⟩ = some (.slice ao ((latL Classical.propDecidable) A C).length cap) ∧ (w'.cell? ⟨w.heap.size + 1, 0, none⟩ = some (.slice go g.length gc) ∧ w'.cell? ⟨w.heap.size + 1, 1, none⟩ = some (.slice bo n bc) ∧ w'.cell? ⟨w.heap.size + 1, 2, none⟩ = some (.bool fi) ∧ w'.cell? ⟨w.heap.size + 1, 3, none⟩ = some (.bool ol) ∧ w'.cell? ⟨w.heap.size + 1, 4, none⟩ = some (.bool he) ∧ w'.cell? ⟨w.heap.size + 1, 5, none⟩ = some (.int .i64 la))) (first | with_reducible assumption | exact hS) (first
    | (go_at_call 139; refine hnx.out.mono ?_; rintro e w5 ⟨v5, rfl, ho5, b5⟩; obtain ⟨xo, xc, rfl, hxc, hr5⟩ := rb_owns ho5; have H5a : Hid ((PuK w w5 aA aB cA cB A C go gc bo bc g n L fi ol he la) ∧ SB w5 X1 28 bA A.length dA bB C.length dB ∧ OSl w5 W.heap.size X1 bA dA bB dB A C ∧ (w.heap.size + 1 + 1 + 1 ≤ W.heap.size ∧ W.heap.size ≤ X1)) := ⟨H2d.out.1.b b5, H2d.out.2.1.b b5, H2d.out.2.2.1.below b5 (by omega), H2d.out.2.2.2⟩; have hk5 := And.intro (HLC.out w5 H5a.out.2.1) H5a.out.1.2.2.1.cells; have hx5 : NC xo xc := nc_owns ho5; clear ho5 b5))
  have hX4 : X1 < w2.drew.heap.size := hX4d
  clear hS hk5 hnx H2d HLC
  by_cases hX0 : X.length = 0
  · have HE : Hid ((slm Classical.propDecidable) g n L fi ol he la ((sqv Classical.propDecidable) ((latL Classical.propDecidable) A C) + 1) = []) := by rw [← HX.out]; exact List.length_eq_zero_iff.1 hX0
    have hl0 : ¬ (0 : Int) < (X.length : Int) := by omega
    obtain ⟨o0, o1⟩ := H5a.out.2.1.cells
    obtain ⟨r0, r1⟩ := H5a.out.1.2.2.2.1.cells
    have rz := H5a.out.1.2.2.2.1.froz
    go_wp2
    refine bodyPost_ret (v := .agg #[.slice bA A.length dA, .slice bB C.length dB]) (by simp [results, Tryz.results58, go_sem, r0, r1]) rfl ?_
    exact (pu_end H5a.out.1 H5a.out.2.2.1 H5a.out.2.2.2.1 HN.out.1 HN.out.2).congr (by rw [HE.out, ptA_nil]) (by rw [HE.out, ptB_nil])
  · have HXn : Hid (X ≠ []) := fun e => hX0 (by rw [e]; rfl)
    have hl0 : (0 : Int) < (X.length : Int) := by omega
    by_cases hl : Lat A C
    · have HLt := hide hl
      clear hl
      rw [latN_yes HLt.out]
      have HO5 := hide (osl_put1 H5a.out.2.2.1 hr5 hxc (Nat.le_of_lt hX4))
      obtain ⟨o0, o1⟩ := H5a.out.2.1.cells
      have oz := H5a.out.2.1.froz
      have HK5 : Hid (PuK w (w5.setCell ⟨X1, 1, none⟩ (.slice xo X.length xc)) aA aB cA cB A C go gc bo bc g n L fi ol he la) := H5a.out.1.set (by have := H5a.out.2.2.2; omega)
      have hS6 := H5a.out.2.1.set1 (a' := xo) (n' := X.length) (c' := xc)
      obtain ⟨r0, r1⟩ := HK5.out.2.2.2.1.cells
      have rz := HK5.out.2.2.2.1.froz
      obtain ⟨s0, s1⟩ := hS6.cells
      have hB5 := H5a.out.2.2.2.1
      clear hr5 hS6
      go_wp2
      refine bodyPost_ret (v := .agg #[.slice bA A.length dA, .slice xo X.length xc]) (by simp [results, Tryz.results58, go_sem, r0, r1]) rfl ?_
      rw [← HX.out]
      have hF : OSl (w5.setCell ⟨X1, 1, none⟩ (.slice xo X.length xc)) W.heap.size w5.heap.size bA dA xo xc A X := HO5.out.tyfar H5a.out.2.1
      exact (pu_end HK5.out hF hB5 HN.out.1 hx5).congr (by rw [ptA_lat HLt.out]) (by rw [ptB_lat HLt.out HXn.out])
    · have HLt := hide hl
      clear hl
      rw [latN_no HLt.out]
      have HO5 := hide (osl_put0 H5a.out.2.2.1 hr5 hxc (Nat.le_of_lt hX4))
      obtain ⟨o0, o1⟩ := H5a.out.2.1.cells
      have oz := H5a.out.2.1.froz
      have HK5 : Hid (PuK w (w5.setCell ⟨X1, 0, none⟩ (.slice xo X.length xc)) aA aB cA cB A C go gc bo bc g n L fi ol he la) := H5a.out.1.set (by have := H5a.out.2.2.2; omega)
      have hS6 := H5a.out.2.1.set0 (a' := xo) (n' := X.length) (c' := xc)
      obtain ⟨r0, r1⟩ := HK5.out.2.2.2.1.cells
      have rz := HK5.out.2.2.2.1.froz
      obtain ⟨s0, s1⟩ := hS6.cells
      have hB5 := H5a.out.2.2.2.1
      clear hr5 hS6
      go_wp2
      refine bodyPost_ret (v := .agg #[.slice xo X.length xc, .slice bB C.length dB]) (by simp [results, Tryz.results58, go_sem, r0, r1]) rfl ?_
      rw [← HX.out]
      have hF : OSl (w5.setCell ⟨X1, 0, none⟩ (.slice xo X.length xc)) W.heap.size w5.heap.size xo xc bB dB X C := HO5.out.tyfar H5a.out.2.1
      exact (pu_end HK5.out hF hB5 hx5 HN.out.2).congr (by rw [ptA_not HLt.out HXn.out]) (by rw [ptB_not HLt.out])
end Go.Proofs.YtkndnndildnbpaaGreatDoor

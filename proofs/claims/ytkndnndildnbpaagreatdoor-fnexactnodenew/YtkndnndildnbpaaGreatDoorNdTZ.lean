/- A node made of one that came in: toNode of the laws. -/
import Derived.Test.YtkndnndildnbpaaGreatDoorNdWZ
import Derived.Test.YtkndnndildnbpaaGreatDoorGd

namespace Go.Proofs.YtkndnndildnbpaaGreatDoor
open Go.ChangeShapes Go.WideShapes Go.ChangeAt Go.RowKit
set_option linter.unusedVariables false
set_option linter.unusedSimpArgs false
set_option maxRecDepth 100000

/-- What a call hands back in memory of its own: numbers, bools, slices of numbers, a meta, two slots. -/
def RI (w w' : World) (l : List Int) (e : Ending) : Prop := ∃ p c, e = .returned (.slice p l.length c) ∧ RS w' w.heap.size w'.heap.size [⟨3, p, c, ir l⟩] ∧ Below w.heap.size w w'
def RO (w w' : World) (l : List Bool) (e : Ending) : Prop := ∃ p c, e = .returned (.slice p l.length c) ∧ RS w' w.heap.size w'.heap.size [⟨4, p, c, br l⟩] ∧ Below w.heap.size w w'
def RSS (w w' : World) (n : Nat) (L : Nat → List Int) (e : Ending) : Prop := ∃ p c R, e = .returned (.slice p n c) ∧ RS w' w.heap.size w'.heap.size (srows p c R n L) ∧ Below w.heap.size w w'
def RM (w w' : World) (g : List Int) (n : Nat) (L : Nat → List Int) (fi ol he : Bool) (la : Int) (e : Ending) : Prop := ∃ go gc bo bc R, e = .returned (.agg #[.slice go g.length gc, .slice bo n bc, .bool fi, .bool ol, .bool he, .int .i64 la]) ∧ RS w' w.heap.size w'.heap.size (mrows go gc bo bc R g n L) ∧ Below w.heap.size w w'
def RSl (w w' : World) (A C : List Int) (e : Ending) : Prop := ∃ bA bB dA dB, e = .returned (.agg #[.slice bA A.length dA, .slice bB C.length dB]) ∧ (NC bA dA ∧ NC bB dB) ∧ RS w' w.heap.size w'.heap.size [⟨5, bA, dA, yr A⟩, ⟨5, bB, dB, yr C⟩] ∧ Below w.heap.size w w'
theorem toi_r (ao : Option Addr) (cap : Nat) (l : List Int) (w : World) (hn : l.length ≤ 1048576) (hs : SL .i64 w ao l.length (fun i => l.getD i 0)) :
    Calls Tryz.prog 82 #[.slice ao l.length cap] w fun e w' => RI w w' l e :=
  (ito_any ao l.length cap (fun i => l.getD i 0) w hn hs).mono fun e w' ⟨h1, h2, h3⟩ =>
    ⟨_, _, h1, RS.one (RwOk.of (F := lv l) (by obtain ⟨c, hc, hcs, hF⟩ := h2; exact .inr ⟨_, rfl, ⟨Nat.le_refl _, (Array.getElem?_eq_some_iff.1 hc).1⟩, c, hc, by omega, hF⟩) (ir_len l) (Nat.le_refl _) fun i hi => ir_get l i hi), h3⟩
theorem tob_r (ao : Option Addr) (cap : Nat) (l : List Bool) (w : World) (hn : l.length ≤ 1048576) (hs : SLb w ao l.length (fun i => l.getD i false)) :
    Calls Tryz.prog 85 #[.slice ao l.length cap] w fun e w' => RO w w' l e :=
  (tobs_any ao l.length cap (fun i => l.getD i false) w hn hs).mono fun e w' ⟨h1, h2, h3⟩ =>
    ⟨_, _, h1, RS.one (RwOk.of (F := fun i => .bool (l.getD i false)) (by obtain ⟨c, hc, hcs, hF⟩ := h2; exact .inr ⟨_, rfl, ⟨Nat.le_refl _, (Array.getElem?_eq_some_iff.1 hc).1⟩, c, hc, by omega, hF⟩) (br_len l) (Nat.le_refl _) fun i hi => br_get l i hi), h3⟩
theorem toss_r (bo : Option Addr) (n bc : Nat) (L : Nat → List Int) (w : World) (hn : n ≤ 1048576) (hL : ∀ i, i < n → (L i).length ≤ 1048576) (hv : BV w bo n L) :
    Calls Tryz.prog 86 #[.slice bo n bc] w fun e w' => RSS w w' n L e :=
  (toss_any bo n bc L w hn hL hv).mono fun e w' ⟨h1, ⟨R, h2, h3⟩, h4⟩ => ⟨_, _, R, h1, rs_or h2 h3 (Nat.le_refl _), h4⟩
theorem tosl_r (aA aB : Option Addr) (cA cB : Nat) (A C : List Int) (w : World) (hA : VBy w aA cA A) (hB : VBy w aB cB C) :
    Calls Tryz.prog 84 #[.agg #[.slice aA A.length cA, .slice aB C.length cB]] w fun e w' => RSl w w' A C e :=
  (tos_some aA aB cA cB A C w hA hB).mono fun e w' ⟨bA, bB, dA, dB, h1, h2, h3, h4, h5⟩ => ⟨bA, bB, dA, dB, h1, ⟨h4, h5⟩, rs_osl h2, h3⟩
theorem tom_r (go bo : Option Addr) (gc bc : Nat) (g : List Int) (n : Nat) (L : Nat → List Int) (fi ol he : Bool) (la : Int) (w : World) (hd : Bd g n L) (hv : MV w go gc bo bc g n L) :
    Calls Tryz.prog 83 #[.agg #[.slice go g.length gc, .slice bo n bc, .bool fi, .bool ol, .bool he, .int .i64 la]] w fun e w' => RM w w' g n L fi ol he la e :=
  (tom_any go bo gc bc g n L fi ol he la w hd hv).mono fun e w' ⟨go', bo', gc', bc', h1, h2, h3⟩ => by
    obtain ⟨R, hR⟩ := rs_okm h2
    exact ⟨go', gc', bo', bc', R, h1, hR, h3⟩

/-- Nothing yet. -/
def Nd.zero : Nd := ⟨0, false, false, [], [], 0, fun _ => [], false, false, false, 0, [], [], [], 0, fun _ => [], [], []⟩
def Na.zero : Na := ⟨none, 0, none, 0, none, 0, none, 0, none, 0, none, 0, none, 0, none, 0, none, 0⟩
theorem nset {w : World} {b i : Nat} {t : TypeId} {a a' : Na} {d d' : Nd} {v : Value} (h : NB w b t a d) (e : (nds a d).setIfInBounds i v = nds a' d') : NB (w.setCell ⟨b, i, none⟩ v) b t a' d' := by
  have := sblk (o := i) v h
  rw [e] at this
  exact this
theorem NB.far {w w' : World} {b X : Nat} {t : TypeId} {a : Na} {d : Nd} (h : NB w b t a d) (ho : Only X w w') (hne : b ≠ X) : NB w' b t a d := (ho.2.2 b hne).trans h
/-- The node under way: what came in at block w, the result's block, the one that is filled at the third; rows of its own from the fourth on. -/
def TS (w V : World) (a : Na) (d : Nd) (a' : Na) (d' : Nd) (rs : List Rw) : Prop :=
  Below w.heap.size w V ∧ NB V w.heap.size 39 a d ∧ NB V (w.heap.size + 1) 31 Na.zero Nd.zero ∧ NB V (w.heap.size + 1 + 1) 31 a' d' ∧ w.heap.size + 1 + 1 + 1 ≤ V.heap.size ∧ RS V (w.heap.size + 1 + 1 + 1) V.heap.size rs
theorem TS.call {w V V' : World} {a a' : Na} {d d' : Nd} {rs ys : List Rw} (h : TS w V a d a' d' rs) (hb : Below V.heap.size V V') (hr : RS V' V.heap.size V'.heap.size ys) : TS w V' a d a' d' (rs ++ ys) :=
  ⟨h.1.trans (hb.mono h.1.size), h.2.1.b hb, h.2.2.1.b hb, h.2.2.2.1.b hb, Nat.le_trans h.2.2.2.2.1 hb.size, (h.2.2.2.2.2.below hb (Nat.le_refl _)).push hr h.2.2.2.2.1 hb.size⟩
theorem TS.set {w V V' : World} {a a' a2 : Na} {d d' d2 : Nd} {rs : List Rw} (h : TS w V a d a' d' rs) (ho : Only (w.heap.size + 1 + 1) V V') (hn : NB V' (w.heap.size + 1 + 1) 31 a2 d2) : TS w V' a d a2 d2 rs :=
  ⟨h.1.trans (ho.1.mono (by omega)), h.2.1.far ho (by omega), h.2.2.1.far ho (by omega), hn, by rw [ho.2.1]; exact h.2.2.2.2.1, by rw [ho.2.1]; exact h.2.2.2.2.2.kept fun j h1 _ => ho.2.2 j (by omega)⟩
theorem ts_new (w : World) (a a' : Na) (d d' : Nd) : TS w (((w.alloc (.cells (nds a d) 39)).alloc (.cells (nds Na.zero Nd.zero) 31)).alloc (.cells (nds a' d') 31)) a d a' d' [] := by
  obtain ⟨s0, s1, s2, s4⟩ := bal3 w (.cells (nds a d) 39) (.cells (nds Na.zero Nd.zero) 31) (.cells (nds a' d') 31)
  exact ⟨((bal1 _ _).alloc (by simp) _).alloc (by simp; omega) _, s0, s1, s2, by rw [s4]; exact Nat.le_refl _, RS.nil⟩

set_option maxHeartbeats 8000000 in
theorem ton_any (a : Na) (d : Nd) (w : World) (hd : NBd d) (hv : NV w a d) :
    Calls Tryz.prog 22 #[nv a d] w fun e w' => ∃ b, e = .returned (nv b d) ∧ ON w' w.heap.size w'.heap.size b d ∧ Below w.heap.size w w' := by
  obtain ⟨W, hW⟩ : ∃ W, W = (((w.alloc (.cells (nds a d) 39)).alloc (.cells (nds Na.zero Nd.zero) 31)).alloc (.cells (nds Na.zero { Nd.zero with id := d.id, up := d.up, pr := d.pr }) 31)) := ⟨_, rfl⟩
  have T0 : Hid (TS w W a d Na.zero { Nd.zero with id := d.id, up := d.up, pr := d.pr } []) := by rw [hW]; exact ts_new w a _ d _
  have HV : Hid (∀ V, Below w.heap.size w V → NV V a d) := fun V hb => hv.below hb
  have HD := hide hd
  have HY : Hid (Byr d.A ∧ Byr d.C) := ⟨hv.2.2.1.1.2.2, hv.2.2.1.2.2.2⟩
  obtain ⟨p0, p1, p2, p3, p4, p5, p6, p7, p8, p9, p10, p11, p12, p13, p14, p15⟩ := T0.out.2.1.cells
  have z2 := T0.out.2.2.2.1.froz
  obtain ⟨o0, o1, o2, o3, o4, o5, o6, o7, o8, o9, o10, o11, o12, o13, o14, o15⟩ := T0.out.2.2.2.1.cells
  clear hd hv
  unfold nv
  unfold nds Na.zero Nd.zero at hW
  dsimp only [List.length_nil] at hW
  unfold nds
  go_enter Tryz.func22, Tryz.ntmps22
  go_wp2_with fail
  rw [← hW]
  clear hW
  clear p0 p1 p2 p3 p4 p5 p6 p7 p8 p9 p10 p11 p12 p13 p14 p15 o0 o1 o2 o3 o4 o5 o6 o7 o8 o9 o10 o11 o12 o13 o14 o15 z2
  refine (toi_r a.im a.imc d.im W HD.out.1 (HV.out _ T0.out.1).1.1).mono ?_
  rintro e w1 ⟨q0, c0, rfl, r0, b0⟩
  have C1 : Hid (TS w w1 a d Na.zero { Nd.zero with id := d.id, up := d.up, pr := d.pr } ([] ++ [⟨3, q0, c0, ir d.im⟩])) := T0.out.call b0 r0
  clear r0 b0 T0
  obtain ⟨p0, p1, p2, p3, p4, p5, p6, p7, p8, p9, p10, p11, p12, p13, p14, p15⟩ := C1.out.2.1.cells
  obtain ⟨o0, o1, o2, o3, o4, o5, o6, o7, o8, o9, o10, o11, o12, o13, o14, o15⟩ := C1.out.2.2.2.1.cells
  have z2 := C1.out.2.2.2.1.froz
  go_wp2_with fail
  have T1 : Hid (TS w (w1.setCell ⟨w.heap.size + 1 + 1, 3, none⟩ (.slice q0 d.im.length c0)) a d { Na.zero with im := q0, imc := c0 } { Nd.zero with id := d.id, up := d.up, pr := d.pr, im := d.im } ([] ++ [⟨3, q0, c0, ir d.im⟩])) := by
    have h := C1.out
    refine h.set ((Only.refl _ _).setCell _) ?_
    have n0 : NB (w1.setCell ⟨w.heap.size + 1 + 1, 3, none⟩ (.slice q0 d.im.length c0)) (w.heap.size + 1 + 1) 31 { Na.zero with im := q0, imc := c0 } { Nd.zero with id := d.id, up := d.up, pr := d.pr, im := d.im } := nset h.2.2.2.1 rfl
    exact n0
  have e1 : (w1.setCell ⟨w.heap.size + 1 + 1, 3, none⟩ (.slice q0 d.im.length c0)).heap.size = w1.heap.size := by simp [World.setCell]
  clear p0 p1 p2 p3 p4 p5 p6 p7 p8 p9 p10 p11 p12 p13 p14 p15 o0 o1 o2 o3 o4 o5 o6 o7 o8 o9 o10 o11 o12 o13 o14 o15 z2
  clear C1 e1
  generalize (w1.setCell ⟨w.heap.size + 1 + 1, 3, none⟩ (.slice q0 d.im.length c0)) = V1 at *
  refine (tom_r a.go a.bo a.gc a.bc d.g d.n d.L d.fi d.ol d.he d.la V1 HD.out.2.1 (HV.out _ T1.out.1).2.1).mono ?_
  rintro e w2 ⟨q1, c1, q2, c2, R, rfl, r0, b0⟩
  have C2 : Hid (TS w w2 a d { Na.zero with im := q0, imc := c0 } { Nd.zero with id := d.id, up := d.up, pr := d.pr, im := d.im } (([] ++ [⟨3, q0, c0, ir d.im⟩]) ++ mrows q1 c1 q2 c2 R d.g d.n d.L)) := T1.out.call b0 r0
  clear r0 b0 T1
  obtain ⟨p0, p1, p2, p3, p4, p5, p6, p7, p8, p9, p10, p11, p12, p13, p14, p15⟩ := C2.out.2.1.cells
  obtain ⟨o0, o1, o2, o3, o4, o5, o6, o7, o8, o9, o10, o11, o12, o13, o14, o15⟩ := C2.out.2.2.2.1.cells
  have z2 := C2.out.2.2.2.1.froz
  go_wp2_with fail
  have T2 : Hid (TS w ((((((w2.setCell ⟨w.heap.size + 1 + 1, 4, none⟩ (.slice q1 d.g.length c1)).setCell ⟨w.heap.size + 1 + 1, 5, none⟩ (.slice q2 d.n c2)).setCell ⟨w.heap.size + 1 + 1, 6, none⟩ (.bool d.fi)).setCell ⟨w.heap.size + 1 + 1, 7, none⟩ (.bool d.ol)).setCell ⟨w.heap.size + 1 + 1, 8, none⟩ (.bool d.he)).setCell ⟨w.heap.size + 1 + 1, 9, none⟩ (.int .i64 d.la)) a d { Na.zero with im := q0, imc := c0, go := q1, gc := c1, bo := q2, bc := c2 } { Nd.zero with id := d.id, up := d.up, pr := d.pr, im := d.im, g := d.g, n := d.n, L := d.L, fi := d.fi, ol := d.ol, he := d.he, la := d.la } (([] ++ [⟨3, q0, c0, ir d.im⟩]) ++ mrows q1 c1 q2 c2 R d.g d.n d.L)) := by
    have h := C2.out
    refine h.set (((((((Only.refl _ _).setCell _).setCell _).setCell _).setCell _).setCell _).setCell _) ?_
    have n0 : NB (w2.setCell ⟨w.heap.size + 1 + 1, 4, none⟩ (.slice q1 d.g.length c1)) (w.heap.size + 1 + 1) 31 { Na.zero with im := q0, imc := c0, go := q1, gc := c1 } { Nd.zero with id := d.id, up := d.up, pr := d.pr, im := d.im, g := d.g } := nset h.2.2.2.1 rfl
    have n1 : NB ((w2.setCell ⟨w.heap.size + 1 + 1, 4, none⟩ (.slice q1 d.g.length c1)).setCell ⟨w.heap.size + 1 + 1, 5, none⟩ (.slice q2 d.n c2)) (w.heap.size + 1 + 1) 31 { Na.zero with im := q0, imc := c0, go := q1, gc := c1, bo := q2, bc := c2 } { Nd.zero with id := d.id, up := d.up, pr := d.pr, im := d.im, g := d.g, n := d.n, L := d.L } := nset n0 rfl
    have n2 : NB (((w2.setCell ⟨w.heap.size + 1 + 1, 4, none⟩ (.slice q1 d.g.length c1)).setCell ⟨w.heap.size + 1 + 1, 5, none⟩ (.slice q2 d.n c2)).setCell ⟨w.heap.size + 1 + 1, 6, none⟩ (.bool d.fi)) (w.heap.size + 1 + 1) 31 { Na.zero with im := q0, imc := c0, go := q1, gc := c1, bo := q2, bc := c2 } { Nd.zero with id := d.id, up := d.up, pr := d.pr, im := d.im, g := d.g, n := d.n, L := d.L, fi := d.fi } := nset n1 rfl
    have n3 : NB ((((w2.setCell ⟨w.heap.size + 1 + 1, 4, none⟩ (.slice q1 d.g.length c1)).setCell ⟨w.heap.size + 1 + 1, 5, none⟩ (.slice q2 d.n c2)).setCell ⟨w.heap.size + 1 + 1, 6, none⟩ (.bool d.fi)).setCell ⟨w.heap.size + 1 + 1, 7, none⟩ (.bool d.ol)) (w.heap.size + 1 + 1) 31 { Na.zero with im := q0, imc := c0, go := q1, gc := c1, bo := q2, bc := c2 } { Nd.zero with id := d.id, up := d.up, pr := d.pr, im := d.im, g := d.g, n := d.n, L := d.L, fi := d.fi, ol := d.ol } := nset n2 rfl
    have n4 : NB (((((w2.setCell ⟨w.heap.size + 1 + 1, 4, none⟩ (.slice q1 d.g.length c1)).setCell ⟨w.heap.size + 1 + 1, 5, none⟩ (.slice q2 d.n c2)).setCell ⟨w.heap.size + 1 + 1, 6, none⟩ (.bool d.fi)).setCell ⟨w.heap.size + 1 + 1, 7, none⟩ (.bool d.ol)).setCell ⟨w.heap.size + 1 + 1, 8, none⟩ (.bool d.he)) (w.heap.size + 1 + 1) 31 { Na.zero with im := q0, imc := c0, go := q1, gc := c1, bo := q2, bc := c2 } { Nd.zero with id := d.id, up := d.up, pr := d.pr, im := d.im, g := d.g, n := d.n, L := d.L, fi := d.fi, ol := d.ol, he := d.he } := nset n3 rfl
    have n5 : NB ((((((w2.setCell ⟨w.heap.size + 1 + 1, 4, none⟩ (.slice q1 d.g.length c1)).setCell ⟨w.heap.size + 1 + 1, 5, none⟩ (.slice q2 d.n c2)).setCell ⟨w.heap.size + 1 + 1, 6, none⟩ (.bool d.fi)).setCell ⟨w.heap.size + 1 + 1, 7, none⟩ (.bool d.ol)).setCell ⟨w.heap.size + 1 + 1, 8, none⟩ (.bool d.he)).setCell ⟨w.heap.size + 1 + 1, 9, none⟩ (.int .i64 d.la)) (w.heap.size + 1 + 1) 31 { Na.zero with im := q0, imc := c0, go := q1, gc := c1, bo := q2, bc := c2 } { Nd.zero with id := d.id, up := d.up, pr := d.pr, im := d.im, g := d.g, n := d.n, L := d.L, fi := d.fi, ol := d.ol, he := d.he, la := d.la } := nset n4 rfl
    exact n5
  have e2 : ((((((w2.setCell ⟨w.heap.size + 1 + 1, 4, none⟩ (.slice q1 d.g.length c1)).setCell ⟨w.heap.size + 1 + 1, 5, none⟩ (.slice q2 d.n c2)).setCell ⟨w.heap.size + 1 + 1, 6, none⟩ (.bool d.fi)).setCell ⟨w.heap.size + 1 + 1, 7, none⟩ (.bool d.ol)).setCell ⟨w.heap.size + 1 + 1, 8, none⟩ (.bool d.he)).setCell ⟨w.heap.size + 1 + 1, 9, none⟩ (.int .i64 d.la)).heap.size = w2.heap.size := by simp [World.setCell]
  clear p0 p1 p2 p3 p4 p5 p6 p7 p8 p9 p10 p11 p12 p13 p14 p15 o0 o1 o2 o3 o4 o5 o6 o7 o8 o9 o10 o11 o12 o13 o14 o15 z2
  clear C2 e2
  generalize ((((((w2.setCell ⟨w.heap.size + 1 + 1, 4, none⟩ (.slice q1 d.g.length c1)).setCell ⟨w.heap.size + 1 + 1, 5, none⟩ (.slice q2 d.n c2)).setCell ⟨w.heap.size + 1 + 1, 6, none⟩ (.bool d.fi)).setCell ⟨w.heap.size + 1 + 1, 7, none⟩ (.bool d.ol)).setCell ⟨w.heap.size + 1 + 1, 8, none⟩ (.bool d.he)).setCell ⟨w.heap.size + 1 + 1, 9, none⟩ (.int .i64 d.la)) = V2 at *
  refine (tosl_r a.aA a.aB a.cA a.cB d.A d.C V2 ((HV.out _ T2.out.1).vA HD.out) ((HV.out _ T2.out.1).vC HD.out)).mono ?_
  rintro e w3 ⟨q3, q4, c3, c4, rfl, m2, r0, b0⟩
  have C3 : Hid (TS w w3 a d { Na.zero with im := q0, imc := c0, go := q1, gc := c1, bo := q2, bc := c2 } { Nd.zero with id := d.id, up := d.up, pr := d.pr, im := d.im, g := d.g, n := d.n, L := d.L, fi := d.fi, ol := d.ol, he := d.he, la := d.la } ((([] ++ [⟨3, q0, c0, ir d.im⟩]) ++ mrows q1 c1 q2 c2 R d.g d.n d.L) ++ [⟨5, q3, c3, yr d.A⟩, ⟨5, q4, c4, yr d.C⟩])) := T2.out.call b0 r0
  clear r0 b0 T2
  obtain ⟨p0, p1, p2, p3, p4, p5, p6, p7, p8, p9, p10, p11, p12, p13, p14, p15⟩ := C3.out.2.1.cells
  obtain ⟨o0, o1, o2, o3, o4, o5, o6, o7, o8, o9, o10, o11, o12, o13, o14, o15⟩ := C3.out.2.2.2.1.cells
  have z2 := C3.out.2.2.2.1.froz
  go_wp2_with fail
  have T3 : Hid (TS w ((w3.setCell ⟨w.heap.size + 1 + 1, 10, none⟩ (.slice q3 d.A.length c3)).setCell ⟨w.heap.size + 1 + 1, 11, none⟩ (.slice q4 d.C.length c4)) a d { Na.zero with im := q0, imc := c0, go := q1, gc := c1, bo := q2, bc := c2, aA := q3, cA := c3, aB := q4, cB := c4 } { Nd.zero with id := d.id, up := d.up, pr := d.pr, im := d.im, g := d.g, n := d.n, L := d.L, fi := d.fi, ol := d.ol, he := d.he, la := d.la, A := d.A, C := d.C } ((([] ++ [⟨3, q0, c0, ir d.im⟩]) ++ mrows q1 c1 q2 c2 R d.g d.n d.L) ++ [⟨5, q3, c3, yr d.A⟩, ⟨5, q4, c4, yr d.C⟩])) := by
    have h := C3.out
    refine h.set (((Only.refl _ _).setCell _).setCell _) ?_
    have n0 : NB (w3.setCell ⟨w.heap.size + 1 + 1, 10, none⟩ (.slice q3 d.A.length c3)) (w.heap.size + 1 + 1) 31 { Na.zero with im := q0, imc := c0, go := q1, gc := c1, bo := q2, bc := c2, aA := q3, cA := c3 } { Nd.zero with id := d.id, up := d.up, pr := d.pr, im := d.im, g := d.g, n := d.n, L := d.L, fi := d.fi, ol := d.ol, he := d.he, la := d.la, A := d.A } := nset h.2.2.2.1 rfl
    have n1 : NB ((w3.setCell ⟨w.heap.size + 1 + 1, 10, none⟩ (.slice q3 d.A.length c3)).setCell ⟨w.heap.size + 1 + 1, 11, none⟩ (.slice q4 d.C.length c4)) (w.heap.size + 1 + 1) 31 { Na.zero with im := q0, imc := c0, go := q1, gc := c1, bo := q2, bc := c2, aA := q3, cA := c3, aB := q4, cB := c4 } { Nd.zero with id := d.id, up := d.up, pr := d.pr, im := d.im, g := d.g, n := d.n, L := d.L, fi := d.fi, ol := d.ol, he := d.he, la := d.la, A := d.A, C := d.C } := nset n0 rfl
    exact n1
  have e3 : ((w3.setCell ⟨w.heap.size + 1 + 1, 10, none⟩ (.slice q3 d.A.length c3)).setCell ⟨w.heap.size + 1 + 1, 11, none⟩ (.slice q4 d.C.length c4)).heap.size = w3.heap.size := by simp [World.setCell]
  clear p0 p1 p2 p3 p4 p5 p6 p7 p8 p9 p10 p11 p12 p13 p14 p15 o0 o1 o2 o3 o4 o5 o6 o7 o8 o9 o10 o11 o12 o13 o14 o15 z2
  clear C3 e3
  generalize ((w3.setCell ⟨w.heap.size + 1 + 1, 10, none⟩ (.slice q3 d.A.length c3)).setCell ⟨w.heap.size + 1 + 1, 11, none⟩ (.slice q4 d.C.length c4)) = V3 at *
  refine (tob_r a.co a.coc d.co V3 HD.out.2.2.2.1 (HV.out _ T3.out.1).2.2.2.1.1).mono ?_
  rintro e w4 ⟨q5, c5, rfl, r0, b0⟩
  have C4 : Hid (TS w w4 a d { Na.zero with im := q0, imc := c0, go := q1, gc := c1, bo := q2, bc := c2, aA := q3, cA := c3, aB := q4, cB := c4 } { Nd.zero with id := d.id, up := d.up, pr := d.pr, im := d.im, g := d.g, n := d.n, L := d.L, fi := d.fi, ol := d.ol, he := d.he, la := d.la, A := d.A, C := d.C } (((([] ++ [⟨3, q0, c0, ir d.im⟩]) ++ mrows q1 c1 q2 c2 R d.g d.n d.L) ++ [⟨5, q3, c3, yr d.A⟩, ⟨5, q4, c4, yr d.C⟩]) ++ [⟨4, q5, c5, br d.co⟩])) := T3.out.call b0 r0
  clear r0 b0 T3
  obtain ⟨p0, p1, p2, p3, p4, p5, p6, p7, p8, p9, p10, p11, p12, p13, p14, p15⟩ := C4.out.2.1.cells
  obtain ⟨o0, o1, o2, o3, o4, o5, o6, o7, o8, o9, o10, o11, o12, o13, o14, o15⟩ := C4.out.2.2.2.1.cells
  have z2 := C4.out.2.2.2.1.froz
  go_wp2_with fail
  have T4 : Hid (TS w (w4.setCell ⟨w.heap.size + 1 + 1, 12, none⟩ (.slice q5 d.co.length c5)) a d { Na.zero with im := q0, imc := c0, go := q1, gc := c1, bo := q2, bc := c2, aA := q3, cA := c3, aB := q4, cB := c4, co := q5, coc := c5 } { Nd.zero with id := d.id, up := d.up, pr := d.pr, im := d.im, g := d.g, n := d.n, L := d.L, fi := d.fi, ol := d.ol, he := d.he, la := d.la, A := d.A, C := d.C, co := d.co } (((([] ++ [⟨3, q0, c0, ir d.im⟩]) ++ mrows q1 c1 q2 c2 R d.g d.n d.L) ++ [⟨5, q3, c3, yr d.A⟩, ⟨5, q4, c4, yr d.C⟩]) ++ [⟨4, q5, c5, br d.co⟩])) := by
    have h := C4.out
    refine h.set ((Only.refl _ _).setCell _) ?_
    have n0 : NB (w4.setCell ⟨w.heap.size + 1 + 1, 12, none⟩ (.slice q5 d.co.length c5)) (w.heap.size + 1 + 1) 31 { Na.zero with im := q0, imc := c0, go := q1, gc := c1, bo := q2, bc := c2, aA := q3, cA := c3, aB := q4, cB := c4, co := q5, coc := c5 } { Nd.zero with id := d.id, up := d.up, pr := d.pr, im := d.im, g := d.g, n := d.n, L := d.L, fi := d.fi, ol := d.ol, he := d.he, la := d.la, A := d.A, C := d.C, co := d.co } := nset h.2.2.2.1 rfl
    exact n0
  have e4 : (w4.setCell ⟨w.heap.size + 1 + 1, 12, none⟩ (.slice q5 d.co.length c5)).heap.size = w4.heap.size := by simp [World.setCell]
  clear p0 p1 p2 p3 p4 p5 p6 p7 p8 p9 p10 p11 p12 p13 p14 p15 o0 o1 o2 o3 o4 o5 o6 o7 o8 o9 o10 o11 o12 o13 o14 o15 z2
  clear C4 e4
  generalize (w4.setCell ⟨w.heap.size + 1 + 1, 12, none⟩ (.slice q5 d.co.length c5)) = V4 at *
  refine (toss_r a.so d.m a.sc d.S V4 HD.out.2.2.2.2.1.1 HD.out.2.2.2.2.1.2 (HV.out _ T4.out.1).2.2.2.2.1.1).mono ?_
  rintro e w5 ⟨q6, c6, Q, rfl, r0, b0⟩
  have C5 : Hid (TS w w5 a d { Na.zero with im := q0, imc := c0, go := q1, gc := c1, bo := q2, bc := c2, aA := q3, cA := c3, aB := q4, cB := c4, co := q5, coc := c5 } { Nd.zero with id := d.id, up := d.up, pr := d.pr, im := d.im, g := d.g, n := d.n, L := d.L, fi := d.fi, ol := d.ol, he := d.he, la := d.la, A := d.A, C := d.C, co := d.co } ((((([] ++ [⟨3, q0, c0, ir d.im⟩]) ++ mrows q1 c1 q2 c2 R d.g d.n d.L) ++ [⟨5, q3, c3, yr d.A⟩, ⟨5, q4, c4, yr d.C⟩]) ++ [⟨4, q5, c5, br d.co⟩]) ++ srows q6 c6 Q d.m d.S)) := T4.out.call b0 r0
  clear r0 b0 T4
  obtain ⟨p0, p1, p2, p3, p4, p5, p6, p7, p8, p9, p10, p11, p12, p13, p14, p15⟩ := C5.out.2.1.cells
  obtain ⟨o0, o1, o2, o3, o4, o5, o6, o7, o8, o9, o10, o11, o12, o13, o14, o15⟩ := C5.out.2.2.2.1.cells
  have z2 := C5.out.2.2.2.1.froz
  go_wp2_with fail
  have T5 : Hid (TS w (w5.setCell ⟨w.heap.size + 1 + 1, 13, none⟩ (.slice q6 d.m c6)) a d { Na.zero with im := q0, imc := c0, go := q1, gc := c1, bo := q2, bc := c2, aA := q3, cA := c3, aB := q4, cB := c4, co := q5, coc := c5, so := q6, sc := c6 } { Nd.zero with id := d.id, up := d.up, pr := d.pr, im := d.im, g := d.g, n := d.n, L := d.L, fi := d.fi, ol := d.ol, he := d.he, la := d.la, A := d.A, C := d.C, co := d.co, m := d.m, S := d.S } ((((([] ++ [⟨3, q0, c0, ir d.im⟩]) ++ mrows q1 c1 q2 c2 R d.g d.n d.L) ++ [⟨5, q3, c3, yr d.A⟩, ⟨5, q4, c4, yr d.C⟩]) ++ [⟨4, q5, c5, br d.co⟩]) ++ srows q6 c6 Q d.m d.S)) := by
    have h := C5.out
    refine h.set ((Only.refl _ _).setCell _) ?_
    have n0 : NB (w5.setCell ⟨w.heap.size + 1 + 1, 13, none⟩ (.slice q6 d.m c6)) (w.heap.size + 1 + 1) 31 { Na.zero with im := q0, imc := c0, go := q1, gc := c1, bo := q2, bc := c2, aA := q3, cA := c3, aB := q4, cB := c4, co := q5, coc := c5, so := q6, sc := c6 } { Nd.zero with id := d.id, up := d.up, pr := d.pr, im := d.im, g := d.g, n := d.n, L := d.L, fi := d.fi, ol := d.ol, he := d.he, la := d.la, A := d.A, C := d.C, co := d.co, m := d.m, S := d.S } := nset h.2.2.2.1 rfl
    exact n0
  have e5 : (w5.setCell ⟨w.heap.size + 1 + 1, 13, none⟩ (.slice q6 d.m c6)).heap.size = w5.heap.size := by simp [World.setCell]
  clear p0 p1 p2 p3 p4 p5 p6 p7 p8 p9 p10 p11 p12 p13 p14 p15 o0 o1 o2 o3 o4 o5 o6 o7 o8 o9 o10 o11 o12 o13 o14 o15 z2
  clear C5 e5
  generalize (w5.setCell ⟨w.heap.size + 1 + 1, 13, none⟩ (.slice q6 d.m c6)) = V5 at *
  refine (tob_r a.cp a.cpc d.cp V5 HD.out.2.2.2.2.2.1 (HV.out _ T5.out.1).2.2.2.2.2.1.1).mono ?_
  rintro e w6 ⟨q7, c7, rfl, r0, b0⟩
  have C6 : Hid (TS w w6 a d { Na.zero with im := q0, imc := c0, go := q1, gc := c1, bo := q2, bc := c2, aA := q3, cA := c3, aB := q4, cB := c4, co := q5, coc := c5, so := q6, sc := c6 } { Nd.zero with id := d.id, up := d.up, pr := d.pr, im := d.im, g := d.g, n := d.n, L := d.L, fi := d.fi, ol := d.ol, he := d.he, la := d.la, A := d.A, C := d.C, co := d.co, m := d.m, S := d.S } (((((([] ++ [⟨3, q0, c0, ir d.im⟩]) ++ mrows q1 c1 q2 c2 R d.g d.n d.L) ++ [⟨5, q3, c3, yr d.A⟩, ⟨5, q4, c4, yr d.C⟩]) ++ [⟨4, q5, c5, br d.co⟩]) ++ srows q6 c6 Q d.m d.S) ++ [⟨4, q7, c7, br d.cp⟩])) := T5.out.call b0 r0
  clear r0 b0 T5
  obtain ⟨p0, p1, p2, p3, p4, p5, p6, p7, p8, p9, p10, p11, p12, p13, p14, p15⟩ := C6.out.2.1.cells
  obtain ⟨o0, o1, o2, o3, o4, o5, o6, o7, o8, o9, o10, o11, o12, o13, o14, o15⟩ := C6.out.2.2.2.1.cells
  have z2 := C6.out.2.2.2.1.froz
  go_wp2_with fail
  have T6 : Hid (TS w (w6.setCell ⟨w.heap.size + 1 + 1, 14, none⟩ (.slice q7 d.cp.length c7)) a d { Na.zero with im := q0, imc := c0, go := q1, gc := c1, bo := q2, bc := c2, aA := q3, cA := c3, aB := q4, cB := c4, co := q5, coc := c5, so := q6, sc := c6, cp := q7, cpc := c7 } { Nd.zero with id := d.id, up := d.up, pr := d.pr, im := d.im, g := d.g, n := d.n, L := d.L, fi := d.fi, ol := d.ol, he := d.he, la := d.la, A := d.A, C := d.C, co := d.co, m := d.m, S := d.S, cp := d.cp } (((((([] ++ [⟨3, q0, c0, ir d.im⟩]) ++ mrows q1 c1 q2 c2 R d.g d.n d.L) ++ [⟨5, q3, c3, yr d.A⟩, ⟨5, q4, c4, yr d.C⟩]) ++ [⟨4, q5, c5, br d.co⟩]) ++ srows q6 c6 Q d.m d.S) ++ [⟨4, q7, c7, br d.cp⟩])) := by
    have h := C6.out
    refine h.set ((Only.refl _ _).setCell _) ?_
    have n0 : NB (w6.setCell ⟨w.heap.size + 1 + 1, 14, none⟩ (.slice q7 d.cp.length c7)) (w.heap.size + 1 + 1) 31 { Na.zero with im := q0, imc := c0, go := q1, gc := c1, bo := q2, bc := c2, aA := q3, cA := c3, aB := q4, cB := c4, co := q5, coc := c5, so := q6, sc := c6, cp := q7, cpc := c7 } { Nd.zero with id := d.id, up := d.up, pr := d.pr, im := d.im, g := d.g, n := d.n, L := d.L, fi := d.fi, ol := d.ol, he := d.he, la := d.la, A := d.A, C := d.C, co := d.co, m := d.m, S := d.S, cp := d.cp } := nset h.2.2.2.1 rfl
    exact n0
  have e6 : (w6.setCell ⟨w.heap.size + 1 + 1, 14, none⟩ (.slice q7 d.cp.length c7)).heap.size = w6.heap.size := by simp [World.setCell]
  clear p0 p1 p2 p3 p4 p5 p6 p7 p8 p9 p10 p11 p12 p13 p14 p15 o0 o1 o2 o3 o4 o5 o6 o7 o8 o9 o10 o11 o12 o13 o14 o15 z2
  clear C6 e6
  generalize (w6.setCell ⟨w.heap.size + 1 + 1, 14, none⟩ (.slice q7 d.cp.length c7)) = V6 at *
  refine (toi_r a.wt a.wtc d.wt V6 HD.out.2.2.2.2.2.2 (HV.out _ T6.out.1).2.2.2.2.2.2.1).mono ?_
  rintro e w7 ⟨q8, c8, rfl, r0, b0⟩
  have C7 : Hid (TS w w7 a d { Na.zero with im := q0, imc := c0, go := q1, gc := c1, bo := q2, bc := c2, aA := q3, cA := c3, aB := q4, cB := c4, co := q5, coc := c5, so := q6, sc := c6, cp := q7, cpc := c7 } { Nd.zero with id := d.id, up := d.up, pr := d.pr, im := d.im, g := d.g, n := d.n, L := d.L, fi := d.fi, ol := d.ol, he := d.he, la := d.la, A := d.A, C := d.C, co := d.co, m := d.m, S := d.S, cp := d.cp } ((((((([] ++ [⟨3, q0, c0, ir d.im⟩]) ++ mrows q1 c1 q2 c2 R d.g d.n d.L) ++ [⟨5, q3, c3, yr d.A⟩, ⟨5, q4, c4, yr d.C⟩]) ++ [⟨4, q5, c5, br d.co⟩]) ++ srows q6 c6 Q d.m d.S) ++ [⟨4, q7, c7, br d.cp⟩]) ++ [⟨3, q8, c8, ir d.wt⟩])) := T6.out.call b0 r0
  clear r0 b0 T6
  obtain ⟨p0, p1, p2, p3, p4, p5, p6, p7, p8, p9, p10, p11, p12, p13, p14, p15⟩ := C7.out.2.1.cells
  obtain ⟨o0, o1, o2, o3, o4, o5, o6, o7, o8, o9, o10, o11, o12, o13, o14, o15⟩ := C7.out.2.2.2.1.cells
  have z2 := C7.out.2.2.2.1.froz
  obtain ⟨x0, x1, x2, x3, x4, x5, x6, x7, x8, x9, x10, x11, x12, x13, x14, x15⟩ := C7.out.2.2.1.cells
  have z1 := C7.out.2.2.1.froz
  have hsz := C7.out.2.2.2.2.1
  simp only [Na.zero, Nd.zero, List.length_nil] at x0 x1 x2 x3 x4 x5 x6 x7 x8 x9 x10 x11 x12 x13 x14 x15
  go_wp2
  refine bodyPost_ret (v := .agg #[.int .i64 d.id, .bool d.up, .bool d.pr, .slice q0 d.im.length c0, .slice q1 d.g.length c1, .slice q2 d.n c2, .bool d.fi, .bool d.ol, .bool d.he, .int .i64 d.la, .slice q3 d.A.length c3, .slice q4 d.C.length c4, .slice q5 d.co.length c5, .slice q6 d.m c6, .slice q7 d.cp.length c7, .slice q8 d.wt.length c8]) (by simp [results, Tryz.results22, go_sem, o0, o1, o2, o3, o4, o5, o6, o7, o8, o9, o10, o11, o12, o13, o14, o15, x0, x1, x2, x3, x4, x5, x6, x7, x8, x9, x10, x11, x12, x13, x14, x15]) rfl ⟨⟨q0, c0, q1, c1, q2, c2, q3, c3, q4, c4, q5, c5, q6, c6, q7, c7, q8, c8⟩, rfl, ?_⟩
  have hN : ∀ F : World, Only (w.heap.size + 1) (w7.setCell ⟨w.heap.size + 1 + 1, 15, none⟩ (.slice q8 d.wt.length c8)) F → ON F w.heap.size F.heap.size ⟨q0, c0, q1, c1, q2, c2, q3, c3, q4, c4, q5, c5, q6, c6, q7, c7, q8, c8⟩ d ∧ Below w.heap.size w F := fun F hF => by
    have hO : Only (w.heap.size + 1 + 1) w7 (w7.setCell ⟨w.heap.size + 1 + 1, 15, none⟩ (.slice q8 d.wt.length c8)) := (Only.refl _ _).setCell _
    have hs : F.heap.size = w7.heap.size := hF.2.1.trans hO.2.1
    refine ⟨⟨⟨by omega, Nat.le_refl _⟩, m2, HY.out, R, Q, ?_⟩, (C7.out.1.trans (hO.1.mono (by omega))).trans (hF.1.mono (by omega))⟩
    rw [hs]
    have := (C7.out.2.2.2.2.2.kept (w' := F) fun j h1 _ => (hF.2.2 j (by omega)).trans (hO.2.2 j (by omega))).wide (B' := w.heap.size) (by omega) (Nat.le_refl _)
    simpa [nrows] using this
  refine hN _ ?_
  iterate 16 (refine Only.setCell ?_ _)
  exact Only.refl _ _
end Go.Proofs.YtkndnndildnbpaaGreatDoor

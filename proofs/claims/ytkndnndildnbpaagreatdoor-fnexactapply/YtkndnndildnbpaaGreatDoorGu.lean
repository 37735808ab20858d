/- Rise, of the program and of its model. -/
import Derived.Test.YtkndnndildnbpaaGreatDoorNdNZ
import Derived.Test.YtkndnndildnbpaaGreatDoorGz
import Derived.Test.YtkndnndildnbpaaGreatDoorGy
import Derived.Deep.MidRow

namespace Go.Proofs.YtkndnndildnbpaaGreatDoor
open Go.ChangeShapes Go.WideShapes Go.ChangeAt Go.RowKit
set_option linter.unusedVariables false
set_option linter.unusedSimpArgs false
set_option maxRecDepth 100000

/-- A node's copy at block X while a node is at block w and the result's block behind it. -/
def FSt (w V : World) (X : Nat) (a : Na) (d : Nd) (b : Na) (d' : Nd) : Prop :=
  Below w.heap.size w V ∧ NB V w.heap.size 31 a d ∧ NB V (w.heap.size + 1) 31 Na.zero Nd.zero ∧ NB V X 31 b d' ∧ w.heap.size + 1 < X
theorem FSt.b {w V V' : World} {X : Nat} {a b : Na} {d d' : Nd} (h : FSt w V X a d b d') (hb : Below V.heap.size V V') : FSt w V' X a d b d' :=
  ⟨h.1.trans (hb.mono h.1.size), h.2.1.b hb, h.2.2.1.b hb, h.2.2.2.1.b hb, h.2.2.2.2⟩
theorem FSt.set {w V V' : World} {X : Nat} {a b b2 : Na} {d d' d2 : Nd} (h : FSt w V X a d b d') (ho : Only X V V') (hn : NB V' X 31 b2 d2) : FSt w V' X a d b2 d2 :=
  ⟨h.1.trans (ho.1.mono (by have := h.2.2.2.2; omega)), h.2.1.far ho (by have := h.2.2.2.2; omega), h.2.2.1.far ho (by have := h.2.2.2.2; omega), hn, h.2.2.2.2⟩
theorem fs_new {w W w1 : World} {a b : Na} {d : Nd} (h : CS w W a d []) (hb : Below W.heap.size W w1) : FSt w (w1.alloc (.cells (nds b d) 31)) w1.heap.size a d b d := by
  have bx := bal1 w1 (.cells (nds b d) 31)
  have cc := h.1.trans (hb.mono h.1.size)
  exact ⟨cc.trans (bx.mono cc.size), (h.2.1.b hb).b bx, (h.2.2.1.b hb).b bx, NB.new _ _ _ _, by have := hb.size; have := h.2.2.2.1; omega⟩
theorem ON.only {w w' : World} {B T X : Nat} {a : Na} {d : Nd} (h : ON w B T a d) (ho : Only X w w') (hX : T ≤ X ∨ X < B) : ON w' B T a d := h.kept (fun j h1 h2 => ho.2.2 j (by omega)) (by rw [ho.2.1]; exact Nat.le_refl _)
theorem ON.wider {w : World} {B T B' T' : Nat} {a : Na} {d : Nd} (h : ON w B T a d) (hB : B' ≤ B) (hT : T ≤ T') (hw : T' ≤ w.heap.size) : ON w B' T' a d := h.wide hB hT hw
/-- The meta of a node made anew, behind all. -/
theorem ON.meta' {w : World} {B T T' : Nat} {a : Na} {d : Nd} {go bo : Option Addr} {gc bc : Nat} {L' : Nat → List Int} {up' : Bool} (h : ON w B T a d) (hm : OKm w T T' go gc bo bc d.g d.n L') : ON w B T' { a with go := go, gc := gc, bo := bo, bc := bc } { d with up := up', L := L' } := by
  obtain ⟨⟨h1, h2⟩, h3, h4, R, Q, h5⟩ := h
  obtain ⟨R2, hR⟩ := rs_okm hm
  refine ⟨⟨by have := hm.1; omega, hm.1.2⟩, h3, h4, R2, Q, ?_⟩
  have h6 : RS w B T ([⟨3, a.im, a.imc, ir d.im⟩] ++ (mrows a.go a.gc a.bo a.bc R d.g d.n d.L ++ (⟨5, a.aA, a.cA, yr d.A⟩ :: ⟨5, a.aB, a.cB, yr d.C⟩ :: ⟨4, a.co, a.coc, br d.co⟩ :: (srows a.so a.sc Q d.m d.S ++ [⟨4, a.cp, a.cpc, br d.cp⟩, ⟨3, a.wt, a.wtc, ir d.wt⟩])))) := h5
  have h7 := h6.renew hR h1 hm.1.1
  exact h7
theorem RN.only {w w' : World} {B T X : Nat} {a : Na} {d : Nd} (h : RN w B T a d) (ho : Only X w w') (hX : T ≤ X ∨ X < B) : RN w' B T a d := h.kept (fun j h1 h2 => ho.2.2 j (by omega)) (by rw [ho.2.1]; exact Nat.le_refl _)
theorem RN.wider {w : World} {B T B' T' : Nat} {a : Na} {d : Nd} (h : RN w B T a d) (hB : B' ≤ B) (hT : T ≤ T') (hw : T' ≤ w.heap.size) : RN w B' T' a d := by
  obtain ⟨⟨h1, h2⟩, h3, h4, R, Q, h5⟩ := h
  exact ⟨⟨by omega, hw⟩, h3, h4, R, Q, h5.wide hB hT⟩
theorem RN.meta' {w : World} {B T T' : Nat} {a : Na} {d : Nd} {go bo : Option Addr} {gc bc : Nat} {L' : Nat → List Int} {up' : Bool} (h : RN w B T a d) (hm : OKm w T T' go gc bo bc d.g d.n L') : RN w B T' { a with go := go, gc := gc, bo := bo, bc := bc } { d with up := up', L := L' } := by
  obtain ⟨⟨h1, h2⟩, h3, h4, R, Q, h5⟩ := h
  obtain ⟨R2, hR⟩ := rs_okm hm
  refine ⟨⟨by have := hm.1; omega, hm.1.2⟩, h3, h4, R2, Q, ?_⟩
  have h6 : RA w B T' _ := h5.wide (Nat.le_refl _) hm.1.1
  exact RA.app (xs := [⟨3, a.im, a.imc, ir d.im⟩]) (fun r hr => h6 r (by rw [List.mem_singleton.1 hr]; simp [nrows])) (RA.app (hR.ra.wide h1 (Nat.le_refl _)) (RA.right (RA.tail h6)))
/-- What Rise answers. -/
def rsn (D : (p : Prop) → Decidable p) (d : Nd) : Nd := @ite Nd (NOk d ∧ d.up = false) (D _) { d with up := true } d
theorem rsn_yes {d : Nd} (h : NOk d ∧ d.up = false) : (rsn Classical.propDecidable) d = { d with up := true } := by unfold rsn; exact if_pos h
theorem rsn_no {d : Nd} (h : ¬ (NOk d ∧ d.up = false)) : (rsn Classical.propDecidable) d = d := by unfold rsn; exact if_neg h
theorem on_fin {w w3 V F : World} {X S3 T3 : Nat} {b : Na} {d : Nd} {go bo : Option Addr} {gc bc : Nat} (up' : Bool) (h : ON w3 (w.heap.size + 1 + 1) X b d) (hm : OKm w3 S3 T3 go gc bo bc d.g d.n d.L) (hX : X < S3) (hV : Only X w3 V) (hF : Only (w.heap.size + 1) V F) (hw : w.heap.size + 1 < X) :
    ON F w.heap.size F.heap.size { b with go := go, gc := gc, bo := bo, bc := bc } { d with up := up' } := by
  have hT := hm.1
  have hs := hV.2.1
  have hs' := hF.2.1
  have h1 := (h.only hV (.inl (Nat.le_refl _))).wider (Nat.le_refl _) (Nat.le_of_lt hX) (by omega : S3 ≤ V.heap.size)
  have h2 : OKm V S3 T3 go gc bo bc d.g d.n d.L := hm.kept (fun j h1 _ => hV.2.2 j (by omega)) (by omega)
  have h3 := ON.meta' (up' := up') h1 h2
  exact (h3.only hF (.inr (by omega))).wider (by omega) (by omega) (Nat.le_refl _)
theorem rn_fin {w w3 V F : World} {X S3 T3 : Nat} {b : Na} {d : Nd} {go bo : Option Addr} {gc bc : Nat} (up' : Bool) (h : RN w3 (w.heap.size + 1 + 1) X b d) (hm : OKm w3 S3 T3 go gc bo bc d.g d.n d.L) (hX : X < S3) (hV : Only X w3 V) (hF : Only (w.heap.size + 1) V F) (hw : w.heap.size + 1 < X) :
    RN F w.heap.size F.heap.size { b with go := go, gc := gc, bo := bo, bc := bc } { d with up := up' } := by
  have hT := hm.1
  have hs := hV.2.1
  have hs' := hF.2.1
  have h1 := (h.only hV (.inl (Nat.le_refl _))).wider (Nat.le_refl _) (Nat.le_of_lt hX) (by omega : S3 ≤ V.heap.size)
  have h2 : OKm V S3 T3 go gc bo bc d.g d.n d.L := hm.kept (fun j h1 _ => hV.2.2 j (by omega)) (by omega)
  have h3 := RN.meta' (up' := up') h1 h2
  exact (h3.only hF (.inr (by omega))).wider (by omega) (by omega) (Nat.le_refl _)
/-- What SlotGet of both tells of a right node. -/
theorem slots_ok (d : Nd) (h : NOk d) :
    (∀ W aA cA aB cB, VBy W aA cA d.A → VBy W aB cB d.C → Calls Tryz.prog 133 #[.agg #[.slice aA d.A.length cA, .slice aB d.C.length cB]] W fun e w' => ∃ go bo gc bc x, e = .returned (.tuple #[.agg #[.slice go d.g.length gc, .slice bo d.n bc, .bool d.fi, .bool d.ol, .bool d.he, .int .i64 d.la], .int .i64 x, .bool true]) ∧ OKm w' W.heap.size w'.heap.size go gc bo bc d.g d.n d.L ∧ Below W.heap.size W w') ∧
    (∀ W aA cA aB cB, ErrT W → VBy W aA cA d.A → VBy W aB cB d.C → Calls Tryz.prog 210 #[.agg #[.slice aA d.A.length cA, .slice aB d.C.length cB]] W fun e w' => ∃ go bo gc bc x, e = .returned (.tuple #[.agg #[.slice go d.g.length gc, .slice bo d.n bc, .bool d.fi, .bool d.ol, .bool d.he, .int .i64 d.la], .int .i64 x, .bool true]) ∧ OKm w' W.heap.size w'.heap.size go gc bo bc d.g d.n d.L ∧ Below W.heap.size W w') := by
  obtain ⟨g, n, L, fi, ol, he, la, x, b, _, hs, hi, hk, _⟩ := slots_both d.A d.C
  obtain ⟨hb, h1, h2, h3, h4, h5, h6, eL⟩ := (hk _ _ _ _ _ _ _).1 h.2.2.2.2.2.2.2
  subst hb h1 h2 h3 h4 h5 h6
  refine ⟨fun W aA cA aB cB hA hC => (hs W aA cA aB cB hA hC).mono ?_, fun W aA cA aB cB hg hA hC => (hi W aA cA aB cB hg hA hC).mono ?_⟩
  all_goals
    rintro e w' ⟨go, bo, gc, bc, rfl, ho, hb⟩
    exact ⟨go, bo, gc, bc, x, rfl, ho.congr eL, hb⟩
/-- The slot that is written of it. -/
def kpx (D : (p : Prop) → Decidable p) (d dm : Nd) : List Int := (slm D) dm.g dm.n dm.L dm.fi dm.ol dm.he dm.la ((sqv D) ((latL D) d.A d.C) + 1)
/-- A node with another meta, that its slots tell. -/
def kpd (D : (p : Prop) → Decidable p) (d dm : Nd) : Nd := { d with g := dm.g, n := dm.n, L := dm.L, fi := dm.fi, ol := dm.ol, he := dm.he, la := dm.la, A := (ptA D) d.A d.C (kpx D d dm), C := (ptB D) d.A d.C (kpx D d dm) }
theorem whole_len {B : List Int} (h : Whole B) : B.length = 160 := by
  obtain ⟨g, L, fi, ol, he, la, q, h⟩ := h
  rw [← krange_self B] at h
  exact (sl_key h).1
theorem kpx_len (d dm : Nd) : (kpx Classical.propDecidable d dm).length ≤ 160 := by
  unfold kpx
  by_cases h : MtOk dm.g dm.n dm.L dm.ol dm.he dm.la ∧ 1 ≤ (sqv Classical.propDecidable) ((latL Classical.propDecidable) d.A d.C) + 1 ∧ (sqv Classical.propDecidable) ((latL Classical.propDecidable) d.A d.C) + 1 ≤ 1000000
  · rw [slm_yes h.1 h.2, slb_len (by have := mt_len (fi := dm.fi) h.1; omega)]
    exact Nat.le_refl _
  · rw [slm_no h]
    exact Nat.zero_le _
theorem lnok_len {id : Int} {up : Bool} {co cp : List Bool} {m : Nat} {S : Nat → List Int} (h : LnOk id up co cp m S) : co.length = 3 ∧ m = 3 ∧ cp.length = 3 ∧ psum S m ≤ 24 := by
  obtain ⟨h1, h2, h3, h4⟩ := h
  subst h2
  have a0 := kok_len (h4 0 (by omega)).1
  have a1 := kok_len (h4 1 (by omega)).1
  have a2 := kok_len (h4 2 (by omega)).1
  refine ⟨h1, rfl, h3, ?_⟩
  simp only [psum]
  omega
theorem win_len {f : Nat → Int} {n : Nat} (h : WIn f n) : n ≤ 200 := by
  have hk : ∀ i, i < n → (i : Int) + 1 ≤ f i := fun i => by
    induction i with
    | zero => intro hi; have := h.1 0 hi; omega
    | succ i ih =>
      intro hi
      have h1 := ih (by omega)
      have h2 := h.2 (i + 1) (by omega) hi
      rw [Nat.add_sub_cancel] at h2
      omega
  rcases Nat.eq_zero_or_pos n with h0 | h0
  · omega
  · have h1 := hk (n - 1) (by omega)
    have h2 := (h.1 (n - 1) (by omega)).2
    omega
/-- What a right node holds beside its slots. -/
theorem nok_small {d : Nd} (h : NOk d) : ntot d ≤ 300 + (d.A.length + d.C.length) := by
  obtain ⟨_, hi, hm, hl, _, _, hw, _⟩ := h
  obtain ⟨l1, l2, l3, l4⟩ := lnok_len hl
  obtain ⟨m1, m2, m3, _⟩ := mtok_g hm
  have w1 := win_len hw
  have i1 := hi.1
  have p0 := m3 0 (by omega)
  have p1 := m3 1 (by omega)
  have p2 := m3 2 (by omega)
  have hp : psum d.L d.n ≤ 24 := by rw [m2]; simp only [psum]; omega
  unfold ntot
  omega
theorem psum_congr {L L' : Nat → List Int} {n : Nat} (h : ∀ i, i < n → L i = L' i) : psum L n = psum L' n := by
  induction n with
  | zero => rfl
  | succ n ih =>
    have h1 := ih (fun i hi => h i (by omega))
    have h2 := h n (by omega)
    simp only [psum]
    rw [h1, h2]
theorem nbd_kpd {d dm : Nd} (hd : NBd d) (hy : Byr d.A ∧ Byr d.C) (hm : Bd dm.g dm.n dm.L) : NBd (kpd Classical.propDecidable d dm) := by
  have hX := slm_by dm.g dm.n dm.L dm.fi dm.ol dm.he dm.la ((sqv Classical.propDecidable) ((latL Classical.propDecidable) d.A d.C) + 1)
  exact ⟨hd.1, hm, ⟨(ptA_by ⟨hd.2.2.1.1, hy.1⟩ hX).1, (ptB_by ⟨hd.2.2.1.2, hy.2⟩ hX).1⟩, hd.2.2.2⟩
/-- A right node that was kept is no greater than what it was, or small. -/
theorem ntot_kpd {d0 d dm : Nd} (h0 : NOk d0) (hd : d = { d0 with im := d.im }) (h : NOk (kpd Classical.propDecidable d dm)) (ht : ntot d0 ≤ 1048576) : ntot (kpd Classical.propDecidable d dm) ≤ 1048576 := by
  have hA : d.A = d0.A := by rw [hd]
  have hC : d.C = d0.C := by rw [hd]
  have hs := nok_small h
  have hX := kpx_len d dm
  by_cases hx : kpx Classical.propDecidable d dm = []
  · have eA : (kpd Classical.propDecidable d dm).A = d0.A := by show (ptA Classical.propDecidable) d.A d.C _ = _; rw [hx, ptA_nil, hA]
    have eC : (kpd Classical.propDecidable d dm).C = d0.C := by show (ptB Classical.propDecidable) d.A d.C _ = _; rw [hx, ptB_nil, hC]
    obtain ⟨g1, L1, f1, o1, e1, l1, q1, s1, t1⟩ := h.2.2.2.2.2.2.2
    obtain ⟨g2, L2, f2, o2, e2, l2, q2, s2, t2⟩ := h0.2.2.2.2.2.2.2
    rw [eA, eC] at s1
    obtain ⟨u1, u2, _⟩ := sl_one s1 s2
    obtain ⟨t11, t12, _, _, _, _, t13⟩ := t1
    obtain ⟨t21, t22, _, _, _, _, t23⟩ := t2
    have hg : dm.g = d0.g := t12.symm.trans (u1.trans t22)
    have hn1 : dm.n = 3 := t11.symm
    have hn2 : d0.n = 3 := t21.symm
    have hp : psum dm.L dm.n = psum d0.L d0.n := by
      rw [hn1, hn2]
      exact psum_congr fun i hi => ((t13 i hi).symm.trans (u2 i hi)).trans (t23 i hi)
    have i1 : d.im.length = 8 := h.2.1.1
    have i2 := h0.2.1.1
    have hS : d.S = d0.S := by rw [hd]
    have hm : d.m = d0.m := by rw [hd]
    have hco : d.co = d0.co := by rw [hd]
    have hcp : d.cp = d0.cp := by rw [hd]
    have hwt : d.wt = d0.wt := by rw [hd]
    have e : ntot (kpd Classical.propDecidable d dm) = ntot d0 := by
      show (d.im.length : Int) + ((dm.g.length + (dm.n + psum dm.L dm.n) : Int) + (((kpd Classical.propDecidable d dm).A.length + (kpd Classical.propDecidable d dm).C.length : Int) + (d.co.length + ((d.m + psum d.S d.m : Int) + (d.cp.length + d.wt.length))))) = _
      rw [eA, eC, hp, hg, hn1, hS, hm, hco, hcp, hwt, i1]
      unfold ntot
      rw [hn2, i2]
    rw [e]; exact ht
  · obtain ⟨g2, L2, f2, o2, e2, l2, q2, s2, _⟩ := h0.2.2.2.2.2.2.2
    have hW : Whole ((latL Classical.propDecidable) d.A d.C) := ⟨g2, L2, f2, o2, e2, l2, q2, by rw [hA, hC]; exact s2⟩
    have hlen := whole_len hW
    by_cases hl : Lat d.A d.C
    · rw [latL_yes hl] at hlen
      have eA : (kpd Classical.propDecidable d dm).A = d.A := ptA_lat hl
      have eC : (kpd Classical.propDecidable d dm).C = kpx Classical.propDecidable d dm := ptB_lat hl hx
      rw [eA, eC, hlen] at hs
      omega
    · rw [latL_no hl] at hlen
      have eA : (kpd Classical.propDecidable d dm).A = kpx Classical.propDecidable d dm := ptA_not hl hx
      have eC : (kpd Classical.propDecidable d dm).C = d.C := ptB_not hl
      rw [eA, eC, hlen] at hs
      omega
/-- A meta as a value; the meta's and the node's cells, one behind the other. -/
def mds (am : Na) (dm : Nd) : List Value := [.slice am.go dm.g.length am.gc, .slice am.bo dm.n am.bc, .bool dm.fi, .bool dm.ol, .bool dm.he, .int .i64 dm.la]
def mvv (am : Na) (dm : Nd) : Value := .agg #[.slice am.go dm.g.length am.gc, .slice am.bo dm.n am.bc, .bool dm.fi, .bool dm.ol, .bool dm.he, .int .i64 dm.la]
def dds (am : Na) (dm : Nd) (a : Na) (d : Nd) : Array Value := #[.slice am.go dm.g.length am.gc, .slice am.bo dm.n am.bc, .bool dm.fi, .bool dm.ol, .bool dm.he, .int .i64 dm.la, .int .i64 d.id, .bool d.up, .bool d.pr, .slice a.im d.im.length a.imc, .slice a.go d.g.length a.gc, .slice a.bo d.n a.bc, .bool d.fi, .bool d.ol, .bool d.he, .int .i64 d.la, .slice a.aA d.A.length a.cA, .slice a.aB d.C.length a.cB, .slice a.co d.co.length a.coc, .slice a.so d.m a.sc, .slice a.cp d.cp.length a.cpc, .slice a.wt d.wt.length a.wtc]
def DB (w : World) (X : Nat) (am : Na) (dm : Nd) (a : Na) (d : Nd) : Prop := w.heap[X]? = some (.cells (dds am dm a d) 98 (0, 0))
theorem DB.lt {w : World} {X : Nat} {am : Na} {dm : Nd} {a : Na} {d : Nd} (h : DB w X am dm a d) : X < w.heap.size := (Array.getElem?_eq_some_iff.1 h).1
theorem DB.b {w w' : World} {X : Nat} {am : Na} {dm : Nd} {a : Na} {d : Nd} (h : DB w X am dm a d) (hb : Below w.heap.size w w') : DB w' X am dm a d := (hb.block X h.lt).trans h
theorem DB.far {w w' : World} {X g : Nat} {am : Na} {dm : Nd} {a : Na} {d : Nd} (h : DB w X am dm a d) (ho : Only g w w') (hne : X ≠ g) : DB w' X am dm a d := (ho.2.2 X hne).trans h
theorem DB.new (w : World) (am : Na) (dm : Nd) (a : Na) (d : Nd) : DB (w.alloc (.cells (dds am dm a d) 98)) w.heap.size am dm a d := Deep.blk_alloc_new _ _
theorem DB.froz {w : World} {X : Nat} {am : Na} {dm : Nd} {a : Na} {d : Nd} (h : DB w X am dm a d) : ∀ i, w.frozen? ⟨X, i, none⟩ = false := fun i => fblk h i
theorem DB.cell {w : World} {X : Nat} {am : Na} {dm : Nd} {a : Na} {d : Nd} (h : DB w X am dm a d) {i : Nat} {v : Value} (hv : (dds am dm a d)[i]? = some v) : w.cell? ⟨X, i, none⟩ = some v := mblk h hv
theorem DB.set {w : World} {X i : Nat} {am am' : Na} {dm dm' : Nd} {a a' : Na} {d d' : Nd} {v : Value} (h : DB w X am dm a d) (e : (dds am dm a d).setIfInBounds i v = dds am' dm' a' d') : DB (w.setCell ⟨X, i, none⟩ v) X am' dm' a' d' := kb_set h e
theorem range_of {w : World} {X o : Nat} {cs : Array Value} {t : TypeId} {vs : List Value} (h : w.heap[X]? = some (.cells cs t (0, 0))) (e : (cs.toList.drop o).take vs.length = vs) : w.rangeAt X o vs := fun j v hv => by
  have hj : j < vs.length := (List.getElem?_eq_some_iff.1 hv).1
  refine mblk h ?_
  rw [← hv, ← e, List.getElem?_take, if_pos hj, List.getElem?_drop, Array.getElem?_toList]
theorem there_of {w : World} {X o n : Nat} {cs : Array Value} {t : TypeId} (h : w.heap[X]? = some (.cells cs t (0, 0))) (hn : o + n ≤ cs.size) : w.there X o n := fun j hj =>
  ⟨by rw [mblk h (Array.getElem?_eq_getElem (by omega))]; rfl, fblk h _⟩
theorem DB.node {w : World} {X : Nat} {am : Na} {dm : Nd} {a : Na} {d : Nd} (h : DB w X am dm a d) : w.rangeAt X 6 (nds a d).toList := range_of h rfl
theorem DB.m0 {w : World} {X : Nat} {am : Na} {dm : Nd} {a : Na} {d : Nd} (h : DB w X am dm a d) : w.rangeAt X 0 (mds am dm) := range_of h rfl
theorem ld_dnode {ops : Array Oper} {rest : List Oper} {o : Oper} {a : Act} {w : World} {Q : Exit → Act → World → Prop} (hgd : o.guard = none) (x : Operand) (ho : o.op = .load 31 x) (X : Nat) (hx : a.eval x = .pointer (some ⟨X, 6, none⟩)) {am : Na} {dm : Nd} {A : Na} {d : Nd} (h : DB w X am dm A d)
    (hK : wpList Tryz.prog ops Q rest (a.put o.dst (nv A d)) w) : wpList Tryz.prog ops Q (o :: rest) a w :=
  wpList_load_mid hgd 31 x ho X 6 hx (nds A d).toList _ h.node Tryz.underlying31 rfl (by kernel_rfl) hK
theorem ld_dm0 {ops : Array Oper} {rest : List Oper} {o : Oper} {a : Act} {w : World} {Q : Exit → Act → World → Prop} (hgd : o.guard = none) (x : Operand) (ho : o.op = .load 25 x) (X : Nat) (hx : a.eval x = .pointer (some ⟨X, 0, none⟩)) {am : Na} {dm : Nd} {A : Na} {d : Nd} (h : DB w X am dm A d)
    (hK : wpList Tryz.prog ops Q rest (a.put o.dst (mvv am dm)) w) : wpList Tryz.prog ops Q (o :: rest) a w :=
  wpList_load_mid hgd 25 x ho X 0 hx (mds am dm) _ h.m0 Tryz.underlying25 rfl (by kernel_rfl) hK
theorem only_setCells {w : World} {g o : Nat} (vs : List Value) : Only g w (w.setCells g o vs) := ⟨below_sets (Below.refl _ _) (Nat.le_refl _) _, (size_sets _).1, fun j hj => oth_sets hj _⟩
/-- The draft's meta stored (0), its node's (10). -/
theorem st_dm0 {ops : Array Oper} {rest : List Oper} {o : Oper} {a : Act} {w : World} {Q : Exit → Act → World → Prop} (hgd : o.guard = none) (x y : Operand) (ho : o.op = .store 25 x y) (hd : o.dst = none) (X : Nat) (am' : Na) (dm' : Nd) (hx : a.eval x = .pointer (some ⟨X, 0, none⟩)) (hy : a.eval y = mvv am' dm') {am : Na} {dm : Nd} {A : Na} {d : Nd} (h : DB w X am dm A d)
    (hK : ∀ F, Only X w F → DB F X am' dm' A d → wpList Tryz.prog ops Q rest a F) : wpList Tryz.prog ops Q (o :: rest) a w :=
  wpList_store_mid hgd 25 x y ho X 0 (mds am' dm').toArray hx hy (there_of h (by simp [mds, dds])) (by kernel_rfl) (by simp [mds, Value.oneCell'] <;> rfl) (by rw [hd]; exact hK _ (only_setCells _) ((blk_sets _ h).trans rfl))
theorem st_dm10 {ops : Array Oper} {rest : List Oper} {o : Oper} {a : Act} {w : World} {Q : Exit → Act → World → Prop} (hgd : o.guard = none) (x y : Operand) (ho : o.op = .store 25 x y) (hd : o.dst = none) (X : Nat) (am' : Na) (dm' : Nd) (hx : a.eval x = .pointer (some ⟨X, 10, none⟩)) (hy : a.eval y = mvv am' dm') {am : Na} {dm : Nd} {A : Na} {d : Nd} (h : DB w X am dm A d)
    (hK : ∀ F, Only X w F → DB F X am dm { A with go := am'.go, gc := am'.gc, bo := am'.bo, bc := am'.bc } { d with g := dm'.g, n := dm'.n, L := dm'.L, fi := dm'.fi, ol := dm'.ol, he := dm'.he, la := dm'.la } → wpList Tryz.prog ops Q rest a F) : wpList Tryz.prog ops Q (o :: rest) a w :=
  wpList_store_mid hgd 25 x y ho X 10 (mds am' dm').toArray hx hy (there_of h (by simp [mds, dds])) (by kernel_rfl) (by simp [mds, Value.oneCell'] <;> rfl) (by rw [hd]; exact hK _ (only_setCells _) ((blk_sets _ h).trans rfl))
/-- A node's meta stored. -/
theorem st_nm {ops : Array Oper} {rest : List Oper} {o : Oper} {a : Act} {w : World} {Q : Exit → Act → World → Prop} (hgd : o.guard = none) (x y : Operand) (ho : o.op = .store 25 x y) (hd : o.dst = none) (X : Nat) (am' : Na) (dm' : Nd) (hx : a.eval x = .pointer (some ⟨X, 4, none⟩)) (hy : a.eval y = mvv am' dm') {t : TypeId} {A : Na} {d : Nd} (h : NB w X t A d)
    (hK : ∀ F, Only X w F → NB F X t { A with go := am'.go, gc := am'.gc, bo := am'.bo, bc := am'.bc } { d with g := dm'.g, n := dm'.n, L := dm'.L, fi := dm'.fi, ol := dm'.ol, he := dm'.he, la := dm'.la } → wpList Tryz.prog ops Q rest a F) : wpList Tryz.prog ops Q (o :: rest) a w :=
  wpList_store_mid hgd 25 x y ho X 4 (mds am' dm').toArray hx hy (there_of h (by simp [mds, nds])) (by kernel_rfl) (by simp [mds, Value.oneCell'] <;> rfl) (by rw [hd]; exact hK _ (only_setCells _) ((blk_sets _ h).trans rfl))
theorem ld_nm {ops : Array Oper} {rest : List Oper} {o : Oper} {a : Act} {w : World} {Q : Exit → Act → World → Prop} (hgd : o.guard = none) (x : Operand) (ho : o.op = .load 25 x) (X : Nat) (hx : a.eval x = .pointer (some ⟨X, 4, none⟩)) {t : TypeId} {A : Na} {d : Nd} (h : NB w X t A d)
    (hK : wpList Tryz.prog ops Q rest (a.put o.dst (mvv A d)) w) : wpList Tryz.prog ops Q (o :: rest) a w :=
  wpList_load_mid hgd 25 x ho X 4 hx (mds A d) _ (range_of h rfl) Tryz.underlying25 rfl (by kernel_rfl) hK

/-- The rows of both, each in memory of its own; a draft in block X. -/
def drows (am : Na) (R' : Nat → Option Addr × Nat) (dm : Nd) (a : Na) (R Q : Nat → Option Addr × Nat) (d : Nd) : List Rw := mrows am.go am.gc am.bo am.bc R' dm.g dm.n dm.L ++ nrows a R Q d
def DR (w : World) (X B : Nat) (am : Na) (dm : Nd) (a : Na) (d : Nd) : Prop := DB w X am dm a d ∧ B ≤ X ∧ NNC a ∧ (Byr d.A ∧ Byr d.C) ∧ ∃ R' R Q, RS w B w.heap.size (drows am R' dm a R Q d)
theorem srows_t {bo : Option Addr} {bc : Nat} {R : Nat → Option Addr × Nat} {n : Nat} {L : Nat → List Int} {r : Rw} (h : r ∈ srows bo bc R n L) : r.t = 3 ∨ r.t = 22 := by
  rcases List.mem_cons.1 h with rfl | h
  · exact .inr rfl
  · obtain ⟨i, _, rfl⟩ := List.mem_map.1 h
    exact .inl rfl
theorem mrows_t {go bo : Option Addr} {gc bc : Nat} {R : Nat → Option Addr × Nat} {g : List Int} {n : Nat} {L : Nat → List Int} {r : Rw} (h : r ∈ mrows go gc bo bc R g n L) : r.t = 3 ∨ r.t = 22 := by
  rcases List.mem_cons.1 h with rfl | h
  · exact .inl rfl
  · exact srows_t h
theorem drows_t {am : Na} {R' : Nat → Option Addr × Nat} {dm : Nd} {a : Na} {R Q : Nat → Option Addr × Nat} {d : Nd} {r : Rw} (h : r ∈ drows am R' dm a R Q d) : r.t = 3 ∨ r.t = 22 ∨ r.t = 4 ∨ r.t = 5 := by
  rcases List.mem_append.1 h with h | h
  · rcases mrows_t h with h | h
    · exact .inl h
    · exact .inr (.inl h)
  · simp only [nrows, List.mem_cons, List.mem_append, List.not_mem_nil, or_false] at h
    rcases h with rfl | h | rfl | rfl | rfl | h | rfl | rfl
    · exact .inl rfl
    · rcases mrows_t h with h | h
      · exact .inl h
      · exact .inr (.inl h)
    · exact .inr (.inr (.inr rfl))
    · exact .inr (.inr (.inr rfl))
    · exact .inr (.inr (.inl rfl))
    · rcases srows_t h with h | h
      · exact .inl h
      · exact .inr (.inl h)
    · exact .inr (.inr (.inl rfl))
    · exact .inl rfl
theorem drow_ne {r : Rw} (h : r.t = 3 ∨ r.t = 22 ∨ r.t = 4 ∨ r.t = 5) : r.t ≠ 98 := by
  rcases h with h | h | h | h <;> rw [h] <;> decide
/-- Rows beside a block of another type that is written. -/
theorem rs_beside {w w' : World} {B T X : Nat} {t : TypeId} {c : Array Value} {rs : List Rw} (h : RS w B T rs) (hc : w.heap[X]? = some (.cells c t (0, 0))) (hne : ∀ r ∈ rs, r.t ≠ t) (ho : Only X w w') : RS w' B T rs :=
  ⟨fun r hr => (h.1 r hr).only ho fun hv e => by
    rcases (h.1 r hr).2 with h0 | ⟨g, e1, _, c', hc', _⟩
    · exact hv h0
    · rw [e] at e1
      cases e1
      rw [hc] at hc'
      simp only [Option.some.injEq, Obj.cells.injEq] at hc'
      exact hne r hr hc'.2.1.symm, h.2⟩
theorem ra_beside {w w' : World} {B T X : Nat} {t : TypeId} {c : Array Value} {rs : List Rw} (h : RA w B T rs) (hc : w.heap[X]? = some (.cells c t (0, 0))) (hne : ∀ r ∈ rs, r.t ≠ t) (ho : Only X w w') : RA w' B T rs :=
  fun r hr => (h r hr).only ho fun hv e => by
    rcases (h r hr).2 with h0 | ⟨g, e1, _, c', hc', _⟩
    · exact hv h0
    · rw [e] at e1
      cases e1
      rw [hc] at hc'
      simp only [Option.some.injEq, Obj.cells.injEq] at hc'
      exact hne r hr hc'.2.1.symm
theorem DR.below {w w' : World} {X B : Nat} {am : Na} {dm : Nd} {a : Na} {d : Nd} (h : DR w X B am dm a d) (hb : Below w.heap.size w w') : DR w' X B am dm a d := by
  obtain ⟨h1, h2, h3, h4, R', R, Q, h5⟩ := h
  exact ⟨h1.b hb, h2, h3, h4, R', R, Q, (h5.below hb (Nat.le_refl _)).wide (Nat.le_refl _) hb.size⟩
/-- The draft's block written, its rows as they were. -/
theorem DR.only {w w' : World} {X B : Nat} {am am2 : Na} {dm dm2 : Nd} {a a2 : Na} {d d2 : Nd} (h : DR w X B am dm a d) (ho : Only X w w') (hD : DB w' X am2 dm2 a2 d2) (e : ∀ R' R Q, drows am2 R' dm2 a2 R Q d2 = drows am R' dm a R Q d) (hn : NNC a2) (hy : Byr d2.A ∧ Byr d2.C) : DR w' X B am2 dm2 a2 d2 := by
  obtain ⟨h1, h2, h3, h4, R', R, Q, h5⟩ := h
  refine ⟨hD, h2, hn, hy, R', R, Q, ?_⟩
  rw [e, ho.2.1]
  exact rs_beside h5 h1 (fun r hr => drow_ne (drows_t hr)) ho
theorem DR.nv {w : World} {X B : Nat} {am : Na} {dm : Nd} {a : Na} {d : Nd} (h : DR w X B am dm a d) : NV w a d := by
  obtain ⟨h1, h2, h3, h4, R', R, Q, h5⟩ := h
  have hs : B ≤ w.heap.size := Nat.le_trans h2 (Nat.le_of_lt h1.lt)
  exact ON.nv (B := B) (T := w.heap.size) ⟨⟨hs, Nat.le_refl _⟩, h3, h4, R, Q, h5.right⟩
theorem DR.mv {w : World} {X B : Nat} {am : Na} {dm : Nd} {a : Na} {d : Nd} (h : DR w X B am dm a d) : MV w am.go am.gc am.bo am.bc dm.g dm.n dm.L := by
  obtain ⟨h1, h2, h3, h4, R', R, Q, h5⟩ := h
  exact h5.left.mv
end Go.Proofs.YtkndnndildnbpaaGreatDoor

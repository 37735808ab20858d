/- A node with another meta, that its slots tell: of the model. -/
import Derived.Test.YtkndnndildnbpaaGreatDoorGu
import Derived.Test.YtkndnndildnbpaaGreatDoorSlPuZ

namespace Go.Proofs.YtkndnndildnbpaaGreatDoor
open Go.ChangeShapes Go.WideShapes Go.ChangeAt Go.RowKit
set_option linter.unusedVariables false
set_option linter.unusedSimpArgs false
set_option maxRecDepth 100000

/-- A block that holds a meta. -/
def MBk (w : World) (g : Nat) (t : TypeId) (am : Na) (dm : Nd) : Prop := w.heap[g]? = some (.cells #[.slice am.go dm.g.length am.gc, .slice am.bo dm.n am.bc, .bool dm.fi, .bool dm.ol, .bool dm.he, .int .i64 dm.la] t (0, 0))
theorem MBk.lt {w : World} {g : Nat} {t : TypeId} {am : Na} {dm : Nd} (h : MBk w g t am dm) : g < w.heap.size := (Array.getElem?_eq_some_iff.1 h).1
theorem MBk.b {w w' : World} {g : Nat} {t : TypeId} {am : Na} {dm : Nd} (h : MBk w g t am dm) (hb : Below w.heap.size w w') : MBk w' g t am dm := (hb.block g h.lt).trans h
theorem MBk.far {w w' : World} {g X : Nat} {t : TypeId} {am : Na} {dm : Nd} (h : MBk w g t am dm) (ho : Only X w w') (hne : g ≠ X) : MBk w' g t am dm := (ho.2.2 g hne).trans h
theorem MBk.new (w : World) (t : TypeId) (am : Na) (dm : Nd) : MBk (w.alloc (.cells #[.slice am.go dm.g.length am.gc, .slice am.bo dm.n am.bc, .bool dm.fi, .bool dm.ol, .bool dm.he, .int .i64 dm.la] t)) w.heap.size t am dm := Deep.blk_alloc_new _ _
theorem ld_mb {ops : Array Oper} {rest : List Oper} {o : Oper} {a : Act} {w : World} {Q : Exit → Act → World → Prop} (hgd : o.guard = none) (x : Operand) (ho : o.op = .load 25 x) (g : Nat) (hx : a.eval x = .pointer (some ⟨g, 0, none⟩)) {t : TypeId} {am : Na} {dm : Nd} (h : MBk w g t am dm)
    (hK : wpList Tryz.prog ops Q rest (a.put o.dst (mvv am dm)) w) : wpList Tryz.prog ops Q (o :: rest) a w :=
  wpList_load_row hgd 25 x ho g hx t (mds am dm).toArray (0, 0) _ h Tryz.underlying25 rfl (by kernel_rfl) hK
/-- The rows of a node that was kept. -/
theorem rn_keep {w w1 w2 : World} {B T : Nat} {a am : Na} {d dm : Nd} {bA bB : Option Addr} {cA cB : Nat} {A C : List Int} {R' : Nat → Option Addr × Nat} (h : RN w B T a d) (hT : T ≤ w.heap.size) (hB : B ≤ w1.heap.size) (hb1 : Below w.heap.size w w1) (hb2 : Below w1.heap.size w1 w2)
    (hm : RA w2 B w2.heap.size (mrows am.go am.gc am.bo am.bc R' dm.g dm.n dm.L)) (hs : RA w2 B w2.heap.size [⟨5, bA, cA, yr A⟩, ⟨5, bB, cB, yr C⟩]) (nA : NC bA cA) (nB : NC bB cB) (hy : Byr A ∧ Byr C) :
    RN w2 B w2.heap.size { a with go := am.go, gc := am.gc, bo := am.bo, bc := am.bc, aA := bA, cA := cA, aB := bB, cB := cB } { d with g := dm.g, n := dm.n, L := dm.L, fi := dm.fi, ol := dm.ol, he := dm.he, la := dm.la, A := A, C := C } := by
  obtain ⟨⟨h1, h2⟩, h3, h4, R, Q, h5⟩ := h
  have hw : Below w.heap.size w w2 := hb1.trans (hb2.mono hb1.size)
  refine ⟨⟨Nat.le_trans hB hb2.size, Nat.le_refl _⟩, ⟨nA, nB⟩, hy, R', Q, fun r hr => ?_⟩
  have k5 : ∀ r ∈ nrows a R Q d, RwOk w2 B w2.heap.size r := fun r hr => ((h5 r hr).kept (fun j _ hj => hw.block j (by omega))).wide (Nat.le_refl _) (by have := hw.size; omega)
  simp only [nrows, List.mem_cons, List.mem_append, List.not_mem_nil, or_false] at hr k5
  rcases hr with e | e | e | e | e | e | e | e
  · exact k5 r (.inl e)
  · exact hm r e
  · exact hs r (by rw [e]; simp)
  · exact hs r (by rw [e]; simp)
  · exact k5 r (.inr (.inr (.inr (.inr (.inl e)))))
  · exact k5 r (.inr (.inr (.inr (.inr (.inr (.inl e))))))
  · exact k5 r (.inr (.inr (.inr (.inr (.inr (.inr (.inl e)))))))
  · exact k5 r (.inr (.inr (.inr (.inr (.inr (.inr (.inr e)))))))

set_option maxHeartbeats 100000000 in
theorem l8keep_s (B : Nat) (a : Na) (d : Nd) (am : Na) (dm : Nd) (w : World) (hr : RN w B w.heap.size a d) (hd : NBd d) (hm : Bd dm.g dm.n dm.L) (hv : MV w am.go am.gc am.bo am.bc dm.g dm.n dm.L) :
    Calls Tryz.prog 96 #[nv a d, mvv am dm] w fun e w' => ∃ b, e = .returned (nv b (kpd Classical.propDecidable d dm)) ∧ RN w' B w'.heap.size b (kpd Classical.propDecidable d dm) ∧ Below w.heap.size w w' := by
  obtain ⟨W, hW⟩ : ∃ W, W = ((w.alloc (.cells (nds a d) 31)).alloc (.cells #[.slice am.go dm.g.length am.gc, .slice am.bo dm.n am.bc, .bool dm.fi, .bool dm.ol, .bool dm.he, .int .i64 dm.la] 25)).alloc (.cells (nds Na.zero Nd.zero) 31) := ⟨_, rfl⟩
  have T0 : Hid (Below w.heap.size w W ∧ NB W w.heap.size 31 a d ∧ MBk W (w.heap.size + 1) 25 am dm ∧ NB W (w.heap.size + 1 + 1) 31 Na.zero Nd.zero ∧ w.heap.size + 1 + 1 < W.heap.size) := by
    obtain ⟨s0, s1, s2, s4⟩ := bal3 w (.cells (nds a d) 31) (.cells #[.slice am.go dm.g.length am.gc, .slice am.bo dm.n am.bc, .bool dm.fi, .bool dm.ol, .bool dm.he, .int .i64 dm.la] 25) (.cells (nds Na.zero Nd.zero) 31)
    rw [hW]
    exact ⟨((bal1 _ _).alloc (by simp) _).alloc (by simp; omega) _, s0, s1, s2, by rw [s4]; omega⟩
  have HR : Hid (RN w B w.heap.size a d) := hr
  have HV : Hid (∀ V, Below w.heap.size w V → NV V a d ∧ MV V am.go am.gc am.bo am.bc dm.g dm.n dm.L) := fun V hb => ⟨hr.nv.below hb, hv.below hb⟩
  have HD := hide hd
  have HM := hide hm
  have HNN : Hid (NNC a) := hr.2.1
  obtain ⟨AX, hAX⟩ : ∃ A, A = ptA Classical.propDecidable d.A d.C (kpx Classical.propDecidable d dm) := ⟨_, rfl⟩
  obtain ⟨CX, hCX⟩ : ∃ A, A = ptB Classical.propDecidable d.A d.C (kpx Classical.propDecidable d dm) := ⟨_, rfl⟩
  have HK2 : Hid (kpd Classical.propDecidable d dm = { d with g := dm.g, n := dm.n, L := dm.L, fi := dm.fi, ol := dm.ol, he := dm.he, la := dm.la, A := AX, C := CX }) := by rw [hAX, hCX]; rfl
  have HBY : Hid (Byr AX ∧ Byr CX) := by
    have hX := slm_by dm.g dm.n dm.L dm.fi dm.ol dm.he dm.la ((sqv Classical.propDecidable) ((latL Classical.propDecidable) d.A d.C) + 1)
    rw [hAX, hCX]
    exact ⟨(ptA_by ⟨hd.2.2.1.1, hr.2.2.1.1⟩ hX).2, (ptB_by ⟨hd.2.2.1.2, hr.2.2.1.2⟩ hX).2⟩
  have HSP : Hid (AX = (ptA Classical.propDecidable) d.A d.C ((slm Classical.propDecidable) dm.g dm.n dm.L dm.fi dm.ol dm.he dm.la ((sqv Classical.propDecidable) ((latL Classical.propDecidable) d.A d.C) + 1)) ∧ CX = (ptB Classical.propDecidable) d.A d.C ((slm Classical.propDecidable) dm.g dm.n dm.L dm.fi dm.ol dm.he dm.la ((sqv Classical.propDecidable) ((latL Classical.propDecidable) d.A d.C) + 1))) := ⟨hAX, hCX⟩
  have hslp : Hid (∀ W, NV W a d → MV W am.go am.gc am.bo am.bc dm.g dm.n dm.L → Calls Tryz.prog 54 #[.agg #[.slice a.aA d.A.length a.cA, .slice a.aB d.C.length a.cB], mvv am dm] W fun e w' => PtOut W w' AX CX e) := fun W h2 h3 => by
    rw [HSP.out.1, HSP.out.2]
    exact slotput_spec a.aA a.aB a.cA a.cB d.A d.C am.go am.bo am.gc am.bc dm.g dm.n dm.L dm.fi dm.ol dm.he dm.la W (h2.vA HD.out) (h2.vC HD.out) HNN.out.1 HNN.out.2 HM.out h3
  clear hd hr hv hm hAX hCX HSP
  generalize kpd Classical.propDecidable d dm = k at *
  unfold nv mvv
  unfold nds Na.zero Nd.zero at hW
  dsimp only [List.length_nil] at hW
  unfold nds
  go_enter Tryz.func96, Tryz.ntmps96
  go_upto_region 1 with fail
  rw [← hW]
  clear hW
  generalize Value.agg #[.int .i64 d.id, .bool d.up, .bool d.pr, .slice a.im d.im.length a.imc, .slice a.go d.g.length a.gc, .slice a.bo d.n a.bc, .bool d.fi, .bool d.ol, .bool d.he, .int .i64 d.la, .slice a.aA d.A.length a.cA, .slice a.aB d.C.length a.cB, .slice a.co d.co.length a.coc, .slice a.so d.m a.sc, .slice a.cp d.cp.length a.cpc, .slice a.wt d.wt.length a.wtc] = vn at *
  generalize Value.agg #[.slice am.go dm.g.length am.gc, .slice am.bo dm.n am.bc, .bool dm.fi, .bool dm.ol, .bool dm.he, .int .i64 dm.la] = vm at *
  go_wp2_with (refine ld_mb rfl _ rfl (w.heap.size + 1) rfl T0.out.2.2.1 ?_)
  refine (copy5g am.go am.bo am.gc am.bc dm.n dm.g dm.L dm.fi dm.ol dm.he dm.la W HM.out (HV.out _ T0.out.1).2).mono ?_
  rintro e w1 ⟨go', bo', gc', bc', rfl, hra, c1⟩
  have H1 : Hid (Below w.heap.size w w1 ∧ NB w1 w.heap.size 31 a d ∧ MBk w1 (w.heap.size + 1) 25 am dm ∧ NB w1 (w.heap.size + 1 + 1) 31 Na.zero Nd.zero ∧ w.heap.size + 1 + 1 < W.heap.size ∧ W.heap.size ≤ w1.heap.size ∧ ∃ R, RA w1 (W.heap.size + 3) w1.heap.size (mrows go' gc' bo' bc' R dm.g dm.n dm.L)) := ⟨T0.out.1.trans (c1.mono T0.out.1.size), T0.out.2.1.b c1, T0.out.2.2.1.b c1, T0.out.2.2.2.1.b c1, T0.out.2.2.2.2, c1.size, hra⟩
  clear hra c1 T0
  go_upto_region 2 with (refine st_nm rfl _ _ rfl rfl w.heap.size { am with go := go', gc := gc', bo := bo', bc := bc' } dm rfl rfl H1.out.2.1 (fun w2 ho2 hn2 => ?_))
  have H2 : Hid (Below w.heap.size w w2 ∧ NB w2 w.heap.size 31 { a with go := go', gc := gc', bo := bo', bc := bc' } { d with g := dm.g, n := dm.n, L := dm.L, fi := dm.fi, ol := dm.ol, he := dm.he, la := dm.la } ∧ MBk w2 (w.heap.size + 1) 25 am dm ∧ NB w2 (w.heap.size + 1 + 1) 31 Na.zero Nd.zero ∧ w.heap.size + 1 + 1 < w2.heap.size ∧ ∃ R, RA w2 (w.heap.size + 1 + 1 + 1) w2.heap.size (mrows go' gc' bo' bc' R dm.g dm.n dm.L)) := by
    obtain ⟨y1, y2, y3, y4, y5, y6, R, y7⟩ := H1.out
    refine ⟨y1.trans ho2.1, hn2, y3.far ho2 (by omega), y4.far ho2 (by omega), by rw [ho2.2.1]; omega, R, ?_⟩
    rw [ho2.2.1]
    exact (y7.kept (fun j h1 h2 => ho2.2.2 j (by omega))).wide (by omega) (Nat.le_refl _)
  clear H1 ho2 hn2
  have p10 : w2.cell? ⟨w.heap.size, 10, none⟩ = some (.slice a.aA d.A.length a.cA) := H2.out.2.1.cells.2.2.2.2.2.2.2.2.2.2.1
  have p11 : w2.cell? ⟨w.heap.size, 11, none⟩ = some (.slice a.aB d.C.length a.cB) := H2.out.2.1.cells.2.2.2.2.2.2.2.2.2.2.2.1
  as_aux_lemma =>
    go_wp2_with (refine ld_mb rfl _ rfl (w.heap.size + 1) rfl H2.out.2.2.1 ?_)
    refine (hslp.out w2 (HV.out _ H2.out.1).1 (HV.out _ H2.out.1).2).mono ?_
    rintro e w3 ⟨bA, bB, dA, dB, rfl, o3, c3, n3⟩
    have q10 : w3.cell? ⟨w.heap.size, 10, none⟩ = some (.slice a.aA d.A.length a.cA) := (H2.out.2.1.b c3).cells.2.2.2.2.2.2.2.2.2.2.1
    have q11 : w3.cell? ⟨w.heap.size, 11, none⟩ = some (.slice a.aB d.C.length a.cB) := (H2.out.2.1.b c3).cells.2.2.2.2.2.2.2.2.2.2.2.1
    have zz := (H2.out.2.1.b c3).froz
    obtain ⟨w4, hw4⟩ : ∃ w4, w4 = (w3.setCell ⟨w.heap.size, 10, none⟩ (.slice bA AX.length dA)).setCell ⟨w.heap.size, 11, none⟩ (.slice bB CX.length dB) := ⟨_, rfl⟩
    obtain ⟨b4, hb4⟩ : ∃ b4 : Na, b4 = { a with go := go', gc := gc', bo := bo', bc := bc', aA := bA, cA := dA, aB := bB, cB := dB } := ⟨_, rfl⟩
    have HO : Hid (Only w.heap.size w3 w4) := by rw [hw4]; exact ((Only.refl _ _).setCell _).setCell _
    have H4 : Hid (NB w4 w.heap.size 31 b4 k ∧ NB w4 (w.heap.size + 1 + 1) 31 Na.zero Nd.zero ∧ ∀ F, Only (w.heap.size + 1 + 1) w4 F → RN F B F.heap.size b4 k ∧ Below w.heap.size w F) := by
      obtain ⟨y1, y2, y3, y4, y5, R, y6⟩ := H2.out
      refine ⟨?_, (y4.b c3).far HO.out (by omega), fun F hF => ?_⟩
      · rw [hw4, hb4, HK2.out]
        have n1 : NB _ w.heap.size 31 { a with go := go', gc := gc', bo := bo', bc := bc', aA := bA, cA := dA } { d with g := dm.g, n := dm.n, L := dm.L, fi := dm.fi, ol := dm.ol, he := dm.he, la := dm.la, A := AX } := nset (i := 10) (v := .slice bA AX.length dA) (y2.b c3) rfl
        exact nset (i := 11) (v := .slice bB CX.length dB) n1 rfl
      · have hs3 := c3.size
        have hsF := hF.2.1
        have hs4 := HO.out.2.1
        have hB1 := HR.out.1.1
        have hw2F : ∀ j, w.heap.size + 1 + 1 < j → F.heap[j]? = w3.heap[j]? := fun j hj => (hF.2.2 j (by omega)).trans (HO.out.2.2 j (by omega))
        have hlow : Below w.heap.size w F := ((y1.trans (c3.mono y1.size)).trans HO.out.1).trans (hF.1.mono (by omega))
        refine ⟨?_, hlow⟩
        rw [hb4, HK2.out]
        have hmr : RA F B F.heap.size (mrows go' gc' bo' bc' R dm.g dm.n dm.L) := (y6.kept (fun j h1 h2 => (hw2F j (by omega)).trans (c3.block j h2))).wide (by omega) (by omega)
        have hsr : RA F B F.heap.size [⟨5, bA, dA, yr AX⟩, ⟨5, bB, dB, yr CX⟩] := ((rs_osl o3).ra.kept (fun j h1 h2 => hw2F j (by omega))).wide (by omega) (by omega)
        exact rn_keep (am := { am with go := go', gc := gc', bo := bo', bc := bc' }) (R' := R) HR.out (Nat.le_refl _) (by have := hlow.size; omega) hlow (Below.refl _ _) hmr hsr n3.1 n3.2 HBY.out
    clear o3 c3 n3 H2 HO hb4
    go_upto_region 3 with fail
    rw [← hw4]
    clear hw4 p10 p11 q10 q11 zz
    go_wp2_with (first
      | (refine ld_node rfl _ rfl w.heap.size rfl H4.out.1 ?_)
      | (refine st_node rfl _ _ rfl rfl (w.heap.size + 1 + 1) b4 k rfl rfl H4.out.2.1 (fun F hF1 hF2 => ?_))
      | (refine bodyPost_ret (v := nv b4 k) (res_node Tryz.results96 rfl hF2) rfl ⟨b4, rfl, (H4.out.2.2 F hF1).1, (H4.out.2.2 F hF1).2⟩))
/-- The one, or the other. -/
def pick (D : (p : Prop) → Decidable p) (p : Prop) (k d : Nd) : Nd := @ite Nd p (D p) k d
theorem pick_yes {p : Prop} {k d : Nd} (h : p) : pick Classical.propDecidable p k d = k := by unfold pick; exact if_pos h
theorem pick_no {p : Prop} {k d : Nd} (h : ¬ p) : pick Classical.propDecidable p k d = d := by unfold pick; exact if_neg h
/-- A node and a meta came in, the result's block behind them. -/
def KS (w V : World) (a : Na) (d : Nd) (am : Na) (dm : Nd) : Prop := Below w.heap.size w V ∧ NB V w.heap.size 31 a d ∧ MBk V (w.heap.size + 1) 25 am dm ∧ NB V (w.heap.size + 1 + 1) 31 Na.zero Nd.zero ∧ w.heap.size + 1 + 1 < V.heap.size
theorem KS.b {w V V' : World} {a : Na} {d : Nd} {am : Na} {dm : Nd} (h : KS w V a d am dm) (hb : Below V.heap.size V V') : KS w V' a d am dm :=
  ⟨h.1.trans (hb.mono h.1.size), h.2.1.b hb, h.2.2.1.b hb, h.2.2.2.1.b hb, Nat.lt_of_lt_of_le h.2.2.2.2 hb.size⟩
theorem KS.far {w V V' : World} {a : Na} {d : Nd} {am : Na} {dm : Nd} {X : Nat} (h : KS w V a d am dm) (ho : OnlyG X V V') (hX : w.heap.size + 1 + 1 < X) : KS w V' a d am dm := by
  obtain ⟨h1, h2, h3, h4, h5⟩ := h
  exact ⟨h1.trans (ho.1.mono (by omega)), (ho.2 _ (by omega) (by omega)).trans h2, (ho.2 _ (by omega) (by omega)).trans h3, (ho.2 _ (by omega) (by omega)).trans h4, Nat.lt_of_lt_of_le h5 ho.1.size⟩
theorem ks_new (w : World) (a : Na) (d : Nd) (am : Na) (dm : Nd) : KS w (((w.alloc (.cells (nds a d) 31)).alloc (.cells #[.slice am.go dm.g.length am.gc, .slice am.bo dm.n am.bc, .bool dm.fi, .bool dm.ol, .bool dm.he, .int .i64 dm.la] 25)).alloc (.cells (nds Na.zero Nd.zero) 31)) a d am dm := by
  obtain ⟨s0, s1, s2, s4⟩ := bal3 w (.cells (nds a d) 31) (.cells #[.slice am.go dm.g.length am.gc, .slice am.bo dm.n am.bc, .bool dm.fi, .bool dm.ol, .bool dm.he, .int .i64 dm.la] 25) (.cells (nds Na.zero Nd.zero) 31)
  exact ⟨((bal1 _ _).alloc (by simp) _).alloc (by simp; omega) _, s0, s1, s2, by rw [s4]; omega⟩
theorem RS.comm {w : World} {B T : Nat} {xs ys : List Rw} (h : RS w B T (xs ++ ys)) : RS w B T (ys ++ xs) := h.right.app h.left h.ap.symm
/-- A draft with another meta, made behind all. -/
theorem DR.newmeta {w w2 F : World} {X B : Nat} {am0 b am : Na} {d0 d dm : Nd} {R : Nat → Option Addr × Nat} (h : DR w X B am0 d0 b d) (hb : Below w.heap.size w w2) (hr : RS w2 w.heap.size w2.heap.size (mrows am.go am.gc am.bo am.bc R dm.g dm.n dm.L)) (ho : Only X w2 F) (hd : DB F X am dm b d) : DR F X B am dm b d := by
  obtain ⟨h1, h2, h3, h4, R0, R1, Q, h5⟩ := h
  refine ⟨hd, h2, h3, h4, R, R1, Q, ?_⟩
  have hB : B ≤ w.heap.size := Nat.le_trans h2 (Nat.le_of_lt h1.lt)
  have h6 := (RS.push (h5.right.below hb (Nat.le_refl _)) hr hB hb.size).comm
  rw [ho.2.1]
  exact rs_beside h6 (h1.b hb) (fun r hr => drow_ne (drows_t (am := am) (dm := dm) hr)) ho
end Go.Proofs.YtkndnndildnbpaaGreatDoor

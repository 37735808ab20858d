/- Rise of the model. -/
import Derived.Test.YtcffhjpdkdaaeaaGreatDoorGu

namespace Go.Proofs.YtcffhjpdkdaaeaaGreatDoor
open Go.ChangeShapes Go.WideShapes Go.ChangeAt Go.RowKit
set_option linter.unusedVariables false
set_option linter.unusedSimpArgs false
set_option maxRecDepth 100000

set_option maxHeartbeats 100000000 in
theorem rise_s (a : Na) (d : Nd) (w : World) (hd : NBd d) (hv : NV w a d) (hn : NNC a) :
    Calls Tryz.prog 24 #[nv a d] w fun e w' => ∃ b, e = .returned (nv b (rsn Classical.propDecidable d)) ∧ RN w' w.heap.size w'.heap.size b (rsn Classical.propDecidable d) ∧ Below w.heap.size w w' := by
  have HRn : Hid (¬ (NOk d ∧ d.up = false) → (rsn Classical.propDecidable) d = d) := rsn_no
  have HRy : Hid (NOk d ∧ d.up = false → (rsn Classical.propDecidable) d = { d with up := true }) := rsn_yes
  generalize (rsn Classical.propDecidable) d = dr at *
  obtain ⟨W, hW⟩ : ∃ W, W = (w.alloc (.cells (nds a d) 31)).alloc (.cells (nds Na.zero Nd.zero) 31) := ⟨_, rfl⟩
  have T0 : Hid (CS w W a d []) := by rw [hW]; exact cs_new w a d
  have HV : Hid (∀ V, Below w.heap.size w V → NV V a d) := fun V hb => hv.below hb
  have HD := hide hd
  have HN := hide hn
  clear hd hv hn
  unfold nv
  unfold nds Na.zero Nd.zero at hW
  dsimp only [List.length_nil] at hW
  unfold nds
  go_enter Tryz.func24, Tryz.ntmps24
  go_upto_region 1 with fail
  rw [← hW]
  clear hW
  generalize Value.agg #[.int .i64 d.id, .bool d.up, .bool d.pr, .slice a.im d.im.length a.imc, .slice a.go d.g.length a.gc, .slice a.bo d.n a.bc, .bool d.fi, .bool d.ol, .bool d.he, .int .i64 d.la, .slice a.aA d.A.length a.cA, .slice a.aB d.C.length a.cB, .slice a.co d.co.length a.coc, .slice a.so d.m a.sc, .slice a.cp d.cp.length a.cpc, .slice a.wt d.wt.length a.wtc] = vn at *
  go_wp2_with (refine ld_node rfl _ rfl w.heap.size rfl T0.out.2.1 ?_)
  refine (copyn_spec a d W HD.out (HV.out _ T0.out.1) HN.out).mono ?_
  rintro e w1 ⟨b, rfl, o1, c1⟩
  obtain ⟨W1, hW1⟩ : ∃ W1, W1 = w1.alloc (.cells (nds b d) 31) := ⟨_, rfl⟩
  have H1 : Hid (FSt w W1 w1.heap.size a d b d ∧ RN W1 (w.heap.size + 1 + 1) w1.heap.size b d) := by
    rw [hW1]
    exact ⟨fs_new T0.out c1, (o1.below (bal1 _ _) (Nat.le_refl _)).wider (by have := T0.out.2.2.2.1; omega) (Nat.le_refl _) (by simp)⟩
  have hlt1 : w.heap.size < w1.heap.size := by have := H1.out.1.2.2.2.2; omega
  clear o1 c1 T0
  unfold nds at hW1
  unfold nv nds
  go_upto_region 2 with fail
  rw [← hW1]
  clear hW1 hlt1
  generalize w1.heap.size = X at *
  generalize Value.agg #[.int .i64 d.id, .bool d.up, .bool d.pr, .slice b.im d.im.length b.imc, .slice b.go d.g.length b.gc, .slice b.bo d.n b.bc, .bool d.fi, .bool d.ol, .bool d.he, .int .i64 d.la, .slice b.aA d.A.length b.cA, .slice b.aB d.C.length b.cB, .slice b.co d.co.length b.coc, .slice b.so d.m b.sc, .slice b.cp d.cp.length b.cpc, .slice b.wt d.wt.length b.wtc] = vb at *
  as_aux_lemma =>
    go_wp2_with (refine ld_node rfl _ rfl w.heap.size rfl H1.out.1.2.1 ?_)
    refine (node_spec a d W1 HD.out (HV.out _ H1.out.1.1)).mono ?_
    rintro e w2 ⟨h, c2⟩
    have H2 : Hid (FSt w w2 X a d b d ∧ RN w2 (w.heap.size + 1 + 1) X b d ∧ X < w2.heap.size) := ⟨H1.out.1.b c2, H1.out.2.below c2 H1.out.2.1.2, (H1.out.1.b c2).2.2.2.1.lt⟩
    clear c2 H1
    have p1 := H2.out.1.2.1.cells.2.1
    have p10 := H2.out.1.2.1.cells.2.2.2.2.2.2.2.2.2.2.1
    have p11 := H2.out.1.2.1.cells.2.2.2.2.2.2.2.2.2.2.2.1
    have hX := H2.out.1.2.2.2.2
    have hN : Hid (FSt w w2 X a d b d ∧ ∀ F : World, Only (w.heap.size + 1) w2 F → RN F w.heap.size F.heap.size b d ∧ Below w.heap.size w F) := ⟨H2.out.1, fun F hF => by
      have hs := hF.2.1
      exact ⟨(H2.out.2.1.only hF (.inr (by omega))).wider (by omega) (by have := H2.out.2.2; omega) (Nat.le_refl _), H2.out.1.1.trans (hF.1.mono (by omega))⟩⟩
    generalize hup : d.up = u at p1
    rcases h with ⟨hok, rfl⟩ | ⟨hok, rfl⟩
    case inr =>
      have HE : Hid (dr = d) := HRn.out (fun h => hok h.1)
      clear HRn HRy H2 hok hup p10 p11
      go_wp2_with (first
        | (refine ld_node rfl _ rfl X rfl hN.out.1.2.2.2.1 ?_)
        | (refine st_node rfl _ _ rfl rfl (w.heap.size + 1) b d rfl rfl hN.out.1.2.2.1 (fun F hF1 hF2 => ?_))
        | (refine bodyPost_ret (v := nv b d) (res_node Tryz.results24 rfl hF2) rfl ⟨b, by rw [HE.out]; rfl, by rw [HE.out]; exact hN.out.2 F hF1⟩))
    cases u with
    | true =>
      have HE : Hid (dr = d) := HRn.out (fun h => by rw [hup] at h; exact absurd h.2 (by simp))
      clear HRn HRy H2 hok hup p10 p11
      go_wp2_with (first
        | (refine ld_node rfl _ rfl X rfl hN.out.1.2.2.2.1 ?_)
        | (refine st_node rfl _ _ rfl rfl (w.heap.size + 1) b d rfl rfl hN.out.1.2.2.1 (fun F hF1 hF2 => ?_))
        | (refine bodyPost_ret (v := nv b d) (res_node Tryz.results24 rfl hF2) rfl ⟨b, by rw [HE.out]; rfl, by rw [HE.out]; exact hN.out.2 F hF1⟩))
    | false =>
      have HE : Hid (dr = { d with up := true }) := HRy.out ⟨hok, hup⟩
      have hslot := hide (slots_ok d hok).1
      clear HRn HRy hN hok hup
      as_aux_lemma =>
        go_upto_region 4 with fail
        go_wp2_with fail
        refine (hslot.out w2 a.aA a.cA a.aB a.cB ((HV.out _ H2.out.1.1).vA HD.out) ((HV.out _ H2.out.1.1).vC HD.out)).mono ?_
        rintro e w3 ⟨go, bo, gc, bc, x, rfl, o3, c3⟩
        obtain ⟨W3, hW3⟩ : ∃ W3, W3 = w3.alloc (.cells #[.slice go d.g.length gc, .slice bo d.n bc, .bool d.fi, .bool d.ol, .bool d.he, .int .i64 d.la] 25) := ⟨_, rfl⟩
        have hmb : W3.heap[w3.heap.size]? = some (.cells #[.slice go d.g.length gc, .slice bo d.n bc, .bool d.fi, .bool d.ol, .bool d.he, .int .i64 d.la] 25 (0, 0)) := by rw [hW3]; exact Deep.blk_alloc_new _ _
        have hbx : Below w3.heap.size w3 W3 := by rw [hW3]; exact bal1 _ _
        have H4 : Hid (FSt w W3 X a d b d ∧ RN W3 (w.heap.size + 1 + 1) X b d ∧ OKm W3 w2.heap.size w3.heap.size go gc bo bc d.g d.n d.L ∧ X < w2.heap.size) := ⟨(H2.out.1.b c3).b hbx, (H2.out.2.1.below c3 (Nat.le_of_lt H2.out.2.2)).below hbx (Nat.le_trans (Nat.le_of_lt H2.out.2.2) c3.size), o3.below hbx (Nat.le_refl _), H2.out.2.2⟩
        have hXm : X < w3.heap.size := Nat.lt_of_lt_of_le H2.out.2.2 c3.size
        clear o3 c3 H2 hslot p10 p11 p1 hbx
        obtain ⟨m0, m1, m2, m3, m4, m5⟩ : W3.cell? ⟨w3.heap.size, 0, none⟩ = some (.slice go d.g.length gc) ∧ W3.cell? ⟨w3.heap.size, 1, none⟩ = some (.slice bo d.n bc) ∧ W3.cell? ⟨w3.heap.size, 2, none⟩ = some (.bool d.fi) ∧ W3.cell? ⟨w3.heap.size, 3, none⟩ = some (.bool d.ol) ∧ W3.cell? ⟨w3.heap.size, 4, none⟩ = some (.bool d.he) ∧ W3.cell? ⟨w3.heap.size, 5, none⟩ = some (.int .i64 d.la) := ⟨mblk hmb rfl, mblk hmb rfl, mblk hmb rfl, mblk hmb rfl, mblk hmb rfl, mblk hmb rfl⟩
        clear hmb
        obtain ⟨o0, o1, o2, o3, o4, o5, o6, o7, o8, o9, o10, o11, o12, o13, o14, o15⟩ := H4.out.1.2.2.2.1.cells
        have zX := H4.out.1.2.2.2.1.froz
        obtain ⟨b1, hb1⟩ : ∃ b1 : Na, b1 = { b with go := go, gc := gc, bo := bo, bc := bc } := ⟨_, rfl⟩
        obtain ⟨d1, hd1⟩ : ∃ d1 : Nd, d1 = { d with up := true } := ⟨_, rfl⟩
        obtain ⟨V2, hV2⟩ : ∃ V2, V2 = ((((((W3.setCell ⟨X, 4, none⟩ (.slice go d.g.length gc)).setCell ⟨X, 5, none⟩ (.slice bo d.n bc)).setCell ⟨X, 6, none⟩ (.bool d.fi)).setCell ⟨X, 7, none⟩ (.bool d.ol)).setCell ⟨X, 8, none⟩ (.bool d.he)).setCell ⟨X, 9, none⟩ (.int .i64 d.la)).setCell ⟨X, 1, none⟩ (.bool true) := ⟨_, rfl⟩
        have HO2 : Hid (Only X W3 V2) := by rw [hV2]; exact (((((((Only.refl _ _).setCell _).setCell _).setCell _).setCell _).setCell _).setCell _).setCell _
        have hNB : NB V2 X 31 b1 d1 := by
          have h := H4.out.1.2.2.2.1
          rw [hV2, hb1, hd1]
          have n1 : NB _ X 31 { b with go := go, gc := gc } d := nset (i := 4) (v := .slice go d.g.length gc) h rfl
          have n2 : NB _ X 31 { b with go := go, gc := gc, bo := bo, bc := bc } d := nset (i := 5) (v := .slice bo d.n bc) n1 rfl
          have n3 : NB _ X 31 { b with go := go, gc := gc, bo := bo, bc := bc } d := nset (i := 6) (v := .bool d.fi) n2 rfl
          have n4 : NB _ X 31 { b with go := go, gc := gc, bo := bo, bc := bc } d := nset (i := 7) (v := .bool d.ol) n3 rfl
          have n5 : NB _ X 31 { b with go := go, gc := gc, bo := bo, bc := bc } d := nset (i := 8) (v := .bool d.he) n4 rfl
          have n6 : NB _ X 31 { b with go := go, gc := gc, bo := bo, bc := bc } d := nset (i := 9) (v := .int .i64 d.la) n5 rfl
          exact nset (i := 1) (v := .bool true) n6 rfl
        have hM : Hid (FSt w V2 X a d b1 d1 ∧ ∀ F : World, Only (w.heap.size + 1) V2 F → RN F w.heap.size F.heap.size b1 d1 ∧ Below w.heap.size w F) := ⟨H4.out.1.set HO2.out hNB, fun F hF => ⟨by rw [hb1, hd1]; exact rn_fin true H4.out.2.1 H4.out.2.2.1 H4.out.2.2.2 HO2.out hF hX, (H4.out.1.set HO2.out hNB).1.trans (hF.1.mono (by omega))⟩⟩
        have HE2 : Hid (dr = d1) := (show _ = _ from by rw [HE.out, hd1])
        go_upto_region 5 with fail
        rw [← hW3]
        clear hW3
        go_upto_region 7 with fail
        rw [← hV2]
        clear hV2 o0 o1 o2 o3 o4 o5 o6 o7 o8 o9 o10 o11 o12 o13 o14 o15 zX H4 HO2 hNB HE hd1 hb1 m0 m1 m2 m3 m4 m5 hXm
        go_wp2_with (first
          | (refine ld_node rfl _ rfl X rfl hM.out.1.2.2.2.1 ?_)
          | (refine st_node rfl _ _ rfl rfl (w.heap.size + 1) b1 d1 rfl rfl hM.out.1.2.2.1 (fun F hF1 hF2 => ?_))
          | (refine bodyPost_ret (v := nv b1 d1) (res_node Tryz.results24 rfl hF2) rfl ⟨b1, by rw [HE2.out]; rfl, by rw [HE2.out]; exact hM.out.2 F hF1⟩))
end Go.Proofs.YtcffhjpdkdaaeaaGreatDoor

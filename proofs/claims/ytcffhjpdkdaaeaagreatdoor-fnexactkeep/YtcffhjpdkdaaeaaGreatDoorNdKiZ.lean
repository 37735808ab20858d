/- Keep of the program. -/
import Derived.Test.YtcffhjpdkdaaeaaGreatDoorGw
import Derived.Test.YtcffhjpdkdaaeaaGreatDoorNdDr1Z

namespace Go.Proofs.YtcffhjpdkdaaeaaGreatDoor
open Go.ChangeShapes Go.WideShapes Go.ChangeAt Go.RowKit
set_option linter.unusedVariables false
set_option linter.unusedSimpArgs false
set_option maxRecDepth 100000

set_option maxHeartbeats 100000000 in
theorem keepn_i (a : Na) (d : Nd) (am : Na) (dm : Nd) (w : World) (hg : ErrT w)
    (hd : NBd d) (hv : NV w a d) (hn : NNC a) (hm : Bd dm.g dm.n dm.L) (hmv : MV w am.go am.gc am.bo am.bc dm.g dm.n dm.L) :
    Calls Tryz.prog 19 #[nv a d, mvv am dm] w fun e w' => ∃ b, e = .returned (nv b (pick Classical.propDecidable (NOk d ∧ NOk (kpd Classical.propDecidable d dm)) (kpd Classical.propDecidable d dm) d)) ∧ ON w' w.heap.size w'.heap.size b (pick Classical.propDecidable (NOk d ∧ NOk (kpd Classical.propDecidable d dm)) (kpd Classical.propDecidable d dm) d) ∧ Below w.heap.size w w' := by
  obtain ⟨W, hW⟩ : ∃ W, W = ((w.alloc (.cells (nds a d) 31)).alloc (.cells #[.slice am.go dm.g.length am.gc, .slice am.bo dm.n am.bc, .bool dm.fi, .bool dm.ol, .bool dm.he, .int .i64 dm.la] 25)).alloc (.cells (nds Na.zero Nd.zero) 31) := ⟨_, rfl⟩
  have T0 : Hid (KS w W a d am dm) := by rw [hW]; exact ks_new w a d am dm
  have HV : Hid (∀ V, Below w.heap.size w V → NV V a d ∧ MV V am.go am.gc am.bo am.bc dm.g dm.n dm.L ∧ ErrT V) := fun V hb => ⟨hv.below hb, hmv.below hb, hg.below hb⟩
  have HD := hide hd
  have HM := hide hm
  have HNN := hide hn
  obtain ⟨r, hr⟩ : ∃ r, r = pick Classical.propDecidable (NOk d ∧ NOk (kpd Classical.propDecidable d dm)) (kpd Classical.propDecidable d dm) d := ⟨_, rfl⟩
  have HR : Hid ((NOk d → NOk (kpd Classical.propDecidable d dm) → r = kpd Classical.propDecidable d dm) ∧ (¬ (NOk d ∧ NOk (kpd Classical.propDecidable d dm)) → r = d)) := by rw [hr]; exact ⟨fun h1 h2 => pick_yes ⟨h1, h2⟩, fun h => pick_no h⟩
  rw [← hr]
  clear hd hv hn hm hmv hg hr
  unfold nv mvv
  unfold nds Na.zero Nd.zero at hW
  dsimp only [List.length_nil] at hW
  unfold nds
  go_enter Tryz.func19, Tryz.ntmps19
  go_upto_region 1 with fail
  rw [← hW]
  clear hW
  generalize Value.agg #[.int .i64 d.id, .bool d.up, .bool d.pr, .slice a.im d.im.length a.imc, .slice a.go d.g.length a.gc, .slice a.bo d.n a.bc, .bool d.fi, .bool d.ol, .bool d.he, .int .i64 d.la, .slice a.aA d.A.length a.cA, .slice a.aB d.C.length a.cB, .slice a.co d.co.length a.coc, .slice a.so d.m a.sc, .slice a.cp d.cp.length a.cpc, .slice a.wt d.wt.length a.wtc] = vn at *
  generalize Value.agg #[.slice am.go dm.g.length am.gc, .slice am.bo dm.n am.bc, .bool dm.fi, .bool dm.ol, .bool dm.he, .int .i64 dm.la] = vm at *
  go_wp2_with (refine ld_node rfl _ rfl w.heap.size rfl T0.out.2.1 ?_)
  refine (node_impl a d W (HV.out _ T0.out.1).2.2 HD.out (HV.out _ T0.out.1).1).mono ?_
  rintro e w1 ⟨h, c1⟩
  have H1 : Hid (KS w w1 a d am dm) := T0.out.b c1
  clear c1 T0
  rcases h with ⟨hok, rfl⟩ | ⟨hok, rfl⟩
  case inr =>
    have HE : Hid (r = d) := HR.out.2 (fun h => hok h.1)
    clear HR hok
    go_wp2_with (refine ld_node rfl _ rfl w.heap.size rfl H1.out.2.1 ?_)
    refine (copyn_impl a d w1 HD.out (HV.out _ H1.out.1).1 HNN.out).mono ?_
    rintro e w2 ⟨b, rfl, o2, c2⟩
    have H2 : Hid (NB w2 (w.heap.size + 1 + 1) 31 Na.zero Nd.zero ∧ ∀ F : World, Only (w.heap.size + 1 + 1) w2 F → ON F w.heap.size F.heap.size b r ∧ Below w.heap.size w F) := ⟨H1.out.2.2.2.1.b c2, fun F hF => by
      have hs := hF.2.1
      have hz := H1.out.2.2.2.2
      refine ⟨?_, (H1.out.1.trans (c2.mono H1.out.1.size)).trans (hF.1.mono (by omega))⟩
      rw [HE.out]
      exact (o2.only hF (.inr (by omega))).wider (by omega) (by omega) (Nat.le_refl _)⟩
    have HE2 : Hid (nv b r = nv b d) := (show _ = _ from by rw [HE.out])
    clear o2 c2 H1
    go_wp2_with (first
      | (refine st_node rfl _ _ rfl rfl (w.heap.size + 1 + 1) b d rfl rfl H2.out.1 (fun F hF1 hF2 => ?_))
      | (refine bodyPost_ret (v := nv b d) (res_node Tryz.results19 rfl hF2) rfl ⟨b, (show Ending.returned (nv b d) = Ending.returned (nv b r) from by rw [HE2.out]), H2.out.2 F hF1⟩))
  have HY : Hid ((NOk (kpd Classical.propDecidable d dm) → r = kpd Classical.propDecidable d dm) ∧ (¬ NOk (kpd Classical.propDecidable d dm) → r = d)) := ⟨HR.out.1 hok, fun h => HR.out.2 (fun h2 => h h2.2)⟩
  clear HR hok
  as_aux_lemma =>
    go_wp2_with (refine ld_node rfl _ rfl w.heap.size rfl H1.out.2.1 ?_)
    refine (draft_i a d w1 HD.out (HV.out _ H1.out.1).1 HNN.out).mono ?_
    rintro e w2 ⟨X, am0, b, rfl, hdr, hX, c2⟩
    have H2 : Hid (KS w w2 a d am dm ∧ DR w2 X w1.heap.size am0 d b d ∧ w1.heap.size < X ∧ w.heap.size + 1 + 1 < w1.heap.size) := ⟨H1.out.b c2, hdr, hX, H1.out.2.2.2.2⟩
    clear hdr hX c2 H1
    go_wp2_with (refine ld_mb rfl _ rfl (w.heap.size + 1) rfl H2.out.1.2.2.1 ?_)
    refine (copym_r am.go am.bo am.gc am.bc dm.g dm.n dm.L dm.fi dm.ol dm.he dm.la w2 HM.out (HV.out _ H2.out.1.1).2.1).mono ?_
    rintro e w3 ⟨q1, e1, q2, e2, R, rfl, r3, c3⟩
    have H3 : Hid (KS w w3 a d am dm ∧ DB w3 X am0 d b d) := ⟨H2.out.1.b c3, H2.out.2.1.1.b c3⟩
    go_upto_region 5 with (refine st_dm0 rfl _ _ rfl rfl X { am with go := q1, gc := e1, bo := q2, bc := e2 } dm rfl rfl H3.out.2 (fun w4 ho4 hd4 => ?_))
    have H4 : Hid (KS w w4 a d am dm ∧ DR w4 X w1.heap.size { am with go := q1, gc := e1, bo := q2, bc := e2 } dm b d ∧ w.heap.size + 1 + 1 < w1.heap.size ∧ w1.heap.size < X) := ⟨H3.out.1.far (OnlyG.of_only ho4) (by have := H2.out.2.2; omega), DR.newmeta H2.out.2.1 c3 r3 ho4 hd4, H2.out.2.2.2, H2.out.2.2.1⟩
    clear r3 c3 H3 ho4 hd4 H2
    generalize w1.heap.size = B at *
    generalize ({ am with go := q1, gc := e1, bo := q2, bc := e2 } : Na) = am4 at *
    as_aux_lemma =>
      go_wp2_with (refine ld_node rfl _ rfl w.heap.size rfl H4.out.1.2.1 ?_)
      refine (keptor_i X B am4 dm b d a d r w4 (HV.out _ H4.out.1.1).2.2 H4.out.2.1 HD.out HM.out HD.out HNN.out (fun V hb => (HV.out V (H4.out.1.1.trans (hb.mono (by have := H4.out.2.2.1; omega)))).1) HY.out.1 HY.out.2).mono ?_
      rintro e w5 ⟨b5, rfl, o5, ho5⟩
      have H5 : Hid (NB w5 (w.heap.size + 1 + 1) 31 Na.zero Nd.zero ∧ ∀ F : World, Only (w.heap.size + 1 + 1) w5 F → ON F w.heap.size F.heap.size b5 r ∧ Below w.heap.size w F) := by
        have hk := H4.out.1.far ho5 (by have := H4.out.2.2; omega)
        refine ⟨hk.2.2.2.1, fun F hF => ?_⟩
        have hs := hF.2.1
        have hz := H4.out.2.2.1
        exact ⟨(o5.only hF (.inr (by omega))).wider (by omega) (by omega) (Nat.le_refl _), hk.1.trans (hF.1.mono (by omega))⟩
      clear o5 ho5 H4 HY
      go_wp2_with (first
        | (refine st_node rfl _ _ rfl rfl (w.heap.size + 1 + 1) b5 r rfl rfl H5.out.1 (fun F hF1 hF2 => ?_))
        | (refine bodyPost_ret (v := nv b5 r) (res_node Tryz.results19 rfl hF2) rfl ⟨b5, rfl, H5.out.2 F hF1⟩))
end Go.Proofs.YtcffhjpdkdaaeaaGreatDoor

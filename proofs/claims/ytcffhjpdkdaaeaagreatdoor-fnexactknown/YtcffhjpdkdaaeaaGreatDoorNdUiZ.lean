/- Known of the program. -/
import Derived.Test.YtcffhjpdkdaaeaaGreatDoorHa

namespace Go.Proofs.YtcffhjpdkdaaeaaGreatDoor
open Go.ChangeShapes Go.WideShapes Go.ChangeAt Go.RowKit
set_option linter.unusedVariables false
set_option linter.unusedSimpArgs false
set_option maxRecDepth 100000

theorem CS.far {w V V' : World} {a : Na} {d : Nd} {B : Nat} (h : CS w V a d []) (hb : Below B V V') (hB : w.heap.size + 1 < B) : CS w V' a d [] :=
  ⟨h.1.trans (hb.mono (by omega)), h.2.1.below hb (by omega), h.2.2.1.below hb (by omega), Nat.le_trans h.2.2.2.1 hb.size, RS.nil⟩
theorem OnlyG.bel {X B : Nat} {w w' : World} (h : OnlyG X w w') (hB : B ≤ X) : Below B w w' := h.1.mono hB
set_option maxHeartbeats 100000000 in
theorem known_i (a : Na) (d : Nd) (y1 y2 y3 : Int) (w : World) (hy1 : (-9223372036854775808 ≤ y1 ∧ y1 ≤ 9223372036854775807)) (hy2 : (-9223372036854775808 ≤ y2 ∧ y2 ≤ 9223372036854775807)) (hy3 : (-9223372036854775808 ≤ y3 ∧ y3 ≤ 9223372036854775807)) (hg : ErrT w) (hd : NBd d) (hv : NV w a d) (hn : NNC a) :
    Calls Tryz.prog 29 #[nv a d, .int .i64 y1, .int .i64 y2, .int .i64 y3] w fun e w' => ∃ b, e = .returned (nv b (pick Classical.propDecidable (NOk d ∧ KnC d y1 y2 y3 ∧ NOk (knd Classical.propDecidable d y1 y2)) (knd Classical.propDecidable d y1 y2) d)) ∧ ON w' w.heap.size w'.heap.size b (pick Classical.propDecidable (NOk d ∧ KnC d y1 y2 y3 ∧ NOk (knd Classical.propDecidable d y1 y2)) (knd Classical.propDecidable d y1 y2) d) ∧ Below w.heap.size w w' := by
  obtain ⟨W, hW⟩ : ∃ W, W = (w.alloc (.cells (nds a d) 31)).alloc (.cells (nds Na.zero Nd.zero) 31) := ⟨_, rfl⟩
  have T0 : Hid (CS w W a d []) := by rw [hW]; exact cs_new w a d
  have HV : Hid (∀ V, Below w.heap.size w V → NV V a d ∧ ErrT V) := fun V hb => ⟨hv.below hb, hg.below hb⟩
  have HD := hide hd
  have HNN := hide hn
  obtain ⟨r, hr⟩ : ∃ r, r = pick Classical.propDecidable (NOk d ∧ KnC d y1 y2 y3 ∧ NOk (knd Classical.propDecidable d y1 y2)) (knd Classical.propDecidable d y1 y2) d := ⟨_, rfl⟩
  have HR : Hid ((NOk d → KnC d y1 y2 y3 → NOk (knd Classical.propDecidable d y1 y2) → r = knd Classical.propDecidable d y1 y2) ∧ (¬ (NOk d ∧ KnC d y1 y2 y3 ∧ NOk (knd Classical.propDecidable d y1 y2)) → r = d)) := by rw [hr]; exact ⟨fun h1 h2 h3 => pick_yes ⟨h1, h2, h3⟩, fun h => pick_no h⟩
  rw [← hr]
  clear hd hv hn hg hr hy3
  unfold nv
  unfold nds Na.zero Nd.zero at hW
  dsimp only [List.length_nil] at hW
  unfold nds
  go_enter Tryz.func29, Tryz.ntmps29
  go_upto_region 1 with fail
  rw [← hW]
  clear hW
  generalize Value.agg #[.int .i64 d.id, .bool d.up, .bool d.pr, .slice a.im d.im.length a.imc, .slice a.go d.g.length a.gc, .slice a.bo d.n a.bc, .bool d.fi, .bool d.ol, .bool d.he, .int .i64 d.la, .slice a.aA d.A.length a.cA, .slice a.aB d.C.length a.cB, .slice a.co d.co.length a.coc, .slice a.so d.m a.sc, .slice a.cp d.cp.length a.cpc, .slice a.wt d.wt.length a.wtc] = vn at *
  go_wp2_with (refine ld_node rfl _ rfl w.heap.size rfl T0.out.2.1 ?_)
  refine (node_impl a d W (HV.out _ T0.out.1).2 HD.out (HV.out _ T0.out.1).1).mono ?_
  rintro e w1 ⟨h, c1⟩
  have H1 : Hid (CS w w1 a d []) := T0.out.call (ys := []) c1 RS.nil
  clear c1 T0
  rcases h with ⟨hok, rfl⟩ | ⟨hok, rfl⟩
  case inr =>
    have HE : Hid (r = d) := HR.out.2 (fun h => hok h.1)
    clear HR hok
    go_wp2_with (refine ld_node rfl _ rfl w.heap.size rfl H1.out.2.1 ?_)
    refine (copyn_impl a d w1 HD.out (HV.out _ H1.out.1).1 HNN.out).mono ?_
    rintro e w2 ⟨b, rfl, o2, c2⟩
    have H2 : Hid (NB w2 (w.heap.size + 1) 31 Na.zero Nd.zero ∧ ∀ F : World, Only (w.heap.size + 1) w2 F → ON F w.heap.size F.heap.size b r ∧ Below w.heap.size w F) := ⟨H1.out.2.2.1.b c2, fun F hF => by
      have hs := hF.2.1
      have hz := H1.out.2.2.2.1
      refine ⟨?_, (H1.out.1.trans (c2.mono H1.out.1.size)).trans (hF.1.mono (by omega))⟩
      rw [HE.out]
      exact (o2.only hF (.inr (by omega))).wider (by omega) (by omega) (Nat.le_refl _)⟩
    have HE2 : Hid (nv b r = nv b d) := (show _ = _ from by rw [HE.out])
    clear o2 c2 H1
    go_wp2_with (first
      | (refine st_node rfl _ _ rfl rfl (w.heap.size + 1) b d rfl rfl H2.out.1 (fun F hF1 hF2 => ?_))
      | (refine bodyPost_ret (v := nv b d) (res_node Tryz.results29 rfl hF2) rfl ⟨b, (show Ending.returned (nv b d) = Ending.returned (nv b r) from by rw [HE2.out]), H2.out.2 F hF1⟩))
  go_wp2_with fail
  by_cases hw1 : 0 ≤ y1 ∧ y1 ≤ 2
  case neg =>
    have hq := nonode_any y1 w1
    rw [show decide (y1 < 0 ∨ 3 ≤ y1) = true by simp; omega] at hq
    have HE : Hid (r = d) := HR.out.2 (fun h => hw1 h.2.1.1)
    clear HR hok hw1
    refine hq.mono ?_
    rintro e w' ⟨rfl, hw'⟩
    rw [hw']
    clear hw' hq
    go_wp2_with (refine ld_node rfl _ rfl w.heap.size rfl H1.out.2.1 ?_)
    refine (copyn_impl a d w1 HD.out (HV.out _ H1.out.1).1 HNN.out).mono ?_
    rintro e w2 ⟨b, rfl, o2, c2⟩
    have H2 : Hid (NB w2 (w.heap.size + 1) 31 Na.zero Nd.zero ∧ ∀ F : World, Only (w.heap.size + 1) w2 F → ON F w.heap.size F.heap.size b r ∧ Below w.heap.size w F) := ⟨H1.out.2.2.1.b c2, fun F hF => by
      have hs := hF.2.1
      have hz := H1.out.2.2.2.1
      refine ⟨?_, (H1.out.1.trans (c2.mono H1.out.1.size)).trans (hF.1.mono (by omega))⟩
      rw [HE.out]
      exact (o2.only hF (.inr (by omega))).wider (by omega) (by omega) (Nat.le_refl _)⟩
    have HE2 : Hid (nv b r = nv b d) := (show _ = _ from by rw [HE.out])
    clear o2 c2 H1
    go_wp2_with (first
      | (refine st_node rfl _ _ rfl rfl (w.heap.size + 1) b d rfl rfl H2.out.1 (fun F hF1 hF2 => ?_))
      | (refine bodyPost_ret (v := nv b d) (res_node Tryz.results29 rfl hF2) rfl ⟨b, (show Ending.returned (nv b d) = Ending.returned (nv b r) from by rw [HE2.out]), H2.out.2 F hF1⟩))
  have hq := nonode_any y1 w1
  rw [show decide (y1 < 0 ∨ 3 ≤ y1) = false by simp; omega] at hq
  refine hq.mono ?_
  rintro e w' ⟨rfl, hw'⟩
  rw [hw']
  clear hw' hq
  go_wp2_with fail
  by_cases hw2 : 0 ≤ y2 ∧ y2 ≤ 7
  case neg =>
    have hq := nocell_any y2 w1
    rw [show decide (y2 < 0 ∨ 8 ≤ y2) = true by simp; omega] at hq
    have HE : Hid (r = d) := HR.out.2 (fun h => hw2 h.2.1.2.1)
    clear HR hok hw1 hw2
    refine hq.mono ?_
    rintro e w' ⟨rfl, hw'⟩
    rw [hw']
    clear hw' hq
    go_wp2_with (refine ld_node rfl _ rfl w.heap.size rfl H1.out.2.1 ?_)
    refine (copyn_impl a d w1 HD.out (HV.out _ H1.out.1).1 HNN.out).mono ?_
    rintro e w2 ⟨b, rfl, o2, c2⟩
    have H2 : Hid (NB w2 (w.heap.size + 1) 31 Na.zero Nd.zero ∧ ∀ F : World, Only (w.heap.size + 1) w2 F → ON F w.heap.size F.heap.size b r ∧ Below w.heap.size w F) := ⟨H1.out.2.2.1.b c2, fun F hF => by
      have hs := hF.2.1
      have hz := H1.out.2.2.2.1
      refine ⟨?_, (H1.out.1.trans (c2.mono H1.out.1.size)).trans (hF.1.mono (by omega))⟩
      rw [HE.out]
      exact (o2.only hF (.inr (by omega))).wider (by omega) (by omega) (Nat.le_refl _)⟩
    have HE2 : Hid (nv b r = nv b d) := (show _ = _ from by rw [HE.out])
    clear o2 c2 H1
    go_wp2_with (first
      | (refine st_node rfl _ _ rfl rfl (w.heap.size + 1) b d rfl rfl H2.out.1 (fun F hF1 hF2 => ?_))
      | (refine bodyPost_ret (v := nv b d) (res_node Tryz.results29 rfl hF2) rfl ⟨b, (show Ending.returned (nv b d) = Ending.returned (nv b r) from by rw [HE2.out]), H2.out.2 F hF1⟩))
  have hq := nocell_any y2 w1
  rw [show decide (y2 < 0 ∨ 8 ≤ y2) = false by simp; omega] at hq
  obtain ⟨k, rfl⟩ : ∃ k : Nat, y1 = (k : Int) := ⟨y1.toNat, by omega⟩
  obtain ⟨j, rfl⟩ : ∃ j : Nat, y2 = (j : Int) := ⟨y2.toNat, by omega⟩
  have hlen : d.im.length = 8 := hok.2.1.1
  obtain ⟨ib, io, e1, _, hic0⟩ := (HV.out _ H1.out.1).1.1.1 j (by omega)
  have hic' : w1.cell? ⟨ib, io + j, none⟩ = some (.int .i64 (d.im.getD j 0)) := hic0
  have HIM : Hid ((k : Int).toNat = k ∧ (j : Int).toNat = j) := ⟨by omega, by omega⟩
  have p3 : w1.cell? ⟨w.heap.size, 3, none⟩ = some (.slice (some ⟨ib, io, none⟩) 8 a.imc) := by
    have h := H1.out.2.1.cells.2.2.2.1
    rw [e1, hlen] at h
    exact h
  have hj0 : (0 : Int) ≤ (j : Int) := hw2.1
  have hj1 : (j : Int) < 8 := by omega
  clear hlen e1 hic0
  refine hq.mono ?_
  rintro e w' ⟨rfl, hw'⟩
  rw [hw']
  clear hw' hq
  obtain ⟨iv, hiv⟩ : ∃ iv, iv = d.im.getD j 0 := ⟨_, rfl⟩
  rw [← hiv] at hic'
  have HIV := hide hiv
  clear hiv
  by_cases hw3 : iv = y3
  case neg =>
    have HE : Hid (r = d) := HR.out.2 (fun h => hw3 (by rw [HIV.out, ← HIM.out.2]; exact h.2.1.2.2))
    have hne : (iv == y3) = false := by simpa using hw3
    clear HR hok hw1 hw2
    go_wp2_with (refine ld_node rfl _ rfl w.heap.size rfl H1.out.2.1 ?_)
    refine (copyn_impl a d w1 HD.out (HV.out _ H1.out.1).1 HNN.out).mono ?_
    rintro e w2 ⟨b, rfl, o2, c2⟩
    have H2 : Hid (NB w2 (w.heap.size + 1) 31 Na.zero Nd.zero ∧ ∀ F : World, Only (w.heap.size + 1) w2 F → ON F w.heap.size F.heap.size b r ∧ Below w.heap.size w F) := ⟨H1.out.2.2.1.b c2, fun F hF => by
      have hs := hF.2.1
      have hz := H1.out.2.2.2.1
      refine ⟨?_, (H1.out.1.trans (c2.mono H1.out.1.size)).trans (hF.1.mono (by omega))⟩
      rw [HE.out]
      exact (o2.only hF (.inr (by omega))).wider (by omega) (by omega) (Nat.le_refl _)⟩
    have HE2 : Hid (nv b r = nv b d) := (show _ = _ from by rw [HE.out])
    clear o2 c2 H1
    go_wp2_with (first
      | (refine st_node rfl _ _ rfl rfl (w.heap.size + 1) b d rfl rfl H2.out.1 (fun F hF1 hF2 => ?_))
      | (refine bodyPost_ret (v := nv b d) (res_node Tryz.results29 rfl hF2) rfl ⟨b, (show Ending.returned (nv b d) = Ending.returned (nv b r) from by rw [HE2.out]), H2.out.2 F hF1⟩))
  have HC : Hid (KnC d (k : Int) (j : Int) y3) := ⟨hw1, hw2, by rw [HIM.out.2, ← HIV.out]; exact hw3⟩
  have HKD : Hid (kpd Classical.propDecidable d { d with L := updL d.L k (kept (fun i => (d.L k).getD i 0) (j : Int) (d.L k).length) } = knd Classical.propDecidable d (k : Int) (j : Int)) := (show _ = _ from by unfold knd; rw [HIM.out.1])
  have HY : Hid ((NOk (kpd Classical.propDecidable d { d with L := updL d.L k (kept (fun i => (d.L k).getD i 0) (j : Int) (d.L k).length) }) → r = kpd Classical.propDecidable d { d with L := updL d.L k (kept (fun i => (d.L k).getD i 0) (j : Int) (d.L k).length) }) ∧ (¬ NOk (kpd Classical.propDecidable d { d with L := updL d.L k (kept (fun i => (d.L k).getD i 0) (j : Int) (d.L k).length) }) → r = d)) := by
    rw [HKD.out]
    exact ⟨HR.out.1 hok HC.out, fun h => HR.out.2 (fun h2 => h h2.2.2)⟩
  have HM3 : Hid (d.n = 3 ∧ k < 3 ∧ True) := ⟨hok.2.2.1.2.1.1, by omega, trivial⟩
  have hne : (iv == y3) = true := by simpa using hw3
  clear HR HC HKD hok hw1 hw2
  as_aux_lemma =>
    go_wp2_with (refine ld_node rfl _ rfl w.heap.size rfl H1.out.2.1 ?_)
    refine (draft_i a d w1 HD.out (HV.out _ H1.out.1).1 HNN.out).mono ?_
    rintro e w2 ⟨X, am, b, rfl, hdr, hX, c2⟩
    have H2 : Hid (CS w w2 a d [] ∧ DR w2 X w1.heap.size am d b d ∧ w1.heap.size < X ∧ w.heap.size + 1 < w1.heap.size) := ⟨H1.out.call (ys := []) c2 RS.nil, hdr, hX, by have := H1.out.2.2.2.1; omega⟩
    clear hdr hX c2 H1 p3 hic' hne hw3
    go_wp2_with fail
    refine (unmark_i X w1.heap.size k am d b d (j : Int) w2 H2.out.2.1 HM3.out.1 HM3.out.2.1 (HD.out.2.1.2.2 k (by rw [HM3.out.1]; exact HM3.out.2.1))).mono ?_
    rintro e w3 ⟨rfl, hdr, c3⟩
    have H3 : Hid (CS w w3 a d [] ∧ DR w3 X w1.heap.size am { d with L := updL d.L k (kept (fun i => (d.L k).getD i 0) (j : Int) (d.L k).length) } b d ∧ w1.heap.size < X ∧ w.heap.size + 1 < w1.heap.size) := ⟨H2.out.1.far c3 H2.out.2.2.2, hdr, H2.out.2.2⟩
    have HBd : Hid (Bd d.g d.n ({ d with L := updL d.L k (kept (fun i => (d.L k).getD i 0) (j : Int) (d.L k).length) } : Nd).L) := ⟨HD.out.2.1.1, HD.out.2.1.2.1, fun i hi => by
      show (updL d.L k _ i).length ≤ 1048576
      by_cases e : i = k
      · rw [e, updL_at]; exact Nat.le_trans (kept_len _ _ _) (HD.out.2.1.2.2 k (by rw [HM3.out.1]; exact HM3.out.2.1))
      · rw [updL_ne _ _ _ e]; exact HD.out.2.1.2.2 i hi⟩
    clear hdr c3 H2
    generalize w1.heap.size = B at *
    have HBm : Hid (Bd ({ d with L := updL d.L k (kept (fun i => (d.L k).getD i 0) (j : Int) (d.L k).length) } : Nd).g ({ d with L := updL d.L k (kept (fun i => (d.L k).getD i 0) (j : Int) (d.L k).length) } : Nd).n ({ d with L := updL d.L k (kept (fun i => (d.L k).getD i 0) (j : Int) (d.L k).length) } : Nd).L) := HBd.out
    generalize ({ d with L := updL d.L k (kept (fun i => (d.L k).getD i 0) (j : Int) (d.L k).length) } : Nd) = dm at *
    as_aux_lemma =>
      go_wp2_with (refine ld_node rfl _ rfl w.heap.size rfl H3.out.1.2.1 ?_)
      refine (keptor_i X B am dm b d a d r w3 (HV.out _ H3.out.1.1).2 H3.out.2.1 HD.out HBm.out HD.out HNN.out (fun V hb => (HV.out V (H3.out.1.1.trans (hb.mono (by have := H3.out.2.2; have := H3.out.1.1.size; omega)))).1) HY.out.1 HY.out.2).mono ?_
      rintro e w5 ⟨b5, rfl, o5, ho5⟩
      have H5 : Hid (NB w5 (w.heap.size + 1) 31 Na.zero Nd.zero ∧ ∀ F : World, Only (w.heap.size + 1) w5 F → ON F w.heap.size F.heap.size b5 r ∧ Below w.heap.size w F) := by
        have hk := H3.out.1.far (ho5.bel (Nat.le_of_lt H3.out.2.2.1)) H3.out.2.2.2
        refine ⟨hk.2.2.1, fun F hF => ?_⟩
        have hs := hF.2.1
        have hz := H3.out.2.2.2
        exact ⟨(o5.only hF (.inr (by omega))).wider (by omega) (by omega) (Nat.le_refl _), hk.1.trans (hF.1.mono (by omega))⟩
      clear o5 ho5 H3 HY
      go_wp2_with (first
        | (refine st_node rfl _ _ rfl rfl (w.heap.size + 1) b5 r rfl rfl H5.out.1 (fun F hF1 hF2 => ?_))
        | (refine bodyPost_ret (v := nv b5 r) (res_node Tryz.results29 rfl hF2) rfl ⟨b5, rfl, H5.out.2 F hF1⟩))
end Go.Proofs.YtcffhjpdkdaaeaaGreatDoor

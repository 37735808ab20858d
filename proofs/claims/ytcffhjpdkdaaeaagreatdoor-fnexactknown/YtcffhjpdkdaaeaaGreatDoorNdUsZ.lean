/- Known of the model. -/
import Derived.Test.YtcffhjpdkdaaeaaGreatDoorHa

namespace Go.Proofs.YtcffhjpdkdaaeaaGreatDoor
open Go.ChangeShapes Go.WideShapes Go.ChangeAt Go.RowKit
set_option linter.unusedVariables false
set_option linter.unusedSimpArgs false
set_option maxRecDepth 100000

set_option maxHeartbeats 100000000 in
theorem known_s (a : Na) (d : Nd) (y1 y2 y3 : Int) (w : World) (hy1 : (-9223372036854775808 ≤ y1 ∧ y1 ≤ 9223372036854775807)) (hy2 : (-9223372036854775808 ≤ y2 ∧ y2 ≤ 9223372036854775807)) (hy3 : (-9223372036854775808 ≤ y3 ∧ y3 ≤ 9223372036854775807)) (hd : NBd d) (hv : NV w a d) (hn : NNC a) :
    Calls Tryz.prog 28 #[nv a d, .int .i64 y1, .int .i64 y2, .int .i64 y3] w fun e w' => ∃ b, e = .returned (nv b (pick Classical.propDecidable (NOk d ∧ KnC d y1 y2 y3 ∧ NOk (knd Classical.propDecidable d y1 y2)) (knd Classical.propDecidable d y1 y2) d)) ∧ RN w' w.heap.size w'.heap.size b (pick Classical.propDecidable (NOk d ∧ KnC d y1 y2 y3 ∧ NOk (knd Classical.propDecidable d y1 y2)) (knd Classical.propDecidable d y1 y2) d) ∧ Below w.heap.size w w' := by
  obtain ⟨W, hW⟩ : ∃ W, W = (w.alloc (.cells (nds a d) 31)).alloc (.cells (nds Na.zero Nd.zero) 31) := ⟨_, rfl⟩
  have T0 : Hid (CS w W a d []) := by rw [hW]; exact cs_new w a d
  have HV : Hid (∀ V, Below w.heap.size w V → NV V a d) := fun V hb => hv.below hb
  have HD := hide hd
  have HNN := hide hn
  obtain ⟨r, hr⟩ : ∃ r, r = pick Classical.propDecidable (NOk d ∧ KnC d y1 y2 y3 ∧ NOk (knd Classical.propDecidable d y1 y2)) (knd Classical.propDecidable d y1 y2) d := ⟨_, rfl⟩
  have HR : Hid ((NOk d → KnC d y1 y2 y3 → NOk (knd Classical.propDecidable d y1 y2) → r = knd Classical.propDecidable d y1 y2) ∧ (¬ (NOk d ∧ KnC d y1 y2 y3 ∧ NOk (knd Classical.propDecidable d y1 y2)) → r = d)) := by rw [hr]; exact ⟨fun h1 h2 h3 => pick_yes ⟨h1, h2, h3⟩, fun h => pick_no h⟩
  rw [← hr]
  have HBY : Hid (Byr d.A ∧ Byr d.C) := ⟨hv.2.2.1.1.2.2, hv.2.2.1.2.2.2⟩
  clear hd hv hn hr hy3
  unfold nv
  unfold nds Na.zero Nd.zero at hW
  dsimp only [List.length_nil] at hW
  unfold nds
  go_enter Tryz.func28, Tryz.ntmps28
  go_upto_region 1 with fail
  rw [← hW]
  clear hW
  generalize Value.agg #[.int .i64 d.id, .bool d.up, .bool d.pr, .slice a.im d.im.length a.imc, .slice a.go d.g.length a.gc, .slice a.bo d.n a.bc, .bool d.fi, .bool d.ol, .bool d.he, .int .i64 d.la, .slice a.aA d.A.length a.cA, .slice a.aB d.C.length a.cB, .slice a.co d.co.length a.coc, .slice a.so d.m a.sc, .slice a.cp d.cp.length a.cpc, .slice a.wt d.wt.length a.wtc] = vn at *
  go_wp2_with (refine ld_node rfl _ rfl w.heap.size rfl T0.out.2.1 ?_)
  refine (copyn_spec a d W HD.out (HV.out _ T0.out.1) HNN.out).mono ?_
  rintro e w1 ⟨b, rfl, o1, c1⟩
  obtain ⟨W1, hW1⟩ : ∃ W1, W1 = w1.alloc (.cells (nds b d) 31) := ⟨_, rfl⟩
  have H1 : Hid (FSt w W1 w1.heap.size a d b d ∧ RN W1 (w.heap.size + 1 + 1) w1.heap.size b d) := by
    rw [hW1]
    exact ⟨fs_new T0.out c1, (o1.below (bal1 _ _) (Nat.le_refl _)).wider (by have := T0.out.2.2.2.1; omega) (Nat.le_refl _) (by simp)⟩
  clear o1 c1 T0
  unfold nds at hW1
  unfold nv nds
  go_upto_region 2 with fail
  rw [← hW1]
  clear hW1
  generalize w1.heap.size = Y1 at *
  generalize Value.agg #[.int .i64 d.id, .bool d.up, .bool d.pr, .slice b.im d.im.length b.imc, .slice b.go d.g.length b.gc, .slice b.bo d.n b.bc, .bool d.fi, .bool d.ol, .bool d.he, .int .i64 d.la, .slice b.aA d.A.length b.cA, .slice b.aB d.C.length b.cB, .slice b.co d.co.length b.coc, .slice b.so d.m b.sc, .slice b.cp d.cp.length b.cpc, .slice b.wt d.wt.length b.wtc] = vb at *
  as_aux_lemma =>
    go_wp2_with (refine ld_node rfl _ rfl w.heap.size rfl H1.out.1.2.1 ?_)
    refine (node_spec a d W1 HD.out (HV.out _ H1.out.1.1)).mono ?_
    rintro e w2 ⟨h, c2⟩
    have H2 : Hid (FSt w w2 Y1 a d b d ∧ RN w2 (w.heap.size + 1 + 1) Y1 b d) := ⟨H1.out.1.b c2, H1.out.2.below c2 H1.out.2.1.2⟩
    have HX1 : Hid (NB w2 Y1 31 b d ∧ NB w2 (w.heap.size + 1) 31 Na.zero Nd.zero ∧ ∀ F : World, Only (w.heap.size + 1) w2 F → r = d → RN F w.heap.size F.heap.size b r ∧ Below w.heap.size w F) := ⟨H2.out.1.2.2.2.1, H2.out.1.2.2.1, fun F hF hrd => by
      have hs := hF.2.1
      have hz := H2.out.1.2.2.2.1.lt
      refine ⟨?_, H2.out.1.1.trans (hF.1.mono (by omega))⟩
      rw [hrd]
      exact (H2.out.2.only hF (.inr (by omega))).wider (by omega) (by omega) (Nat.le_refl _)⟩
    clear c2 H1
    rcases h with ⟨hok, rfl⟩ | ⟨hok, rfl⟩
    case inr =>
      have HE : Hid (r = d) := HR.out.2 (fun h => hok h.1)
      clear HR hok
      go_upto_region 3 with fail
      go_wp2_with (first
        | (refine ld_node rfl _ rfl Y1 rfl HX1.out.1 ?_)
        | (refine st_node rfl _ _ rfl rfl (w.heap.size + 1) b d rfl rfl HX1.out.2.1 (fun F hF1 hF2 => ?_))
        | (refine bodyPost_ret (v := nv b d) (res_node Tryz.results28 rfl hF2) rfl ⟨b, (show Ending.returned (nv b d) = Ending.returned (nv b r) from by rw [HE.out]), HX1.out.2.2 F hF1 HE.out⟩))
    go_wp2_with fail
    by_cases hw1 : 0 ≤ y1 ∧ y1 ≤ 2
    case neg =>
      refine (in_no y1 0 2 w2 (by omega)).mono ?_
      rintro e w' ⟨rfl, hw'⟩
      rw [hw']
      clear hw'
      have HE : Hid (r = d) := HR.out.2 (fun h => hw1 h.2.1.1)
      clear HR hok
      go_upto_region 3 with fail
      go_wp2_with (first
        | (refine ld_node rfl _ rfl Y1 rfl HX1.out.1 ?_)
        | (refine st_node rfl _ _ rfl rfl (w.heap.size + 1) b d rfl rfl HX1.out.2.1 (fun F hF1 hF2 => ?_))
        | (refine bodyPost_ret (v := nv b d) (res_node Tryz.results28 rfl hF2) rfl ⟨b, (show Ending.returned (nv b d) = Ending.returned (nv b r) from by rw [HE.out]), HX1.out.2.2 F hF1 HE.out⟩))
    refine (in_yes y1 0 2 w2 hw1.1 hw1.2).mono ?_
    rintro e w' ⟨rfl, hw'⟩
    rw [hw']
    clear hw'
    go_wp2_with fail
    by_cases hw2 : 0 ≤ y2 ∧ y2 ≤ 7
    case neg =>
      refine (in_no y2 0 7 w2 (by omega)).mono ?_
      rintro e w' ⟨rfl, hw'⟩
      rw [hw']
      clear hw'
      have HE : Hid (r = d) := HR.out.2 (fun h => hw2 h.2.1.2.1)
      clear HR hok
      go_upto_region 3 with fail
      go_wp2_with (first
        | (refine ld_node rfl _ rfl Y1 rfl HX1.out.1 ?_)
        | (refine st_node rfl _ _ rfl rfl (w.heap.size + 1) b d rfl rfl HX1.out.2.1 (fun F hF1 hF2 => ?_))
        | (refine bodyPost_ret (v := nv b d) (res_node Tryz.results28 rfl hF2) rfl ⟨b, (show Ending.returned (nv b d) = Ending.returned (nv b r) from by rw [HE.out]), HX1.out.2.2 F hF1 HE.out⟩))
    refine (in_yes y2 0 7 w2 hw2.1 hw2.2).mono ?_
    rintro e w' ⟨rfl, hw'⟩
    rw [hw']
    clear hw'
    obtain ⟨k, rfl⟩ : ∃ k : Nat, y1 = (k : Int) := ⟨y1.toNat, by omega⟩
    obtain ⟨j, rfl⟩ : ∃ j : Nat, y2 = (j : Int) := ⟨y2.toNat, by omega⟩
    have hlen : d.im.length = 8 := hok.2.1.1
    obtain ⟨ib, io, e1, _, hic0⟩ := (HV.out _ H2.out.1.1).1.1 j (by omega)
    have hic' : w2.cell? ⟨ib, io + j, none⟩ = some (.int .i64 (d.im.getD j 0)) := hic0
    have HIM : Hid ((k : Int).toNat = k ∧ (j : Int).toNat = j) := ⟨by omega, by omega⟩
    have p3 : w2.cell? ⟨w.heap.size, 3, none⟩ = some (.slice (some ⟨ib, io, none⟩) 8 a.imc) := by
      have h := H2.out.1.2.1.cells.2.2.2.1
      rw [e1, hlen] at h
      exact h
    have hj0 : (0 : Int) ≤ (j : Int) := hw2.1
    have hj1 : (j : Int) < 8 := by omega
    clear hlen e1 hic0
    obtain ⟨iv, hiv⟩ : ∃ iv, iv = d.im.getD j 0 := ⟨_, rfl⟩
    rw [← hiv] at hic'
    have HIV := hide hiv
    clear hiv
    by_cases hw3 : iv = y3
    case neg =>
      have hne : (iv == y3) = false := by simpa using hw3
      have HE : Hid (r = d) := HR.out.2 (fun h => hw3 (by rw [HIV.out, ← HIM.out.2]; exact h.2.1.2.2))
      clear HR hok
      go_upto_region 3 with fail
      go_wp2_with (first
        | (refine ld_node rfl _ rfl Y1 rfl HX1.out.1 ?_)
        | (refine st_node rfl _ _ rfl rfl (w.heap.size + 1) b d rfl rfl HX1.out.2.1 (fun F hF1 hF2 => ?_))
        | (refine bodyPost_ret (v := nv b d) (res_node Tryz.results28 rfl hF2) rfl ⟨b, (show Ending.returned (nv b d) = Ending.returned (nv b r) from by rw [HE.out]), HX1.out.2.2 F hF1 HE.out⟩))
    have HC : Hid (KnC d (k : Int) (j : Int) y3) := ⟨hw1, hw2, by rw [HIM.out.2, ← HIV.out]; exact hw3⟩
    have HKD : Hid (kpd Classical.propDecidable d { d with L := updL d.L k (kept (fun i => (d.L k).getD i 0) (j : Int) (d.L k).length) } = knd Classical.propDecidable d (k : Int) (j : Int)) := (show _ = _ from by unfold knd; rw [HIM.out.1])
    have HY : Hid ((NOk (kpd Classical.propDecidable d { d with L := updL d.L k (kept (fun i => (d.L k).getD i 0) (j : Int) (d.L k).length) }) → r = kpd Classical.propDecidable d { d with L := updL d.L k (kept (fun i => (d.L k).getD i 0) (j : Int) (d.L k).length) }) ∧ (¬ NOk (kpd Classical.propDecidable d { d with L := updL d.L k (kept (fun i => (d.L k).getD i 0) (j : Int) (d.L k).length) }) → r = d)) := by
      rw [HKD.out]
      exact ⟨HR.out.1 hok HC.out, fun h => HR.out.2 (fun h2 => h h2.2.2)⟩
    have hk3 : k < 3 := by omega
    have hn3 : d.n = 3 := hok.2.2.1.2.1.1
    have HL8 : Hid (∀ i, i < 3 → (d.L i).length ≤ 1048576) := fun i hi => HD.out.2.1.2.2 i (by rw [hn3]; exact hi)
    have HBd : Hid (Bd d.g d.n ({ d with L := updL d.L k (kept (fun i => (d.L k).getD i 0) (j : Int) (d.L k).length) } : Nd).L) := ⟨HD.out.2.1.1, HD.out.2.1.2.1, fun i hi => by
      show (updL d.L k _ i).length ≤ 1048576
      by_cases e : i = k
      · rw [e, updL_at]; exact Nat.le_trans (kept_len _ _ _) (HL8.out k hk3)
      · rw [updL_ne _ _ _ e]; exact HD.out.2.1.2.2 i hi⟩
    have HN3 := hide hn3
    have hne : (iv == y3) = true := by simpa using hw3
    have hk0 : (0 : Int) ≤ (k : Int) := by omega
    have hk1 : (k : Int) < 3 := by omega
    clear HR HC HKD hok hw1 hw2 HX1 hn3
    as_aux_lemma =>
      go_upto_region 4 with fail
      go_wp2_with (refine ld_nm rfl _ rfl w.heap.size rfl H2.out.1.2.1 ?_)
      refine (copy5g a.go a.bo a.gc a.bc d.n d.g d.L d.fi d.ol d.he d.la w2 HD.out.2.1 (HV.out _ H2.out.1.1).2.1).mono ?_
      rintro e w3 ⟨go', bo', gc', bc', rfl, ⟨R, ra⟩, c3⟩
      obtain ⟨W3, hW3⟩ : ∃ W3, W3 = w3.alloc (.cells #[.slice go' d.g.length gc', .slice bo' d.n bc', .bool d.fi, .bool d.ol, .bool d.he, .int .i64 d.la] 25) := ⟨_, rfl⟩
      have H3 : Hid (FSt w W3 Y1 a d b d ∧ RN W3 (w.heap.size + 1 + 1) Y1 b d ∧ MBk W3 w3.heap.size 25 { a with go := go', gc := gc', bo := bo', bc := bc' } d ∧ RA W3 (w2.heap.size + 3) w3.heap.size (mrows go' gc' bo' bc' R d.g 3 d.L) ∧ Y1 < w2.heap.size ∧ w2.heap.size ≤ w3.heap.size) := by
        have bx := bal1 w3 (.cells #[.slice go' d.g.length gc', .slice bo' d.n bc', .bool d.fi, .bool d.ol, .bool d.he, .int .i64 d.la] 25)
        rw [HN3.out] at ra
        have hy := H2.out.1.2.2.2.1.lt
        rw [hW3]
        exact ⟨(H2.out.1.b c3).b bx, (H2.out.2.below c3 (Nat.le_of_lt hy)).below bx (Nat.le_trans (Nat.le_of_lt hy) c3.size), MBk.new w3 25 { a with go := go', gc := gc', bo := bo', bc := bc' } d, ra.kept (fun j _ hj => bx.block j hj), hy, c3.size⟩
      clear ra c3 H2 p3 hic' hne hw3
      go_upto_region 5 with fail
      rw [← hW3]
      clear hW3
      obtain ⟨Y2, hY2⟩ : ∃ Y2, Y2 = w3.heap.size := ⟨_, rfl⟩
      obtain ⟨B2, hB2⟩ : ∃ B2, B2 = w2.heap.size := ⟨_, rfl⟩
      rw [← hY2] at H3 ⊢
      rw [← hB2] at H3
      clear hY2 hB2
      have dW : Below W3.heap.size W3 W3.drew := Below.drawn (Below.refl _ _) 1
      have H4 : Hid (FSt w W3.drew Y1 a d b d ∧ RN W3.drew (w.heap.size + 1 + 1) Y1 b d ∧ MBk W3.drew Y2 25 { a with go := go', gc := gc', bo := bo', bc := bc' } d ∧ RA W3.drew (B2 + 3) Y2 (mrows go' gc' bo' bc' R d.g 3 d.L) ∧ Y1 < B2 ∧ B2 ≤ Y2) := ⟨H3.out.1.b dW, H3.out.2.1.below dW H3.out.2.1.1.2, H3.out.2.2.1.b dW, H3.out.2.2.2.1.kept (fun _ _ _ => rfl), H3.out.2.2.2.2⟩
      have hY2lt : Y2 < W3.drew.heap.size := H4.out.2.2.1.lt
      have hB4 : B2 + 3 ≤ W3.drew.heap.size := by
        have h := H4.out.2.2.2.1 _ (List.mem_cons_of_mem _ (List.mem_cons_self ..))
        obtain ⟨γ, _, hg, _⟩ := wr_cell (i := k) h (outer_get R 3 d.L k hk3)
        omega
      obtain ⟨γ, g1, g2, g4, g5, _, _, _⟩ := ra_line (p := none) (c := 0) (M := []) H4.out.2.2.2.1 (Nat.le_of_lt hY2lt) hk3 (Below.refl _ _) (fun r hr => by rw [List.mem_singleton.1 hr]; exact ⟨Nat.zero_le _, .inl rfl⟩) hB4
      have cX1 : W3.drew.cell? ⟨Y2, 1, none⟩ = some (.slice (some ⟨γ, 0, none⟩) 3 bc') := by
        have h1 : W3.drew.cell? ⟨Y2, 1, none⟩ = some (.slice bo' d.n bc') := mblk H4.out.2.2.1 rfl
        rw [g1, HN3.out] at h1
        exact h1
      have HLN : Hid (∀ (w5 : World) (p : Option Addr) (c : Nat) (M : List Int), Below W3.drew.heap.size W3.drew w5 → RS w5 W3.drew.heap.size w5.heap.size [⟨3, p, c, ir M⟩] → ((w5.cell? ⟨γ, k, none⟩).isSome = true ∧ w5.frozen? ⟨γ, k, none⟩ = false) ∧ (FSt w (w5.setCell ⟨γ, k, none⟩ (.slice p M.length c)) Y1 a d b d ∧ RN (w5.setCell ⟨γ, k, none⟩ (.slice p M.length c)) (w.heap.size + 1 + 1) Y1 b d ∧ (w5.setCell ⟨γ, k, none⟩ (.slice p M.length c)).cell? ⟨Y2, 1, none⟩ = some (.slice (some ⟨γ, 0, none⟩) 3 bc') ∧ MBk (w5.setCell ⟨γ, k, none⟩ (.slice p M.length c)) Y2 25 { a with go := go', gc := gc', bo := bo', bc := bc' } d ∧ ∃ R', RA (w5.setCell ⟨γ, k, none⟩ (.slice p M.length c)) (B2 + 3) w5.heap.size (mrows go' gc' bo' bc' R' d.g 3 (updL d.L k M)))) := fun w5 p c M hb hr => by
        obtain ⟨γ2, k1, _, _, _, k6, k7, k8⟩ := ra_line H4.out.2.2.2.1 (Nat.le_of_lt hY2lt) hk3 hb hr.ra hB4
        have e : γ2 = γ := by rw [g1] at k1; simpa using k1.symm
        rw [e] at k6 k7 k8
        have hon : Only γ w5 (w5.setCell ⟨γ, k, none⟩ (.slice p M.length c)) := (Only.refl _ _).setCell _
        have hz := H4.out.1.2.2.2.2
        have hy := H4.out.2.2.2.2
        have hm := (H4.out.2.2.1.b hb).far hon (by omega)
        have f5 := H4.out.1.b hb
        refine ⟨⟨k6, k7⟩, ⟨f5.1.trans (hon.1.mono (by omega)), f5.2.1.far hon (by omega), f5.2.2.1.far hon (by omega), f5.2.2.2.1.far hon (by omega), hz⟩, (H4.out.2.1.below hb H4.out.2.1.1.2).only hon (.inl (by omega)), ?_, hm, setr R k (p, c), k8⟩
        have h1 : (w5.setCell ⟨γ, k, none⟩ (.slice p M.length c)).cell? ⟨Y2, 1, none⟩ = some (.slice bo' d.n bc') := mblk hm rfl
        rw [g1, HN3.out] at h1
        exact h1
      have HC : Hid (Calls Tryz.prog 74 #[.slice (R k).1 (d.L k).length (R k).2, .int .i64 (j : Int)] W3.drew fun e w' => ∃ p c, e = .returned (.slice p (kept (fun i => (d.L k).getD i 0) (j : Int) (d.L k).length).length c) ∧ RS w' W3.drew.heap.size w'.heap.size [⟨3, p, c, ir (kept (fun i => (d.L k).getD i 0) (j : Int) (d.L k).length)⟩] ∧ Below W3.drew.heap.size W3.drew w') := (clear_spec (R k).1 (d.L k).length (R k).2 (fun i => (d.L k).getD i 0) (j : Int) W3.drew (Nat.le_trans (HL8.out k hk3) (by omega)) g5).mono fun e w' ⟨v, h1, h2, h3⟩ => by
        obtain ⟨p, c, rfl, hr⟩ := int_row h2
        exact ⟨p, c, h1, hr, h3⟩
      have HYB : Hid (Y1 < B2 ∧ w.heap.size + 1 < Y1) := ⟨H4.out.2.2.2.2.1, H4.out.1.2.2.2.2⟩
      clear H3 H4 hY2lt hB4 g1 g2 g5 dW
      refine wp_region_held_drew (S := (fun w' => w'.cell? ⟨Y2, 1, none⟩ = some (.slice (some ⟨γ, 0, none⟩) 3 bc'))) (by kernel_rfl) ?_ (fun hHeld => ?_)
      · exact cX1
      refine wpAnyH_take (i := 0) (oi := { dst := some 39, op := Op.fieldAddr 25 (Operand.tmp 10) 1, type := 0, pos := "l08_node.go:147", after := #[], guard := none }) (v := ?_) rfl (by kernel_rfl) (by kernel_rfl) (by kernel_rfl) (fun _ _ _ h => h) (Or.inl ⟨by rfl, ?_⟩) (by assumption) ?_
      rotate_left 1
      · (intro wq hSw; (try dsimp only at hSw); go_simp; try with_reducible rfl)
      try simp only [Act.put, List.setIfInBounds_toArray, List.set_cons_zero, List.set_cons_succ]
      refine wpAnyH_take (i := 1) (oi := { dst := some 40, op := Op.load 23 (Operand.tmp 39), type := 23, pos := "l08_node.go:147", after := #[{ on := 0, ground := Ground.data }], guard := none }) (v := ?_) rfl (by kernel_rfl) (by kernel_rfl) (by kernel_rfl) (fun _ _ _ h => h) (Or.inl ⟨by rfl, ?_⟩) (by assumption) ?_
      rotate_left 1
      · (intro wq hSw; (try dsimp only at hSw); go_simp; try with_reducible rfl)
      try simp only [Act.put, List.setIfInBounds_toArray, List.set_cons_zero, List.set_cons_succ]
      refine wpAnyH_take (i := 2) (oi := { dst := some 41, op := Op.move (Operand.tmp 1), type := 3, pos := "l08_node.go:147", after := #[], guard := none }) (v := ?_) rfl (by kernel_rfl) (by kernel_rfl) (by kernel_rfl) (fun _ _ _ h => h) (Or.inl ⟨by rfl, ?_⟩) (by assumption) ?_
      rotate_left 1
      · (intro wq hSw; (try dsimp only at hSw); go_simp; try with_reducible rfl)
      try simp only [Act.put, List.setIfInBounds_toArray, List.set_cons_zero, List.set_cons_succ]
      refine wpAnyH_take (i := 3) (oi := { dst := some 42, op := Op.fieldAddr 25 (Operand.tmp 10) 1, type := 0, pos := "l08_node.go:147", after := #[], guard := none }) (v := ?_) rfl (by kernel_rfl) (by kernel_rfl) (by kernel_rfl) (fun _ _ _ h => h) (Or.inl ⟨by rfl, ?_⟩) (by assumption) ?_
      rotate_left 1
      · (intro wq hSw; (try dsimp only at hSw); go_simp; try with_reducible rfl)
      try simp only [Act.put, List.setIfInBounds_toArray, List.set_cons_zero, List.set_cons_succ]
      refine wpAnyH_take (i := 4) (oi := { dst := some 43, op := Op.load 23 (Operand.tmp 42), type := 23, pos := "l08_node.go:147", after := #[{ on := 3, ground := Ground.data }], guard := none }) (v := ?_) rfl (by kernel_rfl) (by kernel_rfl) (by kernel_rfl) (fun _ _ _ h => h) (Or.inl ⟨by rfl, ?_⟩) (by assumption) ?_
      rotate_left 1
      · (intro wq hSw; (try dsimp only at hSw); go_simp; try with_reducible rfl)
      try simp only [Act.put, List.setIfInBounds_toArray, List.set_cons_zero, List.set_cons_succ]
      refine wpAnyH_take (i := 5) (oi := { dst := some 44, op := Op.move (Operand.tmp 1), type := 3, pos := "l08_node.go:147", after := #[], guard := none }) (v := ?_) rfl (by kernel_rfl) (by kernel_rfl) (by kernel_rfl) (fun _ _ _ h => h) (Or.inl ⟨by rfl, ?_⟩) (by assumption) ?_
      rotate_left 1
      · (intro wq hSw; (try dsimp only at hSw); go_simp; try with_reducible rfl)
      try simp only [Act.put, List.setIfInBounds_toArray, List.set_cons_zero, List.set_cons_succ]
      refine wpAnyH_take (i := 6) (oi := { dst := some 45, op := Op.indexAddr 23 (Operand.tmp 43) (Operand.tmp 44), type := 0, pos := "l08_node.go:147", after := #[{ on := 4, ground := Ground.data }, { on := 5, ground := Ground.data }], guard := none }) (v := ?_) rfl (by kernel_rfl) (by kernel_rfl) (by kernel_rfl) (fun _ _ _ h => h) (Or.inl ⟨by rfl, ?_⟩) (by assumption) ?_
      rotate_left 1
      · (intro wq hSw; (try dsimp only at hSw); go_simp; try with_reducible rfl)
      try simp only [Act.put, List.setIfInBounds_toArray, List.set_cons_zero, List.set_cons_succ]
      refine wpAnyH_take (i := 8) (oi := { dst := some 47, op := Op.move (Operand.tmp 2), type := 3, pos := "l08_node.go:147", after := #[], guard := none }) (v := ?_) rfl (by kernel_rfl) (by kernel_rfl) (by kernel_rfl) (fun _ _ _ h => h) (Or.inl ⟨by rfl, ?_⟩) (by assumption) ?_
      rotate_left 1
      · (intro wq hSw; (try dsimp only at hSw); go_simp; try with_reducible rfl)
      try simp only [Act.put, List.setIfInBounds_toArray, List.set_cons_zero, List.set_cons_succ]
      refine wpAnyH_ready (rs := [7]) (by kernel_rfl) (by simp) ?_
      refine AllReadyH.cons (o := { dst := some 46, op := Op.load 22 (Operand.tmp 45), type := 22, pos := "l08_node.go:147", after := #[{ on := 6, ground := Ground.data }], guard := none }) rfl (fun K hK => ?_) AllReadyH.nil
      go_simp
      refine hK.out _ _ ?_ (fun hHeld => ?_)
      · exact cX1
      clear hK K
      try simp only [Act.put, List.setIfInBounds_toArray, List.set_cons_zero, List.set_cons_succ]
      clear g4
      refine wpAnyH_ready (rs := [9]) (by kernel_rfl) (by simp) ?_
      refine AllReadyH.cons (o := { dst := some 48, op := Op.call { callee := Callee.value (Operand.func 74), args := #[Operand.tmp 46, Operand.tmp 47], argTypes := #[22, 3] }, type := 22, pos := "l08_node.go:147", after := #[{ on := 7, ground := Ground.data }, { on := 8, ground := Ground.data }], guard := none }) rfl (fun K hK => ?_) AllReadyH.nil
      go_simp
      refine HC.out.mono ?_
      rintro e w5 ⟨p, c, rfl, r1, b1⟩
      obtain ⟨⟨hs1, hz1⟩, hdr⟩ := HLN.out w5 _ _ _ b1 r1
      obtain ⟨u1, hu1⟩ := Option.isSome_iff_exists.1 hs1
      have HF := hide hdr
      have cX2 : w5.cell? ⟨Y2, 1, none⟩ = some (.slice (some ⟨γ, 0, none⟩) 3 bc') := (b1.cell (lt_of_cell cX1)).trans cX1
      clear hs1 hdr r1 b1
      generalize (kept (fun i => (d.L k).getD i 0) (j : Int) (d.L k).length) = M at *
      go_wp2_with fail
      refine hK.out _ _ ?_ (fun hHeld => ?_)
      · exact cX2
      clear hK K
      try simp only [Act.put, List.setIfInBounds_toArray, List.set_cons_zero, List.set_cons_succ]
      refine wpAnyH_take (i := 10) (oi := { dst := some 49, op := Op.indexAddr 23 (Operand.tmp 40) (Operand.tmp 41), type := 0, pos := "l08_node.go:147", after := #[{ on := 1, ground := Ground.data }, { on := 2, ground := Ground.data }, { on := 0, ground := Ground.phase }, { on := 1, ground := Ground.phase }, { on := 2, ground := Ground.phase }, { on := 3, ground := Ground.phase }, { on := 4, ground := Ground.phase }, { on := 5, ground := Ground.phase }, { on := 6, ground := Ground.phase }, { on := 7, ground := Ground.phase }, { on := 8, ground := Ground.phase }, { on := 9, ground := Ground.phase }], guard := none }) (v := ?_) rfl (by kernel_rfl) (by kernel_rfl) (by kernel_rfl) (fun _ _ _ h => h) (Or.inl ⟨by rfl, ?_⟩) (by assumption) ?_
      rotate_left 1
      · (intro wq hSw; (try dsimp only at hSw); go_simp; try with_reducible rfl)
      try simp only [Act.put, List.setIfInBounds_toArray, List.set_cons_zero, List.set_cons_succ]
      obtain ⟨w6, hw6⟩ : ∃ w6, w6 = w5.setCell ⟨γ, k, none⟩ (.slice p M.length c) := ⟨_, rfl⟩
      rw [← hw6] at HF
      refine wpAnyH_ready (rs := [11]) (by kernel_rfl) (by simp) ?_
      refine AllReadyH.cons (o := { dst := none, op := Op.store 22 (Operand.tmp 49) (Operand.tmp 48), type := 0, pos := "l08_node.go:147", after := #[{ on := 10, ground := Ground.data }, { on := 9, ground := Ground.data }, { on := 9, ground := Ground.chain }, { on := 0, ground := Ground.phase }, { on := 1, ground := Ground.phase }, { on := 2, ground := Ground.phase }, { on := 3, ground := Ground.phase }, { on := 4, ground := Ground.phase }, { on := 5, ground := Ground.phase }, { on := 6, ground := Ground.phase }, { on := 7, ground := Ground.phase }, { on := 8, ground := Ground.phase }, { on := 9, ground := Ground.phase }], guard := none }) rfl (fun K hK => ?_) AllReadyH.nil
      go_simp
      rw [← hw6]
      refine hK.out _ _ ?_ (fun hHeld => ?_)
      · exact HF.out.2.2.1
      clear hK K
      try simp only [Act.put, List.setIfInBounds_toArray, List.set_cons_zero, List.set_cons_succ]
      refine wpAnyH_done (by kernel_rfl) ?_ _
      clear hw6 cX1 cX2 hu1 hz1
      as_aux_lemma =>
        have HM : Hid (FSt w w6 Y1 a d b d ∧ RN w6 (w.heap.size + 1 + 1) Y1 b d ∧ MBk w6 Y2 25 { a with go := go', gc := gc', bo := bo', bc := bc' } { d with L := updL d.L k M } ∧ MV w6 go' gc' bo' bc' d.g d.n (updL d.L k M)) := ⟨HF.out.1, HF.out.2.1, HF.out.2.2.2.1, by
          obtain ⟨R', h⟩ := HF.out.2.2.2.2
          have := h.mv
          rw [HN3.out]; exact this⟩
        have HBK : Hid (NBd (kpd Classical.propDecidable d { d with L := updL d.L k M })) := nbd_kpd HD.out HBY.out HBd.out
        have hkeep : Hid (Calls Tryz.prog 57 #[nv b d, mvv { a with go := go', gc := gc', bo := bo', bc := bc' } { d with L := updL d.L k M }] w6 fun e w' => ∃ b', e = .returned (nv b' (kpd Classical.propDecidable d { d with L := updL d.L k M })) ∧ RN w' (w.heap.size + 1 + 1) w'.heap.size b' (kpd Classical.propDecidable d { d with L := updL d.L k M }) ∧ Below w6.heap.size w6 w') := l8keep_s (w.heap.size + 1 + 1) b d { a with go := go', gc := gc', bo := bo', bc := bc' } { d with L := updL d.L k M } w6 (HM.out.2.1.wider (Nat.le_refl _) (Nat.le_of_lt HM.out.1.2.2.2.1.lt) (Nat.le_refl _)) HD.out HBd.out HM.out.2.2.2
        generalize kpd Classical.propDecidable d { d with L := updL d.L k M } = kk at *
        clear HF HC HLN HBd
        go_wp2_with (first
          | (refine ld_node rfl _ rfl Y1 rfl HM.out.1.2.2.2.1 ?_)
          | (refine ld_mb rfl _ rfl Y2 rfl HM.out.2.2.1 ?_))
        refine hkeep.out.mono ?_
        rintro e w7 ⟨b7, rfl, o7, c7⟩
        have H7 : Hid (FSt w w7 Y1 a d b d ∧ RN w7 (w.heap.size + 1 + 1) w7.heap.size b7 kk) := ⟨HM.out.1.b c7, o7⟩
        clear o7 c7 HM hkeep
        go_upto_region 7 with (refine st_node rfl _ _ rfl rfl Y1 b7 kk rfl rfl H7.out.1.2.2.2.1 (fun w8 ho8 hn8 => ?_))
        have H8 : Hid (FSt w w8 Y1 a d b7 kk ∧ RN w8 (w.heap.size + 1 + 1) w8.heap.size b7 kk) := ⟨H7.out.1.set ho8 hn8, by rw [ho8.2.1]; exact rn_beside H7.out.2 H7.out.1.2.2.2.1 ho8⟩
        clear ho8 hn8 H7
        go_wp2_with (refine ld_node rfl _ rfl Y1 rfl H8.out.1.2.2.2.1 ?_)
        refine (node_spec b7 kk w8 HBK.out H8.out.2.nv).mono ?_
        rintro e w9 ⟨h, c9⟩
        have H9 : Hid (FSt w w9 Y1 a d b7 kk ∧ RN w9 (w.heap.size + 1 + 1) w9.heap.size b7 kk) := ⟨H8.out.1.b c9, rn_up H8.out.2 c9⟩
        clear c9 H8
        rcases h with ⟨hok, rfl⟩ | ⟨hok, rfl⟩
        · have HE : Hid (r = kk) := HY.out.1 hok
          have HX1 : Hid (NB w9 Y1 31 b7 kk ∧ NB w9 (w.heap.size + 1) 31 Na.zero Nd.zero ∧ ∀ F : World, Only (w.heap.size + 1) w9 F → RN F w.heap.size F.heap.size b7 r ∧ Below w.heap.size w F) := ⟨H9.out.1.2.2.2.1, H9.out.1.2.2.1, fun F hF => by
            have hs := hF.2.1
            refine ⟨?_, H9.out.1.1.trans (hF.1.mono (by omega))⟩
            rw [HE.out]
            exact (H9.out.2.only hF (.inr (by omega))).wider (by omega) (by omega) (Nat.le_refl _)⟩
          clear H9 HY hok
          go_wp2_with (first
            | (refine ld_node rfl _ rfl Y1 rfl HX1.out.1 ?_)
            | (refine st_node rfl _ _ rfl rfl (w.heap.size + 1) b7 kk rfl rfl HX1.out.2.1 (fun F hF1 hF2 => ?_))
            | (refine bodyPost_ret (v := nv b7 kk) (res_node Tryz.results28 rfl hF2) rfl ⟨b7, (show Ending.returned (nv b7 kk) = Ending.returned (nv b7 r) from by rw [HE.out]), HX1.out.2.2 F hF1⟩))
        · have HE : Hid (r = d) := HY.out.2 hok
          have H1 : Hid (CS w w9 a d []) := ⟨H9.out.1.1, H9.out.1.2.1, H9.out.1.2.2.1, by have := H9.out.1.2.2.2.1.lt; have := H9.out.1.2.2.2.2; omega, RS.nil⟩
          clear H9 HY hok
          go_wp2_with (refine ld_node rfl _ rfl w.heap.size rfl H1.out.2.1 ?_)
          refine (copyn_spec a d w9 HD.out (HV.out _ H1.out.1) HNN.out).mono ?_
          rintro e w10 ⟨b, rfl, o2, c2⟩
          have H2 : Hid (NB w10 (w.heap.size + 1) 31 Na.zero Nd.zero ∧ ∀ F : World, Only (w.heap.size + 1) w10 F → RN F w.heap.size F.heap.size b r ∧ Below w.heap.size w F) := ⟨H1.out.2.2.1.b c2, fun F hF => by
            have hs := hF.2.1
            have hz := H1.out.2.2.2.1
            refine ⟨?_, (H1.out.1.trans (c2.mono H1.out.1.size)).trans (hF.1.mono (by omega))⟩
            rw [HE.out]
            exact (o2.only hF (.inr (by omega))).wider (by omega) (by omega) (Nat.le_refl _)⟩
          have HE2 : Hid (nv b r = nv b d) := (show _ = _ from by rw [HE.out])
          clear o2 c2 H1
          go_wp2_with (first
            | (refine st_node rfl _ _ rfl rfl (w.heap.size + 1) b d rfl rfl H2.out.1 (fun F hF1 hF2 => ?_))
            | (refine bodyPost_ret (v := nv b d) (res_node Tryz.results28 rfl hF2) rfl ⟨b, (show Ending.returned (nv b d) = Ending.returned (nv b r) from by rw [HE2.out]), H2.out.2 F hF1⟩))
end Go.Proofs.YtcffhjpdkdaaeaaGreatDoor

/- Keep of the model. -/
import Derived.Test.YtcffhjpdkdaaeaaGreatDoorGw
import Derived.Test.YtcffhjpdkdaaeaaGreatDoorNdDr1Z

namespace Go.Proofs.YtcffhjpdkdaaeaaGreatDoor
open Go.ChangeShapes Go.WideShapes Go.ChangeAt Go.RowKit
set_option linter.unusedVariables false
set_option linter.unusedSimpArgs false
set_option maxRecDepth 100000

theorem rn_up {w w' : World} {B : Nat} {a : Na} {d : Nd} (h : RN w B w.heap.size a d) (hb : Below w.heap.size w w') : RN w' B w'.heap.size a d := (h.below hb (Nat.le_refl _)).wider (Nat.le_refl _) hb.size (Nat.le_refl _)
theorem rn_beside {w w' : World} {B T g : Nat} {c : Array Value} {b : Na} {d : Nd} (h : RN w B T b d) (hc : w.heap[g]? = some (.cells c 31 (0, 0))) (ho : Only g w w') : RN w' B T b d := by
  obtain ⟨h1, h2, h3, R, Q, h5⟩ := h
  refine ⟨by rw [ho.2.1]; exact h1, h2, h3, R, Q, ra_beside h5 hc (fun r hr => ?_) ho⟩
  rcases drows_t (am := b) (R' := R) (dm := d) (List.mem_append_right _ hr) with h | h | h | h <;> rw [h] <;> decide
theorem alloc_drew (w : World) (o : Obj) : Below w.drew.heap.size w.drew (w.alloc o).drew := bal1 w.drew o
set_option maxHeartbeats 100000000 in
theorem keepn_s (a : Na) (d : Nd) (am : Na) (dm : Nd) (w : World)
    (hd : NBd d) (hv : NV w a d) (hn : NNC a) (hm : Bd dm.g dm.n dm.L) (hmv : MV w am.go am.gc am.bo am.bc dm.g dm.n dm.L) :
    Calls Tryz.prog 16 #[nv a d, mvv am dm] w fun e w' => ∃ b, e = .returned (nv b (pick Classical.propDecidable (NOk d ∧ NOk (kpd Classical.propDecidable d dm)) (kpd Classical.propDecidable d dm) d)) ∧ RN w' w.heap.size w'.heap.size b (pick Classical.propDecidable (NOk d ∧ NOk (kpd Classical.propDecidable d dm)) (kpd Classical.propDecidable d dm) d) ∧ Below w.heap.size w w' := by
  obtain ⟨W, hW⟩ : ∃ W, W = ((w.alloc (.cells (nds a d) 31)).alloc (.cells #[.slice am.go dm.g.length am.gc, .slice am.bo dm.n am.bc, .bool dm.fi, .bool dm.ol, .bool dm.he, .int .i64 dm.la] 25)).alloc (.cells (nds Na.zero Nd.zero) 31) := ⟨_, rfl⟩
  have T0 : Hid (KS w W a d am dm) := by rw [hW]; exact ks_new w a d am dm
  have HV : Hid (∀ V, Below w.heap.size w V → NV V a d ∧ MV V am.go am.gc am.bo am.bc dm.g dm.n dm.L) := fun V hb => ⟨hv.below hb, hmv.below hb⟩
  have HD := hide hd
  have HNN := hide hn
  obtain ⟨r, hr⟩ : ∃ r, r = pick Classical.propDecidable (NOk d ∧ NOk (kpd Classical.propDecidable d dm)) (kpd Classical.propDecidable d dm) d := ⟨_, rfl⟩
  have HR : Hid ((NOk d → NOk (kpd Classical.propDecidable d dm) → r = kpd Classical.propDecidable d dm) ∧ (¬ (NOk d ∧ NOk (kpd Classical.propDecidable d dm)) → r = d)) := by rw [hr]; exact ⟨fun h1 h2 => pick_yes ⟨h1, h2⟩, fun h => pick_no h⟩
  rw [← hr]
  have hkeep : Hid (∀ (V : World) (B : Nat) (b : Na), RN V B V.heap.size b d → MV V am.go am.gc am.bo am.bc dm.g dm.n dm.L → Calls Tryz.prog 57 #[nv b d, mvv am dm] V fun e w' => ∃ b, e = .returned (nv b (kpd Classical.propDecidable d dm)) ∧ RN w' B w'.heap.size b (kpd Classical.propDecidable d dm) ∧ Below V.heap.size V w') := fun V B b h1 h2 => l8keep_s B b d am dm V h1 hd hm h2
  have HBK2 : Hid (NBd (kpd Classical.propDecidable d dm)) := nbd_kpd hd ⟨hv.2.2.1.1.2.2, hv.2.2.1.2.2.2⟩ hm
  generalize kpd Classical.propDecidable d dm = k at *
  clear hd hv hn hm hmv hr
  unfold nv mvv
  unfold nds Na.zero Nd.zero at hW
  dsimp only [List.length_nil] at hW
  unfold nds
  go_enter Tryz.func16, Tryz.ntmps16
  go_upto_region 1 with fail
  rw [← hW]
  clear hW
  generalize Value.agg #[.int .i64 d.id, .bool d.up, .bool d.pr, .slice a.im d.im.length a.imc, .slice a.go d.g.length a.gc, .slice a.bo d.n a.bc, .bool d.fi, .bool d.ol, .bool d.he, .int .i64 d.la, .slice a.aA d.A.length a.cA, .slice a.aB d.C.length a.cB, .slice a.co d.co.length a.coc, .slice a.so d.m a.sc, .slice a.cp d.cp.length a.cpc, .slice a.wt d.wt.length a.wtc] = vn at *
  generalize Value.agg #[.slice am.go dm.g.length am.gc, .slice am.bo dm.n am.bc, .bool dm.fi, .bool dm.ol, .bool dm.he, .int .i64 dm.la] = vm at *
  go_wp2_with (refine ld_node rfl _ rfl w.heap.size rfl T0.out.2.1 ?_)
  refine (node_spec a d W HD.out (HV.out _ T0.out.1).1).mono ?_
  rintro e w1 ⟨h, c1⟩
  have H1 : Hid (KS w w1 a d am dm) := T0.out.b c1
  clear c1 T0
  rcases h with ⟨hok, rfl⟩ | ⟨hok, rfl⟩
  case inr =>
    have HE : Hid (r = d) := HR.out.2 (fun h => hok h.1)
    clear HR hok
    go_wp2_with (refine ld_node rfl _ rfl w.heap.size rfl H1.out.2.1 ?_)
    refine (copyn_spec a d w1 HD.out (HV.out _ H1.out.1).1 HNN.out).mono ?_
    rintro e w2 ⟨b, rfl, o2, c2⟩
    have H2 : Hid (NB w2 (w.heap.size + 1 + 1) 31 Na.zero Nd.zero ∧ ∀ F : World, Only (w.heap.size + 1 + 1) w2 F → RN F w.heap.size F.heap.size b r ∧ Below w.heap.size w F) := ⟨H1.out.2.2.2.1.b c2, fun F hF => by
      have hs := hF.2.1
      have hz := H1.out.2.2.2.2
      refine ⟨?_, (H1.out.1.trans (c2.mono H1.out.1.size)).trans (hF.1.mono (by omega))⟩
      rw [HE.out]
      exact (o2.only hF (.inr (by omega))).wider (by omega) (by omega) (Nat.le_refl _)⟩
    have HE2 : Hid (nv b r = nv b d) := (show _ = _ from by rw [HE.out])
    clear o2 c2 H1
    go_wp2_with (first
      | (refine st_node rfl _ _ rfl rfl (w.heap.size + 1 + 1) b d rfl rfl H2.out.1 (fun F hF1 hF2 => ?_))
      | (refine bodyPost_ret (v := nv b d) (res_node Tryz.results16 rfl hF2) rfl ⟨b, (show Ending.returned (nv b d) = Ending.returned (nv b r) from by rw [HE2.out]), H2.out.2 F hF1⟩))
  have HY0 : Hid ((NOk k → r = k) ∧ (¬ NOk k → r = d)) := ⟨HR.out.1 hok, fun h => HR.out.2 (fun h2 => h h2.2)⟩
  clear HR hok
  as_aux_lemma =>
    go_upto_region 3 with fail
    obtain ⟨BB, hBB⟩ : ∃ BB, BB = w1.heap.size := ⟨_, rfl⟩
    have HBB : Hid (w.heap.size + 1 + 1 < BB) := by rw [hBB]; exact H1.out.2.2.2.2
    have HK : Hid (KS w w1.drew a d am dm ∧ BB ≤ w1.drew.heap.size) := by rw [hBB]; exact ⟨H1.out.b (Below.drawn (Below.refl _ _) 1), Nat.le_refl _⟩
    have hkeep : Hid (∀ (V : World) (b : Na), RN V BB V.heap.size b d → MV V am.go am.gc am.bo am.bc dm.g dm.n dm.L → Calls Tryz.prog 57 #[nv b d, mvv am dm] V fun e w' => ∃ b, e = .returned (nv b k) ∧ RN w' BB w'.heap.size b k ∧ Below V.heap.size V w') := fun V b h1 h2 => hkeep.out V BB b h1 h2
    clear hBB H1
    go_cut [5] from 6 (fun y wc => ∃ Y b, y = .pointer (some ⟨Y, 0, none⟩) ∧ Hid (KS w wc a d am dm ∧ NB wc Y 31 b k ∧ RN wc BB wc.heap.size b k))
    case first =>
      refine wp_region_held_drew (S := (fun w' => NB w' w.heap.size 31 a d ∧ MBk w' (w.heap.size + 1) 25 am dm)) (by kernel_rfl) ?_ (fun hHeld => ?_)
      · exact ⟨HK.out.1.2.1, HK.out.1.2.2.1⟩
      refine wpAnyH_take (i := 0) (oi := { dst := some 11, op := Op.load 31 (Operand.tmp 2), type := 31, pos := "l08_node.go:72", after := #[], guard := none }) (v := nv a d) rfl (by kernel_rfl) (by kernel_rfl) (by kernel_rfl) (fun _ _ _ h => h) (yieldsIf_load_mid (by rfl) _ _ rfl w.heap.size 0 rfl ((nds a d).toList) _ (fun wq hSw => range_of hSw.1 rfl) Tryz.underlying31 rfl (by kernel_rfl)) (by assumption) ?_
      try simp only [Act.put, List.setIfInBounds_toArray, List.set_cons_zero, List.set_cons_succ]
      refine wpAnyH_take (i := 2) (oi := { dst := some 13, op := Op.load 25 (Operand.tmp 3), type := 25, pos := "l08_node.go:72", after := #[], guard := none }) (v := mvv am dm) rfl (by kernel_rfl) (by kernel_rfl) (by kernel_rfl) (fun _ _ _ h => h) (yieldsIf_load_mid (by rfl) _ _ rfl (w.heap.size + 1) 0 rfl (mds am dm) _ (fun wq hSw => range_of hSw.2 rfl) Tryz.underlying25 rfl (by kernel_rfl)) (by assumption) ?_
      try simp only [Act.put, List.setIfInBounds_toArray, List.set_cons_zero, List.set_cons_succ]
      refine wpAnyH_ready (rs := [1, 4]) (by kernel_rfl) (by simp) ?_
      refine AllReadyH.cons (o := { dst := some 12, op := Op.call { callee := Callee.value (Operand.func 56), args := #[Operand.tmp 11], argTypes := #[31] }, type := 31, pos := "l08_node.go:72", after := #[{ on := 0, ground := Ground.data }], guard := none }) rfl (fun K hK => ?_) ?_
      · go_simp
        refine (copyn_spec a d w1.drew HD.out (HV.out _ HK.out.1.1).1 HNN.out).mono ?_
        rintro e v1 ⟨b, rfl, o2, c2⟩
        have HC : Hid (RN v1 BB v1.heap.size b d) := o2.wider HK.out.2 (Nat.le_refl _) (Nat.le_refl _)
        have HK := hide (show KS w v1 a d am dm ∧ BB ≤ v1.heap.size from ⟨HK.out.1.b c2, Nat.le_trans HK.out.2 c2.size⟩)
        clear o2 c2
        go_wp2_with fail
        refine hK.out _ _ ?_ (fun hHeld => ?_)
        · exact ⟨HK.out.1.2.1, HK.out.1.2.2.1⟩
        clear hK K
        try simp only [Act.put, List.setIfInBounds_toArray, List.set_cons_zero, List.set_cons_succ]
        refine wpAnyH_ready (rs := [3, 4]) (by kernel_rfl) (by simp) ?_
        refine AllReadyH.cons (o := { dst := some 14, op := Op.call { callee := Callee.value (Operand.func 57), args := #[Operand.tmp 12, Operand.tmp 13], argTypes := #[31, 25] }, type := 31, pos := "l08_node.go:72", after := #[{ on := 1, ground := Ground.data }, { on := 2, ground := Ground.data }, { on := 1, ground := Ground.chain }], guard := none }) rfl (fun K hK => ?_) ?_
        · go_simp
          refine (hkeep.out v1 b HC.out (HV.out _ HK.out.1.1).2).mono ?_
          rintro e v2 ⟨b, rfl, o2, c2⟩
          have HC : Hid (RN v2 BB v2.heap.size b k) := o2
          have HK := hide (show KS w v2 a d am dm ∧ BB ≤ v2.heap.size from ⟨HK.out.1.b c2, Nat.le_trans HK.out.2 c2.size⟩)
          clear o2 c2
          go_wp2_with fail
          refine hK.out _ _ ?_ (fun hHeld => ?_)
          · exact ⟨HK.out.1.2.1, HK.out.1.2.2.1⟩
          clear hK K
          try simp only [Act.put, List.setIfInBounds_toArray, List.set_cons_zero, List.set_cons_succ]
          refine wpAnyH_ready (rs := [4]) (by kernel_rfl) (by simp) ?_
          refine AllReadyH.cons (o := { dst := some 5, op := Op.alloc 31, type := 0, pos := "l08_node.go:72", after := #[], guard := none }) rfl (fun K hK => ?_) AllReadyH.nil
          go_simp
          obtain ⟨v3, hwy⟩ : ∃ wy, wy = v2.alloc (.cells (nds Na.zero Nd.zero) 31) := ⟨_, rfl⟩
          have bx : Hid (Below v2.heap.size v2 v3) := by rw [hwy]; exact bal1 _ _
          have HY : Hid (NB v3 v2.heap.size 31 Na.zero Nd.zero ∧ BB ≤ v2.heap.size) := ⟨by rw [hwy]; exact NB.new _ _ _ _, HK.out.2⟩
          unfold nds Na.zero Nd.zero at hwy
          dsimp only [List.length_nil] at hwy
          rw [← hwy]
          clear hwy
          obtain ⟨Y, hYe⟩ : ∃ Y, Y = v2.heap.size := ⟨_, rfl⟩
          rw [← hYe] at HY ⊢
          have HK := hide (show KS w v3 a d am dm ∧ BB ≤ v3.heap.size from ⟨HK.out.1.b (bx.out), Nat.le_trans HK.out.2 (bx.out).size⟩)
          have HC := hide (rn_up HC.out (bx.out))
          clear bx hYe
          refine hK.out _ _ ?_ (fun hHeld => ?_)
          · exact ⟨HK.out.1.2.1, HK.out.1.2.2.1⟩
          clear hK K
          try simp only [Act.put, List.setIfInBounds_toArray, List.set_cons_zero, List.set_cons_succ]
          refine wpAnyH_ready (rs := [5]) (by kernel_rfl) (by simp) ?_
          refine AllReadyH.cons (o := { dst := none, op := Op.store 31 (Operand.tmp 5) (Operand.tmp 14), type := 0, pos := "l08_node.go:72", after := #[{ on := 4, ground := Ground.data }, { on := 3, ground := Ground.data }, { on := 3, ground := Ground.chain }, { on := 0, ground := Ground.phase }, { on := 1, ground := Ground.phase }, { on := 2, ground := Ground.phase }, { on := 3, ground := Ground.phase }, { on := 4, ground := Ground.phase }], guard := none }) rfl (fun K hK => ?_) AllReadyH.nil
          refine step_if (by rfl) (st_node_wp _ _ rfl rfl Y b k rfl rfl HY.out.1 (fun F hF hnF => ?_))
          have HK := hide (HK.out.1.far (OnlyG.of_only hF) (by have := HK.out.1.2.2.2.2; have := HBB.out; have := HY.out.2; omega))
          have HF := hide (And.intro hnF (rn_beside HC.out HY.out.1 hF))
          have hFs := hF.2.1
          refine hK.out _ _ ?_ (fun hHeld => ?_)
          · exact ⟨HK.out.2.1, HK.out.2.2.1⟩
          clear hK K
          try simp only [Act.put, List.setIfInBounds_toArray, List.set_cons_zero, List.set_cons_succ]
          refine wpAnyH_done (by kernel_rfl) ?_ _
          go_wp2_with fail
          go_meet
          case rel => exact ⟨Y, b, rfl, HK.out, HF.out.1, by rw [hFs]; exact HF.out.2⟩
        refine AllReadyH.cons (o := { dst := some 5, op := Op.alloc 31, type := 0, pos := "l08_node.go:72", after := #[], guard := none }) rfl (fun K hK => ?_) AllReadyH.nil
        · go_simp
          obtain ⟨v4, hwy⟩ : ∃ wy, wy = v1.alloc (.cells (nds Na.zero Nd.zero) 31) := ⟨_, rfl⟩
          have bx : Hid (Below v1.heap.size v1 v4) := by rw [hwy]; exact bal1 _ _
          have HY : Hid (NB v4 v1.heap.size 31 Na.zero Nd.zero ∧ BB ≤ v1.heap.size) := ⟨by rw [hwy]; exact NB.new _ _ _ _, HK.out.2⟩
          unfold nds Na.zero Nd.zero at hwy
          dsimp only [List.length_nil] at hwy
          rw [← hwy]
          clear hwy
          obtain ⟨Y, hYe⟩ : ∃ Y, Y = v1.heap.size := ⟨_, rfl⟩
          rw [← hYe] at HY ⊢
          have HK := hide (show KS w v4 a d am dm ∧ BB ≤ v4.heap.size from ⟨HK.out.1.b (bx.out), Nat.le_trans HK.out.2 (bx.out).size⟩)
          have HC := hide (rn_up HC.out (bx.out))
          clear bx hYe
          refine hK.out _ _ ?_ (fun hHeld => ?_)
          · exact ⟨HK.out.1.2.1, HK.out.1.2.2.1⟩
          clear hK K
          try simp only [Act.put, List.setIfInBounds_toArray, List.set_cons_zero, List.set_cons_succ]
          refine wpAnyH_ready (rs := [3]) (by kernel_rfl) (by simp) ?_
          refine AllReadyH.cons (o := { dst := some 14, op := Op.call { callee := Callee.value (Operand.func 57), args := #[Operand.tmp 12, Operand.tmp 13], argTypes := #[31, 25] }, type := 31, pos := "l08_node.go:72", after := #[{ on := 1, ground := Ground.data }, { on := 2, ground := Ground.data }, { on := 1, ground := Ground.chain }], guard := none }) rfl (fun K hK => ?_) AllReadyH.nil
          go_simp
          refine (hkeep.out v4 b HC.out (HV.out _ HK.out.1.1).2).mono ?_
          rintro e v5 ⟨b, rfl, o2, c2⟩
          have HC : Hid (RN v5 BB v5.heap.size b k) := o2
          have HK := hide (show KS w v5 a d am dm ∧ BB ≤ v5.heap.size from ⟨HK.out.1.b c2, Nat.le_trans HK.out.2 c2.size⟩)
          have HY := hide (show NB v5 Y 31 Na.zero Nd.zero ∧ BB ≤ Y from ⟨HY.out.1.b c2, HY.out.2⟩)
          clear o2 c2
          go_wp2_with fail
          refine hK.out _ _ ?_ (fun hHeld => ?_)
          · exact ⟨HK.out.1.2.1, HK.out.1.2.2.1⟩
          clear hK K
          try simp only [Act.put, List.setIfInBounds_toArray, List.set_cons_zero, List.set_cons_succ]
          refine wpAnyH_ready (rs := [5]) (by kernel_rfl) (by simp) ?_
          refine AllReadyH.cons (o := { dst := none, op := Op.store 31 (Operand.tmp 5) (Operand.tmp 14), type := 0, pos := "l08_node.go:72", after := #[{ on := 4, ground := Ground.data }, { on := 3, ground := Ground.data }, { on := 3, ground := Ground.chain }, { on := 0, ground := Ground.phase }, { on := 1, ground := Ground.phase }, { on := 2, ground := Ground.phase }, { on := 3, ground := Ground.phase }, { on := 4, ground := Ground.phase }], guard := none }) rfl (fun K hK => ?_) AllReadyH.nil
          refine step_if (by rfl) (st_node_wp _ _ rfl rfl Y b k rfl rfl HY.out.1 (fun F hF hnF => ?_))
          have HK := hide (HK.out.1.far (OnlyG.of_only hF) (by have := HK.out.1.2.2.2.2; have := HBB.out; have := HY.out.2; omega))
          have HF := hide (And.intro hnF (rn_beside HC.out HY.out.1 hF))
          have hFs := hF.2.1
          refine hK.out _ _ ?_ (fun hHeld => ?_)
          · exact ⟨HK.out.2.1, HK.out.2.2.1⟩
          clear hK K
          try simp only [Act.put, List.setIfInBounds_toArray, List.set_cons_zero, List.set_cons_succ]
          refine wpAnyH_done (by kernel_rfl) ?_ _
          go_wp2_with fail
          go_meet
          case rel => exact ⟨Y, b, rfl, HK.out, HF.out.1, by rw [hFs]; exact HF.out.2⟩
      refine AllReadyH.cons (o := { dst := some 5, op := Op.alloc 31, type := 0, pos := "l08_node.go:72", after := #[], guard := none }) rfl (fun K hK => ?_) AllReadyH.nil
      · go_simp
        obtain ⟨v6, hwy⟩ : ∃ wy, wy = (w1.alloc (.cells (nds Na.zero Nd.zero) 31)).drew := ⟨_, rfl⟩
        have bx : Hid (Below w1.drew.heap.size w1.drew v6) := by rw [hwy]; exact alloc_drew _ _
        have HY : Hid (NB v6 w1.heap.size 31 Na.zero Nd.zero ∧ BB ≤ w1.heap.size) := ⟨by rw [hwy]; exact NB.new _ _ _ _, HK.out.2⟩
        unfold nds Na.zero Nd.zero at hwy
        dsimp only [List.length_nil] at hwy
        rw [← hwy]
        clear hwy
        obtain ⟨Y, hYe⟩ : ∃ Y, Y = w1.heap.size := ⟨_, rfl⟩
        rw [← hYe] at HY ⊢
        have HK := hide (show KS w v6 a d am dm ∧ BB ≤ v6.heap.size from ⟨HK.out.1.b (bx.out), Nat.le_trans HK.out.2 (bx.out).size⟩)
        clear bx hYe
        refine hK.out _ _ ?_ (fun hHeld => ?_)
        · exact ⟨HK.out.1.2.1, HK.out.1.2.2.1⟩
        clear hK K
        try simp only [Act.put, List.setIfInBounds_toArray, List.set_cons_zero, List.set_cons_succ]
        refine wpAnyH_ready (rs := [1]) (by kernel_rfl) (by simp) ?_
        refine AllReadyH.cons (o := { dst := some 12, op := Op.call { callee := Callee.value (Operand.func 56), args := #[Operand.tmp 11], argTypes := #[31] }, type := 31, pos := "l08_node.go:72", after := #[{ on := 0, ground := Ground.data }], guard := none }) rfl (fun K hK => ?_) AllReadyH.nil
        go_simp
        refine (copyn_spec a d v6 HD.out (HV.out _ HK.out.1.1).1 HNN.out).mono ?_
        rintro e v7 ⟨b, rfl, o2, c2⟩
        have HC : Hid (RN v7 BB v7.heap.size b d) := o2.wider HK.out.2 (Nat.le_refl _) (Nat.le_refl _)
        have HK := hide (show KS w v7 a d am dm ∧ BB ≤ v7.heap.size from ⟨HK.out.1.b c2, Nat.le_trans HK.out.2 c2.size⟩)
        have HY := hide (show NB v7 Y 31 Na.zero Nd.zero ∧ BB ≤ Y from ⟨HY.out.1.b c2, HY.out.2⟩)
        clear o2 c2
        go_wp2_with fail
        refine hK.out _ _ ?_ (fun hHeld => ?_)
        · exact ⟨HK.out.1.2.1, HK.out.1.2.2.1⟩
        clear hK K
        try simp only [Act.put, List.setIfInBounds_toArray, List.set_cons_zero, List.set_cons_succ]
        refine wpAnyH_ready (rs := [3]) (by kernel_rfl) (by simp) ?_
        refine AllReadyH.cons (o := { dst := some 14, op := Op.call { callee := Callee.value (Operand.func 57), args := #[Operand.tmp 12, Operand.tmp 13], argTypes := #[31, 25] }, type := 31, pos := "l08_node.go:72", after := #[{ on := 1, ground := Ground.data }, { on := 2, ground := Ground.data }, { on := 1, ground := Ground.chain }], guard := none }) rfl (fun K hK => ?_) AllReadyH.nil
        go_simp
        refine (hkeep.out v7 b HC.out (HV.out _ HK.out.1.1).2).mono ?_
        rintro e v8 ⟨b, rfl, o2, c2⟩
        have HC : Hid (RN v8 BB v8.heap.size b k) := o2
        have HK := hide (show KS w v8 a d am dm ∧ BB ≤ v8.heap.size from ⟨HK.out.1.b c2, Nat.le_trans HK.out.2 c2.size⟩)
        have HY := hide (show NB v8 Y 31 Na.zero Nd.zero ∧ BB ≤ Y from ⟨HY.out.1.b c2, HY.out.2⟩)
        clear o2 c2
        go_wp2_with fail
        refine hK.out _ _ ?_ (fun hHeld => ?_)
        · exact ⟨HK.out.1.2.1, HK.out.1.2.2.1⟩
        clear hK K
        try simp only [Act.put, List.setIfInBounds_toArray, List.set_cons_zero, List.set_cons_succ]
        refine wpAnyH_ready (rs := [5]) (by kernel_rfl) (by simp) ?_
        refine AllReadyH.cons (o := { dst := none, op := Op.store 31 (Operand.tmp 5) (Operand.tmp 14), type := 0, pos := "l08_node.go:72", after := #[{ on := 4, ground := Ground.data }, { on := 3, ground := Ground.data }, { on := 3, ground := Ground.chain }, { on := 0, ground := Ground.phase }, { on := 1, ground := Ground.phase }, { on := 2, ground := Ground.phase }, { on := 3, ground := Ground.phase }, { on := 4, ground := Ground.phase }], guard := none }) rfl (fun K hK => ?_) AllReadyH.nil
        refine step_if (by rfl) (st_node_wp _ _ rfl rfl Y b k rfl rfl HY.out.1 (fun F hF hnF => ?_))
        have HK := hide (HK.out.1.far (OnlyG.of_only hF) (by have := HK.out.1.2.2.2.2; have := HBB.out; have := HY.out.2; omega))
        have HF := hide (And.intro hnF (rn_beside HC.out HY.out.1 hF))
        have hFs := hF.2.1
        refine hK.out _ _ ?_ (fun hHeld => ?_)
        · exact ⟨HK.out.2.1, HK.out.2.2.1⟩
        clear hK K
        try simp only [Act.put, List.setIfInBounds_toArray, List.set_cons_zero, List.set_cons_succ]
        refine wpAnyH_done (by kernel_rfl) ?_ _
        go_wp2_with fail
        go_meet
        case rel => exact ⟨Y, b, rfl, HK.out, HF.out.1, by rw [hFs]; exact HF.out.2⟩
    case rest =>
      obtain ⟨Y, b, rfl, hc⟩ := hcut
      have HC := hide hc.out
      clear hc hkeep HK
      as_aux_lemma =>
        go_wp2_with (refine ld_node rfl _ rfl Y rfl HC.out.2.1 ?_)
        refine (node_spec b k wc HBK2.out HC.out.2.2.nv).mono ?_
        rintro e w2 ⟨h, c2⟩
        have H1 : Hid (KS w w2 a d am dm ∧ NB w2 Y 31 b k ∧ RN w2 BB w2.heap.size b k) := ⟨HC.out.1.b c2, HC.out.2.1.b c2, rn_up HC.out.2.2 c2⟩
        clear c2 HC
        rcases h with ⟨hok, rfl⟩ | ⟨hok, rfl⟩
        · have HE : Hid (r = k) := HY0.out.1 hok
          have H2 : Hid (NB w2 Y 31 b k ∧ NB w2 (w.heap.size + 1 + 1) 31 Na.zero Nd.zero ∧ ∀ F : World, Only (w.heap.size + 1 + 1) w2 F → RN F w.heap.size F.heap.size b r ∧ Below w.heap.size w F) := ⟨H1.out.2.1, H1.out.1.2.2.2.1, fun F hF => by
            have hs := hF.2.1
            have hz := HBB.out
            refine ⟨?_, H1.out.1.1.trans (hF.1.mono (by omega))⟩
            rw [HE.out]
            exact (H1.out.2.2.only hF (.inr (by omega))).wider (by omega) (by omega) (Nat.le_refl _)⟩
          have HE2 : Hid (nv b r = nv b k) := (show _ = _ from by rw [HE.out])
          clear H1 HY0 hok
          go_wp2_with (first
            | (refine ld_node rfl _ rfl Y rfl H2.out.1 ?_)
            | (refine st_node rfl _ _ rfl rfl (w.heap.size + 1 + 1) b k rfl rfl H2.out.2.1 (fun F hF1 hF2 => ?_))
            | (refine bodyPost_ret (v := nv b k) (res_node Tryz.results16 rfl hF2) rfl ⟨b, (show Ending.returned (nv b k) = Ending.returned (nv b r) from by rw [HE2.out]), H2.out.2.2 F hF1⟩))
        · have HE : Hid (r = d) := HY0.out.2 hok
          have H1 := hide H1.out.1
          clear HY0 hok
          go_wp2_with (refine ld_node rfl _ rfl w.heap.size rfl H1.out.2.1 ?_)
          refine (copyn_spec a d w2 HD.out (HV.out _ H1.out.1).1 HNN.out).mono ?_
          rintro e w3 ⟨b, rfl, o2, c2⟩
          have H2 : Hid (NB w3 (w.heap.size + 1 + 1) 31 Na.zero Nd.zero ∧ ∀ F : World, Only (w.heap.size + 1 + 1) w3 F → RN F w.heap.size F.heap.size b r ∧ Below w.heap.size w F) := ⟨H1.out.2.2.2.1.b c2, fun F hF => by
            have hs := hF.2.1
            have hz := H1.out.2.2.2.2
            refine ⟨?_, (H1.out.1.trans (c2.mono H1.out.1.size)).trans (hF.1.mono (by omega))⟩
            rw [HE.out]
            exact (o2.only hF (.inr (by omega))).wider (by omega) (by omega) (Nat.le_refl _)⟩
          have HE2 : Hid (nv b r = nv b d) := (show _ = _ from by rw [HE.out])
          clear o2 c2 H1
          go_wp2_with (first
            | (refine st_node rfl _ _ rfl rfl (w.heap.size + 1 + 1) b d rfl rfl H2.out.1 (fun F hF1 hF2 => ?_))
            | (refine bodyPost_ret (v := nv b d) (res_node Tryz.results16 rfl hF2) rfl ⟨b, (show Ending.returned (nv b d) = Ending.returned (nv b r) from by rw [HE2.out]), H2.out.2 F hF1⟩))
end Go.Proofs.YtcffhjpdkdaaeaaGreatDoor

/- Keep of the model. -/
import Derived.Test.YtcffhjpdkdaaeaaGreatDoorGw
import Derived.Test.YtcffhjpdkdaaeaaGreatDoorNdDr1Z
import Derived.Test.YtcffhjpdkdaaeaaGreatDoorGu
import Derived.Test.YtcffhjpdkdaaeaaGreatDoorGy

namespace Go.Proofs.YtcffhjpdkdaaeaaGreatDoor
open Go.ChangeShapes Go.WideShapes Go.ChangeAt Go.RowKit
set_option linter.unusedVariables false
set_option linter.unusedSimpArgs false
set_option maxRecDepth 100000

theorem rn_up {w w' : World} {B : Nat} {a : Na} {d : Nd} (h : RN w B w.heap.size a d) (hb : Below w.heap.size w w') : RN w' B w'.heap.size a d := (h.below hb (Nat.le_refl _)).wider (Nat.le_refl _) hb.size (Nat.le_refl _)
theorem rn_beside {w w' : World} {B T g : Nat} {c : Array Value} {b : Na} {d : Nd} (h : RN w B T b d) (hc : w.heap[g]? = some (.cells c 31 (0, 0))) (ho : Only g w w') : RN w' B T b d := by
  obtain ⟨h1, h2, h3, R, Q, h5⟩ := h
  refine ⟨by rw [ho.2.1]; exact h1, h2, h3, R, Q, ra_beside h5 hc (fun r hr => ?_) ho⟩
  rcases drows_t (am := b) (R' := R) (dm := d) (List.mem_append_right _ hr) with h | h | h | h <;> rw [h] <;> decide
theorem alloc_drew (w : World) (o : Obj) : Below w.drew.heap.size w.drew (w.alloc o).drew := bal1 w.drew o
set_option maxHeartbeats 100000000 in
theorem keepn_s (a : Na) (d : Nd) (am : Na) (dm : Nd) (w : World)
    (hd : NBd d) (hv : NV w a d) (hn : NNC a) (hm : Bd dm.g dm.n dm.L) (hmv : MV w am.go am.gc am.bo am.bc dm.g dm.n dm.L) :
    Calls Tryz.prog 16 #[nv a d, mvv am dm] w fun e w' => ∃ b, e = .returned (nv b (pick Classical.propDecidable (NOk d ∧ NOk (kpd Classical.propDecidable d dm)) (kpd Classical.propDecidable d dm) d)) ∧ RN w' w.heap.size w'.heap.size b (pick Classical.propDecidable (NOk d ∧ NOk (kpd Classical.propDecidable d dm)) (kpd Classical.propDecidable d dm) d) ∧ Below w.heap.size w w' := by
  obtain ⟨W, hW⟩ : ∃ W, W = ((w.alloc (.cells (nds a d) 31)).alloc (.cells #[.slice am.go dm.g.length am.gc, .slice am.bo dm.n am.bc, .bool dm.fi, .bool dm.ol, .bool dm.he, .int .i64 dm.la] 25)).alloc (.cells (nds Na.zero Nd.zero) 31) := ⟨_, rfl⟩
  have T0 : Hid (KS w W a d am dm) := by rw [hW]; exact ks_new w a d am dm
  have HV : Hid (∀ V, Below w.heap.size w V → NV V a d ∧ MV V am.go am.gc am.bo am.bc dm.g dm.n dm.L) := fun V hb => ⟨hv.below hb, hmv.below hb⟩
  have HD := hide hd
  have HNN := hide hn
  obtain ⟨r, hr⟩ : ∃ r, r = pick Classical.propDecidable (NOk d ∧ NOk (kpd Classical.propDecidable d dm)) (kpd Classical.propDecidable d dm) d := ⟨_, rfl⟩
  have HR : Hid ((NOk d → NOk (kpd Classical.propDecidable d dm) → r = kpd Classical.propDecidable d dm) ∧ (¬ (NOk d ∧ NOk (kpd Classical.propDecidable d dm)) → r = d)) := by rw [hr]; exact ⟨fun h1 h2 => pick_yes ⟨h1, h2⟩, fun h => pick_no h⟩
  rw [← hr]
  have hkeep : Hid (∀ (V : World) (B : Nat) (b : Na), RN V B V.heap.size b d → MV V am.go am.gc am.bo am.bc dm.g dm.n dm.L → Calls Tryz.prog 57 #[nv b d, mvv am dm] V fun e w' => ∃ b, e = .returned (nv b (kpd Classical.propDecidable d dm)) ∧ RN w' B w'.heap.size b (kpd Classical.propDecidable d dm) ∧ Below V.heap.size V w') := fun V B b h1 h2 => l8keep_s B b d am dm V h1 hd hm h2
  have HBK2 : Hid (NBd (kpd Classical.propDecidable d dm)) := nbd_kpd hd ⟨hv.2.2.1.1.2.2, hv.2.2.1.2.2.2⟩ hm
  generalize kpd Classical.propDecidable d dm = k at *
  clear hd hv hn hm hmv hr
  unfold nv mvv
  unfold nds Na.zero Nd.zero at hW
  dsimp only [List.length_nil] at hW
  unfold nds
  go_enter Tryz.func16, Tryz.ntmps16
  go_upto_region 1 with fail
  rw [← hW]
  clear hW
  generalize Value.agg #[.int .i64 d.id, .bool d.up, .bool d.pr, .slice a.im d.im.length a.imc, .slice a.go d.g.length a.gc, .slice a.bo d.n a.bc, .bool d.fi, .bool d.ol, .bool d.he, .int .i64 d.la, .slice a.aA d.A.length a.cA, .slice a.aB d.C.length a.cB, .slice a.co d.co.length a.coc, .slice a.so d.m a.sc, .slice a.cp d.cp.length a.cpc, .slice a.wt d.wt.length a.wtc] = vn at *
  generalize Value.agg #[.slice am.go dm.g.length am.gc, .slice am.bo dm.n am.bc, .bool dm.fi, .bool dm.ol, .bool dm.he, .int .i64 dm.la] = vm at *
  go_wp2_with (refine ld_node rfl _ rfl w.heap.size rfl T0.out.2.1 ?_)
  refine (node_spec a d W HD.out (HV.out _ T0.out.1).1).mono ?_
  rintro e w1 ⟨h, c1⟩
  have H1 : Hid (KS w w1 a d am dm) := T0.out.b c1
  clear c1 T0
  rcases h with ⟨hok, rfl⟩ | ⟨hok, rfl⟩
  case inr =>
    have HE : Hid (r = d) := HR.out.2 (fun h => hok h.1)
    clear HR hok
    go_wp2_with (refine ld_node rfl _ rfl w.heap.size rfl H1.out.2.1 ?_)
    refine (copyn_spec a d w1 HD.out (HV.out _ H1.out.1).1 HNN.out).mono ?_
    rintro e w2 ⟨b, rfl, o2, c2⟩
    have H2 : Hid (NB w2 (w.heap.size + 1 + 1) 31 Na.zero Nd.zero ∧ ∀ F : World, Only (w.heap.size + 1 + 1) w2 F → RN F w.heap.size F.heap.size b r ∧ Below w.heap.size w F) := ⟨H1.out.2.2.2.1.b c2, fun F hF => by
      have hs := hF.2.1
      have hz := H1.out.2.2.2.2
      refine ⟨?_, (H1.out.1.trans (c2.mono H1.out.1.size)).trans (hF.1.mono (by omega))⟩
      rw [HE.out]
      exact (o2.only hF (.inr (by omega))).wider (by omega) (by omega) (Nat.le_refl _)⟩
    have HE2 : Hid (nv b r = nv b d) := (show _ = _ from by rw [HE.out])
    clear o2 c2 H1
    go_wp2_with (first
      | (refine st_node rfl _ _ rfl rfl (w.heap.size + 1 + 1) b d rfl rfl H2.out.1 (fun F hF1 hF2 => ?_))
      | (refine bodyPost_ret (v := nv b d) (res_node Tryz.results16 rfl hF2) rfl ⟨b, (show Ending.returned (nv b d) = Ending.returned (nv b r) from by rw [HE2.out]), H2.out.2 F hF1⟩))
  have HY0 : Hid ((NOk k → r = k) ∧ (¬ NOk k → r = d)) := ⟨HR.out.1 hok, fun h => HR.out.2 (fun h2 => h h2.2)⟩
  clear HR hok
  as_aux_lemma =>
    go_upto_region 3 with fail
    obtain ⟨BB, hBB⟩ : ∃ BB, BB = w1.heap.size := ⟨_, rfl⟩
    have HBB : Hid (w.heap.size + 1 + 1 < BB) := by rw [hBB]; exact H1.out.2.2.2.2
    have HK : Hid (KS w w1.drew a d am dm ∧ BB ≤ w1.drew.heap.size) := by rw [hBB]; exact ⟨H1.out.b (Below.drawn (Below.refl _ _) 1), Nat.le_refl _⟩
    have hkeep : Hid (∀ (V : World) (b : Na), RN V BB V.heap.size b d → MV V am.go am.gc am.bo am.bc dm.g dm.n dm.L → Calls Tryz.prog 57 #[nv b d, mvv am dm] V fun e w' => ∃ b, e = .returned (nv b k) ∧ RN w' BB w'.heap.size b k ∧ Below V.heap.size V w') := fun V b h1 h2 => hkeep.out V BB b h1 h2
    clear hBB H1
    go_cut [5] from 6 (fun y wc => ∃ Y b, y = .pointer (some ⟨Y, 0, none⟩) ∧ Hid (KS w wc a d am dm ∧ NB wc Y 31 b k ∧ RN wc BB wc.heap.size b k))
    case first =>
      refine wp_region_held_drew (S := (fun w' => NB w' w.heap.size 31 a d ∧ MBk w' (w.heap.size + 1) 25 am dm)) (by kernel_rfl) ?_ (fun hHeld => ?_)
      · exact ⟨HK.out.1.2.1, HK.out.1.2.2.1⟩
      refine wpAnyH_take (i := 0) (oi := { dst := some 11, op := Op.load 31 (Operand.tmp 2), type := 31, pos := "l08_node.go:72", after := #[], guard := none }) (v := nv a d) rfl (by kernel_rfl) (by kernel_rfl) (by kernel_rfl) (fun _ _ _ h => h) (yieldsIf_load_mid (by rfl) _ _ rfl w.heap.size 0 rfl ((nds a d).toList) _ (fun wq hSw => range_of hSw.1 rfl) Tryz.underlying31 rfl (by kernel_rfl)) (by assumption) ?_
      try simp only [Act.put, List.setIfInBounds_toArray, List.set_cons_zero, List.set_cons_succ]
      refine wpAnyH_take (i := 2) (oi := { dst := some 13, op := Op.load 25 (Operand.tmp 3), type := 25, pos := "l08_node.go:72", after := #[], guard := none }) (v := mvv am dm) rfl (by kernel_rfl) (by kernel_rfl) (by kernel_rfl) (fun _ _ _ h => h) (yieldsIf_load_mid (by rfl) _ _ rfl (w.heap.size + 1) 0 rfl (mds am dm) _ (fun wq hSw => range_of hSw.2 rfl) Tryz.underlying25 rfl (by kernel_rfl)) (by assumption) ?_
      try simp only [Act.put, List.setIfInBounds_toArray, List.set_cons_zero, List.set_cons_succ]
      refine wpAnyH_ready (rs := [1, 4]) (by kernel_rfl) (by simp) ?_
      refine AllReadyH.cons (o := { dst := some 12, op := Op.call { callee := Callee.value (Operand.func 56), args := #[Operand.tmp 11], argTypes := #[31] }, type := 31, pos := "l08_node.go:72", after := #[{ on := 0, ground := Ground.data }], guard := none }) rfl (fun K hK => ?_) ?_
      · go_simp
        refine (copyn_spec a d w1.drew HD.out (HV.out _ HK.out.1.1).1 HNN.out).mono ?_
        rintro e v1 ⟨b, rfl, o2, c2⟩
        have HC : Hid (RN v1 BB v1.heap.size b d) := o2.wider HK.out.2 (Nat.le_refl _) (Nat.le_refl _)
        have HK := hide (show KS w v1 a d am dm ∧ BB ≤ v1.heap.size from ⟨HK.out.1.b c2, Nat.le_trans HK.out.2 c2.size⟩)
        clear o2 c2
        go_wp2_with fail
        refine hK.out _ _ ?_ (fun hHeld => ?_)
        · exact ⟨HK.out.1.2.1, HK.out.1.2.2.1⟩
        clear hK K
        try simp only [Act.put, List.setIfInBounds_toArray, List.set_cons_zero, List.set_cons_succ]
        refine wpAnyH_ready (rs := [3, 4]) (by kernel_rfl) (by simp) ?_
        refine AllReadyH.cons (o := { dst := some 14, op := Op.call { callee := Callee.value (Operand.func 57), args := #[Operand.tmp 12, Operand.tmp 13], argTypes := #[31, 25] }, type := 31, pos := "l08_node.go:72", after := #[{ on := 1, ground := Ground.data }, { on := 2, ground := Ground.data }, { on := 1, ground := Ground.chain }], guard := none }) rfl (fun K hK => ?_) ?_
        · go_simp
          refine (hkeep.out v1 b HC.out (HV.out _ HK.out.1.1).2).mono ?_
          rintro e v2 ⟨b, rfl, o2, c2⟩
          have HC : Hid (RN v2 BB v2.heap.size b k) := o2
          have HK := hide (show KS w v2 a d am dm ∧ BB ≤ v2.heap.size from ⟨HK.out.1.b c2, Nat.le_trans HK.out.2 c2.size⟩)
          clear o2 c2
          go_wp2_with fail
          refine hK.out _ _ ?_ (fun hHeld => ?_)
          · exact ⟨HK.out.1.2.1, HK.out.1.2.2.1⟩
          clear hK K
          try simp only [Act.put, List.setIfInBounds_toArray, List.set_cons_zero, List.set_cons_succ]
          refine wpAnyH_ready (rs := [4]) (by kernel_rfl) (by simp) ?_
          refine AllReadyH.cons (o := { dst := some 5, op := Op.alloc 31, type := 0, pos := "l08_node.go:72", after := #[], guard := none }) rfl (fun K hK => ?_) AllReadyH.nil
          go_simp
          obtain ⟨v3, hwy⟩ : ∃ wy, wy = v2.alloc (.cells (nds Na.zero Nd.zero) 31) := ⟨_, rfl⟩
          have bx : Hid (Below v2.heap.size v2 v3) := by rw [hwy]; exact bal1 _ _
          have HY : Hid (NB v3 v2.heap.size 31 Na.zero Nd.zero ∧ BB ≤ v2.heap.size) := ⟨by rw [hwy]; exact NB.new _ _ _ _, HK.out.2⟩
          unfold nds Na.zero Nd.zero at hwy
          dsimp only [List.length_nil] at hwy
          rw [← hwy]
          clear hwy
          obtain ⟨Y, hYe⟩ : ∃ Y, Y = v2.heap.size := ⟨_, rfl⟩
          rw [← hYe] at HY ⊢
          have HK := hide (show KS w v3 a d am dm ∧ BB ≤ v3.heap.size from ⟨HK.out.1.b (bx.out), Nat.le_trans HK.out.2 (bx.out).size⟩)
          have HC := hide (rn_up HC.out (bx.out))
          clear bx hYe
          refine hK.out _ _ ?_ (fun hHeld => ?_)
          · exact ⟨HK.out.1.2.1, HK.out.1.2.2.1⟩
          clear hK K
          try simp only [Act.put, List.setIfInBounds_toArray, List.set_cons_zero, List.set_cons_succ]
          refine wpAnyH_ready (rs := [5]) (by kernel_rfl) (by simp) ?_
          refine AllReadyH.cons (o := { dst := none, op := Op.store 31 (Operand.tmp 5) (Operand.tmp 14), type := 0, pos := "l08_node.go:72", after := #[{ on := 4, ground := Ground.data }, { on := 3, ground := Ground.data }, { on := 3, ground := Ground.chain }, { on := 0, ground := Ground.phase }, { on := 1, ground := Ground.phase }, { on := 2, ground := Ground.phase }, { on := 3, ground := Ground.phase }, { on := 4, ground := Ground.phase }], guard := none }) rfl (fun K hK => ?_) AllReadyH.nil
          refine step_if (by rfl) (st_node_wp _ _ rfl rfl Y b k rfl rfl HY.out.1 (fun F hF hnF => ?_))
          have HK := hide (HK.out.1.far (OnlyG.of_only hF) (by have := HK.out.1.2.2.2.2; have := HBB.out; have := HY.out.2; omega))
          have HF := hide (And.intro hnF (rn_beside HC.out HY.out.1 hF))
          have hFs := hF.2.1
          refine hK.out _ _ ?_ (fun hHeld => ?_)
          · exact ⟨HK.out.2.1, HK.out.2.2.1⟩
          clear hK K
          try simp only [Act.put, List.setIfInBounds_toArray, List.set_cons_zero, List.set_cons_succ]
          refine wpAnyH_done (by kernel_rfl) ?_ _
          go_wp2_with fail
          go_meet
          case rel => exact ⟨Y, b, rfl, HK.out, HF.out.1, by rw [hFs]; exact HF.out.2⟩
        refine AllReadyH.cons (o := { dst := some 5, op := Op.alloc 31, type := 0, pos := "l08_node.go:72", after := #[], guard := none }) rfl (fun K hK => ?_) AllReadyH.nil
        · go_simp
          obtain ⟨v4, hwy⟩ : ∃ wy, wy = v1.alloc (.cells (nds Na.zero Nd.zero) 31) := ⟨_, rfl⟩
          have bx : Hid (Below v1.heap.size v1 v4) := by rw [hwy]; exact bal1 _ _
          have HY : Hid (NB v4 v1.heap.size 31 Na.zero Nd.zero ∧ BB ≤ v1.heap.size) := ⟨by rw [hwy]; exact NB.new _ _ _ _, HK.out.2⟩
          unfold nds Na.zero Nd.zero at hwy
          dsimp only [List.length_nil] at hwy
          rw [← hwy]
          clear hwy
          obtain ⟨Y, hYe⟩ : ∃ Y, Y = v1.heap.size := ⟨_, rfl⟩
          rw [← hYe] at HY ⊢
          have HK := hide (show KS w v4 a d am dm ∧ BB ≤ v4.heap.size from ⟨HK.out.1.b (bx.out), Nat.le_trans HK.out.2 (bx.out).size⟩)
          have HC := hide (rn_up HC.out (bx.out))
          clear bx hYe
          refine hK.out _ _ ?_ (fun hHeld => ?_)
          · exact ⟨HK.out.1.2.1, HK.out.1.2.2.1⟩
          clear hK K
          try simp only [Act.put, List.setIfInBounds_toArray, List.set_cons_zero, List.set_cons_succ]
          refine wpAnyH_ready (rs := [3]) (by kernel_rfl) (by simp) ?_
          refine AllReadyH.cons (o := { dst := some 14, op := Op.call { callee := Callee.value (Operand.func 57), args := #[Operand.tmp 12, Operand.tmp 13], argTypes := #[31, 25] }, type := 31, pos := "l08_node.go:72", after := #[{ on := 1, ground := Ground.data }, { on := 2, ground := Ground.data }, { on := 1, ground := Ground.chain }], guard := none }) rfl (fun K hK => ?_) AllReadyH.nil
          go_simp
          refine (hkeep.out v4 b HC.out (HV.out _ HK.out.1.1).2).mono ?_
          rintro e v5 ⟨b, rfl, o2, c2⟩
          have HC : Hid (RN v5 BB v5.heap.size b k) := o2
          have HK := hide (show KS w v5 a d am dm ∧ BB ≤ v5.heap.size from ⟨HK.out.1.b c2, Nat.le_trans HK.out.2 c2.size⟩)
          have HY := hide (show NB v5 Y 31 Na.zero Nd.zero ∧ BB ≤ Y from ⟨HY.out.1.b c2, HY.out.2⟩)
          clear o2 c2
          go_wp2_with fail
          refine hK.out _ _ ?_ (fun hHeld => ?_)
          · exact ⟨HK.out.1.2.1, HK.out.1.2.2.1⟩
          clear hK K
          try simp only [Act.put, List.setIfInBounds_toArray, List.set_cons_zero, List.set_cons_succ]
          refine wpAnyH_ready (rs := [5]) (by kernel_rfl) (by simp) ?_
          refine AllReadyH.cons (o := { dst := none, op := Op.store 31 (Operand.tmp 5) (Operand.tmp 14), type := 0, pos := "l08_node.go:72", after := #[{ on := 4, ground := Ground.data }, { on := 3, ground := Ground.data }, { on := 3, ground := Ground.chain }, { on := 0, ground := Ground.phase }, { on := 1, ground := Ground.phase }, { on := 2, ground := Ground.phase }, { on := 3, ground := Ground.phase }, { on := 4, ground := Ground.phase }], guard := none }) rfl (fun K hK => ?_) AllReadyH.nil
          refine step_if (by rfl) (st_node_wp _ _ rfl rfl Y b k rfl rfl HY.out.1 (fun F hF hnF => ?_))
          have HK := hide (HK.out.1.far (OnlyG.of_only hF) (by have := HK.out.1.2.2.2.2; have := HBB.out; have := HY.out.2; omega))
          have HF := hide (And.intro hnF (rn_beside HC.out HY.out.1 hF))
          have hFs := hF.2.1
          refine hK.out _ _ ?_ (fun hHeld => ?_)
          · exact ⟨HK.out.2.1, HK.out.2.2.1⟩
          clear hK K
          try simp only [Act.put, List.setIfInBounds_toArray, List.set_cons_zero, List.set_cons_succ]
          refine wpAnyH_done (by kernel_rfl) ?_ _
          go_wp2_with fail
          go_meet
          case rel => exact ⟨Y, b, rfl, HK.out, HF.out.1, by rw [hFs]; exact HF.out.2⟩
      refine AllReadyH.cons (o := { dst := some 5, op := Op.alloc 31, type := 0, pos := "l08_node.go:72", after := #[], guard := none }) rfl (fun K hK => ?_) AllReadyH.nil
      · go_simp
        obtain ⟨v6, hwy⟩ : ∃ wy, wy = (w1.alloc (.cells (nds Na.zero Nd.zero) 31)).drew := ⟨_, rfl⟩
        have bx : Hid (Below w1.drew.heap.size w1.drew v6) := by rw [hwy]; exact alloc_drew _ _
        have HY : Hid (NB v6 w1.heap.size 31 Na.zero Nd.zero ∧ BB ≤ w1.heap.size) := ⟨by rw [hwy]; exact NB.new _ _ _ _, HK.out.2⟩
        unfold nds Na.zero Nd.zero at hwy
        dsimp only [List.length_nil] at hwy
        rw [← hwy]
        clear hwy
        obtain ⟨Y, hYe⟩ : ∃ Y, Y = w1.heap.size := ⟨_, rfl⟩
        rw [← hYe] at HY ⊢
        have HK := hide (show KS w v6 a d am dm ∧ BB ≤ v6.heap.size from ⟨HK.out.1.b (bx.out), Nat.le_trans HK.out.2 (bx.out).size⟩)
        clear bx hYe
        refine hK.out _ _ ?_ (fun hHeld => ?_)
        · exact ⟨HK.out.1.2.1, HK.out.1.2.2.1⟩
        clear hK K
        try simp only [Act.put, List.setIfInBounds_toArray, List.set_cons_zero, List.set_cons_succ]
        refine wpAnyH_ready (rs := [1]) (by kernel_rfl) (by simp) ?_
        refine AllReadyH.cons (o := { dst := some 12, op := Op.call { callee := Callee.value (Operand.func 56), args := #[Operand.tmp 11], argTypes := #[31] }, type := 31, pos := "l08_node.go:72", after := #[{ on := 0, ground := Ground.data }], guard := none }) rfl (fun K hK => ?_) AllReadyH.nil
        go_simp
        refine (copyn_spec a d v6 HD.out (HV.out _ HK.out.1.1).1 HNN.out).mono ?_
        rintro e v7 ⟨b, rfl, o2, c2⟩
        have HC : Hid (RN v7 BB v7.heap.size b d) := o2.wider HK.out.2 (Nat.le_refl _) (Nat.le_refl _)
        have HK := hide (show KS w v7 a d am dm ∧ BB ≤ v7.heap.size from ⟨HK.out.1.b c2, Nat.le_trans HK.out.2 c2.size⟩)
        have HY := hide (show NB v7 Y 31 Na.zero Nd.zero ∧ BB ≤ Y from ⟨HY.out.1.b c2, HY.out.2⟩)
        clear o2 c2
        go_wp2_with fail
        refine hK.out _ _ ?_ (fun hHeld => ?_)
        · exact ⟨HK.out.1.2.1, HK.out.1.2.2.1⟩
        clear hK K
        try simp only [Act.put, List.setIfInBounds_toArray, List.set_cons_zero, List.set_cons_succ]
        refine wpAnyH_ready (rs := [3]) (by kernel_rfl) (by simp) ?_
        refine AllReadyH.cons (o := { dst := some 14, op := Op.call { callee := Callee.value (Operand.func 57), args := #[Operand.tmp 12, Operand.tmp 13], argTypes := #[31, 25] }, type := 31, pos := "l08_node.go:72", after := #[{ on := 1, ground := Ground.data }, { on := 2, ground := Ground.data }, { on := 1, ground := Ground.chain }], guard := none }) rfl (fun K hK => ?_) AllReadyH.nil
        go_simp
        refine (hkeep.out v7 b HC.out (HV.out _ HK.out.1.1).2).mono ?_
        rintro e v8 ⟨b, rfl, o2, c2⟩
        have HC : Hid (RN v8 BB v8.heap.size b k) := o2
        have HK := hide (show KS w v8 a d am dm ∧ BB ≤ v8.heap.size from ⟨HK.out.1.b c2, Nat.le_trans HK.out.2 c2.size⟩)
        have HY := hide (show NB v8 Y 31 Na.zero Nd.zero ∧ BB ≤ Y from ⟨HY.out.1.b c2, HY.out.2⟩)
        clear o2 c2
        go_wp2_with fail
        refine hK.out _ _ ?_ (fun hHeld => ?_)
        · exact ⟨HK.out.1.2.1, HK.out.1.2.2.1⟩
        clear hK K
        try simp only [Act.put, List.setIfInBounds_toArray, List.set_cons_zero, List.set_cons_succ]
        refine wpAnyH_ready (rs := [5]) (by kernel_rfl) (by simp) ?_
        refine AllReadyH.cons (o := { dst := none, op := Op.store 31 (Operand.tmp 5) (Operand.tmp 14), type := 0, pos := "l08_node.go:72", after := #[{ on := 4, ground := Ground.data }, { on := 3, ground := Ground.data }, { on := 3, ground := Ground.chain }, { on := 0, ground := Ground.phase }, { on := 1, ground := Ground.phase }, { on := 2, ground := Ground.phase }, { on := 3, ground := Ground.phase }, { on := 4, ground := Ground.phase }], guard := none }) rfl (fun K hK => ?_) AllReadyH.nil
        refine step_if (by rfl) (st_node_wp _ _ rfl rfl Y b k rfl rfl HY.out.1 (fun F hF hnF => ?_))
        have HK := hide (HK.out.1.far (OnlyG.of_only hF) (by have := HK.out.1.2.2.2.2; have := HBB.out; have := HY.out.2; omega))
        have HF := hide (And.intro hnF (rn_beside HC.out HY.out.1 hF))
        have hFs := hF.2.1
        refine hK.out _ _ ?_ (fun hHeld => ?_)
        · exact ⟨HK.out.2.1, HK.out.2.2.1⟩
        clear hK K
        try simp only [Act.put, List.setIfInBounds_toArray, List.set_cons_zero, List.set_cons_succ]
        refine wpAnyH_done (by kernel_rfl) ?_ _
        go_wp2_with fail
        go_meet
        case rel => exact ⟨Y, b, rfl, HK.out, HF.out.1, by rw [hFs]; exact HF.out.2⟩
    case rest =>
      obtain ⟨Y, b, rfl, hc⟩ := hcut
      have HC := hide hc.out
      clear hc hkeep HK
      as_aux_lemma =>
        go_wp2_with (refine ld_node rfl _ rfl Y rfl HC.out.2.1 ?_)
        refine (node_spec b k wc HBK2.out HC.out.2.2.nv).mono ?_
        rintro e w2 ⟨h, c2⟩
        have H1 : Hid (KS w w2 a d am dm ∧ NB w2 Y 31 b k ∧ RN w2 BB w2.heap.size b k) := ⟨HC.out.1.b c2, HC.out.2.1.b c2, rn_up HC.out.2.2 c2⟩
        clear c2 HC
        rcases h with ⟨hok, rfl⟩ | ⟨hok, rfl⟩
        · have HE : Hid (r = k) := HY0.out.1 hok
          have H2 : Hid (NB w2 Y 31 b k ∧ NB w2 (w.heap.size + 1 + 1) 31 Na.zero Nd.zero ∧ ∀ F : World, Only (w.heap.size + 1 + 1) w2 F → RN F w.heap.size F.heap.size b r ∧ Below w.heap.size w F) := ⟨H1.out.2.1, H1.out.1.2.2.2.1, fun F hF => by
            have hs := hF.2.1
            have hz := HBB.out
            refine ⟨?_, H1.out.1.1.trans (hF.1.mono (by omega))⟩
            rw [HE.out]
            exact (H1.out.2.2.only hF (.inr (by omega))).wider (by omega) (by omega) (Nat.le_refl _)⟩
          have HE2 : Hid (nv b r = nv b k) := (show _ = _ from by rw [HE.out])
          clear H1 HY0 hok
          go_wp2_with (first
            | (refine ld_node rfl _ rfl Y rfl H2.out.1 ?_)
            | (refine st_node rfl _ _ rfl rfl (w.heap.size + 1 + 1) b k rfl rfl H2.out.2.1 (fun F hF1 hF2 => ?_))
            | (refine bodyPost_ret (v := nv b k) (res_node Tryz.results16 rfl hF2) rfl ⟨b, (show Ending.returned (nv b k) = Ending.returned (nv b r) from by rw [HE2.out]), H2.out.2.2 F hF1⟩))
        · have HE : Hid (r = d) := HY0.out.2 hok
          have H1 := hide H1.out.1
          clear HY0 hok
          go_wp2_with (refine ld_node rfl _ rfl w.heap.size rfl H1.out.2.1 ?_)
          refine (copyn_spec a d w2 HD.out (HV.out _ H1.out.1).1 HNN.out).mono ?_
          rintro e w3 ⟨b, rfl, o2, c2⟩
          have H2 : Hid (NB w3 (w.heap.size + 1 + 1) 31 Na.zero Nd.zero ∧ ∀ F : World, Only (w.heap.size + 1 + 1) w3 F → RN F w.heap.size F.heap.size b r ∧ Below w.heap.size w F) := ⟨H1.out.2.2.2.1.b c2, fun F hF => by
            have hs := hF.2.1
            have hz := H1.out.2.2.2.2
            refine ⟨?_, (H1.out.1.trans (c2.mono H1.out.1.size)).trans (hF.1.mono (by omega))⟩
            rw [HE.out]
            exact (o2.only hF (.inr (by omega))).wider (by omega) (by omega) (Nat.le_refl _)⟩
          have HE2 : Hid (nv b r = nv b d) := (show _ = _ from by rw [HE.out])
          clear o2 c2 H1
          go_wp2_with (first
            | (refine st_node rfl _ _ rfl rfl (w.heap.size + 1 + 1) b d rfl rfl H2.out.1 (fun F hF1 hF2 => ?_))
            | (refine bodyPost_ret (v := nv b d) (res_node Tryz.results16 rfl hF2) rfl ⟨b, (show Ending.returned (nv b d) = Ending.returned (nv b r) from by rw [HE2.out]), H2.out.2 F hF1⟩))
end Go.Proofs.YtcffhjpdkdaaeaaGreatDoor

/- One line of marks set anew. -/
namespace Go.Proofs.YtcffhjpdkdaaeaaGreatDoor
open Go.ChangeShapes Go.WideShapes Go.ChangeAt Go.RowKit
set_option linter.unusedVariables false
set_option linter.unusedSimpArgs false
set_option maxRecDepth 100000

/-- One of the rows is another one. -/
def updL (L : Nat → List Int) (k : Nat) (M : List Int) (i : Nat) : List Int := if i = k then M else L i
theorem updL_at (L : Nat → List Int) (k : Nat) (M : List Int) : updL L k M k = M := if_pos rfl
theorem updL_ne (L : Nat → List Int) (k : Nat) (M : List Int) {i : Nat} (h : i ≠ k) : updL L k M i = L i := if_neg h
/-- A cell of a row that is written. -/
theorem wr_cell {w : World} {B T : Nat} {r : Rw} {i : Nat} {u : Value} (h : RwOk w B T r) (hi : r.vs[i]? = some u) :
    ∃ γ, r.ao = some ⟨γ, 0, none⟩ ∧ (B ≤ γ ∧ γ < T) ∧ (∃ c, w.heap[γ]? = some (.cells c r.t (0, 0))) ∧ w.cell? ⟨γ, i, none⟩ = some u ∧ w.frozen? ⟨γ, i, none⟩ = false ∧
      ∀ v, Wr w (w.setCell ⟨γ, i, none⟩ v) B T r { r with vs := r.vs.set i v } := by
  have hlt : i < r.vs.length := (List.getElem?_eq_some_iff.1 hi).1
  rcases h.2 with h0 | ⟨g, e, hg, c, hc, hs, hf⟩
  · rw [h0] at hlt; simp at hlt
  · have hn : r.vs ≠ [] := fun e0 => by rw [e0] at hlt; simp at hlt
    refine ⟨g, e, hg, ⟨c, hc⟩, mblk hc ((hf i hlt).trans hi), fblk hc i, fun v => .inr ⟨g, e, hn, (Only.refl _ _).setCell _, hg, rfl, ?_⟩⟩
    refine ⟨by simpa using h.1, .inr ⟨g, e, hg, c.setIfInBounds i v, sblk v hc, by simpa using hs, fun j hj => ?_⟩⟩
    have hj' : j < r.vs.length := by simpa using hj
    simp only [Array.getElem?_setIfInBounds, List.getElem?_set]
    by_cases e1 : i = j
    · subst e1
      rw [if_pos rfl, if_pos rfl, if_pos (by omega), if_pos (by omega)]
    · rw [if_neg e1, if_neg e1]
      exact hf j hj'
theorem inner3 (R : Nat → Option Addr × Nat) (L : Nat → List Int) : inner R 3 L = [⟨3, (R 0).1, (R 0).2, ir (L 0)⟩, ⟨3, (R 1).1, (R 1).2, ir (L 1)⟩, ⟨3, (R 2).1, (R 2).2, ir (L 2)⟩] := rfl
theorem outer3 (R : Nat → Option Addr × Nat) (L : Nat → List Int) : outer R 3 L = [.slice (R 0).1 (L 0).length (R 0).2, .slice (R 1).1 (L 1).length (R 1).2, .slice (R 2).1 (L 2).length (R 2).2] := rfl
theorem outer_set (R : Nat → Option Addr × Nat) (L : Nat → List Int) (k : Nat) (hk : k < 3) (p : Option Addr) (c : Nat) (M : List Int) : (outer R 3 L).set k (.slice p M.length c) = outer (setr R k (p, c)) 3 (updL L k M) := by
  rw [outer3, outer3]
  rcases (by omega : k = 0 ∨ k = 1 ∨ k = 2) with rfl | rfl | rfl <;> simp [setr, updL]
theorem inner_cut (R : Nat → Option Addr × Nat) (L : Nat → List Int) (k : Nat) (hk : k < 3) : ∃ xs ys, inner R 3 L = xs ++ ([⟨3, (R k).1, (R k).2, ir (L k)⟩] ++ ys) ∧ ∀ p c M, inner (setr R k (p, c)) 3 (updL L k M) = xs ++ ([⟨3, p, c, ir M⟩] ++ ys) := by
  rcases (by omega : k = 0 ∨ k = 1 ∨ k = 2) with rfl | rfl | rfl
  · exact ⟨[], [⟨3, (R 1).1, (R 1).2, ir (L 1)⟩, ⟨3, (R 2).1, (R 2).2, ir (L 2)⟩], rfl, fun p c M => by rw [inner3]; simp [setr, updL]⟩
  · exact ⟨[⟨3, (R 0).1, (R 0).2, ir (L 0)⟩], [⟨3, (R 2).1, (R 2).2, ir (L 2)⟩], rfl, fun p c M => by rw [inner3]; simp [setr, updL]⟩
  · exact ⟨[⟨3, (R 0).1, (R 0).2, ir (L 0)⟩, ⟨3, (R 1).1, (R 1).2, ir (L 1)⟩], [], rfl, fun p c M => by rw [inner3]; simp [setr, updL]⟩
/-- A meta's rows, one line of marks set anew: a fresh row, and the place that tells of it. -/
theorem rs_line {w w1 : World} {B : Nat} {xs ys : List Rw} {bo : Option Addr} {bc k : Nat} {R : Nat → Option Addr × Nat} {L : Nat → List Int} {p : Option Addr} {c : Nat} {M : List Int} (h : RS w B w.heap.size (xs ++ (srows bo bc R 3 L ++ ys))) (hk : k < 3) (hb : Below w.heap.size w w1) (hn : RS w1 w.heap.size w1.heap.size [⟨3, p, c, ir M⟩]) (hB : B ≤ w.heap.size) :
    ∃ γ, bo = some ⟨γ, 0, none⟩ ∧ B ≤ γ ∧ (∃ cs, w1.heap[γ]? = some (.cells cs 22 (0, 0))) ∧ w1.cell? ⟨γ, k, none⟩ = some (.slice (R k).1 (L k).length (R k).2) ∧ w1.frozen? ⟨γ, k, none⟩ = false ∧
      RS (w1.setCell ⟨γ, k, none⟩ (.slice p M.length c)) B w1.heap.size (xs ++ (srows bo bc (setr R k (p, c)) 3 (updL L k M) ++ ys)) := by
  obtain ⟨us, vs, e1, e2⟩ := inner_cut R L k hk
  have h1 := h.below hb (Nat.le_refl _)
  have h2 : RS w1 B w.heap.size ((xs ++ (⟨22, bo, bc, outer R 3 L⟩ :: us)) ++ ([⟨3, (R k).1, (R k).2, ir (L k)⟩] ++ (vs ++ ys))) := by
    have h1' := h1
    unfold srows at h1'
    rw [e1] at h1'
    simpa using h1'
  have h3 := h2.renew hn hB hb.size
  have h4 : RS w1 B w1.heap.size (xs ++ ⟨22, bo, bc, outer R 3 L⟩ :: (us ++ ([⟨3, p, c, ir M⟩] ++ (vs ++ ys)))) := by simpa using h3
  obtain ⟨γ, g1, g2, g3, g4, g5, g6⟩ := wr_cell (i := k) h4.right.head (outer_get R 3 L k hk)
  have h5 := h4.wr (g6 (.slice p M.length c))
  have h6 : RS (w1.setCell ⟨γ, k, none⟩ (.slice p M.length c)) B w1.heap.size (xs ++ ⟨22, bo, bc, outer (setr R k (p, c)) 3 (updL L k M)⟩ :: (us ++ ([⟨3, p, c, ir M⟩] ++ (vs ++ ys)))) := by
    rw [← outer_set R L k hk]; exact h5
  refine ⟨γ, g1, g2.1, g3, g4, g5, ?_⟩
  unfold srows
  rw [e2]
  simpa using h6
/-- A draft, one line of its marks set anew. -/
theorem DR.line {w w1 : World} {X B k : Nat} {am b : Na} {dm d : Nd} {p : Option Addr} {c : Nat} {M : List Int} (h : DR w X B am dm b d) (hn3 : dm.n = 3) (hk : k < 3) (hb : Below w.heap.size w w1) (hn : RS w1 w.heap.size w1.heap.size [⟨3, p, c, ir M⟩]) :
    ∃ (γ : Nat) (r : Option Addr × Nat), am.bo = some ⟨γ, 0, none⟩ ∧ B ≤ γ ∧ γ ≠ X ∧ w.cell? ⟨γ, k, none⟩ = some (.slice r.1 (dm.L k).length r.2) ∧ SL .i64 w r.1 (dm.L k).length (fun i => (dm.L k).getD i 0) ∧ (w1.cell? ⟨γ, k, none⟩).isSome = true ∧ w1.frozen? ⟨γ, k, none⟩ = false ∧
      DR (w1.setCell ⟨γ, k, none⟩ (.slice p M.length c)) X B am { dm with L := updL dm.L k M } b d := by
  have hd1 := h.1.b hb
  obtain ⟨h1, h2, h3, h4, R', R, Q, h5⟩ := h
  have hB : B ≤ w.heap.size := Nat.le_trans h2 (Nat.le_of_lt h1.lt)
  have h6 : RS w B w.heap.size ([⟨3, am.go, am.gc, ir dm.g⟩] ++ (srows am.bo am.bc R' 3 dm.L ++ nrows b R Q d)) := by
    have h5' := h5
    unfold drows mrows at h5'
    rw [hn3] at h5'
    simpa using h5'
  obtain ⟨γ, g1, g2, ⟨cs, g3⟩, g4, g5, g6⟩ := rs_line h6 hk hb hn hB
  have hne : γ ≠ X := fun e => by
    rw [e, show w1.heap[X]? = _ from hd1] at g3
    simp only [Option.some.injEq, Obj.cells.injEq] at g3
    exact absurd g3.2.1.symm (show (22 : Nat) ≠ 74 by decide)
  have ho : Only γ w1 (w1.setCell ⟨γ, k, none⟩ (.slice p M.length c)) := (Only.refl _ _).setCell _
  obtain ⟨γ2, k1, _, _, k4, _, _⟩ := wr_cell (i := k) h6.right.head (outer_get R' 3 dm.L k hk)
  have e2 : γ2 = γ := by
    have k1' : am.bo = some ⟨γ2, 0, none⟩ := k1
    rw [g1] at k1'
    simpa using k1'.symm
  rw [e2] at k4
  have hin := h6.right.left.tail.1 _ (inner_mem (R := R') (L := dm.L) hk)
  refine ⟨γ, R' k, g1, g2, hne, k4, hin.sl, by rw [g4]; rfl, g5, hd1.far ho (fun e => hne e.symm), h2, h3, h4, setr R' k (p, c), R, Q, ?_⟩
  rw [ho.2.1]
  unfold drows mrows
  show RS _ B w1.heap.size ((⟨3, am.go, am.gc, ir dm.g⟩ :: srows am.bo am.bc (setr R' k (p, c)) dm.n (updL dm.L k M)) ++ nrows b R Q d)
  rw [hn3]
  simpa using g6
end Go.Proofs.YtcffhjpdkdaaeaaGreatDoor

/- Clear, of the program and of its model. -/
namespace Go.Proofs.YtcffhjpdkdaaeaaGreatDoor
open Go.ChangeShapes Go.WideShapes Go.ChangeAt Go.RowKit
set_option linter.unusedVariables false
set_option linter.unusedSimpArgs false
set_option maxRecDepth 100000

/-- The first k without x. -/
def kept (f : Nat → Int) (x : Int) : Nat → List Int
  | 0 => []
  | k + 1 => if f k = x then kept f x k else kept f x k ++ [f k]

theorem kept_len (f : Nat → Int) (x : Int) (k : Nat) : (kept f x k).length ≤ k := by
  induction k with
  | zero => simp [kept]
  | succ k ih =>
    simp only [kept]
    split
    · omega
    · simp; omega

theorem without_any (ao : Option Addr) (n cap : Nat) (f : Nat → Int) (x : Int) (w : World) (hn : n ≤ 2097152) (hs : SL .i64 w ao n f) :
    Calls Tryz.prog 132 #[.slice ao n cap, .int .i64 x] w fun e w' => ∃ v, e = .returned v ∧ w'.ownsRow w.heap.size 3 1 v (kept f x n).length ((kept f x n).map (.int .i64)) ∧ Below w.heap.size w w' := by
  obtain ⟨i0, hi, hz0, hz1, hz2⟩ := info_parts Tryz.info3
  go_enter Tryz.func132, Tryz.ntmps132
  go_wp2
  go_loopw [5, 7, 10] (fun v _ i wr => ∃ (k m : Nat) (L : List Int), k ≤ n ∧ i = .int .i64 k ∧ m ≤ k ∧ Hid (L = kept f x k ∧ L.length = m) ∧ wr.ownsRow w.heap.size 3 1 v m (L.map (.int .i64)) ∧ Below w.heap.size w wr) (fun _ _ i _ => n - (intOf i).toNat)
  case atStart => exact ⟨0, 0, [], by omega, rfl, by omega, ⟨rfl, rfl⟩, owns_nil, Below.refl _ _⟩
  case round =>
    obtain ⟨k, m, L, hk, rfl, hm, hL, hown, hbel⟩ := hrel
    by_cases hlt : k < n
    · obtain ⟨b, off, rfl, hb, hc0⟩ := hs k hlt
      have hc := (hbel.cell (p := ⟨b, off + k, none⟩) hb).trans hc0
      clear hs hc0
      generalize hy : f k = y at *
      have B : Hid (f k = y) := hy
      clear hy
      by_cases he : y = x
      · subst he
        go_wp2
        go_roundw
        case rel => exact ⟨k + 1, m, L, by omega, by go_num, by omega, ⟨by rw [hL.out.1, kept, if_pos B.out], hL.out.2⟩, hown, hbel⟩
        case measure => simp [intOf]; omega
      · have hd : decide (y = x) = false := by simpa using he
        go_wp2_with (first
          | (at_builtin; refine wpList_append_own _ rfl _ _ 104 rfl w.heap.size 3 i0 (.int .i64 0) 1 8 Tryz.underlying104 hi hz0 hz1 hz2 rfl (by decide) _ _ _ rfl (hown.alloc _) ⟨wr.heap.size, 0, none⟩ 1 1 [.int .i64 y] rfl rfl (app_cell8 _ _ _) (app_one8 _ _) (app_len8 (by omega)) (by omega) (by have := hbel.size; simp; omega) ?_; intro v' w1 hown' hgrow hnn))
        have R := push hbel hbel.size hown hown' hgrow
        clear hown' hgrow hown hnn
        go_wp2
        go_roundw
        case rel => exact ⟨k + 1, m + 1, L ++ [y], by omega, by go_num, by omega, ⟨by rw [kept, if_neg (by rw [B.out]; exact he), hL.out.1, B.out], by simp [hL.out.2]⟩, R.1, R.2⟩
        case measure => simp [intOf]; omega
    · have hkn : k = n := by omega
      subst hkn
      go_wp2
      go_ret
      refine ⟨_, rfl, ?_, hbel⟩
      obtain ⟨rfl, rfl⟩ := hL.out
      exact hown

theorem clear_impl (ao : Option Addr) (n cap : Nat) (f : Nat → Int) (x : Int) (w : World) (hn : n ≤ 2097152) (hs : SL .i64 w ao n f) :
    Calls Tryz.prog 106 #[.slice ao n cap, .int .i64 x] w fun e w' => ∃ v, e = .returned v ∧ w'.ownsRow w.heap.size 3 1 v (kept f x n).length ((kept f x n).map (.int .i64)) ∧ Below w.heap.size w w' := by
  have h := without_any ao n cap f x w hn hs
  go_enter Tryz.func106, Tryz.ntmps106
  go_wp2_with fail
  refine h.mono ?_
  rintro e w1 ⟨v, rfl, ho, hb⟩
  go_wp2
  go_ret
  exact ⟨_, rfl, ho, hb⟩

theorem clear_spec (ao : Option Addr) (n cap : Nat) (f : Nat → Int) (x : Int) (w : World) (hn : n ≤ 2097152) (hs : SL .i64 w ao n f) :
    Calls Tryz.prog 74 #[.slice ao n cap, .int .i64 x] w fun e w' => ∃ v, e = .returned v ∧ w'.ownsRow w.heap.size 3 1 v (kept f x n).length ((kept f x n).map (.int .i64)) ∧ Below w.heap.size w w' := by
  obtain ⟨i0, hi, hz0, hz1, hz2⟩ := info_parts Tryz.info3
  go_enter Tryz.func74, Tryz.ntmps74
  go_wp2
  go_loopw [5, 6] (fun v i wr => ∃ (k m : Nat) (L : List Int), k ≤ n ∧ i = .int .i64 k ∧ m ≤ k ∧ Hid (L = kept f x k ∧ L.length = m) ∧ wr.ownsRow w.heap.size 3 1 v m (L.map (.int .i64)) ∧ Below w.heap.size w wr) (fun _ i _ => n - (intOf i).toNat)
  case atStart => exact ⟨0, 0, [], by omega, rfl, by omega, ⟨rfl, rfl⟩, owns_empty (Nat.le_refl _), (Below.refl _ _).alloc (Nat.le_refl _) _⟩
  case round =>
    obtain ⟨k, m, L, hk, rfl, hm, hL, hown, hbel⟩ := hrel
    by_cases hlt : k < n
    · obtain ⟨b, off, rfl, hb, hc0⟩ := hs k hlt
      have hc := (hbel.cell (p := ⟨b, off + k, none⟩) hb).trans hc0
      clear hs hc0
      generalize hy : f k = y at *
      have B : Hid (f k = y) := hy
      clear hy
      by_cases he : y = x
      · subst he
        go_wp2
        go_roundw
        case rel => exact ⟨k + 1, m, L, by omega, by go_num, by omega, ⟨by rw [hL.out.1, kept, if_pos B.out], hL.out.2⟩, hown, hbel⟩
        case measure => simp [intOf]; omega
      · have hd : decide (y = x) = false := by simpa using he
        go_wp2_with (first
          | (at_builtin; refine wpList_append_own _ rfl _ _ 22 rfl w.heap.size 3 i0 (.int .i64 0) 1 8 Tryz.underlying22 hi hz0 hz1 hz2 rfl (by decide) _ _ _ rfl (hown.alloc _) ⟨wr.heap.size, 0, none⟩ 1 1 [.int .i64 y] rfl rfl (app_cell8 _ _ _) (app_one8 _ _) (app_len8 (by omega)) (by omega) (by have := hbel.size; simp; omega) ?_; intro v' w1 hown' hgrow hnn))
        have R := push hbel hbel.size hown hown' hgrow
        clear hown' hgrow hown hnn
        go_wp2
        go_roundw
        case rel => exact ⟨k + 1, m + 1, L ++ [y], by omega, by go_num, by omega, ⟨by rw [kept, if_neg (by rw [B.out]; exact he), hL.out.1, B.out], by simp [hL.out.2]⟩, R.1, R.2⟩
        case measure => simp [intOf]; omega
    · have hkn : k = n := by omega
      subst hkn
      go_wp2
      go_ret
      refine ⟨_, rfl, ?_, hbel⟩
      obtain ⟨rfl, rfl⟩ := hL.out
      exact hown
end Go.Proofs.YtcffhjpdkdaaeaaGreatDoor

/- A mark taken out of a draft. -/
namespace Go.Proofs.YtcffhjpdkdaaeaaGreatDoor
open Go.ChangeShapes Go.WideShapes Go.ChangeAt Go.RowKit
set_option linter.unusedVariables false
set_option linter.unusedSimpArgs false
set_option maxRecDepth 100000

theorem int_row {w : World} {B : Nat} {v : Value} {M : List Int} (h : w.ownsRow B 3 1 v M.length (M.map (.int .i64))) : ∃ p c, v = .slice p M.length c ∧ RS w B w.heap.size [⟨3, p, c, ir M⟩] := by
  have h' : w.ownsRow B 3 1 v (ir M).length (ir M) := by rw [ir_len]; exact h
  obtain ⟨p, c, e, hr⟩ := rs_owns h'
  rw [ir_len] at e
  exact ⟨p, c, e, hr⟩
set_option maxHeartbeats 100000000 in
theorem unmark_i (X B k : Nat) (am : Na) (dm : Nd) (b : Na) (d : Nd) (x : Int) (w : World) (h : DR w X B am dm b d) (hn3 : dm.n = 3) (hk : k < 3) (hl : (dm.L k).length ≤ 1048576) :
    Calls Tryz.prog 75 #[.pointer (some ⟨X, 0, none⟩), .int .i64 (k : Int), .int .i64 x] w fun e w' => e = .returned (.tuple #[]) ∧ DR w' X B am { dm with L := updL dm.L k (kept (fun j => (dm.L k).getD j 0) x (dm.L k).length) } b d ∧ Below B w w' := by
  have hd0 : DR w.drew X B am dm b d := h.below (Below.drawn (Below.refl _ _) 1)
  have hB : B ≤ w.heap.size := Nat.le_trans h.2.1 (Nat.le_of_lt h.1.lt)
  obtain ⟨γ, r, g1, g2, g3, g4, g5, _, _, _⟩ := DR.line (p := none) (c := 0) (M := []) hd0 hn3 hk (Below.refl _ _) (RS.one ⟨Nat.zero_le _, .inl rfl⟩)
  have HLN : Hid (∀ (w1 : World) (p : Option Addr) (c : Nat) (M : List Int), Below w.drew.heap.size w.drew w1 → RS w1 w.drew.heap.size w1.heap.size [⟨3, p, c, ir M⟩] → ((w1.cell? ⟨γ, k, none⟩).isSome = true ∧ w1.frozen? ⟨γ, k, none⟩ = false) ∧ DR (w1.setCell ⟨γ, k, none⟩ (.slice p M.length c)) X B am { dm with L := updL dm.L k M } b d) := fun w1 p c M hb hr => by
    obtain ⟨γ2, _, k1, _, _, _, _, k6, k7, k8⟩ := DR.line hd0 hn3 hk hb hr
    have e : γ2 = γ := by rw [g1] at k1; simpa using k1.symm
    rw [e] at k6 k7 k8
    exact ⟨⟨k6, k7⟩, k8⟩
  have HX : Hid (∀ (V : World) (dm' : Nd), dm'.n = 3 → DB V X am dm' b d → V.cell? ⟨X, 1, none⟩ = some (.slice (some ⟨γ, 0, none⟩) 3 am.bc)) := fun V dm' h3 h => by
    have h1 : V.cell? ⟨X, 1, none⟩ = some (.slice am.bo dm'.n am.bc) := h.cell (i := 1) rfl
    rw [g1, h3] at h1
    exact h1
  have cX1 : w.drew.cell? ⟨X, 1, none⟩ = some (.slice (some ⟨γ, 0, none⟩) 3 am.bc) := HX.out _ dm hn3 hd0.1
  have HD0 := hide hd0.1
  have HN3 := hide hn3
  have HG : Hid (B ≤ γ ∧ B ≤ w.heap.size) := ⟨g2, hB⟩
  have HC : Hid (Calls Tryz.prog 106 #[.slice r.1 (dm.L k).length r.2, .int .i64 x] w.drew fun e w' => ∃ p c, e = .returned (.slice p (kept (fun j => (dm.L k).getD j 0) x (dm.L k).length).length c) ∧ RS w' w.drew.heap.size w'.heap.size [⟨3, p, c, ir (kept (fun j => (dm.L k).getD j 0) x (dm.L k).length)⟩] ∧ Below w.drew.heap.size w.drew w') := (clear_impl r.1 (dm.L k).length r.2 (fun j => (dm.L k).getD j 0) x w.drew (by omega) g5).mono fun e w' ⟨v, h1, h2, h3⟩ => by
    obtain ⟨p, c, rfl, hr⟩ := int_row h2
    exact ⟨p, c, h1, hr, h3⟩
  have hk0 : (0 : Int) ≤ (k : Int) := by omega
  have hk1 : (k : Int) < 3 := by omega
  clear h hd0 hn3 hB g1 g2 g3 g5 hk
  go_enter Tryz.func75, Tryz.ntmps75
  refine wp_region_held_drew (S := (fun w' => w'.cell? ⟨X, 1, none⟩ = some (.slice (some ⟨γ, 0, none⟩) 3 am.bc))) (by kernel_rfl) ?_ (fun hHeld => ?_)
  · exact cX1
  refine wpAnyH_take (i := 0) (oi := { dst := some 6, op := Op.move (Operand.tmp 0), type := 97, pos := "l08_node.go:188", after := #[], guard := none }) (v := ?_) rfl (by kernel_rfl) (by kernel_rfl) (by kernel_rfl) (fun _ _ _ h => h) (Or.inl ⟨by rfl, ?_⟩) (by assumption) ?_
  rotate_left 1
  · (intro wq hSw; (try dsimp only at hSw); go_simp; try with_reducible rfl)
  try simp only [Act.put, List.setIfInBounds_toArray, List.set_cons_zero, List.set_cons_succ]
  refine wpAnyH_take (i := 1) (oi := { dst := some 7, op := Op.nilCheck (Operand.tmp 6), type := 0, pos := "l08_node.go:188", after := #[{ on := 0, ground := Ground.data }], guard := none }) (v := ?_) rfl (by kernel_rfl) (by kernel_rfl) (by kernel_rfl) (fun _ _ _ h => h) (Or.inl ⟨by rfl, ?_⟩) (by assumption) ?_
  rotate_left 1
  · (intro wq hSw; (try dsimp only at hSw); go_simp; try with_reducible rfl)
  try simp only [Act.put, List.setIfInBounds_toArray, List.set_cons_zero, List.set_cons_succ]
  refine wpAnyH_take (i := 2) (oi := { dst := some 8, op := Op.fieldAddr 25 (Operand.tmp 7) 1, type := 0, pos := "l08_node.go:188", after := #[{ on := 1, ground := Ground.data }], guard := none }) (v := ?_) rfl (by kernel_rfl) (by kernel_rfl) (by kernel_rfl) (fun _ _ _ h => h) (Or.inl ⟨by rfl, ?_⟩) (by assumption) ?_
  rotate_left 1
  · (intro wq hSw; (try dsimp only at hSw); go_simp; try with_reducible rfl)
  try simp only [Act.put, List.setIfInBounds_toArray, List.set_cons_zero, List.set_cons_succ]
  refine wpAnyH_take (i := 3) (oi := { dst := some 9, op := Op.load 23 (Operand.tmp 8), type := 23, pos := "l08_node.go:188", after := #[{ on := 2, ground := Ground.data }], guard := none }) (v := ?_) rfl (by kernel_rfl) (by kernel_rfl) (by kernel_rfl) (fun _ _ _ h => h) (Or.inl ⟨by rfl, ?_⟩) (by assumption) ?_
  rotate_left 1
  · (intro wq hSw; (try dsimp only at hSw); go_simp; try with_reducible rfl)
  try simp only [Act.put, List.setIfInBounds_toArray, List.set_cons_zero, List.set_cons_succ]
  refine wpAnyH_take (i := 4) (oi := { dst := some 10, op := Op.move (Operand.tmp 1), type := 3, pos := "l08_node.go:188", after := #[], guard := none }) (v := ?_) rfl (by kernel_rfl) (by kernel_rfl) (by kernel_rfl) (fun _ _ _ h => h) (Or.inl ⟨by rfl, ?_⟩) (by assumption) ?_
  rotate_left 1
  · (intro wq hSw; (try dsimp only at hSw); go_simp; try with_reducible rfl)
  try simp only [Act.put, List.setIfInBounds_toArray, List.set_cons_zero, List.set_cons_succ]
  refine wpAnyH_take (i := 5) (oi := { dst := some 11, op := Op.move (Operand.tmp 0), type := 97, pos := "l08_node.go:188", after := #[], guard := none }) (v := ?_) rfl (by kernel_rfl) (by kernel_rfl) (by kernel_rfl) (fun _ _ _ h => h) (Or.inl ⟨by rfl, ?_⟩) (by assumption) ?_
  rotate_left 1
  · (intro wq hSw; (try dsimp only at hSw); go_simp; try with_reducible rfl)
  try simp only [Act.put, List.setIfInBounds_toArray, List.set_cons_zero, List.set_cons_succ]
  refine wpAnyH_take (i := 6) (oi := { dst := some 12, op := Op.nilCheck (Operand.tmp 11), type := 0, pos := "l08_node.go:188", after := #[{ on := 5, ground := Ground.data }], guard := none }) (v := ?_) rfl (by kernel_rfl) (by kernel_rfl) (by kernel_rfl) (fun _ _ _ h => h) (Or.inl ⟨by rfl, ?_⟩) (by assumption) ?_
  rotate_left 1
  · (intro wq hSw; (try dsimp only at hSw); go_simp; try with_reducible rfl)
  try simp only [Act.put, List.setIfInBounds_toArray, List.set_cons_zero, List.set_cons_succ]
  refine wpAnyH_take (i := 7) (oi := { dst := some 13, op := Op.fieldAddr 25 (Operand.tmp 12) 1, type := 0, pos := "l08_node.go:188", after := #[{ on := 6, ground := Ground.data }], guard := none }) (v := ?_) rfl (by kernel_rfl) (by kernel_rfl) (by kernel_rfl) (fun _ _ _ h => h) (Or.inl ⟨by rfl, ?_⟩) (by assumption) ?_
  rotate_left 1
  · (intro wq hSw; (try dsimp only at hSw); go_simp; try with_reducible rfl)
  try simp only [Act.put, List.setIfInBounds_toArray, List.set_cons_zero, List.set_cons_succ]
  refine wpAnyH_take (i := 8) (oi := { dst := some 14, op := Op.load 23 (Operand.tmp 13), type := 23, pos := "l08_node.go:188", after := #[{ on := 7, ground := Ground.data }], guard := none }) (v := ?_) rfl (by kernel_rfl) (by kernel_rfl) (by kernel_rfl) (fun _ _ _ h => h) (Or.inl ⟨by rfl, ?_⟩) (by assumption) ?_
  rotate_left 1
  · (intro wq hSw; (try dsimp only at hSw); go_simp; try with_reducible rfl)
  try simp only [Act.put, List.setIfInBounds_toArray, List.set_cons_zero, List.set_cons_succ]
  refine wpAnyH_take (i := 9) (oi := { dst := some 15, op := Op.move (Operand.tmp 1), type := 3, pos := "l08_node.go:188", after := #[], guard := none }) (v := ?_) rfl (by kernel_rfl) (by kernel_rfl) (by kernel_rfl) (fun _ _ _ h => h) (Or.inl ⟨by rfl, ?_⟩) (by assumption) ?_
  rotate_left 1
  · (intro wq hSw; (try dsimp only at hSw); go_simp; try with_reducible rfl)
  try simp only [Act.put, List.setIfInBounds_toArray, List.set_cons_zero, List.set_cons_succ]
  refine wpAnyH_take (i := 10) (oi := { dst := some 16, op := Op.indexAddr 23 (Operand.tmp 14) (Operand.tmp 15), type := 0, pos := "l08_node.go:188", after := #[{ on := 8, ground := Ground.data }, { on := 9, ground := Ground.data }], guard := none }) (v := ?_) rfl (by kernel_rfl) (by kernel_rfl) (by kernel_rfl) (fun _ _ _ h => h) (Or.inl ⟨by rfl, ?_⟩) (by assumption) ?_
  rotate_left 1
  · (intro wq hSw; (try dsimp only at hSw); go_simp; try with_reducible rfl)
  try simp only [Act.put, List.setIfInBounds_toArray, List.set_cons_zero, List.set_cons_succ]
  refine wpAnyH_take (i := 12) (oi := { dst := some 18, op := Op.move (Operand.tmp 2), type := 3, pos := "l08_node.go:188", after := #[], guard := none }) (v := ?_) rfl (by kernel_rfl) (by kernel_rfl) (by kernel_rfl) (fun _ _ _ h => h) (Or.inl ⟨by rfl, ?_⟩) (by assumption) ?_
  rotate_left 1
  · (intro wq hSw; (try dsimp only at hSw); go_simp; try with_reducible rfl)
  try simp only [Act.put, List.setIfInBounds_toArray, List.set_cons_zero, List.set_cons_succ]
  refine wpAnyH_ready (rs := [11]) (by kernel_rfl) (by simp) ?_
  refine AllReadyH.cons (o := { dst := some 17, op := Op.load 22 (Operand.tmp 16), type := 22, pos := "l08_node.go:188", after := #[{ on := 10, ground := Ground.data }], guard := none }) rfl (fun K hK => ?_) AllReadyH.nil
  go_simp
  refine hK.out _ _ ?_ (fun hHeld => ?_)
  · exact cX1
  clear hK K
  try simp only [Act.put, List.setIfInBounds_toArray, List.set_cons_zero, List.set_cons_succ]
  clear g4
  refine wpAnyH_ready (rs := [13]) (by kernel_rfl) (by simp) ?_
  refine AllReadyH.cons (o := { dst := some 19, op := Op.call { callee := Callee.value (Operand.func 106), args := #[Operand.tmp 17, Operand.tmp 18], argTypes := #[22, 3] }, type := 22, pos := "l08_node.go:188", after := #[{ on := 11, ground := Ground.data }, { on := 12, ground := Ground.data }], guard := none }) rfl (fun K hK => ?_) AllReadyH.nil
  go_simp
  refine HC.out.mono ?_
  rintro e w1 ⟨p, c, rfl, r1, b1⟩
  obtain ⟨⟨hs1, hz1⟩, hdr⟩ := HLN.out w1 _ _ _ b1 r1
  have HF : Hid (DR (w1.setCell ⟨γ, k, none⟩ (.slice p (kept (fun j => (dm.L k).getD j 0) x (dm.L k).length).length c)) X B am { dm with L := updL dm.L k (kept (fun j => (dm.L k).getD j 0) x (dm.L k).length) } b d ∧ Below B w (w1.setCell ⟨γ, k, none⟩ (.slice p (kept (fun j => (dm.L k).getD j 0) x (dm.L k).length).length c))) := ⟨hdr, ((Below.drawn (Below.refl B w) 1).trans (b1.mono HG.out.2)).trans (((Only.refl γ w1).setCell _).1.mono HG.out.1)⟩
  have cX2 : w1.cell? ⟨X, 1, none⟩ = some (.slice (some ⟨γ, 0, none⟩) 3 am.bc) := HX.out _ dm HN3.out (HD0.out.b b1)
  obtain ⟨u1, hu1⟩ := Option.isSome_iff_exists.1 hs1
  clear hs1 hdr r1 b1
  generalize kept (fun j => (dm.L k).getD j 0) x (dm.L k).length = M at *
  go_wp2_with fail
  refine hK.out _ _ ?_ (fun hHeld => ?_)
  · exact cX2
  clear hK K
  try simp only [Act.put, List.setIfInBounds_toArray, List.set_cons_zero, List.set_cons_succ]
  refine wpAnyH_take (i := 14) (oi := { dst := some 20, op := Op.indexAddr 23 (Operand.tmp 9) (Operand.tmp 10), type := 0, pos := "l08_node.go:188", after := #[{ on := 3, ground := Ground.data }, { on := 4, ground := Ground.data }, { on := 0, ground := Ground.phase }, { on := 1, ground := Ground.phase }, { on := 2, ground := Ground.phase }, { on := 3, ground := Ground.phase }, { on := 4, ground := Ground.phase }, { on := 5, ground := Ground.phase }, { on := 6, ground := Ground.phase }, { on := 7, ground := Ground.phase }, { on := 8, ground := Ground.phase }, { on := 9, ground := Ground.phase }, { on := 10, ground := Ground.phase }, { on := 11, ground := Ground.phase }, { on := 12, ground := Ground.phase }, { on := 13, ground := Ground.phase }], guard := none }) (v := ?_) rfl (by kernel_rfl) (by kernel_rfl) (by kernel_rfl) (fun _ _ _ h => h) (Or.inl ⟨by rfl, ?_⟩) (by assumption) ?_
  rotate_left 1
  · (intro wq hSw; (try dsimp only at hSw); go_simp; try with_reducible rfl)
  try simp only [Act.put, List.setIfInBounds_toArray, List.set_cons_zero, List.set_cons_succ]
  refine wpAnyH_ready (rs := [15]) (by kernel_rfl) (by simp) ?_
  refine AllReadyH.cons (o := { dst := none, op := Op.store 22 (Operand.tmp 20) (Operand.tmp 19), type := 0, pos := "l08_node.go:188", after := #[{ on := 14, ground := Ground.data }, { on := 13, ground := Ground.data }, { on := 13, ground := Ground.chain }, { on := 0, ground := Ground.phase }, { on := 1, ground := Ground.phase }, { on := 2, ground := Ground.phase }, { on := 3, ground := Ground.phase }, { on := 4, ground := Ground.phase }, { on := 5, ground := Ground.phase }, { on := 6, ground := Ground.phase }, { on := 7, ground := Ground.phase }, { on := 8, ground := Ground.phase }, { on := 9, ground := Ground.phase }, { on := 10, ground := Ground.phase }, { on := 11, ground := Ground.phase }, { on := 12, ground := Ground.phase }, { on := 13, ground := Ground.phase }], guard := none }) rfl (fun K hK => ?_) AllReadyH.nil
  go_simp
  refine hK.out _ _ ?_ (fun hHeld => ?_)
  · exact (HX.out _ { dm with L := updL dm.L k M } HN3.out HF.out.1.1)
  clear hK K
  try simp only [Act.put, List.setIfInBounds_toArray, List.set_cons_zero, List.set_cons_succ]
  refine wpAnyH_done (by kernel_rfl) ?_ _
  go_wp2_with fail
  go_end0
  exact ⟨rfl, HF.out⟩
end Go.Proofs.YtcffhjpdkdaaeaaGreatDoor

/- What Known answers. -/
namespace Go.Proofs.YtcffhjpdkdaaeaaGreatDoor
open Go.ChangeShapes Go.WideShapes Go.ChangeAt Go.RowKit
set_option linter.unusedVariables false
set_option linter.unusedSimpArgs false
set_option maxRecDepth 100000

/-- What a node knows where a mark is taken out. -/
def knd (D : (p : Prop) → Decidable p) (d : Nd) (y1 y2 : Int) : Nd := kpd D d { d with L := updL d.L y1.toNat (kept (fun j => (d.L y1.toNat).getD j 0) y2 (d.L y1.toNat).length) }
/-- Where it is done. -/
def KnC (d : Nd) (y1 y2 y3 : Int) : Prop := (0 ≤ y1 ∧ y1 ≤ 2) ∧ (0 ≤ y2 ∧ y2 ≤ 7) ∧ d.im.getD y2.toNat 0 = y3
theorem ntot_known {d : Nd} {y1 y2 y3 : Int} (h : ntot d ≤ 1048576) : ntot (pick Classical.propDecidable (NOk d ∧ KnC d y1 y2 y3 ∧ NOk (knd Classical.propDecidable d y1 y2)) (knd Classical.propDecidable d y1 y2) d) ≤ 1048576 := by
  by_cases hp : NOk d ∧ KnC d y1 y2 y3 ∧ NOk (knd Classical.propDecidable d y1 y2)
  · rw [pick_yes hp]; exact ntot_kpd hp.1 rfl hp.2.2 h
  · rw [pick_no hp]; exact h
end Go.Proofs.YtcffhjpdkdaaeaaGreatDoor

/- One line of marks set anew, of the model. -/
namespace Go.Proofs.YtcffhjpdkdaaeaaGreatDoor
open Go.ChangeShapes Go.WideShapes Go.ChangeAt Go.RowKit
set_option linter.unusedVariables false
set_option linter.unusedSimpArgs false
set_option maxRecDepth 100000

theorem ra_line {w w1 : World} {B T : Nat} {go bo : Option Addr} {gc bc k : Nat} {R : Nat → Option Addr × Nat} {g : List Int} {L : Nat → List Int} {p : Option Addr} {c : Nat} {M : List Int} (h : RA w B T (mrows go gc bo bc R g 3 L)) (hT : T ≤ w.heap.size) (hk : k < 3) (hb : Below w.heap.size w w1) (hn : RA w1 w.heap.size w1.heap.size [⟨3, p, c, ir M⟩]) (hB : B ≤ w.heap.size) :
    ∃ γ, bo = some ⟨γ, 0, none⟩ ∧ (B ≤ γ ∧ γ < T) ∧ w.cell? ⟨γ, k, none⟩ = some (.slice (R k).1 (L k).length (R k).2) ∧ SL .i64 w (R k).1 (L k).length (fun i => (L k).getD i 0) ∧ (w1.cell? ⟨γ, k, none⟩).isSome = true ∧ w1.frozen? ⟨γ, k, none⟩ = false ∧
      RA (w1.setCell ⟨γ, k, none⟩ (.slice p M.length c)) B w1.heap.size (mrows go gc bo bc (setr R k (p, c)) g 3 (updL L k M)) := by
  have ho : RwOk w B T ⟨22, bo, bc, outer R 3 L⟩ := h _ (List.mem_cons_of_mem _ (List.mem_cons_self ..))
  have hg : RwOk w B T ⟨3, go, gc, ir g⟩ := h _ (List.mem_cons_self ..)
  have hi : ∀ i, i < 3 → RwOk w B T ⟨3, (R i).1, (R i).2, ir (L i)⟩ := fun i hi => h _ (List.mem_cons_of_mem _ (List.mem_cons_of_mem _ (inner_mem hi)))
  have up : ∀ r, RwOk w B T r → RwOk w1 B w1.heap.size r := fun r hr => (hr.kept (fun j _ hj => hb.block j (by omega))).wide (Nat.le_refl _) (by have := hb.size; omega)
  obtain ⟨γ0, k1, k2, _, k4, _, _⟩ := wr_cell (i := k) ho (outer_get R 3 L k hk)
  obtain ⟨γ, g1, g2, ⟨cs, g3⟩, g4, g5, g6⟩ := wr_cell (i := k) (up _ ho) (outer_get R 3 L k hk)
  have e : γ = γ0 := by
    have k1' : bo = some ⟨γ0, 0, none⟩ := k1
    have g1' : bo = some ⟨γ, 0, none⟩ := g1
    rw [k1'] at g1'
    simpa using g1'.symm
  have hon : Only γ w1 (w1.setCell ⟨γ, k, none⟩ (.slice p M.length c)) := (Only.refl _ _).setCell _
  have int : ∀ r, r.t = 3 → RwOk w1 B w1.heap.size r → RwOk (w1.setCell ⟨γ, k, none⟩ (.slice p M.length c)) B w1.heap.size r := fun r ht hr =>
    ra_beside (rs := [r]) (fun s hs => by rw [List.mem_singleton.1 hs]; exact hr) g3 (fun s hs => by rw [List.mem_singleton.1 hs, ht]; exact (show (3 : Nat) ≠ 22 by decide)) hon r (by simp)
  refine ⟨γ, g1, by rw [e]; exact k2, by rw [e]; exact k4, (hi k hk).sl, by rw [g4]; rfl, g5, fun r hr => ?_⟩
  rcases List.mem_cons.1 hr with rfl | hr
  · exact int _ rfl (up _ hg)
  · rcases List.mem_cons.1 hr with rfl | hr
    · rw [← outer_set R L k hk]
      rcases g6 (.slice p M.length c) with ⟨h0, _, _⟩ | ⟨γ3, _, _, _, _, _, h3⟩
      · have hl : (outer R 3 L).length = 3 := outer_len _ _ _
        rw [show outer R 3 L = [] from h0] at hl
        cases hl
      · exact h3
    · obtain ⟨i, hi', rfl⟩ := List.mem_map.1 hr
      have hi3 := List.mem_range.1 hi'
      by_cases e2 : i = k
      · subst e2
        rw [setr_at, updL_at]
        exact int _ rfl ((hn _ (by simp)).wide hB (Nat.le_refl _))
      · rw [setr_ne _ _ _ e2, updL_ne _ _ _ e2]
        exact int _ rfl (up _ (hi i hi3))
end Go.Proofs.YtcffhjpdkdaaeaaGreatDoor

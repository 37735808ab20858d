/- What Keep answers is what its model answers; what it hands back is its own memory. -/
import Derived.Test.YtcffhjpdkdaaeaaGreatDoorCards
import Derived.Test.YtcffhjpdkdaaeaaGreatDoorTie
import Derived.WalkKit
import Derived.ProofKit
import Derived.OpenShut
import Derived.ShutString
import Derived.ChangeOld
import Derived.Below
import Derived.Deep.DeepHandedRow
import Derived.Stop.LaidErr
import Derived.LaidMore
import Derived.LaidHandle
import Derived.Test.YtcffhjpdkdaaeaaGreatDoorSlOZ
import Derived.Test.YtcffhjpdkdaaeaaGreatDoorNdKfZ

namespace Go.Proofs.YtcffhjpdkdaaeaaGreatDoor.fnExactKeep
open Go.ChangeShapes Go.WideShapes Go.ChangeAt Go.RowKit
set_option linter.unusedVariables false

theorem own : ownKnob Tryz.prog.godebug = none := by kernel_rfl
theorem laidOut : laidOutB Tryz.prog = true := by kernel_rfl
theorem gErr : Tryz.prog.globalNamed "errors.errorType" = some 0 := by kernel_rfl
theorem rtT : (Tryz.prog.cutTypes.find? (·.1 == "internal/reflectlite.rtype")).map (·.2) = some 160 := by kernel_rfl
theorem tsize : Tryz.prog.types.size = 211 := by kernel_rfl
theorem oneRow : ((List.range 211).filter fun t => Tryz.prog.rowNamed t [101, 114, 114, 111, 114]) = [111] := by kernel_rfl
theorem handle {W : World} (h : laidMetH Tryz.prog Rows.fnExactKeepRow.laid W) : ErrT W := by
  have h' : laidMet Tryz.prog [] W ∧ handlesMet Tryz.prog [("errors.errorType", Rows.laid_errors_errorType)] W := h
  obtain ⟨name, u, ty, e1, e2, e3, e4, e5⟩ := h'.2 _ (List.mem_singleton.2 rfl)
  have en : name = [101, 114, 114, 111, 114] := (Option.some.inj e1).symm
  subst en
  obtain rfl := Option.some.inj (rtT.symm.trans e2)
  have hm : ty ∈ (List.range 211).filter fun t => Tryz.prog.rowNamed t [101, 114, 114, 111, 114] := List.mem_filter.2 ⟨List.mem_range.2 (by rw [← tsize]; exact e3), e4⟩
  rw [oneRow] at hm
  obtain rfl := List.mem_singleton.1 hm
  have hh : typeHandle Tryz.prog 111 = .pointer (some ⟨1, 111, none⟩) := by kernel_rfl
  rw [hh] at e5
  show W.cell? ⟨0, 0, none⟩ = _
  simpa using World.var?_cell gErr e5 0

set_option maxHeartbeats 100000000 in
set_option maxRecDepth 100000 in
theorem walk (a : Na) (d : Nd) (am : Na) (dm : Nd) (w : World) (hg : ErrT w) (hv : NV w a d) (hw : NBw d) (hvm : MV w am.go am.gc am.bo am.bc dm.g dm.n dm.L) (hgl : dm.g.length ≤ 9223372036854775807) (hnm : dm.n ≤ 9223372036854775807) (hLm : ∀ i, i < dm.n → (dm.L i).length ≤ 9223372036854775807) :
    Calls Tryz.prog 4 #[nv a d, mvv am dm] w fun e w' => e = .returned (.bool true) ∧ Below w.heap.size w w' := by
  obtain ⟨W0, hW0⟩ : ∃ W0, W0 = (w.alloc (.cells (nds a d) 39)).alloc (.cells #[.slice am.go dm.g.length am.gc, .slice am.bo dm.n am.bc, .bool dm.fi, .bool dm.ol, .bool dm.he, .int .i64 dm.la] 36) := ⟨_, rfl⟩
  have HA : Hid (YM w W0 a d am dm) := by rw [hW0]; exact ym_new w a d am dm
  have HV : Hid (∀ V, Below w.heap.size w V → NV V a d ∧ MV V am.go am.gc am.bo am.bc dm.g dm.n dm.L ∧ ErrT V) := fun V hb => ⟨hv.below hb, hvm.below hb, hg.below hb⟩
  have hsz := hide (szn_any a d 1048576 W0 hw (by omega) (by omega) (HV.out _ HA.out.1).1)
  have hszm : Hid (∀ (x : Int) (V : World), 0 ≤ x → x ≤ 1048576 → Below w.heap.size w V → Calls Tryz.prog 15 #[mvv am dm, .int .i64 x] V fun e w' => Sz (dm.g.length + (dm.n + psum dm.L dm.n)) x e ∧ Below V.heap.size V w') := fun x V h0 h1 hb => szm_any am.go am.bo am.gc am.bc dm.g dm.n dm.L dm.fi dm.ol dm.he dm.la x V hgl hnm hLm h0 h1 (HV.out V hb).2.1
  clear hg hv hw hvm hgl hnm hLm
  unfold nv mvv
  unfold nds at hW0 ⊢
  go_enter Tryz.func4, Tryz.ntmps4
  go_upto_region 1 with fail
  rw [← hW0]
  clear hW0
  generalize Value.agg #[.int .i64 d.id, .bool d.up, .bool d.pr, .slice a.im d.im.length a.imc, .slice a.go d.g.length a.gc, .slice a.bo d.n a.bc, .bool d.fi, .bool d.ol, .bool d.he, .int .i64 d.la, .slice a.aA d.A.length a.cA, .slice a.aB d.C.length a.cB, .slice a.co d.co.length a.coc, .slice a.so d.m a.sc, .slice a.cp d.cp.length a.cpc, .slice a.wt d.wt.length a.wtc] = vn at *
  generalize Value.agg #[.slice am.go dm.g.length am.gc, .slice am.bo dm.n am.bc, .bool dm.fi, .bool dm.ol, .bool dm.he, .int .i64 dm.la] = vm at *
  go_wp2_with (refine ld_nodel rfl _ rfl w.heap.size rfl HA.out.2.1 ?_)
  refine hsz.out.mono ?_
  rintro e ws0 ⟨hs, bs⟩
  have H1 := hide (HA.out.b bs)
  clear bs HA hsz
  rcases hs with ⟨hle, rfl⟩ | rfl
  case inr =>
    go_wp2
    go_ret
    exact ⟨rfl, H1.out.1⟩
  have hkd : ¬ (1048576 : Int) - ntot d < 0 := by omega
  have hlb : 0 ≤ (1048576 : Int) - ntot d ∧ (1048576 : Int) - ntot d ≤ 1048576 := by unfold ntot at hle ⊢; omega
  have HD := hide (nbd_of hle)
  have HT : Hid (ntot d ≤ 1048576) := hle
  clear hle
  generalize (1048576 : Int) - ntot d = left at *
  go_wp2_with (refine ld_mbl rfl _ rfl (w.heap.size + 1) rfl H1.out.2.2 ?_)
  clear hkd
  refine (hszm.out left ws0 hlb.1 hlb.2 H1.out.1).mono ?_
  rintro e ws ⟨hs, bs⟩
  have H2 := hide (H1.out.b bs)
  clear bs hszm H1
  rcases hs with ⟨hle, rfl⟩ | rfl
  case inr =>
    go_wp2
    go_ret
    exact ⟨rfl, H2.out.1⟩
  have HDM : Hid (Bd dm.g dm.n dm.L) := bd_of (by omega)
  have HTM : Hid (dm.g.length + (dm.n + psum dm.L dm.n) ≤ 1048576) := (show _ ≤ _ from by omega)
  have hkd : ¬ left - ((dm.g.length : Int) + ((dm.n : Int) + (psum dm.L dm.n : Int))) < 0 := by omega
  have HTT : Hid (ntot (pick Classical.propDecidable (NOk d ∧ NOk (kpd Classical.propDecidable d dm)) (kpd Classical.propDecidable d dm) d) ≤ 1048576) := ntot_keep HT.out
  have HDD : Hid (NBd (pick Classical.propDecidable (NOk d ∧ NOk (kpd Classical.propDecidable d dm)) (kpd Classical.propDecidable d dm) d)) := nbd_of HTT.out
  have hS : Hid (∀ (V : World) (b bm : Na), NV V b d → NNC b → MV V bm.go bm.gc bm.bo bm.bc dm.g dm.n dm.L → Calls Tryz.prog 16 #[nv b d, mvv bm dm] V fun e w' => ∃ c, e = .returned (nv c (pick Classical.propDecidable (NOk d ∧ NOk (kpd Classical.propDecidable d dm)) (kpd Classical.propDecidable d dm) d)) ∧ RN w' V.heap.size w'.heap.size c (pick Classical.propDecidable (NOk d ∧ NOk (kpd Classical.propDecidable d dm)) (kpd Classical.propDecidable d dm) d) ∧ Below V.heap.size V w') := fun V b bm h1 h2 h3 => keepn_s b d bm dm V HD.out h1 h2 HDM.out h3
  have hI : Hid (∀ (V : World) (b bm : Na), ErrT V → NV V b d → NNC b → MV V bm.go bm.gc bm.bo bm.bc dm.g dm.n dm.L → Calls Tryz.prog 19 #[nv b d, mvv bm dm] V fun e w' => ∃ c, e = .returned (nv c (pick Classical.propDecidable (NOk d ∧ NOk (kpd Classical.propDecidable d dm)) (kpd Classical.propDecidable d dm) d)) ∧ ON w' V.heap.size w'.heap.size c (pick Classical.propDecidable (NOk d ∧ NOk (kpd Classical.propDecidable d dm)) (kpd Classical.propDecidable d dm) d) ∧ Below V.heap.size V w') := fun V b bm h0 h1 h2 h3 => keepn_i b d bm dm V h0 HD.out h1 h2 HDM.out h3
  generalize (pick Classical.propDecidable (NOk d ∧ NOk (kpd Classical.propDecidable d dm)) (kpd Classical.propDecidable d dm) d) = dd at *
  generalize left - ((dm.g.length : Int) + ((dm.n : Int) + (psum dm.L dm.n : Int))) = left2 at *
  clear hle hlb
  as_aux_lemma =>
    go_upto_region 8 with fail
    clear hkd
    obtain ⟨BB, hBB⟩ : ∃ BB, BB = ws.heap.size := ⟨_, rfl⟩
    have HBB : Hid (w.heap.size + 1 < BB) := by rw [hBB]; exact H2.out.2.2.lt
    have HK : Hid (YM w ws.drew a d am dm ∧ BB ≤ ws.drew.heap.size) := by rw [hBB]; exact ⟨H2.out.b (kdrew ws), Nat.le_refl _⟩
    have HRS : Hid True := trivial
    clear hBB H2
    go_cut [6] from 7 (fun y wc => ∃ Y b2, y = .pointer (some ⟨Y, 0, none⟩) ∧ Hid (YM w wc a d am dm ∧ MT wc Y BB wc.heap.size b2 dd))
    case first =>
      refine wp_region_held_drew (S := (fun w' => NB w' w.heap.size 39 a d ∧ MBk w' (w.heap.size + 1) 36 am dm)) (by kernel_rfl) ?_ (fun hHeld => ?_)
      · exact ⟨HK.out.1.2.1, HK.out.1.2.2⟩
      refine wpAnyH_take (i := 0) (oi := { dst := some 24, op := Op.load 39 (Operand.tmp 2), type := 39, pos := "exact.go:2927", after := #[], guard := none }) (v := nv a d) rfl (by kernel_rfl) (by kernel_rfl) (by kernel_rfl) (fun _ _ _ h => h) (yieldsIf_load_mid (by rfl) _ _ rfl w.heap.size 0 rfl ((nds a d).toList) _ (fun wq hSw => range_of hSw.1 rfl) Tryz.underlying39 rfl (by kernel_rfl)) (by assumption) ?_
      try simp only [Act.put, List.setIfInBounds_toArray, List.set_cons_zero, List.set_cons_succ]
      refine wpAnyH_take (i := 2) (oi := { dst := some 26, op := Op.load 36 (Operand.tmp 3), type := 36, pos := "exact.go:2927", after := #[], guard := none }) (v := mvv am dm) rfl (by kernel_rfl) (by kernel_rfl) (by kernel_rfl) (fun _ _ _ h => h) (yieldsIf_load_mid (by rfl) _ _ rfl (w.heap.size + 1) 0 rfl (mds am dm) _ (fun wq hSw => range_of hSw.2 rfl) Tryz.underlying36 rfl (by kernel_rfl)) (by assumption) ?_
      try simp only [Act.put, List.setIfInBounds_toArray, List.set_cons_zero, List.set_cons_succ]
      refine wpAnyH_ready (rs := [1, 5]) (by kernel_rfl) (by simp) ?_
      refine AllReadyH.cons (o := { dst := some 25, op := Op.call { callee := Callee.value (Operand.func 17), args := #[Operand.tmp 24], argTypes := #[39] }, type := 31, pos := "exact.go:2927", after := #[{ on := 0, ground := Ground.data }], guard := none }) rfl (fun K hK => ?_) ?_
      · go_simp
        refine (ton_any a d ws.drew HD.out (HV.out _ HK.out.1.1).1).mono ?_
        rintro e x1 ⟨b1, rfl, o1, c1⟩
        have HK := hide (show YM w x1 a d am dm ∧ BB ≤ x1.heap.size from ⟨HK.out.1.b (c1), Nat.le_trans HK.out.2 (c1).size⟩)
        have HRS := hide (show True from trivial)
        have HN := hide (show NV x1 b1 d ∧ NNC b1 from ⟨o1.nv, o1.2.1⟩)
        clear o1 c1
        go_wp2_with fail
        refine hK.out _ _ ?_ (fun hHeld => ?_)
        · exact ⟨HK.out.1.2.1, HK.out.1.2.2⟩
        clear hK K
        try simp only [Act.put, List.setIfInBounds_toArray, List.set_cons_zero, List.set_cons_succ]
        refine wpAnyH_ready (rs := [3, 5]) (by kernel_rfl) (by simp) ?_
        refine AllReadyH.cons (o := { dst := some 27, op := Op.call { callee := Callee.value (Operand.func 18), args := #[Operand.tmp 26], argTypes := #[36] }, type := 25, pos := "exact.go:2927", after := #[{ on := 2, ground := Ground.data }, { on := 1, ground := Ground.chain }], guard := none }) rfl (fun K hK => ?_) ?_
        · go_simp
          refine (tom_any am.go am.bo am.gc am.bc dm.g dm.n dm.L dm.fi dm.ol dm.he dm.la x1 HDM.out (HV.out _ HK.out.1.1).2.1).mono ?_
          rintro e x2 ⟨go', bo', gc', bc', rfl, o1, c1⟩
          have HK := hide (show YM w x2 a d am dm ∧ BB ≤ x2.heap.size from ⟨HK.out.1.b (c1), Nat.le_trans HK.out.2 (c1).size⟩)
          have HRS := hide (show True from trivial)
          have HN := hide (show (NV x2 b1 d ∧ NNC b1) ∧ MV x2 go' gc' bo' bc' dm.g dm.n dm.L from ⟨⟨HN.out.1.below c1, HN.out.2⟩, o1.mv⟩)
          clear o1 c1
          go_wp2_with fail
          refine hK.out _ _ ?_ (fun hHeld => ?_)
          · exact ⟨HK.out.1.2.1, HK.out.1.2.2⟩
          clear hK K
          try simp only [Act.put, List.setIfInBounds_toArray, List.set_cons_zero, List.set_cons_succ]
          refine wpAnyH_ready (rs := [4, 5]) (by kernel_rfl) (by simp) ?_
          refine AllReadyH.cons (o := { dst := some 28, op := Op.call { callee := Callee.value (Operand.func 16), args := #[Operand.tmp 25, Operand.tmp 27], argTypes := #[31, 25] }, type := 31, pos := "exact.go:2927", after := #[{ on := 1, ground := Ground.data }, { on := 3, ground := Ground.data }, { on := 3, ground := Ground.chain }], guard := none }) rfl (fun K hK => ?_) ?_
          · go_simp
            have HK0 := HK.out.2
            refine (hS.out x2 b1 { am with go := go', gc := gc', bo := bo', bc := bc' } HN.out.1.1 HN.out.1.2 HN.out.2).mono ?_
            rintro e x3 ⟨b2, rfl, o1, c1⟩
            have HK := hide (show YM w x3 a d am dm ∧ BB ≤ x3.heap.size from ⟨HK.out.1.b (c1), Nat.le_trans HK.out.2 (c1).size⟩)
            have HRS := hide (show True from trivial)
            have HC : Hid (RN x3 BB x3.heap.size b2 dd) := (o1).wider HK0 (Nat.le_refl _) (Nat.le_refl _)
            clear o1 c1 HN
            go_wp2_with fail
            refine hK.out _ _ ?_ (fun hHeld => ?_)
            · exact ⟨HK.out.1.2.1, HK.out.1.2.2⟩
            clear hK K
            try simp only [Act.put, List.setIfInBounds_toArray, List.set_cons_zero, List.set_cons_succ]
            refine wpAnyH_ready (rs := [5]) (by kernel_rfl) (by simp) ?_
            refine AllReadyH.cons (o := { dst := some 6, op := Op.alloc 31, type := 0, pos := "exact.go:2927", after := #[], guard := none }) rfl (fun K hK => ?_) AllReadyH.nil
            go_simp
            obtain ⟨x4, hwy⟩ : ∃ wy, wy = x3.alloc (.cells (nds Na.zero Nd.zero) 31) := ⟨_, rfl⟩
            have bx : Hid (Below x3.heap.size x3 x4) := by rw [hwy]; exact bal1 _ _
            have HY : Hid (NB x4 x3.heap.size 31 Na.zero Nd.zero ∧ BB ≤ x3.heap.size) := ⟨by rw [hwy]; exact NB.new _ _ _ _, HK.out.2⟩
            unfold nds Na.zero Nd.zero at hwy
            dsimp only [List.length_nil] at hwy
            rw [← hwy]
            clear hwy
            obtain ⟨Y, hYe⟩ : ∃ Y, Y = x3.heap.size := ⟨_, rfl⟩
            rw [← hYe] at HY ⊢
            have HK := hide (show YM w x4 a d am dm ∧ BB ≤ x4.heap.size from ⟨HK.out.1.b (bx.out), Nat.le_trans HK.out.2 (bx.out).size⟩)
            have HRS := hide (show True from trivial)
            have HC := hide (rn_up HC.out bx.out)
            clear bx hYe
            refine hK.out _ _ ?_ (fun hHeld => ?_)
            · exact ⟨HK.out.1.2.1, HK.out.1.2.2⟩
            clear hK K
            try simp only [Act.put, List.setIfInBounds_toArray, List.set_cons_zero, List.set_cons_succ]
            refine wpAnyH_ready (rs := [6]) (by kernel_rfl) (by simp) ?_
            refine AllReadyH.cons (o := { dst := none, op := Op.store 31 (Operand.tmp 6) (Operand.tmp 28), type := 0, pos := "exact.go:2927", after := #[{ on := 5, ground := Ground.data }, { on := 4, ground := Ground.data }, { on := 4, ground := Ground.chain }, { on := 0, ground := Ground.phase }, { on := 1, ground := Ground.phase }, { on := 2, ground := Ground.phase }, { on := 3, ground := Ground.phase }, { on := 4, ground := Ground.phase }, { on := 5, ground := Ground.phase }], guard := none }) rfl (fun K hK => ?_) AllReadyH.nil
            refine step_if (by rfl) (st_node_wp _ _ rfl rfl Y b2 dd rfl rfl HY.out.1 (fun G hG hnG => ?_))
            have HK := hide (HK.out.1.far hG (by have := HBB.out; have := HY.out.2; omega))
            have HRS := hide (show True from trivial)
            have HF := hide (show MT G Y BB G.heap.size b2 dd from ⟨hnG, by rw [hG.2.1]; exact rn_beside HC.out HY.out.1 hG, hnG.lt⟩)
            refine hK.out _ _ ?_ (fun hHeld => ?_)
            · exact ⟨HK.out.2.1, HK.out.2.2⟩
            clear hK K
            try simp only [Act.put, List.setIfInBounds_toArray, List.set_cons_zero, List.set_cons_succ]
            refine wpAnyH_done (by kernel_rfl) ?_ _
            go_wp2_with fail
            go_meet
            case rel => exact ⟨Y, b2, rfl, HK.out, HF.out⟩
          refine AllReadyH.cons (o := { dst := some 6, op := Op.alloc 31, type := 0, pos := "exact.go:2927", after := #[], guard := none }) rfl (fun K hK => ?_) AllReadyH.nil
          · go_simp
            obtain ⟨x5, hwy⟩ : ∃ wy, wy = x2.alloc (.cells (nds Na.zero Nd.zero) 31) := ⟨_, rfl⟩
            have bx : Hid (Below x2.heap.size x2 x5) := by rw [hwy]; exact bal1 _ _
            have HY : Hid (NB x5 x2.heap.size 31 Na.zero Nd.zero ∧ BB ≤ x2.heap.size) := ⟨by rw [hwy]; exact NB.new _ _ _ _, HK.out.2⟩
            unfold nds Na.zero Nd.zero at hwy
            dsimp only [List.length_nil] at hwy
            rw [← hwy]
            clear hwy
            obtain ⟨Y, hYe⟩ : ∃ Y, Y = x2.heap.size := ⟨_, rfl⟩
            rw [← hYe] at HY ⊢
            have HK := hide (show YM w x5 a d am dm ∧ BB ≤ x5.heap.size from ⟨HK.out.1.b (bx.out), Nat.le_trans HK.out.2 (bx.out).size⟩)
            have HRS := hide (show True from trivial)
            have HN := hide (show (NV x5 b1 d ∧ NNC b1) ∧ MV x5 go' gc' bo' bc' dm.g dm.n dm.L from ⟨⟨HN.out.1.1.below bx.out, HN.out.1.2⟩, HN.out.2.below bx.out⟩)
            clear bx hYe
            refine hK.out _ _ ?_ (fun hHeld => ?_)
            · exact ⟨HK.out.1.2.1, HK.out.1.2.2⟩
            clear hK K
            try simp only [Act.put, List.setIfInBounds_toArray, List.set_cons_zero, List.set_cons_succ]
            refine wpAnyH_ready (rs := [4]) (by kernel_rfl) (by simp) ?_
            refine AllReadyH.cons (o := { dst := some 28, op := Op.call { callee := Callee.value (Operand.func 16), args := #[Operand.tmp 25, Operand.tmp 27], argTypes := #[31, 25] }, type := 31, pos := "exact.go:2927", after := #[{ on := 1, ground := Ground.data }, { on := 3, ground := Ground.data }, { on := 3, ground := Ground.chain }], guard := none }) rfl (fun K hK => ?_) AllReadyH.nil
            go_simp
            have HK0 := HK.out.2
            refine (hS.out x5 b1 { am with go := go', gc := gc', bo := bo', bc := bc' } HN.out.1.1 HN.out.1.2 HN.out.2).mono ?_
            rintro e x6 ⟨b2, rfl, o1, c1⟩
            have HK := hide (show YM w x6 a d am dm ∧ BB ≤ x6.heap.size from ⟨HK.out.1.b (c1), Nat.le_trans HK.out.2 (c1).size⟩)
            have HRS := hide (show True from trivial)
            have HY := hide (show NB x6 Y 31 Na.zero Nd.zero ∧ BB ≤ Y from ⟨HY.out.1.b (c1), HY.out.2⟩)
            have HC : Hid (RN x6 BB x6.heap.size b2 dd) := (o1).wider HK0 (Nat.le_refl _) (Nat.le_refl _)
            clear o1 c1 HN
            go_wp2_with fail
            refine hK.out _ _ ?_ (fun hHeld => ?_)
            · exact ⟨HK.out.1.2.1, HK.out.1.2.2⟩
            clear hK K
            try simp only [Act.put, List.setIfInBounds_toArray, List.set_cons_zero, List.set_cons_succ]
            refine wpAnyH_ready (rs := [6]) (by kernel_rfl) (by simp) ?_
            refine AllReadyH.cons (o := { dst := none, op := Op.store 31 (Operand.tmp 6) (Operand.tmp 28), type := 0, pos := "exact.go:2927", after := #[{ on := 5, ground := Ground.data }, { on := 4, ground := Ground.data }, { on := 4, ground := Ground.chain }, { on := 0, ground := Ground.phase }, { on := 1, ground := Ground.phase }, { on := 2, ground := Ground.phase }, { on := 3, ground := Ground.phase }, { on := 4, ground := Ground.phase }, { on := 5, ground := Ground.phase }], guard := none }) rfl (fun K hK => ?_) AllReadyH.nil
            refine step_if (by rfl) (st_node_wp _ _ rfl rfl Y b2 dd rfl rfl HY.out.1 (fun G hG hnG => ?_))
            have HK := hide (HK.out.1.far hG (by have := HBB.out; have := HY.out.2; omega))
            have HRS := hide (show True from trivial)
            have HF := hide (show MT G Y BB G.heap.size b2 dd from ⟨hnG, by rw [hG.2.1]; exact rn_beside HC.out HY.out.1 hG, hnG.lt⟩)
            refine hK.out _ _ ?_ (fun hHeld => ?_)
            · exact ⟨HK.out.2.1, HK.out.2.2⟩
            clear hK K
            try simp only [Act.put, List.setIfInBounds_toArray, List.set_cons_zero, List.set_cons_succ]
            refine wpAnyH_done (by kernel_rfl) ?_ _
            go_wp2_with fail
            go_meet
            case rel => exact ⟨Y, b2, rfl, HK.out, HF.out⟩
        refine AllReadyH.cons (o := { dst := some 6, op := Op.alloc 31, type := 0, pos := "exact.go:2927", after := #[], guard := none }) rfl (fun K hK => ?_) AllReadyH.nil
        · go_simp
          obtain ⟨x7, hwy⟩ : ∃ wy, wy = x1.alloc (.cells (nds Na.zero Nd.zero) 31) := ⟨_, rfl⟩
          have bx : Hid (Below x1.heap.size x1 x7) := by rw [hwy]; exact bal1 _ _
          have HY : Hid (NB x7 x1.heap.size 31 Na.zero Nd.zero ∧ BB ≤ x1.heap.size) := ⟨by rw [hwy]; exact NB.new _ _ _ _, HK.out.2⟩
          unfold nds Na.zero Nd.zero at hwy
          dsimp only [List.length_nil] at hwy
          rw [← hwy]
          clear hwy
          obtain ⟨Y, hYe⟩ : ∃ Y, Y = x1.heap.size := ⟨_, rfl⟩
          rw [← hYe] at HY ⊢
          have HK := hide (show YM w x7 a d am dm ∧ BB ≤ x7.heap.size from ⟨HK.out.1.b (bx.out), Nat.le_trans HK.out.2 (bx.out).size⟩)
          have HRS := hide (show True from trivial)
          have HN := hide (show NV x7 b1 d ∧ NNC b1 from ⟨HN.out.1.below bx.out, HN.out.2⟩)
          clear bx hYe
          refine hK.out _ _ ?_ (fun hHeld => ?_)
          · exact ⟨HK.out.1.2.1, HK.out.1.2.2⟩
          clear hK K
          try simp only [Act.put, List.setIfInBounds_toArray, List.set_cons_zero, List.set_cons_succ]
          refine wpAnyH_ready (rs := [3]) (by kernel_rfl) (by simp) ?_
          refine AllReadyH.cons (o := { dst := some 27, op := Op.call { callee := Callee.value (Operand.func 18), args := #[Operand.tmp 26], argTypes := #[36] }, type := 25, pos := "exact.go:2927", after := #[{ on := 2, ground := Ground.data }, { on := 1, ground := Ground.chain }], guard := none }) rfl (fun K hK => ?_) AllReadyH.nil
          go_simp
          refine (tom_any am.go am.bo am.gc am.bc dm.g dm.n dm.L dm.fi dm.ol dm.he dm.la x7 HDM.out (HV.out _ HK.out.1.1).2.1).mono ?_
          rintro e x8 ⟨go', bo', gc', bc', rfl, o1, c1⟩
          have HK := hide (show YM w x8 a d am dm ∧ BB ≤ x8.heap.size from ⟨HK.out.1.b (c1), Nat.le_trans HK.out.2 (c1).size⟩)
          have HRS := hide (show True from trivial)
          have HY := hide (show NB x8 Y 31 Na.zero Nd.zero ∧ BB ≤ Y from ⟨HY.out.1.b (c1), HY.out.2⟩)
          have HN := hide (show (NV x8 b1 d ∧ NNC b1) ∧ MV x8 go' gc' bo' bc' dm.g dm.n dm.L from ⟨⟨HN.out.1.below c1, HN.out.2⟩, o1.mv⟩)
          clear o1 c1
          go_wp2_with fail
          refine hK.out _ _ ?_ (fun hHeld => ?_)
          · exact ⟨HK.out.1.2.1, HK.out.1.2.2⟩
          clear hK K
          try simp only [Act.put, List.setIfInBounds_toArray, List.set_cons_zero, List.set_cons_succ]
          refine wpAnyH_ready (rs := [4]) (by kernel_rfl) (by simp) ?_
          refine AllReadyH.cons (o := { dst := some 28, op := Op.call { callee := Callee.value (Operand.func 16), args := #[Operand.tmp 25, Operand.tmp 27], argTypes := #[31, 25] }, type := 31, pos := "exact.go:2927", after := #[{ on := 1, ground := Ground.data }, { on := 3, ground := Ground.data }, { on := 3, ground := Ground.chain }], guard := none }) rfl (fun K hK => ?_) AllReadyH.nil
          go_simp
          have HK0 := HK.out.2
          refine (hS.out x8 b1 { am with go := go', gc := gc', bo := bo', bc := bc' } HN.out.1.1 HN.out.1.2 HN.out.2).mono ?_
          rintro e x9 ⟨b2, rfl, o1, c1⟩
          have HK := hide (show YM w x9 a d am dm ∧ BB ≤ x9.heap.size from ⟨HK.out.1.b (c1), Nat.le_trans HK.out.2 (c1).size⟩)
          have HRS := hide (show True from trivial)
          have HY := hide (show NB x9 Y 31 Na.zero Nd.zero ∧ BB ≤ Y from ⟨HY.out.1.b (c1), HY.out.2⟩)
          have HC : Hid (RN x9 BB x9.heap.size b2 dd) := (o1).wider HK0 (Nat.le_refl _) (Nat.le_refl _)
          clear o1 c1 HN
          go_wp2_with fail
          refine hK.out _ _ ?_ (fun hHeld => ?_)
          · exact ⟨HK.out.1.2.1, HK.out.1.2.2⟩
          clear hK K
          try simp only [Act.put, List.setIfInBounds_toArray, List.set_cons_zero, List.set_cons_succ]
          refine wpAnyH_ready (rs := [6]) (by kernel_rfl) (by simp) ?_
          refine AllReadyH.cons (o := { dst := none, op := Op.store 31 (Operand.tmp 6) (Operand.tmp 28), type := 0, pos := "exact.go:2927", after := #[{ on := 5, ground := Ground.data }, { on := 4, ground := Ground.data }, { on := 4, ground := Ground.chain }, { on := 0, ground := Ground.phase }, { on := 1, ground := Ground.phase }, { on := 2, ground := Ground.phase }, { on := 3, ground := Ground.phase }, { on := 4, ground := Ground.phase }, { on := 5, ground := Ground.phase }], guard := none }) rfl (fun K hK => ?_) AllReadyH.nil
          refine step_if (by rfl) (st_node_wp _ _ rfl rfl Y b2 dd rfl rfl HY.out.1 (fun G hG hnG => ?_))
          have HK := hide (HK.out.1.far hG (by have := HBB.out; have := HY.out.2; omega))
          have HRS := hide (show True from trivial)
          have HF := hide (show MT G Y BB G.heap.size b2 dd from ⟨hnG, by rw [hG.2.1]; exact rn_beside HC.out HY.out.1 hG, hnG.lt⟩)
          refine hK.out _ _ ?_ (fun hHeld => ?_)
          · exact ⟨HK.out.2.1, HK.out.2.2⟩
          clear hK K
          try simp only [Act.put, List.setIfInBounds_toArray, List.set_cons_zero, List.set_cons_succ]
          refine wpAnyH_done (by kernel_rfl) ?_ _
          go_wp2_with fail
          go_meet
          case rel => exact ⟨Y, b2, rfl, HK.out, HF.out⟩
      refine AllReadyH.cons (o := { dst := some 6, op := Op.alloc 31, type := 0, pos := "exact.go:2927", after := #[], guard := none }) rfl (fun K hK => ?_) AllReadyH.nil
      · go_simp
        obtain ⟨x10, hwy⟩ : ∃ wy, wy = (ws.alloc (.cells (nds Na.zero Nd.zero) 31)).drew := ⟨_, rfl⟩
        have bx : Hid (Below ws.drew.heap.size ws.drew x10) := by rw [hwy]; exact alloc_drew _ _
        have HY : Hid (NB x10 ws.heap.size 31 Na.zero Nd.zero ∧ BB ≤ ws.heap.size) := ⟨by rw [hwy]; exact NB.new _ _ _ _, HK.out.2⟩
        unfold nds Na.zero Nd.zero at hwy
        dsimp only [List.length_nil] at hwy
        rw [← hwy]
        clear hwy
        obtain ⟨Y, hYe⟩ : ∃ Y, Y = ws.heap.size := ⟨_, rfl⟩
        rw [← hYe] at HY ⊢
        have HK := hide (show YM w x10 a d am dm ∧ BB ≤ x10.heap.size from ⟨HK.out.1.b (bx.out), Nat.le_trans HK.out.2 (bx.out).size⟩)
        have HRS := hide (show True from trivial)
        clear bx hYe
        refine hK.out _ _ ?_ (fun hHeld => ?_)
        · exact ⟨HK.out.1.2.1, HK.out.1.2.2⟩
        clear hK K
        try simp only [Act.put, List.setIfInBounds_toArray, List.set_cons_zero, List.set_cons_succ]
        refine wpAnyH_ready (rs := [1]) (by kernel_rfl) (by simp) ?_
        refine AllReadyH.cons (o := { dst := some 25, op := Op.call { callee := Callee.value (Operand.func 17), args := #[Operand.tmp 24], argTypes := #[39] }, type := 31, pos := "exact.go:2927", after := #[{ on := 0, ground := Ground.data }], guard := none }) rfl (fun K hK => ?_) AllReadyH.nil
        go_simp
        refine (ton_any a d x10 HD.out (HV.out _ HK.out.1.1).1).mono ?_
        rintro e x11 ⟨b1, rfl, o1, c1⟩
        have HK := hide (show YM w x11 a d am dm ∧ BB ≤ x11.heap.size from ⟨HK.out.1.b (c1), Nat.le_trans HK.out.2 (c1).size⟩)
        have HRS := hide (show True from trivial)
        have HY := hide (show NB x11 Y 31 Na.zero Nd.zero ∧ BB ≤ Y from ⟨HY.out.1.b (c1), HY.out.2⟩)
        have HN := hide (show NV x11 b1 d ∧ NNC b1 from ⟨o1.nv, o1.2.1⟩)
        clear o1 c1
        go_wp2_with fail
        refine hK.out _ _ ?_ (fun hHeld => ?_)
        · exact ⟨HK.out.1.2.1, HK.out.1.2.2⟩
        clear hK K
        try simp only [Act.put, List.setIfInBounds_toArray, List.set_cons_zero, List.set_cons_succ]
        refine wpAnyH_ready (rs := [3]) (by kernel_rfl) (by simp) ?_
        refine AllReadyH.cons (o := { dst := some 27, op := Op.call { callee := Callee.value (Operand.func 18), args := #[Operand.tmp 26], argTypes := #[36] }, type := 25, pos := "exact.go:2927", after := #[{ on := 2, ground := Ground.data }, { on := 1, ground := Ground.chain }], guard := none }) rfl (fun K hK => ?_) AllReadyH.nil
        go_simp
        refine (tom_any am.go am.bo am.gc am.bc dm.g dm.n dm.L dm.fi dm.ol dm.he dm.la x11 HDM.out (HV.out _ HK.out.1.1).2.1).mono ?_
        rintro e x12 ⟨go', bo', gc', bc', rfl, o1, c1⟩
        have HK := hide (show YM w x12 a d am dm ∧ BB ≤ x12.heap.size from ⟨HK.out.1.b (c1), Nat.le_trans HK.out.2 (c1).size⟩)
        have HRS := hide (show True from trivial)
        have HY := hide (show NB x12 Y 31 Na.zero Nd.zero ∧ BB ≤ Y from ⟨HY.out.1.b (c1), HY.out.2⟩)
        have HN := hide (show (NV x12 b1 d ∧ NNC b1) ∧ MV x12 go' gc' bo' bc' dm.g dm.n dm.L from ⟨⟨HN.out.1.below c1, HN.out.2⟩, o1.mv⟩)
        clear o1 c1
        go_wp2_with fail
        refine hK.out _ _ ?_ (fun hHeld => ?_)
        · exact ⟨HK.out.1.2.1, HK.out.1.2.2⟩
        clear hK K
        try simp only [Act.put, List.setIfInBounds_toArray, List.set_cons_zero, List.set_cons_succ]
        refine wpAnyH_ready (rs := [4]) (by kernel_rfl) (by simp) ?_
        refine AllReadyH.cons (o := { dst := some 28, op := Op.call { callee := Callee.value (Operand.func 16), args := #[Operand.tmp 25, Operand.tmp 27], argTypes := #[31, 25] }, type := 31, pos := "exact.go:2927", after := #[{ on := 1, ground := Ground.data }, { on := 3, ground := Ground.data }, { on := 3, ground := Ground.chain }], guard := none }) rfl (fun K hK => ?_) AllReadyH.nil
        go_simp
        have HK0 := HK.out.2
        refine (hS.out x12 b1 { am with go := go', gc := gc', bo := bo', bc := bc' } HN.out.1.1 HN.out.1.2 HN.out.2).mono ?_
        rintro e x13 ⟨b2, rfl, o1, c1⟩
        have HK := hide (show YM w x13 a d am dm ∧ BB ≤ x13.heap.size from ⟨HK.out.1.b (c1), Nat.le_trans HK.out.2 (c1).size⟩)
        have HRS := hide (show True from trivial)
        have HY := hide (show NB x13 Y 31 Na.zero Nd.zero ∧ BB ≤ Y from ⟨HY.out.1.b (c1), HY.out.2⟩)
        have HC : Hid (RN x13 BB x13.heap.size b2 dd) := (o1).wider HK0 (Nat.le_refl _) (Nat.le_refl _)
        clear o1 c1 HN
        go_wp2_with fail
        refine hK.out _ _ ?_ (fun hHeld => ?_)
        · exact ⟨HK.out.1.2.1, HK.out.1.2.2⟩
        clear hK K
        try simp only [Act.put, List.setIfInBounds_toArray, List.set_cons_zero, List.set_cons_succ]
        refine wpAnyH_ready (rs := [6]) (by kernel_rfl) (by simp) ?_
        refine AllReadyH.cons (o := { dst := none, op := Op.store 31 (Operand.tmp 6) (Operand.tmp 28), type := 0, pos := "exact.go:2927", after := #[{ on := 5, ground := Ground.data }, { on := 4, ground := Ground.data }, { on := 4, ground := Ground.chain }, { on := 0, ground := Ground.phase }, { on := 1, ground := Ground.phase }, { on := 2, ground := Ground.phase }, { on := 3, ground := Ground.phase }, { on := 4, ground := Ground.phase }, { on := 5, ground := Ground.phase }], guard := none }) rfl (fun K hK => ?_) AllReadyH.nil
        refine step_if (by rfl) (st_node_wp _ _ rfl rfl Y b2 dd rfl rfl HY.out.1 (fun G hG hnG => ?_))
        have HK := hide (HK.out.1.far hG (by have := HBB.out; have := HY.out.2; omega))
        have HRS := hide (show True from trivial)
        have HF := hide (show MT G Y BB G.heap.size b2 dd from ⟨hnG, by rw [hG.2.1]; exact rn_beside HC.out HY.out.1 hG, hnG.lt⟩)
        refine hK.out _ _ ?_ (fun hHeld => ?_)
        · exact ⟨HK.out.2.1, HK.out.2.2⟩
        clear hK K
        try simp only [Act.put, List.setIfInBounds_toArray, List.set_cons_zero, List.set_cons_succ]
        refine wpAnyH_done (by kernel_rfl) ?_ _
        go_wp2_with fail
        go_meet
        case rel => exact ⟨Y, b2, rfl, HK.out, HF.out⟩
    case rest =>
      obtain ⟨X2, b2, rfl, hc⟩ := hcut
      obtain ⟨T2, hT2⟩ : ∃ T2, T2 = wc.heap.size := ⟨_, rfl⟩
      have H3 : Hid (YM w wc a d am dm ∧ MT wc X2 BB T2 b2 dd ∧ BB ≤ T2 ∧ X2 < T2) := by rw [hT2]; exact ⟨hc.out.1, hc.out.2, hc.out.2.2.1.1.1, hc.out.2.2.2⟩
      clear hc HK HRS hS
      generalize BB = B2 at *
      as_aux_lemma =>
        go_wp2_with (refine ld_nodel rfl _ rfl w.heap.size rfl H3.out.1.2.1 ?_)
        refine (ton_any a d wc HD.out (HV.out _ H3.out.1.1).1).mono ?_
        rintro e w3 ⟨b3, rfl, o3, c3⟩
        obtain ⟨W3, hW3⟩ : ∃ W3, W3 = w3.alloc (.cells (nds b3 d) 31) := ⟨_, rfl⟩
        have H4 : Hid (YM w W3 a d am dm ∧ MT W3 X2 B2 T2 b2 dd ∧ GN W3 w3.heap.size T2 b3 d d) := by rw [hW3]; exact ⟨(H3.out.1.b c3).b (bal1 w3 _), (H3.out.2.1.b c3).b (bal1 w3 _), by rw [hT2]; exact GN.new o3⟩
        have h23 : Hid (w.heap.size + 1 < B2 ∧ B2 ≤ T2 ∧ T2 ≤ w3.heap.size) := ⟨HBB.out, H3.out.2.2.1, by rw [hT2]; exact c3.size⟩
        have hsz3 : W3.heap.size = w3.heap.size + 1 := by rw [hW3]; simp
        clear o3 c3 H3 hT2
        as_aux_lemma =>
          unfold nds at hW3
          unfold nv nds
          go_upto_region 10 with fail
          rw [← hW3]
          clear hW3
          generalize w3.heap.size = X3 at *
          generalize T2 = B3 at *
          go_wp2_with (refine ld_mbl rfl _ rfl (w.heap.size + 1) rfl H4.out.1.2.2 ?_)
          refine (tom_any am.go am.bo am.gc am.bc dm.g dm.n dm.L dm.fi dm.ol dm.he dm.la W3 HDM.out (HV.out _ H4.out.1.1).2.1).mono ?_
          rintro e w4 ⟨go', bo', gc', bc', rfl, o4, c4⟩
          obtain ⟨bm, hbm⟩ : ∃ bm : Na, bm = { am with go := go', gc := gc', bo := bo', bc := bc' } := ⟨_, rfl⟩
          obtain ⟨W4, hW4⟩ : ∃ W4, W4 = w4.alloc (.cells #[.slice bm.go dm.g.length bm.gc, .slice bm.bo dm.n bm.bc, .bool dm.fi, .bool dm.ol, .bool dm.he, .int .i64 dm.la] 25) := ⟨_, rfl⟩
          have H5 : Hid (YM w W4 a d am dm ∧ MT W4 X2 B2 B3 b2 dd ∧ GN W4 X3 B3 b3 d d ∧ GM W4 w4.heap.size W3.heap.size bm dm) := by rw [hW4]; exact ⟨(H4.out.1.b c4).b (bal1 w4 _), (H4.out.2.1.b c4).b (bal1 w4 _), (H4.out.2.2.b c4).b (bal1 w4 _), GM.new (by rw [hbm]; exact o4)⟩
          have hsz4 : W4.heap.size = w4.heap.size + 1 := by rw [hW4]; simp
          have h34 : Hid (X3 < W3.heap.size ∧ W3.heap.size ≤ w4.heap.size) := ⟨by omega, c4.size⟩
          rw [hbm] at hW4
          dsimp only at hW4
          clear o4 c4 H4
          as_aux_lemma =>
            go_upto_region 11 with fail
            rw [← hW4]
            clear hW4 hbm
            generalize w4.heap.size = XM at *
            generalize W3.heap.size = BM at *
            go_wp2_with (first | (refine ld_node rfl _ rfl X3 rfl H5.out.2.2.1.1 ?_) | (refine ld_mb rfl _ rfl XM rfl H5.out.2.2.2.1 ?_))
            refine (hI.out W4 b3 bm (HV.out _ H5.out.1.1).2.2 H5.out.2.2.1.2.nv H5.out.2.2.1.2.2.1 H5.out.2.2.2.2.mv).mono ?_
            rintro e w5 ⟨b4, rfl, o5, c5⟩
            obtain ⟨W5, hW5⟩ : ∃ W5, W5 = w5.alloc (.cells (nds b4 dd) 31) := ⟨_, rfl⟩
            have H6 : Hid (YM w W5 a d am dm ∧ MT W5 X2 B2 B3 b2 dd ∧ GN W5 X3 B3 b3 d d ∧ GM W5 XM BM bm dm ∧ GN W5 w5.heap.size W4.heap.size b4 dd dd) := by
              have bx := bal1 w5 (.cells (nds b4 dd) 31)
              rw [hW5]; exact ⟨(H5.out.1.b c5).b bx, (H5.out.2.1.b c5).b bx, (H5.out.2.2.1.b c5).b bx, (H5.out.2.2.2.b c5).b bx, GN.new o5⟩
            have h45 : Hid (XM < W4.heap.size ∧ W4.heap.size ≤ w5.heap.size) := ⟨by omega, c5.size⟩
            clear o5 c5 H5
            as_aux_lemma =>
              unfold nds at hW5
              unfold nv nds
              go_upto_region 12 with fail
              rw [← hW5]
              clear hW5
              generalize w5.heap.size = X4 at *
              generalize W4.heap.size = B4 at *
              have HX : Hid (w.heap.size + 1 < B3 ∧ B3 ≤ X3 ∧ X3 < BM ∧ BM ≤ XM ∧ XM < B4 ∧ B4 ≤ X4 ∧ w.heap.size + 1 < BM ∧ B3 ≤ BM ∧ w.heap.size + 1 < B4 ∧ B3 ≤ B4) := by
                have e1 := h23.out; have e2 := h34.out; have e3 := h45.out
                refine ⟨?_, ?_, ?_, ?_, ?_, ?_, ?_, ?_, ?_, ?_⟩ <;> omega
              clear hsz3 hsz4
              have XB : ∀ {V V' : World}, (YM w V a d am dm ∧ MT V X2 B2 B3 b2 dd ∧ GN V X3 B3 b3 d d ∧ GM V XM BM bm dm ∧ GN V X4 B4 b4 dd dd) → Below V.heap.size V V' → (YM w V' a d am dm ∧ MT V' X2 B2 B3 b2 dd ∧ GN V' X3 B3 b3 d d ∧ GM V' XM BM bm dm ∧ GN V' X4 B4 b4 dd dd) := fun h hb => ⟨h.1.b hb, h.2.1.b hb, h.2.2.1.b hb, h.2.2.2.1.b hb, h.2.2.2.2.b hb⟩
              go_wp2_with (first | (refine ld_node rfl _ rfl X4 rfl H6.out.2.2.2.2.1 ?_) | (refine ld_node rfl _ rfl X2 rfl H6.out.2.1.1 ?_))
              refine (eqn_yes b4 b2 dd W5 HDD.out H6.out.2.2.2.2.2.nv H6.out.2.1.2.1.nv).mono ?_
              rintro e w7 ⟨rfl, c7⟩
              have H7 := hide (XB H6.out c7)
              clear c7 H6
              as_aux_lemma =>
                go_wp2_with fail
                have HA := hide (XB H7.out (kdrew w7))
                clear H7
                have HS0 : Hid (NB w7.drew X3 31 b3 d ∧ NB w7.drew w.heap.size 39 a d) := ⟨HA.out.2.2.1.1, HA.out.1.2.1⟩
                refine wp_region_held_drew (S := (fun w' => NB w' X3 31 b3 d ∧ NB w' w.heap.size 39 a d)) (by kernel_rfl) ?_ (fun hHeld => ?_)
                · exact ⟨HS0.out.1, HS0.out.2⟩
                refine wpAnyH_take (i := 0) (oi := { dst := some 40, op := Op.load 31 (Operand.tmp 7), type := 31, pos := "exact.go:2934", after := #[], guard := none }) (v := nv b3 d) rfl (by kernel_rfl) (by kernel_rfl) (by kernel_rfl) (fun _ _ _ h => h) (yieldsIf_load_mid (by rfl) _ _ rfl X3 0 rfl ((nds b3 d).toList) _ (fun wq hSw => range_of hSw.1 rfl) Tryz.underlying31 rfl (by kernel_rfl)) (by assumption) ?_
                try simp only [Act.put, List.setIfInBounds_toArray, List.set_cons_zero, List.set_cons_succ]
                refine wpAnyH_take (i := 1) (oi := { dst := some 41, op := Op.load 39 (Operand.tmp 2), type := 39, pos := "exact.go:2934", after := #[], guard := none }) (v := nv a d) rfl (by kernel_rfl) (by kernel_rfl) (by kernel_rfl) (fun _ _ _ h => h) (yieldsIf_load_mid (by rfl) _ _ rfl w.heap.size 0 rfl ((nds a d).toList) _ (fun wq hSw => range_of hSw.2 rfl) Tryz.underlying39 rfl (by kernel_rfl)) (by assumption) ?_
                try simp only [Act.put, List.setIfInBounds_toArray, List.set_cons_zero, List.set_cons_succ]
                refine wpAnyH_ready (rs := [2]) (by kernel_rfl) (by simp) ?_
                refine AllReadyH.cons (o := { dst := some 42, op := Op.call { callee := Callee.value (Operand.func 17), args := #[Operand.tmp 41], argTypes := #[39] }, type := 31, pos := "exact.go:2934", after := #[{ on := 1, ground := Ground.data }], guard := none }) rfl (fun K hK => ?_) AllReadyH.nil
                go_simp
                refine (ton_any a d w7.drew HD.out (HV.out _ HA.out.1.1).1).mono ?_
                rintro e y1 ⟨bb, rfl, o1, c1⟩
                have H1 := hide (And.intro (XB HA.out c1) o1.nv)
                have HK : Hid (NB y1 X3 31 b3 d ∧ NB y1 w.heap.size 39 a d) := ⟨H1.out.1.2.2.1.1, H1.out.1.1.2.1⟩
                clear o1 c1
                go_wp2_with fail
                refine hK.out _ _ ?_ (fun hHeld => ?_)
                · exact HK.out
                clear hK K
                try simp only [Act.put, List.setIfInBounds_toArray, List.set_cons_zero, List.set_cons_succ]
                refine wpAnyH_ready (rs := [3]) (by kernel_rfl) (by simp) ?_
                refine AllReadyH.cons (o := { dst := some 43, op := Op.call { callee := Callee.value (Operand.func 11), args := #[Operand.tmp 40, Operand.tmp 42], argTypes := #[31, 31] }, type := 4, pos := "exact.go:2934", after := #[{ on := 0, ground := Ground.data }, { on := 2, ground := Ground.data }, { on := 2, ground := Ground.chain }], guard := none }) rfl (fun K hK => ?_) AllReadyH.nil
                go_simp
                clear HK
                refine (eqn_yes b3 bb d y1 HD.out H1.out.1.2.2.1.2.nv H1.out.2).mono ?_
                rintro e w8 ⟨rfl, c1⟩
                have H2 := hide (XB H1.out.1 c1)
                have HK : Hid (NB w8 X3 31 b3 d ∧ NB w8 w.heap.size 39 a d) := ⟨H2.out.2.2.1.1, H2.out.1.2.1⟩
                clear c1 H1
                go_wp2_with fail
                refine hK.out _ _ ?_ (fun hHeld => ?_)
                · exact HK.out
                clear hK K
                try simp only [Act.put, List.setIfInBounds_toArray, List.set_cons_zero, List.set_cons_succ]
                refine wpAnyH_take (i := 4) (oi := { dst := some 44, op := Op.unOp UnOp.not 4 (Operand.tmp 43), type := 4, pos := "exact.go:2934", after := #[{ on := 3, ground := Ground.data }], guard := none }) (v := ?_) rfl (by kernel_rfl) (by kernel_rfl) (by kernel_rfl) (fun _ _ _ h => h) (Or.inl ⟨by rfl, ?_⟩) (by assumption) ?_
                rotate_left 1
                · (intro wq hSw; (try dsimp only at hSw); go_simp; try with_reducible rfl)
                try simp only [Act.put, List.setIfInBounds_toArray, List.set_cons_zero, List.set_cons_succ]
                refine wpAnyH_done (by kernel_rfl) ?_ _
                clear HA HK HS0
                have HA := hide H2.out
                clear H2
                as_aux_lemma =>
                  go_wp2_with fail
                  have HA := hide (XB HA.out (kdrew w8))
                  have HS0 : Hid (MBk w8.drew XM 25 bm dm ∧ MBk w8.drew (w.heap.size + 1) 36 am dm) := ⟨HA.out.2.2.2.1.1, HA.out.1.2.2⟩
                  refine wp_region_held_drew (S := (fun w' => MBk w' XM 25 bm dm ∧ MBk w' (w.heap.size + 1) 36 am dm)) (by kernel_rfl) ?_ (fun hHeld => ?_)
                  · exact ⟨HS0.out.1, HS0.out.2⟩
                  refine wpAnyH_take (i := 0) (oi := { dst := some 45, op := Op.load 25 (Operand.tmp 8), type := 25, pos := "exact.go:2937", after := #[], guard := none }) (v := mvv bm dm) rfl (by kernel_rfl) (by kernel_rfl) (by kernel_rfl) (fun _ _ _ h => h) (yieldsIf_load_mid (by rfl) _ _ rfl XM 0 rfl (mds bm dm) _ (fun wq hSw => range_of hSw.1 rfl) Tryz.underlying25 rfl (by kernel_rfl)) (by assumption) ?_
                  try simp only [Act.put, List.setIfInBounds_toArray, List.set_cons_zero, List.set_cons_succ]
                  refine wpAnyH_take (i := 1) (oi := { dst := some 46, op := Op.load 36 (Operand.tmp 3), type := 36, pos := "exact.go:2937", after := #[], guard := none }) (v := mvv am dm) rfl (by kernel_rfl) (by kernel_rfl) (by kernel_rfl) (fun _ _ _ h => h) (yieldsIf_load_mid (by rfl) _ _ rfl (w.heap.size + 1) 0 rfl (mds am dm) _ (fun wq hSw => range_of hSw.2 rfl) Tryz.underlying36 rfl (by kernel_rfl)) (by assumption) ?_
                  try simp only [Act.put, List.setIfInBounds_toArray, List.set_cons_zero, List.set_cons_succ]
                  refine wpAnyH_ready (rs := [2]) (by kernel_rfl) (by simp) ?_
                  refine AllReadyH.cons (o := { dst := some 47, op := Op.call { callee := Callee.value (Operand.func 18), args := #[Operand.tmp 46], argTypes := #[36] }, type := 25, pos := "exact.go:2937", after := #[{ on := 1, ground := Ground.data }], guard := none }) rfl (fun K hK => ?_) AllReadyH.nil
                  go_simp
                  refine (tom_any am.go am.bo am.gc am.bc dm.g dm.n dm.L dm.fi dm.ol dm.he dm.la w8.drew HDM.out (HV.out _ HA.out.1.1).2.1).mono ?_
                  rintro e y1 ⟨go', bo', gc', bc', rfl, o1, c1⟩
                  have H1 := hide (And.intro (XB HA.out c1) o1.mv)
                  have HK : Hid (MBk y1 XM 25 bm dm ∧ MBk y1 (w.heap.size + 1) 36 am dm) := ⟨H1.out.1.2.2.2.1.1, H1.out.1.1.2.2⟩
                  clear o1 c1
                  go_wp2_with fail
                  refine hK.out _ _ ?_ (fun hHeld => ?_)
                  · exact HK.out
                  clear hK K
                  try simp only [Act.put, List.setIfInBounds_toArray, List.set_cons_zero, List.set_cons_succ]
                  refine wpAnyH_ready (rs := [3]) (by kernel_rfl) (by simp) ?_
                  refine AllReadyH.cons (o := { dst := some 48, op := Op.call { callee := Callee.value (Operand.func 20), args := #[Operand.tmp 45, Operand.tmp 47], argTypes := #[25, 25] }, type := 4, pos := "exact.go:2937", after := #[{ on := 0, ground := Ground.data }, { on := 2, ground := Ground.data }, { on := 2, ground := Ground.chain }], guard := none }) rfl (fun K hK => ?_) AllReadyH.nil
                  go_simp
                  clear HK
                  refine (eqm_yes bm.go bm.bo go' bo' bm.gc bm.bc gc' bc' dm.g dm.n dm.L dm.fi dm.ol dm.he dm.la y1 HDM.out H1.out.1.2.2.2.1.2.mv H1.out.2).mono ?_
                  rintro e w9 ⟨rfl, c1⟩
                  have H2 := hide (XB H1.out.1 c1)
                  have HK : Hid (MBk w9 XM 25 bm dm ∧ MBk w9 (w.heap.size + 1) 36 am dm) := ⟨H2.out.2.2.2.1.1, H2.out.1.2.2⟩
                  clear c1 H1
                  go_wp2_with fail
                  refine hK.out _ _ ?_ (fun hHeld => ?_)
                  · exact HK.out
                  clear hK K
                  try simp only [Act.put, List.setIfInBounds_toArray, List.set_cons_zero, List.set_cons_succ]
                  refine wpAnyH_take (i := 4) (oi := { dst := some 49, op := Op.unOp UnOp.not 4 (Operand.tmp 48), type := 4, pos := "exact.go:2937", after := #[{ on := 3, ground := Ground.data }], guard := none }) (v := ?_) rfl (by kernel_rfl) (by kernel_rfl) (by kernel_rfl) (fun _ _ _ h => h) (Or.inl ⟨by rfl, ?_⟩) (by assumption) ?_
                  rotate_left 1
                  · (intro wq hSw; (try dsimp only at hSw); go_simp; try with_reducible rfl)
                  try simp only [Act.put, List.setIfInBounds_toArray, List.set_cons_zero, List.set_cons_succ]
                  refine wpAnyH_done (by kernel_rfl) ?_ _
                  clear HA HK HS0
                  have HA := hide H2.out
                  clear H2
                  as_aux_lemma =>
                    go_wp2_with (refine ld_node rfl _ rfl X3 rfl HA.out.2.2.1.1 ?_)
                    refine (markn_any b3 d B3 X3 1 w9 HT.out (by omega) (by omega) HA.out.2.2.1.2).mono ?_
                    rintro e w10 ⟨rfl, _, m1⟩
                    have HA2 : Hid (YM w w10 a d am dm ∧ MT w10 X2 B2 B3 b2 dd ∧ GM w10 XM BM bm dm ∧ GN w10 X4 B4 b4 dd dd) := ⟨HA.out.1.onb m1 HX.out.1, HA.out.2.1.onb m1 (Nat.le_refl _), HA.out.2.2.2.1.onb m1 (.inr (Nat.le_of_lt HX.out.2.2.1)), HA.out.2.2.2.2.onb m1 (.inr (by have := HX.out; omega))⟩
                    clear m1 HA XB
                    have hc1 := kncnt_nn d
                    have hc3 : ncnt d ≤ 1048576 := Int.le_trans (kncnt_le d) HT.out
                    generalize ncnt d = n1 at *
                    go_wp2_with (refine ld_mb rfl _ rfl XM rfl HA2.out.2.2.1.1 ?_)
                    refine (markm_any2 bm.go bm.bo bm.gc bm.bc BM XM dm.g dm.n dm.L dm.fi dm.ol dm.he dm.la (1 + n1) w10 HTM.out (by omega) (by omega) HA2.out.2.2.1.2).mono ?_
                    rintro e w11 ⟨rfl, _, m1⟩
                    have H10 : Hid (YM w w11 a d am dm ∧ MT w11 X2 B2 B3 b2 dd ∧ GN w11 X4 B4 b4 dd dd) := ⟨HA2.out.1.onb m1 HX.out.2.2.2.2.2.2.1, HA2.out.2.1.onb m1 HX.out.2.2.2.2.2.2.2.1, HA2.out.2.2.2.onb m1 (.inr (Nat.le_of_lt HX.out.2.2.2.2.1))⟩
                    clear m1 HA2
                    have hc4 : ¬ 1 + n1 + ((dm.g.length : Int) + (psum dm.L dm.n : Int)) < 0 := by omega
                    generalize 1 + n1 + ((dm.g.length : Int) + (psum dm.L dm.n : Int)) = n2 at *
                    obtain ⟨u0, u1, u2, u3, u4, u5, u6, u7, u8, u9, u10, u11, u12, u13, u14, u15⟩ := H10.out.2.2.1.cells
                    obtain ⟨t0, t1, t2, t3, t4, t5, t6, t7, t8, t9, t10, t11, t12, t13, t14, t15⟩ := H10.out.2.1.1.cells
                    as_aux_lemma =>
                      go_wp2_with fail
                      clear u0 u1 u2 u3 u4 u5 u6 u7 u8 u9 u10 u11 u12 u13 u14 u15 t0 t1 t2 t3 t4 t5 t6 t7 t8 t9 t10 t11 t12 t13 t14 t15 hc1 hc3
                      refine (eqn_yes b4 b2 dd w11 HDD.out H10.out.2.2.2.nv H10.out.2.1.2.1.nv).mono ?_
                      rintro e w12 ⟨rfl, c1⟩
                      have H12 : Hid (YM w w12 a d am dm ∧ MT w12 X2 B2 B3 b2 dd ∧ GN w12 X4 B4 b4 dd dd) := ⟨H10.out.1.b c1, H10.out.2.1.b c1, H10.out.2.2.b c1⟩
                      clear c1 H10
                      as_aux_lemma =>
                        go_wp2_with (refine ld_node rfl _ rfl X4 rfl H12.out.2.2.1 ?_)
                        refine (markn_any b4 dd B4 X4 1 w12 HTT.out (by omega) (by omega) H12.out.2.2.2).mono ?_
                        rintro e w13 ⟨rfl, n13, m1⟩
                        have HG : Hid (YM w w13 a d am dm ∧ MT w13 X2 B2 B3 b2 dd ∧ GN w13 X4 B4 b4 dd (mkN dd 1)) := ⟨H12.out.1.onb m1 HX.out.2.2.2.2.2.2.2.2.1, H12.out.2.1.onb m1 HX.out.2.2.2.2.2.2.2.2.2, H12.out.2.2.mk m1 n13⟩
                        clear m1 n13 H12
                        have hc1 := kncnt_nn dd
                        have hc3 : ncnt dd ≤ 1048576 := Int.le_trans (kncnt_le dd) HTT.out
                        have hc2 : ¬ 1 + ncnt dd < 0 := by omega
                        have hheld := hide (heldn_any b4 dd 1 w13 HTT.out (by omega) (by omega) HG.out.2.2.2.nv)
                        have hheld2 : Hid (∀ V, NV V b4 (mkN dd 1) → Calls Tryz.prog 13 #[nv b4 dd, .int .i64 1] V fun e w' => e = .returned (.int .i64 (1 + ncnt dd)) ∧ Below V.heap.size V w') := fun V hv => heldn_any b4 dd 1 V HTT.out (by omega) (by omega) hv
                        generalize ncnt dd = n3 at *
                        as_aux_lemma =>
                          go_wp2_with (refine ld_node rfl _ rfl X4 rfl HG.out.2.2.1 ?_)
                          refine hheld.out.mono ?_
                          rintro e w14 ⟨rfl, c1⟩
                          have HH : Hid (YM w w14 a d am dm ∧ MT w14 X2 B2 B3 b2 dd ∧ GN w14 X4 B4 b4 dd (mkN dd 1)) := ⟨HG.out.1.b c1, HG.out.2.1.b c1, HG.out.2.2.b c1⟩
                          clear c1 HG hheld
                          as_aux_lemma =>
                            go_upto_region 31 with fail
                            obtain ⟨BB, hBB⟩ : ∃ BB, BB = w14.heap.size := ⟨_, rfl⟩
                            have HBB : Hid (w.heap.size + 1 < BB) := by rw [hBB]; exact HH.out.1.2.2.lt
                            have HK : Hid (YM w w14.drew a d am dm ∧ BB ≤ w14.drew.heap.size) := by rw [hBB]; exact ⟨HH.out.1.b (kdrew w14), Nat.le_refl _⟩
                            obtain ⟨b0, hb0⟩ : ∃ b0, b0 = b2 := ⟨_, rfl⟩
                            have HRS : Hid (MT w14.drew X2 B2 B3 b0 dd ∧ GN w14.drew X4 B4 b4 dd (mkN dd 1) ∧ B3 ≤ BB ∧ X4 < BB) := by rw [hBB, hb0]; exact ⟨HH.out.2.1.b (kdrew w14), HH.out.2.2.b (kdrew w14), HH.out.2.1.2.1.1.2, HH.out.2.2.1.lt⟩
                            clear hBB HH hb0
                            go_cut [13] from 14 (fun y wc => ∃ Y b6, y = .pointer (some ⟨Y, 0, none⟩) ∧ Hid (YM w wc a d am dm ∧ (MT wc X2 B2 B3 b0 dd ∧ GN wc X4 B4 b4 dd (mkN dd 1) ∧ B3 ≤ BB ∧ X4 < BB) ∧ MT wc Y BB wc.heap.size b6 dd))
                            case first =>
                              refine wp_region_held_drew (S := (fun w' => NB w' w.heap.size 39 a d ∧ MBk w' (w.heap.size + 1) 36 am dm)) (by kernel_rfl) ?_ (fun hHeld => ?_)
                              · exact ⟨HK.out.1.2.1, HK.out.1.2.2⟩
                              refine wpAnyH_take (i := 0) (oi := { dst := some 75, op := Op.load 39 (Operand.tmp 2), type := 39, pos := "exact.go:2956", after := #[], guard := none }) (v := nv a d) rfl (by kernel_rfl) (by kernel_rfl) (by kernel_rfl) (fun _ _ _ h => h) (yieldsIf_load_mid (by rfl) _ _ rfl w.heap.size 0 rfl ((nds a d).toList) _ (fun wq hSw => range_of hSw.1 rfl) Tryz.underlying39 rfl (by kernel_rfl)) (by assumption) ?_
                              try simp only [Act.put, List.setIfInBounds_toArray, List.set_cons_zero, List.set_cons_succ]
                              refine wpAnyH_take (i := 2) (oi := { dst := some 77, op := Op.load 36 (Operand.tmp 3), type := 36, pos := "exact.go:2956", after := #[], guard := none }) (v := mvv am dm) rfl (by kernel_rfl) (by kernel_rfl) (by kernel_rfl) (fun _ _ _ h => h) (yieldsIf_load_mid (by rfl) _ _ rfl (w.heap.size + 1) 0 rfl (mds am dm) _ (fun wq hSw => range_of hSw.2 rfl) Tryz.underlying36 rfl (by kernel_rfl)) (by assumption) ?_
                              try simp only [Act.put, List.setIfInBounds_toArray, List.set_cons_zero, List.set_cons_succ]
                              refine wpAnyH_ready (rs := [1, 5]) (by kernel_rfl) (by simp) ?_
                              refine AllReadyH.cons (o := { dst := some 76, op := Op.call { callee := Callee.value (Operand.func 17), args := #[Operand.tmp 75], argTypes := #[39] }, type := 31, pos := "exact.go:2956", after := #[{ on := 0, ground := Ground.data }], guard := none }) rfl (fun K hK => ?_) ?_
                              · go_simp
                                refine (ton_any a d w14.drew HD.out (HV.out _ HK.out.1.1).1).mono ?_
                                rintro e z1 ⟨b1, rfl, o1, c1⟩
                                have HK := hide (show YM w z1 a d am dm ∧ BB ≤ z1.heap.size from ⟨HK.out.1.b (c1), Nat.le_trans HK.out.2 (c1).size⟩)
                                have HRS := hide (show MT z1 X2 B2 B3 b0 dd ∧ GN z1 X4 B4 b4 dd (mkN dd 1) ∧ B3 ≤ BB ∧ X4 < BB from ⟨HRS.out.1.b (c1), HRS.out.2.1.b (c1), HRS.out.2.2⟩)
                                have HN := hide (show NV z1 b1 d ∧ NNC b1 from ⟨o1.nv, o1.2.1⟩)
                                clear o1 c1
                                go_wp2_with fail
                                refine hK.out _ _ ?_ (fun hHeld => ?_)
                                · exact ⟨HK.out.1.2.1, HK.out.1.2.2⟩
                                clear hK K
                                try simp only [Act.put, List.setIfInBounds_toArray, List.set_cons_zero, List.set_cons_succ]
                                refine wpAnyH_ready (rs := [3, 5]) (by kernel_rfl) (by simp) ?_
                                refine AllReadyH.cons (o := { dst := some 78, op := Op.call { callee := Callee.value (Operand.func 18), args := #[Operand.tmp 77], argTypes := #[36] }, type := 25, pos := "exact.go:2956", after := #[{ on := 2, ground := Ground.data }, { on := 1, ground := Ground.chain }], guard := none }) rfl (fun K hK => ?_) ?_
                                · go_simp
                                  refine (tom_any am.go am.bo am.gc am.bc dm.g dm.n dm.L dm.fi dm.ol dm.he dm.la z1 HDM.out (HV.out _ HK.out.1.1).2.1).mono ?_
                                  rintro e z2 ⟨go', bo', gc', bc', rfl, o1, c1⟩
                                  have HK := hide (show YM w z2 a d am dm ∧ BB ≤ z2.heap.size from ⟨HK.out.1.b (c1), Nat.le_trans HK.out.2 (c1).size⟩)
                                  have HRS := hide (show MT z2 X2 B2 B3 b0 dd ∧ GN z2 X4 B4 b4 dd (mkN dd 1) ∧ B3 ≤ BB ∧ X4 < BB from ⟨HRS.out.1.b (c1), HRS.out.2.1.b (c1), HRS.out.2.2⟩)
                                  have HN := hide (show (NV z2 b1 d ∧ NNC b1) ∧ MV z2 go' gc' bo' bc' dm.g dm.n dm.L from ⟨⟨HN.out.1.below c1, HN.out.2⟩, o1.mv⟩)
                                  clear o1 c1
                                  go_wp2_with fail
                                  refine hK.out _ _ ?_ (fun hHeld => ?_)
                                  · exact ⟨HK.out.1.2.1, HK.out.1.2.2⟩
                                  clear hK K
                                  try simp only [Act.put, List.setIfInBounds_toArray, List.set_cons_zero, List.set_cons_succ]
                                  refine wpAnyH_ready (rs := [4, 5]) (by kernel_rfl) (by simp) ?_
                                  refine AllReadyH.cons (o := { dst := some 79, op := Op.call { callee := Callee.value (Operand.func 19), args := #[Operand.tmp 76, Operand.tmp 78], argTypes := #[31, 25] }, type := 31, pos := "exact.go:2956", after := #[{ on := 1, ground := Ground.data }, { on := 3, ground := Ground.data }, { on := 3, ground := Ground.chain }], guard := none }) rfl (fun K hK => ?_) ?_
                                  · go_simp
                                    have HK0 := HK.out.2
                                    refine (hI.out z2 b1 { am with go := go', gc := gc', bo := bo', bc := bc' } (HV.out _ HK.out.1.1).2.2 HN.out.1.1 HN.out.1.2 HN.out.2).mono ?_
                                    rintro e z3 ⟨b2, rfl, o1, c1⟩
                                    have HK := hide (show YM w z3 a d am dm ∧ BB ≤ z3.heap.size from ⟨HK.out.1.b (c1), Nat.le_trans HK.out.2 (c1).size⟩)
                                    have HRS := hide (show MT z3 X2 B2 B3 b0 dd ∧ GN z3 X4 B4 b4 dd (mkN dd 1) ∧ B3 ≤ BB ∧ X4 < BB from ⟨HRS.out.1.b (c1), HRS.out.2.1.b (c1), HRS.out.2.2⟩)
                                    have HC : Hid (RN z3 BB z3.heap.size b2 dd) := (o1.rn).wider HK0 (Nat.le_refl _) (Nat.le_refl _)
                                    clear o1 c1 HN
                                    go_wp2_with fail
                                    refine hK.out _ _ ?_ (fun hHeld => ?_)
                                    · exact ⟨HK.out.1.2.1, HK.out.1.2.2⟩
                                    clear hK K
                                    try simp only [Act.put, List.setIfInBounds_toArray, List.set_cons_zero, List.set_cons_succ]
                                    refine wpAnyH_ready (rs := [5]) (by kernel_rfl) (by simp) ?_
                                    refine AllReadyH.cons (o := { dst := some 13, op := Op.alloc 31, type := 0, pos := "exact.go:2956", after := #[], guard := none }) rfl (fun K hK => ?_) AllReadyH.nil
                                    go_simp
                                    obtain ⟨z4, hwy⟩ : ∃ wy, wy = z3.alloc (.cells (nds Na.zero Nd.zero) 31) := ⟨_, rfl⟩
                                    have bx : Hid (Below z3.heap.size z3 z4) := by rw [hwy]; exact bal1 _ _
                                    have HY : Hid (NB z4 z3.heap.size 31 Na.zero Nd.zero ∧ BB ≤ z3.heap.size) := ⟨by rw [hwy]; exact NB.new _ _ _ _, HK.out.2⟩
                                    unfold nds Na.zero Nd.zero at hwy
                                    dsimp only [List.length_nil] at hwy
                                    rw [← hwy]
                                    clear hwy
                                    obtain ⟨Y, hYe⟩ : ∃ Y, Y = z3.heap.size := ⟨_, rfl⟩
                                    rw [← hYe] at HY ⊢
                                    have HK := hide (show YM w z4 a d am dm ∧ BB ≤ z4.heap.size from ⟨HK.out.1.b (bx.out), Nat.le_trans HK.out.2 (bx.out).size⟩)
                                    have HRS := hide (show MT z4 X2 B2 B3 b0 dd ∧ GN z4 X4 B4 b4 dd (mkN dd 1) ∧ B3 ≤ BB ∧ X4 < BB from ⟨HRS.out.1.b (bx.out), HRS.out.2.1.b (bx.out), HRS.out.2.2⟩)
                                    have HC := hide (rn_up HC.out bx.out)
                                    clear bx hYe
                                    refine hK.out _ _ ?_ (fun hHeld => ?_)
                                    · exact ⟨HK.out.1.2.1, HK.out.1.2.2⟩
                                    clear hK K
                                    try simp only [Act.put, List.setIfInBounds_toArray, List.set_cons_zero, List.set_cons_succ]
                                    refine wpAnyH_ready (rs := [6]) (by kernel_rfl) (by simp) ?_
                                    refine AllReadyH.cons (o := { dst := none, op := Op.store 31 (Operand.tmp 13) (Operand.tmp 79), type := 0, pos := "exact.go:2956", after := #[{ on := 5, ground := Ground.data }, { on := 4, ground := Ground.data }, { on := 4, ground := Ground.chain }, { on := 0, ground := Ground.phase }, { on := 1, ground := Ground.phase }, { on := 2, ground := Ground.phase }, { on := 3, ground := Ground.phase }, { on := 4, ground := Ground.phase }, { on := 5, ground := Ground.phase }], guard := none }) rfl (fun K hK => ?_) AllReadyH.nil
                                    refine step_if (by rfl) (st_node_wp _ _ rfl rfl Y b2 dd rfl rfl HY.out.1 (fun G hG hnG => ?_))
                                    have HK := hide (HK.out.1.far hG (by have := HBB.out; have := HY.out.2; omega))
                                    have HRS := hide (show MT G X2 B2 B3 b0 dd ∧ GN G X4 B4 b4 dd (mkN dd 1) ∧ B3 ≤ BB ∧ X4 < BB from ⟨HRS.out.1.onb (OnB.only (B := BB) (T := Y + 1) hG ⟨HY.out.2, Nat.lt_succ_self _⟩) HRS.out.2.2.1, HRS.out.2.1.onb (OnB.only (B := BB) (T := Y + 1) hG ⟨HY.out.2, Nat.lt_succ_self _⟩) (.inl HRS.out.2.2.2), HRS.out.2.2⟩)
                                    have HF := hide (show MT G Y BB G.heap.size b2 dd from ⟨hnG, by rw [hG.2.1]; exact rn_beside HC.out HY.out.1 hG, hnG.lt⟩)
                                    refine hK.out _ _ ?_ (fun hHeld => ?_)
                                    · exact ⟨HK.out.2.1, HK.out.2.2⟩
                                    clear hK K
                                    try simp only [Act.put, List.setIfInBounds_toArray, List.set_cons_zero, List.set_cons_succ]
                                    refine wpAnyH_done (by kernel_rfl) ?_ _
                                    go_wp2_with fail
                                    go_meet
                                    case rel => exact ⟨Y, b2, rfl, HK.out, HRS.out, HF.out⟩
                                  refine AllReadyH.cons (o := { dst := some 13, op := Op.alloc 31, type := 0, pos := "exact.go:2956", after := #[], guard := none }) rfl (fun K hK => ?_) AllReadyH.nil
                                  · go_simp
                                    obtain ⟨z5, hwy⟩ : ∃ wy, wy = z2.alloc (.cells (nds Na.zero Nd.zero) 31) := ⟨_, rfl⟩
                                    have bx : Hid (Below z2.heap.size z2 z5) := by rw [hwy]; exact bal1 _ _
                                    have HY : Hid (NB z5 z2.heap.size 31 Na.zero Nd.zero ∧ BB ≤ z2.heap.size) := ⟨by rw [hwy]; exact NB.new _ _ _ _, HK.out.2⟩
                                    unfold nds Na.zero Nd.zero at hwy
                                    dsimp only [List.length_nil] at hwy
                                    rw [← hwy]
                                    clear hwy
                                    obtain ⟨Y, hYe⟩ : ∃ Y, Y = z2.heap.size := ⟨_, rfl⟩
                                    rw [← hYe] at HY ⊢
                                    have HK := hide (show YM w z5 a d am dm ∧ BB ≤ z5.heap.size from ⟨HK.out.1.b (bx.out), Nat.le_trans HK.out.2 (bx.out).size⟩)
                                    have HRS := hide (show MT z5 X2 B2 B3 b0 dd ∧ GN z5 X4 B4 b4 dd (mkN dd 1) ∧ B3 ≤ BB ∧ X4 < BB from ⟨HRS.out.1.b (bx.out), HRS.out.2.1.b (bx.out), HRS.out.2.2⟩)
                                    have HN := hide (show (NV z5 b1 d ∧ NNC b1) ∧ MV z5 go' gc' bo' bc' dm.g dm.n dm.L from ⟨⟨HN.out.1.1.below bx.out, HN.out.1.2⟩, HN.out.2.below bx.out⟩)
                                    clear bx hYe
                                    refine hK.out _ _ ?_ (fun hHeld => ?_)
                                    · exact ⟨HK.out.1.2.1, HK.out.1.2.2⟩
                                    clear hK K
                                    try simp only [Act.put, List.setIfInBounds_toArray, List.set_cons_zero, List.set_cons_succ]
                                    refine wpAnyH_ready (rs := [4]) (by kernel_rfl) (by simp) ?_
                                    refine AllReadyH.cons (o := { dst := some 79, op := Op.call { callee := Callee.value (Operand.func 19), args := #[Operand.tmp 76, Operand.tmp 78], argTypes := #[31, 25] }, type := 31, pos := "exact.go:2956", after := #[{ on := 1, ground := Ground.data }, { on := 3, ground := Ground.data }, { on := 3, ground := Ground.chain }], guard := none }) rfl (fun K hK => ?_) AllReadyH.nil
                                    go_simp
                                    have HK0 := HK.out.2
                                    refine (hI.out z5 b1 { am with go := go', gc := gc', bo := bo', bc := bc' } (HV.out _ HK.out.1.1).2.2 HN.out.1.1 HN.out.1.2 HN.out.2).mono ?_
                                    rintro e z6 ⟨b2, rfl, o1, c1⟩
                                    have HK := hide (show YM w z6 a d am dm ∧ BB ≤ z6.heap.size from ⟨HK.out.1.b (c1), Nat.le_trans HK.out.2 (c1).size⟩)
                                    have HRS := hide (show MT z6 X2 B2 B3 b0 dd ∧ GN z6 X4 B4 b4 dd (mkN dd 1) ∧ B3 ≤ BB ∧ X4 < BB from ⟨HRS.out.1.b (c1), HRS.out.2.1.b (c1), HRS.out.2.2⟩)
                                    have HY := hide (show NB z6 Y 31 Na.zero Nd.zero ∧ BB ≤ Y from ⟨HY.out.1.b (c1), HY.out.2⟩)
                                    have HC : Hid (RN z6 BB z6.heap.size b2 dd) := (o1.rn).wider HK0 (Nat.le_refl _) (Nat.le_refl _)
                                    clear o1 c1 HN
                                    go_wp2_with fail
                                    refine hK.out _ _ ?_ (fun hHeld => ?_)
                                    · exact ⟨HK.out.1.2.1, HK.out.1.2.2⟩
                                    clear hK K
                                    try simp only [Act.put, List.setIfInBounds_toArray, List.set_cons_zero, List.set_cons_succ]
                                    refine wpAnyH_ready (rs := [6]) (by kernel_rfl) (by simp) ?_
                                    refine AllReadyH.cons (o := { dst := none, op := Op.store 31 (Operand.tmp 13) (Operand.tmp 79), type := 0, pos := "exact.go:2956", after := #[{ on := 5, ground := Ground.data }, { on := 4, ground := Ground.data }, { on := 4, ground := Ground.chain }, { on := 0, ground := Ground.phase }, { on := 1, ground := Ground.phase }, { on := 2, ground := Ground.phase }, { on := 3, ground := Ground.phase }, { on := 4, ground := Ground.phase }, { on := 5, ground := Ground.phase }], guard := none }) rfl (fun K hK => ?_) AllReadyH.nil
                                    refine step_if (by rfl) (st_node_wp _ _ rfl rfl Y b2 dd rfl rfl HY.out.1 (fun G hG hnG => ?_))
                                    have HK := hide (HK.out.1.far hG (by have := HBB.out; have := HY.out.2; omega))
                                    have HRS := hide (show MT G X2 B2 B3 b0 dd ∧ GN G X4 B4 b4 dd (mkN dd 1) ∧ B3 ≤ BB ∧ X4 < BB from ⟨HRS.out.1.onb (OnB.only (B := BB) (T := Y + 1) hG ⟨HY.out.2, Nat.lt_succ_self _⟩) HRS.out.2.2.1, HRS.out.2.1.onb (OnB.only (B := BB) (T := Y + 1) hG ⟨HY.out.2, Nat.lt_succ_self _⟩) (.inl HRS.out.2.2.2), HRS.out.2.2⟩)
                                    have HF := hide (show MT G Y BB G.heap.size b2 dd from ⟨hnG, by rw [hG.2.1]; exact rn_beside HC.out HY.out.1 hG, hnG.lt⟩)
                                    refine hK.out _ _ ?_ (fun hHeld => ?_)
                                    · exact ⟨HK.out.2.1, HK.out.2.2⟩
                                    clear hK K
                                    try simp only [Act.put, List.setIfInBounds_toArray, List.set_cons_zero, List.set_cons_succ]
                                    refine wpAnyH_done (by kernel_rfl) ?_ _
                                    go_wp2_with fail
                                    go_meet
                                    case rel => exact ⟨Y, b2, rfl, HK.out, HRS.out, HF.out⟩
                                refine AllReadyH.cons (o := { dst := some 13, op := Op.alloc 31, type := 0, pos := "exact.go:2956", after := #[], guard := none }) rfl (fun K hK => ?_) AllReadyH.nil
                                · go_simp
                                  obtain ⟨z7, hwy⟩ : ∃ wy, wy = z1.alloc (.cells (nds Na.zero Nd.zero) 31) := ⟨_, rfl⟩
                                  have bx : Hid (Below z1.heap.size z1 z7) := by rw [hwy]; exact bal1 _ _
                                  have HY : Hid (NB z7 z1.heap.size 31 Na.zero Nd.zero ∧ BB ≤ z1.heap.size) := ⟨by rw [hwy]; exact NB.new _ _ _ _, HK.out.2⟩
                                  unfold nds Na.zero Nd.zero at hwy
                                  dsimp only [List.length_nil] at hwy
                                  rw [← hwy]
                                  clear hwy
                                  obtain ⟨Y, hYe⟩ : ∃ Y, Y = z1.heap.size := ⟨_, rfl⟩
                                  rw [← hYe] at HY ⊢
                                  have HK := hide (show YM w z7 a d am dm ∧ BB ≤ z7.heap.size from ⟨HK.out.1.b (bx.out), Nat.le_trans HK.out.2 (bx.out).size⟩)
                                  have HRS := hide (show MT z7 X2 B2 B3 b0 dd ∧ GN z7 X4 B4 b4 dd (mkN dd 1) ∧ B3 ≤ BB ∧ X4 < BB from ⟨HRS.out.1.b (bx.out), HRS.out.2.1.b (bx.out), HRS.out.2.2⟩)
                                  have HN := hide (show NV z7 b1 d ∧ NNC b1 from ⟨HN.out.1.below bx.out, HN.out.2⟩)
                                  clear bx hYe
                                  refine hK.out _ _ ?_ (fun hHeld => ?_)
                                  · exact ⟨HK.out.1.2.1, HK.out.1.2.2⟩
                                  clear hK K
                                  try simp only [Act.put, List.setIfInBounds_toArray, List.set_cons_zero, List.set_cons_succ]
                                  refine wpAnyH_ready (rs := [3]) (by kernel_rfl) (by simp) ?_
                                  refine AllReadyH.cons (o := { dst := some 78, op := Op.call { callee := Callee.value (Operand.func 18), args := #[Operand.tmp 77], argTypes := #[36] }, type := 25, pos := "exact.go:2956", after := #[{ on := 2, ground := Ground.data }, { on := 1, ground := Ground.chain }], guard := none }) rfl (fun K hK => ?_) AllReadyH.nil
                                  go_simp
                                  refine (tom_any am.go am.bo am.gc am.bc dm.g dm.n dm.L dm.fi dm.ol dm.he dm.la z7 HDM.out (HV.out _ HK.out.1.1).2.1).mono ?_
                                  rintro e z8 ⟨go', bo', gc', bc', rfl, o1, c1⟩
                                  have HK := hide (show YM w z8 a d am dm ∧ BB ≤ z8.heap.size from ⟨HK.out.1.b (c1), Nat.le_trans HK.out.2 (c1).size⟩)
                                  have HRS := hide (show MT z8 X2 B2 B3 b0 dd ∧ GN z8 X4 B4 b4 dd (mkN dd 1) ∧ B3 ≤ BB ∧ X4 < BB from ⟨HRS.out.1.b (c1), HRS.out.2.1.b (c1), HRS.out.2.2⟩)
                                  have HY := hide (show NB z8 Y 31 Na.zero Nd.zero ∧ BB ≤ Y from ⟨HY.out.1.b (c1), HY.out.2⟩)
                                  have HN := hide (show (NV z8 b1 d ∧ NNC b1) ∧ MV z8 go' gc' bo' bc' dm.g dm.n dm.L from ⟨⟨HN.out.1.below c1, HN.out.2⟩, o1.mv⟩)
                                  clear o1 c1
                                  go_wp2_with fail
                                  refine hK.out _ _ ?_ (fun hHeld => ?_)
                                  · exact ⟨HK.out.1.2.1, HK.out.1.2.2⟩
                                  clear hK K
                                  try simp only [Act.put, List.setIfInBounds_toArray, List.set_cons_zero, List.set_cons_succ]
                                  refine wpAnyH_ready (rs := [4]) (by kernel_rfl) (by simp) ?_
                                  refine AllReadyH.cons (o := { dst := some 79, op := Op.call { callee := Callee.value (Operand.func 19), args := #[Operand.tmp 76, Operand.tmp 78], argTypes := #[31, 25] }, type := 31, pos := "exact.go:2956", after := #[{ on := 1, ground := Ground.data }, { on := 3, ground := Ground.data }, { on := 3, ground := Ground.chain }], guard := none }) rfl (fun K hK => ?_) AllReadyH.nil
                                  go_simp
                                  have HK0 := HK.out.2
                                  refine (hI.out z8 b1 { am with go := go', gc := gc', bo := bo', bc := bc' } (HV.out _ HK.out.1.1).2.2 HN.out.1.1 HN.out.1.2 HN.out.2).mono ?_
                                  rintro e z9 ⟨b2, rfl, o1, c1⟩
                                  have HK := hide (show YM w z9 a d am dm ∧ BB ≤ z9.heap.size from ⟨HK.out.1.b (c1), Nat.le_trans HK.out.2 (c1).size⟩)
                                  have HRS := hide (show MT z9 X2 B2 B3 b0 dd ∧ GN z9 X4 B4 b4 dd (mkN dd 1) ∧ B3 ≤ BB ∧ X4 < BB from ⟨HRS.out.1.b (c1), HRS.out.2.1.b (c1), HRS.out.2.2⟩)
                                  have HY := hide (show NB z9 Y 31 Na.zero Nd.zero ∧ BB ≤ Y from ⟨HY.out.1.b (c1), HY.out.2⟩)
                                  have HC : Hid (RN z9 BB z9.heap.size b2 dd) := (o1.rn).wider HK0 (Nat.le_refl _) (Nat.le_refl _)
                                  clear o1 c1 HN
                                  go_wp2_with fail
                                  refine hK.out _ _ ?_ (fun hHeld => ?_)
                                  · exact ⟨HK.out.1.2.1, HK.out.1.2.2⟩
                                  clear hK K
                                  try simp only [Act.put, List.setIfInBounds_toArray, List.set_cons_zero, List.set_cons_succ]
                                  refine wpAnyH_ready (rs := [6]) (by kernel_rfl) (by simp) ?_
                                  refine AllReadyH.cons (o := { dst := none, op := Op.store 31 (Operand.tmp 13) (Operand.tmp 79), type := 0, pos := "exact.go:2956", after := #[{ on := 5, ground := Ground.data }, { on := 4, ground := Ground.data }, { on := 4, ground := Ground.chain }, { on := 0, ground := Ground.phase }, { on := 1, ground := Ground.phase }, { on := 2, ground := Ground.phase }, { on := 3, ground := Ground.phase }, { on := 4, ground := Ground.phase }, { on := 5, ground := Ground.phase }], guard := none }) rfl (fun K hK => ?_) AllReadyH.nil
                                  refine step_if (by rfl) (st_node_wp _ _ rfl rfl Y b2 dd rfl rfl HY.out.1 (fun G hG hnG => ?_))
                                  have HK := hide (HK.out.1.far hG (by have := HBB.out; have := HY.out.2; omega))
                                  have HRS := hide (show MT G X2 B2 B3 b0 dd ∧ GN G X4 B4 b4 dd (mkN dd 1) ∧ B3 ≤ BB ∧ X4 < BB from ⟨HRS.out.1.onb (OnB.only (B := BB) (T := Y + 1) hG ⟨HY.out.2, Nat.lt_succ_self _⟩) HRS.out.2.2.1, HRS.out.2.1.onb (OnB.only (B := BB) (T := Y + 1) hG ⟨HY.out.2, Nat.lt_succ_self _⟩) (.inl HRS.out.2.2.2), HRS.out.2.2⟩)
                                  have HF := hide (show MT G Y BB G.heap.size b2 dd from ⟨hnG, by rw [hG.2.1]; exact rn_beside HC.out HY.out.1 hG, hnG.lt⟩)
                                  refine hK.out _ _ ?_ (fun hHeld => ?_)
                                  · exact ⟨HK.out.2.1, HK.out.2.2⟩
                                  clear hK K
                                  try simp only [Act.put, List.setIfInBounds_toArray, List.set_cons_zero, List.set_cons_succ]
                                  refine wpAnyH_done (by kernel_rfl) ?_ _
                                  go_wp2_with fail
                                  go_meet
                                  case rel => exact ⟨Y, b2, rfl, HK.out, HRS.out, HF.out⟩
                              refine AllReadyH.cons (o := { dst := some 13, op := Op.alloc 31, type := 0, pos := "exact.go:2956", after := #[], guard := none }) rfl (fun K hK => ?_) AllReadyH.nil
                              · go_simp
                                obtain ⟨z10, hwy⟩ : ∃ wy, wy = (w14.alloc (.cells (nds Na.zero Nd.zero) 31)).drew := ⟨_, rfl⟩
                                have bx : Hid (Below w14.drew.heap.size w14.drew z10) := by rw [hwy]; exact alloc_drew _ _
                                have HY : Hid (NB z10 w14.heap.size 31 Na.zero Nd.zero ∧ BB ≤ w14.heap.size) := ⟨by rw [hwy]; exact NB.new _ _ _ _, HK.out.2⟩
                                unfold nds Na.zero Nd.zero at hwy
                                dsimp only [List.length_nil] at hwy
                                rw [← hwy]
                                clear hwy
                                obtain ⟨Y, hYe⟩ : ∃ Y, Y = w14.heap.size := ⟨_, rfl⟩
                                rw [← hYe] at HY ⊢
                                have HK := hide (show YM w z10 a d am dm ∧ BB ≤ z10.heap.size from ⟨HK.out.1.b (bx.out), Nat.le_trans HK.out.2 (bx.out).size⟩)
                                have HRS := hide (show MT z10 X2 B2 B3 b0 dd ∧ GN z10 X4 B4 b4 dd (mkN dd 1) ∧ B3 ≤ BB ∧ X4 < BB from ⟨HRS.out.1.b (bx.out), HRS.out.2.1.b (bx.out), HRS.out.2.2⟩)
                                clear bx hYe
                                refine hK.out _ _ ?_ (fun hHeld => ?_)
                                · exact ⟨HK.out.1.2.1, HK.out.1.2.2⟩
                                clear hK K
                                try simp only [Act.put, List.setIfInBounds_toArray, List.set_cons_zero, List.set_cons_succ]
                                refine wpAnyH_ready (rs := [1]) (by kernel_rfl) (by simp) ?_
                                refine AllReadyH.cons (o := { dst := some 76, op := Op.call { callee := Callee.value (Operand.func 17), args := #[Operand.tmp 75], argTypes := #[39] }, type := 31, pos := "exact.go:2956", after := #[{ on := 0, ground := Ground.data }], guard := none }) rfl (fun K hK => ?_) AllReadyH.nil
                                go_simp
                                refine (ton_any a d z10 HD.out (HV.out _ HK.out.1.1).1).mono ?_
                                rintro e z11 ⟨b1, rfl, o1, c1⟩
                                have HK := hide (show YM w z11 a d am dm ∧ BB ≤ z11.heap.size from ⟨HK.out.1.b (c1), Nat.le_trans HK.out.2 (c1).size⟩)
                                have HRS := hide (show MT z11 X2 B2 B3 b0 dd ∧ GN z11 X4 B4 b4 dd (mkN dd 1) ∧ B3 ≤ BB ∧ X4 < BB from ⟨HRS.out.1.b (c1), HRS.out.2.1.b (c1), HRS.out.2.2⟩)
                                have HY := hide (show NB z11 Y 31 Na.zero Nd.zero ∧ BB ≤ Y from ⟨HY.out.1.b (c1), HY.out.2⟩)
                                have HN := hide (show NV z11 b1 d ∧ NNC b1 from ⟨o1.nv, o1.2.1⟩)
                                clear o1 c1
                                go_wp2_with fail
                                refine hK.out _ _ ?_ (fun hHeld => ?_)
                                · exact ⟨HK.out.1.2.1, HK.out.1.2.2⟩
                                clear hK K
                                try simp only [Act.put, List.setIfInBounds_toArray, List.set_cons_zero, List.set_cons_succ]
                                refine wpAnyH_ready (rs := [3]) (by kernel_rfl) (by simp) ?_
                                refine AllReadyH.cons (o := { dst := some 78, op := Op.call { callee := Callee.value (Operand.func 18), args := #[Operand.tmp 77], argTypes := #[36] }, type := 25, pos := "exact.go:2956", after := #[{ on := 2, ground := Ground.data }, { on := 1, ground := Ground.chain }], guard := none }) rfl (fun K hK => ?_) AllReadyH.nil
                                go_simp
                                refine (tom_any am.go am.bo am.gc am.bc dm.g dm.n dm.L dm.fi dm.ol dm.he dm.la z11 HDM.out (HV.out _ HK.out.1.1).2.1).mono ?_
                                rintro e z12 ⟨go', bo', gc', bc', rfl, o1, c1⟩
                                have HK := hide (show YM w z12 a d am dm ∧ BB ≤ z12.heap.size from ⟨HK.out.1.b (c1), Nat.le_trans HK.out.2 (c1).size⟩)
                                have HRS := hide (show MT z12 X2 B2 B3 b0 dd ∧ GN z12 X4 B4 b4 dd (mkN dd 1) ∧ B3 ≤ BB ∧ X4 < BB from ⟨HRS.out.1.b (c1), HRS.out.2.1.b (c1), HRS.out.2.2⟩)
                                have HY := hide (show NB z12 Y 31 Na.zero Nd.zero ∧ BB ≤ Y from ⟨HY.out.1.b (c1), HY.out.2⟩)
                                have HN := hide (show (NV z12 b1 d ∧ NNC b1) ∧ MV z12 go' gc' bo' bc' dm.g dm.n dm.L from ⟨⟨HN.out.1.below c1, HN.out.2⟩, o1.mv⟩)
                                clear o1 c1
                                go_wp2_with fail
                                refine hK.out _ _ ?_ (fun hHeld => ?_)
                                · exact ⟨HK.out.1.2.1, HK.out.1.2.2⟩
                                clear hK K
                                try simp only [Act.put, List.setIfInBounds_toArray, List.set_cons_zero, List.set_cons_succ]
                                refine wpAnyH_ready (rs := [4]) (by kernel_rfl) (by simp) ?_
                                refine AllReadyH.cons (o := { dst := some 79, op := Op.call { callee := Callee.value (Operand.func 19), args := #[Operand.tmp 76, Operand.tmp 78], argTypes := #[31, 25] }, type := 31, pos := "exact.go:2956", after := #[{ on := 1, ground := Ground.data }, { on := 3, ground := Ground.data }, { on := 3, ground := Ground.chain }], guard := none }) rfl (fun K hK => ?_) AllReadyH.nil
                                go_simp
                                have HK0 := HK.out.2
                                refine (hI.out z12 b1 { am with go := go', gc := gc', bo := bo', bc := bc' } (HV.out _ HK.out.1.1).2.2 HN.out.1.1 HN.out.1.2 HN.out.2).mono ?_
                                rintro e z13 ⟨b2, rfl, o1, c1⟩
                                have HK := hide (show YM w z13 a d am dm ∧ BB ≤ z13.heap.size from ⟨HK.out.1.b (c1), Nat.le_trans HK.out.2 (c1).size⟩)
                                have HRS := hide (show MT z13 X2 B2 B3 b0 dd ∧ GN z13 X4 B4 b4 dd (mkN dd 1) ∧ B3 ≤ BB ∧ X4 < BB from ⟨HRS.out.1.b (c1), HRS.out.2.1.b (c1), HRS.out.2.2⟩)
                                have HY := hide (show NB z13 Y 31 Na.zero Nd.zero ∧ BB ≤ Y from ⟨HY.out.1.b (c1), HY.out.2⟩)
                                have HC : Hid (RN z13 BB z13.heap.size b2 dd) := (o1.rn).wider HK0 (Nat.le_refl _) (Nat.le_refl _)
                                clear o1 c1 HN
                                go_wp2_with fail
                                refine hK.out _ _ ?_ (fun hHeld => ?_)
                                · exact ⟨HK.out.1.2.1, HK.out.1.2.2⟩
                                clear hK K
                                try simp only [Act.put, List.setIfInBounds_toArray, List.set_cons_zero, List.set_cons_succ]
                                refine wpAnyH_ready (rs := [6]) (by kernel_rfl) (by simp) ?_
                                refine AllReadyH.cons (o := { dst := none, op := Op.store 31 (Operand.tmp 13) (Operand.tmp 79), type := 0, pos := "exact.go:2956", after := #[{ on := 5, ground := Ground.data }, { on := 4, ground := Ground.data }, { on := 4, ground := Ground.chain }, { on := 0, ground := Ground.phase }, { on := 1, ground := Ground.phase }, { on := 2, ground := Ground.phase }, { on := 3, ground := Ground.phase }, { on := 4, ground := Ground.phase }, { on := 5, ground := Ground.phase }], guard := none }) rfl (fun K hK => ?_) AllReadyH.nil
                                refine step_if (by rfl) (st_node_wp _ _ rfl rfl Y b2 dd rfl rfl HY.out.1 (fun G hG hnG => ?_))
                                have HK := hide (HK.out.1.far hG (by have := HBB.out; have := HY.out.2; omega))
                                have HRS := hide (show MT G X2 B2 B3 b0 dd ∧ GN G X4 B4 b4 dd (mkN dd 1) ∧ B3 ≤ BB ∧ X4 < BB from ⟨HRS.out.1.onb (OnB.only (B := BB) (T := Y + 1) hG ⟨HY.out.2, Nat.lt_succ_self _⟩) HRS.out.2.2.1, HRS.out.2.1.onb (OnB.only (B := BB) (T := Y + 1) hG ⟨HY.out.2, Nat.lt_succ_self _⟩) (.inl HRS.out.2.2.2), HRS.out.2.2⟩)
                                have HF := hide (show MT G Y BB G.heap.size b2 dd from ⟨hnG, by rw [hG.2.1]; exact rn_beside HC.out HY.out.1 hG, hnG.lt⟩)
                                refine hK.out _ _ ?_ (fun hHeld => ?_)
                                · exact ⟨HK.out.2.1, HK.out.2.2⟩
                                clear hK K
                                try simp only [Act.put, List.setIfInBounds_toArray, List.set_cons_zero, List.set_cons_succ]
                                refine wpAnyH_done (by kernel_rfl) ?_ _
                                go_wp2_with fail
                                go_meet
                                case rel => exact ⟨Y, b2, rfl, HK.out, HRS.out, HF.out⟩
                            case rest =>
                              obtain ⟨X6, b6, rfl, hc⟩ := hcut
                              have HL := hide hc.out
                              clear hc HK HRS hI
                              as_aux_lemma =>
                                go_wp2_with (first | (refine ld_node rfl _ rfl X6 rfl HL.out.2.2.1 ?_) | (refine ld_node rfl _ rfl X2 rfl HL.out.2.1.1.1 ?_))
                                refine (eqn_yes b6 b0 dd wc HDD.out HL.out.2.2.2.1.nv HL.out.2.1.1.2.1.nv).mono ?_
                                rintro e w17 ⟨rfl, c1⟩
                                have HM : Hid (YM w w17 a d am dm ∧ GN w17 X4 B4 b4 dd (mkN dd 1)) := ⟨HL.out.1.b c1, HL.out.2.1.2.1.b c1⟩
                                clear c1 HL
                                as_aux_lemma =>
                                  go_wp2_with (refine ld_node rfl _ rfl X4 rfl HM.out.2.1 ?_)
                                  refine (hheld2.out w17 HM.out.2.2.nv).mono ?_
                                  rintro e w18 ⟨rfl, c1⟩
                                  have HZ : Hid (Below w.heap.size w w18) := (HM.out.1.b c1).1
                                  clear c1 HM hheld2
                                  go_wp2
                                  go_ret
                                  exact ⟨rfl, HZ.out⟩

set_option maxRecDepth 100000 in
theorem contract (H : Type) (enc : TypeId × Value → H) (W : World) (base : Nat) (args : Array Value) (ds gs : List (DataW H)) (before : List MemPlace)
    (hval : ∀ (j : Nat) t v, Tryz.f4.params[j]? = some t → args[j]? = some v → Value.okWide Tryz.prog W .any base t v)
    (hW : DataW.Whole enc Tryz.prog Tryz.f4.params.toList Rows.fnExactKeepSpec.vars false W args.toList ds gs before) (hL0 : laidMetH Tryz.prog Rows.fnExactKeepRow.laid W) :
    Calls Tryz.prog 4 args W fun e W' => ∃ v, e = .returned v ∧ Rows.fnExactKeepSpec.post enc Tryz.prog Tryz.f4 false true false false W args v W' := by
  have hW' := hW
  obtain ⟨p, q, hA0, hV, rfl, hfz, hnd⟩ := hW
  have hAll : DataW.TrodAll enc Tryz.prog W 0 (fun _ => true) true Tryz.f4.params.toList args.toList ds p := hA0
  rw [Tryz.params4] at hAll hval
  obtain ⟨v0, vs0, d0, ds0, p0, q0, hargs0, rfl, rfl, h0, r0⟩ := trodAll_cons hAll
  obtain ⟨v1, vs1, d1, ds1, p1, q1, hargs1, rfl, rfl, h1, r1⟩ := trodAll_cons r0
  obtain ⟨rfl, rfl, rfl⟩ := trodAll_nil r1
  obtain rfl : args = #[v0, v1] := by cases args; simp_all
  obtain ⟨rfl, rfl⟩ := trodVars_none hV
  have k0 := h0
  have lt0 : ∀ x ∈ p0, x.block < W.heap.size := by obtain ⟨m, hm⟩ := k0; exact DataW.trod_lt m _ _ _ hm
  obtain ⟨cs0, rfl, _⟩ := okWide_struct Tryz.underlying39 (hval 0 39 v0 rfl rfl)
  obtain ⟨a, d, hcs0, hv, hw⟩ : ∃ (a : Na) (d : Nd), cs0 = nds a d ∧ NV W a d ∧ NBw d := by
    obtain ⟨fuel, hf⟩ := h0
    obtain ⟨a, d, e, h1, h2⟩ := open_node hf
    refine ⟨a, d, ?_, h1, h2⟩
    obtain ⟨l⟩ := cs0
    simpa [Value.cells, nds] using e
  subst hcs0
  have k1 := h1
  have lt1 : ∀ x ∈ p1, x.block < W.heap.size := by obtain ⟨m, hm⟩ := k1; exact DataW.trod_lt m _ _ _ hm
  obtain ⟨cs1, rfl, _⟩ := okWide_struct Tryz.underlying36 (hval 1 36 v1 rfl rfl)
  obtain ⟨go, bo, gc, bc, g, n, L, fi, ol, he, la, hcs1, hvm, hgl, hnm, hLm⟩ : ∃ (go bo : Option Addr) (gc bc : Nat) (g : List Int) (n : Nat) (L : Nat → List Int) (fi ol he : Bool) (la : Int), cs1 = #[.slice go g.length gc, .slice bo n bc, .bool fi, .bool ol, .bool he, .int .i64 la] ∧ MV W go gc bo bc g n L ∧ g.length ≤ 9223372036854775807 ∧ n ≤ 9223372036854775807 ∧ ∀ i, i < n → (L i).length ≤ 9223372036854775807 := by
    obtain ⟨fuel, hf⟩ := h1
    obtain ⟨go, bo, gc, bc, g, n, L, fi, ol, he, la, e, h1, h2, h3, h4⟩ := open_known hf
    refine ⟨go, bo, gc, bc, g, n, L, fi, ol, he, la, ?_, h1, h2, h3, h4⟩
    obtain ⟨l⟩ := cs1
    simpa [Value.cells] using e
  subst hcs1
  clear hA0
  refine (walk a d ({ Na.zero with go := go, gc := gc, bo := bo, bc := bc } : Na) ({ Nd.zero with g := g, n := n, L := L, fi := fi, ol := ol, he := he, la := la } : Nd) W (handle hL0) hv hw hvm hgl hnm hLm).mono fun e W' ⟨he, bel⟩ => ?_
  subst he
  exact ⟨_, rfl, _, _, _, [], _, [], hW', trodAll_mk1 (shut_bool Tryz.underlying4 _), (trodAll_cons_mk (Below.trod laidOut (by kernel_rfl) (of_decide_eq_true (by kernel_rfl)) k0 bel lt0) (trodAll_cons_mk (Below.trod laidOut (by kernel_rfl) (of_decide_eq_true (by kernel_rfl)) k1 bel lt1) trodAll_mk0)), rfl, bel.frame _, fun h => by cases h⟩

/-- A world that meets the condition: the variable's cell laid. -/
def laidWorld (w0 : World) : World :=
  { w0 with heap := w0.heap.modify 0 fun
      | .cells _ t frozen => .cells #[.iface 160 (.agg #[.pointer (some ⟨1, 111, none⟩)])] t frozen
      | o => o }
theorem laid_met (os : Os) (args : Array Value) : laidMetH Tryz.prog Rows.fnExactKeepRow.laid ((laidWorld (World.holding Tryz.prog os ⟨#[], #[], []⟩)).forCall (fun _ _ => 0) ⟨#[], args, []⟩).memory :=
  laidMetH_of_parts (laidMet_nil _ _) (by kernel_rfl)
theorem reads (os : Os) {H : Type} (enc : TypeId × Value → H) : ∃ places, DataW.whole enc Tryz.prog ((laidWorld (World.holding Tryz.prog os ⟨#[], #[], []⟩)).forCall (fun _ _ => 0) ⟨#[], #[.agg #[.int .i64 0, .bool false, .bool false, .slice none 0 0, .slice none 0 0, .slice none 0 0, .bool false, .bool false, .bool false, .int .i64 0, .slice none 0 0, .slice none 0 0, .slice none 0 0, .slice none 0 0, .slice none 0 0, .slice none 0 0], .agg #[.slice none 0 0, .slice none 0 0, .bool false, .bool false, .bool false, .int .i64 0]], []⟩).memory Tryz.f4.params.toList Rows.fnExactKeepSpec.vars false #[.agg #[.int .i64 0, .bool false, .bool false, .slice none 0 0, .slice none 0 0, .slice none 0 0, .bool false, .bool false, .bool false, .int .i64 0, .slice none 0 0, .slice none 0 0, .slice none 0 0, .slice none 0 0, .slice none 0 0, .slice none 0 0], .agg #[.slice none 0 0, .slice none 0 0, .bool false, .bool false, .bool false, .int .i64 0]].toList 8 = some ([.agg [.lit (.int .i64 0), .lit (.bool false), .lit (.bool false), .nil, .agg [.nil, .nil, .lit (.bool false), .lit (.bool false), .lit (.bool false), .lit (.int .i64 0)], .agg [.nil, .nil], .nil, .nil, .nil, .nil], .agg [.nil, .nil, .lit (.bool false), .lit (.bool false), .lit (.bool false), .lit (.int .i64 0)]], [], places) :=
  ⟨[], by kernel_rfl⟩

set_option maxRecDepth 100000 in
theorem lifted (os : Os) (started : os.Started) (H : Type) (enc : TypeId × Value → H) (F : Stop.Interp) :
    ReturnsInHanded {} Tryz.checked os 4 .any ((OpenSpec.ofChange Rows.fnExactKeepSpec).preRow enc Tryz.prog Tryz.f4 Rows.fnExactKeepRow.domain false Rows.fnExactKeepRow.laid) (((OpenSpec.ofChange Rows.fnExactKeepSpec).at F).post enc Tryz.prog Tryz.f4 false true false false) := by
  obtain ⟨places, hx⟩ := reads os enc
  refine returnsInHanded_of_row (C := Tryz.checked) (s := OpenSpec.ofChange Rows.fnExactKeepSpec) own started (by kernel_rfl) Tryz.func4
    (witness_row_at (enc := enc) (C := Tryz.checked) false (laidWorld (World.holding Tryz.prog os ⟨#[], #[], []⟩)) #[.agg #[.int .i64 0, .bool false, .bool false, .slice none 0 0, .slice none 0 0, .slice none 0 0, .bool false, .bool false, .bool false, .int .i64 0, .slice none 0 0, .slice none 0 0, .slice none 0 0, .slice none 0 0, .slice none 0 0, .slice none 0 0], .agg #[.slice none 0 0, .slice none 0 0, .bool false, .bool false, .bool false, .int .i64 0]] rfl (by kernel_rfl) (by kernel_rfl) (by kernel_rfl)
      (OpenSpec.preRow_of_cond 8 hx (by kernel_rfl) (fun k hk => by cases hk) (by kernel_rfl) (laid_met os _))) ?_
  intro W base args ds gs before hval hW _ _ _ hL _ _
  exact contract H enc W base args ds gs before hval hW hL

theorem said : Rows.FnExactKeepSaid :=
  OpenClaim.holds_of_cond 4 Tryz.f4 rfl rfl rfl rfl rfl rfl rfl ⟨rfl, rfl, rfl, rfl, rfl⟩ rfl rfl rfl rfl rfl (by kernel_rfl) Tryz.func4 (by kernel_rfl)
    (of_decide_eq_true (by kernel_rfl)) (by unfold Func.isWrapper; first | (rw [if_pos (by decide +kernel)]; kernel_rfl) | (rw [if_neg (by decide +kernel)]; exact ⟨rfl, rfl⟩))
    (fun os started H enc _ F => by rw [OpenClaim.pre_eq_preRow]; exact lifted os started H enc F)

theorem plain (f : FuncId) (fn : Func) (hf : Tryz.pinned.checked.prog.funcNamed "loop.example/g00399/laws.FnExactKeep" = some f) (hfn : Tryz.pinned.checked.prog.funcs[f]? = some fn) :
    true = Tryz.pinned.checked.prog.looks [] ∧ ∀ (j : Nat) t, fn.params[j]? = some t → Tryz.pinned.checked.prog.wantsStandIn t = false := by
  obtain rfl : f = 4 := Option.some.inj ((show Tryz.prog.funcNamed "loop.example/g00399/laws.FnExactKeep" = some 4 by kernel_rfl).symm.trans hf) |>.symm
  obtain rfl : fn = Tryz.f4 := (Option.some.inj (Tryz.func4.symm.trans hfn)).symm
  refine ⟨by kernel_rfl, fun j t ht => ?_⟩
  rw [Tryz.params4] at ht
  have ht' : t = 39 ∨ t = 36 := by simpa using Array.mem_of_getElem? ht
  rcases ht' with rfl | rfl
  · exact (show Tryz.prog.wantsStandIn 39 = false by kernel_rfl)
  · exact (show Tryz.prog.wantsStandIn 36 = false by kernel_rfl)

theorem card : Rows.FnExactKeepCardSaid :=
  Claim7.holds_tied_plain_at .later [] _ _ _ _ said (fun _ h => by cases h) (by kernel_rfl) (fun _ h => by cases h) fnExactKeep_row_tie rfl ⟨rfl, rfl⟩ (by kernel_rfl) rfl plain (by kernel_rfl)
end Go.Proofs.YtcffhjpdkdaaeaaGreatDoor.fnExactKeep
namespace Go.Proofs.YtcffhjpdkdaaeaaGreatDoor
theorem fnExactKeep_card : Rows.FnExactKeepCardSaid := fnExactKeep.card
end Go.Proofs.YtcffhjpdkdaaeaaGreatDoor

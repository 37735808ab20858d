/- The walk of a law: what its body does at any argument. -/
import Derived.WalkKit
import Derived.ProofKit
import Derived.OpenShut
import Derived.ShutString
import Derived.ChangeOld
import Derived.Below
import Derived.Test.YtkndnndildnbpaaGreatDoorHe
import Derived.Test.YtkndnndildnbpaaGreatDoorHn

namespace Go.Proofs.YtkndnndildnbpaaGreatDoor.fnExactLead
open Go.ChangeShapes Go.WideShapes Go.ChangeAt Go.RowKit
set_option linter.unusedVariables false

set_option maxHeartbeats 100000000 in
set_option maxRecDepth 100000 in
theorem walk (a1 : Na) (d1 : Nd) (a2 : Na) (d2 : Nd) (q1 : Bool) (w : World) (hg : ErrL w) (hv1 : NV w a1 d1) (hw1 : NBw d1) (hv2 : NV w a2 d2) (hw2 : NBw d2)  :
    Calls Tryz.prog 12 #[nv a1 d1, nv a2 d2, .bool q1] w fun e w' => e = .returned (.bool true) ∧ Below w.heap.size w w' := by
  obtain ⟨W0, hW0⟩ : ∃ W0, W0 = (w.alloc (.cells (nds a1 d1) 39)).alloc (.cells (nds a2 d2) 39) := ⟨_, rfl⟩
  have HA : Hid (Y2 w W0 a1 a2 d1 d2) := by rw [hW0]; exact Y2.new _ _ _ _ _
  have HV : Hid (∀ V, Below w.heap.size w V → NV V a1 d1 ∧ NV V a2 d2 ∧ ErrL V) := fun V hb => ⟨hv1.below hb, hv2.below hb, hg.below hb⟩
  have HW : Hid (NBw d1 ∧ NBw d2) := ⟨hw1, hw2⟩
  clear hg hv1 hw1 hv2 hw2
  unfold nv
  unfold nds at hW0 ⊢
  go_enter Tryz.func12, Tryz.ntmps12
  go_upto_region 1 with fail
  rw [← hW0]
  clear hW0
  generalize Value.agg #[.int .i64 d1.id, .bool d1.up, .bool d1.pr, .slice a1.im d1.im.length a1.imc, .slice a1.go d1.g.length a1.gc, .slice a1.bo d1.n a1.bc, .bool d1.fi, .bool d1.ol, .bool d1.he, .int .i64 d1.la, .slice a1.aA d1.A.length a1.cA, .slice a1.aB d1.C.length a1.cB, .slice a1.co d1.co.length a1.coc, .slice a1.so d1.m a1.sc, .slice a1.cp d1.cp.length a1.cpc, .slice a1.wt d1.wt.length a1.wtc] = vn1 at *
  generalize Value.agg #[.int .i64 d2.id, .bool d2.up, .bool d2.pr, .slice a2.im d2.im.length a2.imc, .slice a2.go d2.g.length a2.gc, .slice a2.bo d2.n a2.bc, .bool d2.fi, .bool d2.ol, .bool d2.he, .int .i64 d2.la, .slice a2.aA d2.A.length a2.cA, .slice a2.aB d2.C.length a2.cB, .slice a2.co d2.co.length a2.coc, .slice a2.so d2.m a2.sc, .slice a2.cp d2.cp.length a2.cpc, .slice a2.wt d2.wt.length a2.wtc] = vn2 at *
  go_wp2_with (refine ld_nodel rfl _ rfl w.heap.size rfl HA.out.2.1 ?_)
  refine (szn_any a1 d1 1048576 W0 HW.out.1 (by omega) (by omega) (HV.out _ HA.out.1).1).mono ?_
  rintro e y1 ⟨hs, bs⟩
  have H0 := hide (HA.out.b bs)
  clear bs HA
  rcases hs with ⟨hle, rfl⟩ | rfl
  case inr =>
    go_wp2
    go_ret
    exact ⟨rfl, H0.out.1⟩
  obtain ⟨x1, hx1⟩ : ∃ x1, x1 = (1048576 : Int) - ntot d1 := ⟨_, rfl⟩
  rw [← hx1]
  have hnn := kntot_nn d1
  have hx0 : 0 ≤ x1 := by omega
  have hx2 : x1 ≤ 1048576 := by omega
  have hx3 : ¬ x1 < 0 := by omega
  have HL1 : Hid (ntot d1 ≤ 1048576) := hle
  clear hle hx1 hnn
  as_aux_lemma =>
    go_wp2_with (refine ld_nodel rfl _ rfl (w.heap.size + 1) rfl H0.out.2.2 ?_)
    refine (szn_any a2 d2 x1 y1 HW.out.2 hx0 hx2 (HV.out _ H0.out.1).2.1).mono ?_
    rintro e ws ⟨hs, bs⟩
    have H1 := hide (H0.out.b bs)
    clear bs H0 HW
    rcases hs with ⟨hle, rfl⟩ | rfl
    case inr =>
      go_wp2
      go_ret
      exact ⟨rfl, H1.out.1⟩
    have HL : Hid (ntot d1 ≤ 1048576 ∧ ntot d2 ≤ 1048576) := ⟨HL1.out, by omega⟩
    have HD : Hid (NBd d1 ∧ NBd d2) := ⟨nbd_of HL.out.1, nbd_of HL.out.2⟩
    have hkd : ¬ x1 - ntot d2 < 0 := by omega
    generalize hT0 : ntot d2 = t2 at hkd hle ⊢
    clear hT0 hle HL1 hx0 hx2 hx3
    have HTT : Hid (ntot (pick Classical.propDecidable (MlC d1 d2 q1) (ldn d1) d1) ≤ 1048576) := ntot_ld HL.out.1
    have HDD : Hid (NBd (pick Classical.propDecidable (MlC d1 d2 q1) (ldn d1) d1)) := nbd_of HTT.out
    have hS : Hid (∀ (V : World) (b1 b2 : Na), NV V b1 d1 → NV V b2 d2 → NNC b1 → Calls Tryz.prog 45 #[nv b1 d1, nv b2 d2, .bool q1] V fun e w' => ∃ c, e = .returned (.tuple #[nv c (pick Classical.propDecidable (MlC d1 d2 q1) (ldn d1) d1), .bool (dcd Classical.propDecidable (MlC d1 d2 q1))]) ∧ RN w' V.heap.size w'.heap.size c (pick Classical.propDecidable (MlC d1 d2 q1) (ldn d1) d1) ∧ Below V.heap.size V w') := fun V b1 b2 h1 h2 h3 => lead_s b1 b2 d1 d2 q1 V HD.out.1 HD.out.2 h1 h2 h3
    have hI : Hid (∀ (V : World) (b1 b2 : Na), ErrL V → NV V b1 d1 → NV V b2 d2 → NNC b1 → Calls Tryz.prog 46 #[nv b1 d1, nv b2 d2, .bool q1] V fun e w' => ∃ c, e = .returned (.tuple #[nv c (pick Classical.propDecidable (MlC d1 d2 q1) (ldn d1) d1), .bool (dcd Classical.propDecidable (MlC d1 d2 q1))]) ∧ ON w' V.heap.size w'.heap.size c (pick Classical.propDecidable (MlC d1 d2 q1) (ldn d1) d1) ∧ Below V.heap.size V w') := fun V b1 b2 hg h1 h2 h3 => lead_i b1 b2 d1 d2 q1 V hg HD.out.1 HD.out.2 h1 h2 h3
    generalize (pick Classical.propDecidable (MlC d1 d2 q1) (ldn d1) d1) = dd at *
    generalize (dcd Classical.propDecidable (MlC d1 d2 q1)) = qq at *
    have hq1 : (qq != qq) = false := by cases qq <;> rfl
    have hq2 : (qq == qq) = true := by cases qq <;> rfl
    as_aux_lemma =>
      go_upto_region 8 with fail
      clear hkd
      obtain ⟨BB, hBB⟩ : ∃ BB, BB = ws.heap.size := ⟨_, rfl⟩
      have HBB : Hid (w.heap.size + 1 < BB) := by rw [hBB]; exact H1.out.2.2.lt
      have HK : Hid (Y2 w ws.drew a1 a2 d1 d2 ∧ BB ≤ ws.drew.heap.size) := by rw [hBB]; exact ⟨H1.out.b (kdrew ws), Nat.le_refl _⟩
      have HRS : Hid True := trivial
      clear hBB H1
      go_cut [8, 9] from 10 (fun y q wc => ∃ Y b2, y = .pointer (some ⟨Y, 0, none⟩) ∧ q = .bool qq ∧ Hid (Y2 w wc a1 a2 d1 d2 ∧ M3 wc Y BB wc.heap.size b2 dd))
      case first =>
        refine wp_region_held_drew (S := (fun w' => NB w' w.heap.size 39 a1 d1 ∧ NB w' (w.heap.size + 1) 39 a2 d2)) (by kernel_rfl) ?_ (fun hHeld => ?_)
        · exact ⟨HK.out.1.2.1, HK.out.1.2.2⟩
        refine wpAnyH_take (i := 0) (oi := { dst := some 30, op := Op.load 39 (Operand.tmp 3), type := 39, pos := "exact.go:3604", after := #[], guard := none }) (v := nv a1 d1) rfl (by kernel_rfl) (by kernel_rfl) (by kernel_rfl) (fun _ _ _ h => h) (yieldsIf_load_mid (by rfl) _ _ rfl w.heap.size 0 rfl (nds a1 d1).toList _ (fun wq hSw => range_of hSw.1 rfl) Tryz.underlying39 rfl (by kernel_rfl)) (by assumption) ?_
        try simp only [Act.put, ly1, ly2, ly3]
        refine wpAnyH_take (i := 2) (oi := { dst := some 32, op := Op.load 39 (Operand.tmp 4), type := 39, pos := "exact.go:3604", after := #[], guard := none }) (v := nv a2 d2) rfl (by kernel_rfl) (by kernel_rfl) (by kernel_rfl) (fun _ _ _ h => h) (yieldsIf_load_mid (by rfl) _ _ rfl (w.heap.size + 1) 0 rfl (nds a2 d2).toList _ (fun wq hSw => range_of hSw.2 rfl) Tryz.underlying39 rfl (by kernel_rfl)) (by assumption) ?_
        try simp only [Act.put, ly1, ly2, ly3]
        refine wpAnyH_take (i := 4) (oi := { dst := some 34, op := Op.move (Operand.tmp 2), type := 4, pos := "exact.go:3604", after := #[], guard := none }) (v := ?_) rfl (by kernel_rfl) (by kernel_rfl) (by kernel_rfl) (fun _ _ _ h => h) (Or.inl ⟨by rfl, ?_⟩) (by assumption) ?_
        rotate_left 1
        · (intro wq hSw; (try dsimp only at hSw); go_simp; try with_reducible rfl)
        try simp only [Act.put, ly1, ly2, ly3]
        refine wpAnyH_ready (rs := [1, 9]) (by kernel_rfl) (by simp) ?_
        refine AllReadyH.cons (o := { dst := some 31, op := Op.call { callee := Callee.value (Operand.func 22), args := #[Operand.tmp 30], argTypes := #[39] }, type := 31, pos := "exact.go:3604", after := #[{ on := 0, ground := Ground.data }], guard := none }) rfl (fun K hK => ?_) ?_
        · go_simp
          refine (ton_any a1 d1 ws.drew HD.out.1 (HV.out _ HK.out.1.1).1).mono ?_
          rintro e x1 ⟨b1, rfl, o1, c1⟩
          have HK := hide (show Y2 w x1 a1 a2 d1 d2 ∧ BB ≤ x1.heap.size from ⟨HK.out.1.b (c1), Nat.le_trans HK.out.2 (c1).size⟩)
          have HRS := hide (show True from trivial)
          have HN := hide (show NV x1 b1 d1 ∧ NNC b1 from ⟨o1.nv, o1.2.1⟩)
          clear o1 c1
          go_wp2_with fail
          refine hK.out _ _ ?_ (fun hHeld => ?_)
          · exact ⟨HK.out.1.2.1, HK.out.1.2.2⟩
          clear hK K
          try simp only [Act.put, ly1, ly2, ly3]
          refine wpAnyH_ready (rs := [3, 9]) (by kernel_rfl) (by simp) ?_
          refine AllReadyH.cons (o := { dst := some 33, op := Op.call { callee := Callee.value (Operand.func 22), args := #[Operand.tmp 32], argTypes := #[39] }, type := 31, pos := "exact.go:3604", after := #[{ on := 2, ground := Ground.data }, { on := 1, ground := Ground.chain }], guard := none }) rfl (fun K hK => ?_) ?_
          · go_simp
            refine (ton_any a2 d2 x1 HD.out.2 (HV.out _ HK.out.1.1).2.1).mono ?_
            rintro e x2 ⟨bm, rfl, o1, c1⟩
            have HK := hide (show Y2 w x2 a1 a2 d1 d2 ∧ BB ≤ x2.heap.size from ⟨HK.out.1.b (c1), Nat.le_trans HK.out.2 (c1).size⟩)
            have HRS := hide (show True from trivial)
            have HN := hide (show (NV x2 b1 d1 ∧ NNC b1) ∧ NV x2 bm d2 from ⟨⟨HN.out.1.below c1, HN.out.2⟩, o1.nv⟩)
            clear o1 c1
            go_wp2_with fail
            refine hK.out _ _ ?_ (fun hHeld => ?_)
            · exact ⟨HK.out.1.2.1, HK.out.1.2.2⟩
            clear hK K
            try simp only [Act.put, ly1, ly2, ly3]
            refine wpAnyH_ready (rs := [5, 9]) (by kernel_rfl) (by simp) ?_
            refine AllReadyH.cons (o := { dst := some 35, op := Op.call { callee := Callee.value (Operand.func 45), args := #[Operand.tmp 31, Operand.tmp 33, Operand.tmp 34], argTypes := #[31, 31, 4] }, type := 68, pos := "exact.go:3604", after := #[{ on := 1, ground := Ground.data }, { on := 3, ground := Ground.data }, { on := 4, ground := Ground.data }, { on := 3, ground := Ground.chain }], guard := none }) rfl (fun K hK => ?_) ?_
            · go_simp
              have HK0 := HK.out.2
              refine (hS.out x2 b1 bm HN.out.1.1 HN.out.2 HN.out.1.2).mono ?_
              rintro e x3 ⟨b2, rfl, o1, c1⟩
              have HK := hide (show Y2 w x3 a1 a2 d1 d2 ∧ BB ≤ x3.heap.size from ⟨HK.out.1.b (c1), Nat.le_trans HK.out.2 (c1).size⟩)
              have HRS := hide (show True from trivial)
              have HC : Hid (RN x3 BB x3.heap.size b2 dd) := (o1).wider HK0 (Nat.le_refl _) (Nat.le_refl _)
              clear o1 c1 HN
              go_wp2_with fail
              refine hK.out _ _ ?_ (fun hHeld => ?_)
              · exact ⟨HK.out.1.2.1, HK.out.1.2.2⟩
              clear hK K
              try simp only [Act.put, ly1, ly2, ly3]
              refine wpAnyH_take (i := 6) (oi := { dst := some 29, op := Op.move (Operand.tmp 35), type := 68, pos := "exact.go:3604", after := #[{ on := 5, ground := Ground.data }], guard := none }) (v := ?_) rfl (by kernel_rfl) (by kernel_rfl) (by kernel_rfl) (fun _ _ _ h => h) (Or.inl ⟨by rfl, ?_⟩) (by assumption) ?_
              rotate_left 1
              · (intro wq hSw; (try dsimp only at hSw); go_simp; try with_reducible rfl)
              try simp only [Act.put, ly1, ly2, ly3]
              refine wpAnyH_take (i := 7) (oi := { dst := some 36, op := Op.extract (Operand.tmp 29) 0, type := 31, pos := "exact.go:3604", after := #[{ on := 6, ground := Ground.data }], guard := none }) (v := ?_) rfl (by kernel_rfl) (by kernel_rfl) (by kernel_rfl) (fun _ _ _ h => h) (Or.inl ⟨by rfl, ?_⟩) (by assumption) ?_
              rotate_left 1
              · (intro wq hSw; (try dsimp only at hSw); go_simp; try with_reducible rfl)
              try simp only [Act.put, ly1, ly2, ly3]
              refine wpAnyH_take (i := 8) (oi := { dst := some 37, op := Op.extract (Operand.tmp 29) 1, type := 4, pos := "exact.go:3604", after := #[{ on := 6, ground := Ground.data }, { on := 10, ground := Ground.gcOnly Departure.lateStores }], guard := none }) (v := ?_) rfl (by kernel_rfl) (by kernel_rfl) (by kernel_rfl) (fun _ _ _ h => h) (Or.inl ⟨by rfl, ?_⟩) (by assumption) ?_
              rotate_left 1
              · (intro wq hSw; (try dsimp only at hSw); go_simp; try with_reducible rfl)
              try simp only [Act.put, ly1, ly2, ly3]
              refine wpAnyH_ready (rs := [9]) (by kernel_rfl) (by simp) ?_
              refine AllReadyH.cons (o := { dst := some 8, op := Op.alloc 31, type := 0, pos := "exact.go:3604", after := #[], guard := none }) rfl (fun K hK => ?_) AllReadyH.nil
              go_simp
              obtain ⟨x4, hwy⟩ : ∃ wy, wy = x3.alloc (.cells (nds Na.zero Nd.zero) 31) := ⟨_, rfl⟩
              have bx : Hid (Below x3.heap.size x3 x4) := by rw [hwy]; exact bal1 _ _
              have HY : Hid (NB x4 x3.heap.size 31 Na.zero Nd.zero ∧ BB ≤ x3.heap.size) := ⟨by rw [hwy]; exact NB.new _ _ _ _, HK.out.2⟩
              unfold nds Na.zero Nd.zero at hwy
              dsimp only [List.length_nil] at hwy
              rw [← hwy]
              clear hwy
              obtain ⟨Y, hYe⟩ : ∃ Y, Y = x3.heap.size := ⟨_, rfl⟩
              rw [← hYe] at HY ⊢
              have HK := hide (show Y2 w x4 a1 a2 d1 d2 ∧ BB ≤ x4.heap.size from ⟨HK.out.1.b (bx.out), Nat.le_trans HK.out.2 (bx.out).size⟩)
              have HRS := hide (show True from trivial)
              have HC := hide (rn_up3 HC.out bx.out)
              clear bx hYe
              refine hK.out _ _ ?_ (fun hHeld => ?_)
              · exact ⟨HK.out.1.2.1, HK.out.1.2.2⟩
              clear hK K
              try simp only [Act.put, ly1, ly2, ly3]
              refine wpAnyH_ready (rs := [10]) (by kernel_rfl) (by simp) ?_
              refine AllReadyH.cons (o := { dst := none, op := Op.store 31 (Operand.tmp 8) (Operand.tmp 36), type := 0, pos := "exact.go:3604", after := #[{ on := 9, ground := Ground.data }, { on := 7, ground := Ground.data }, { on := 5, ground := Ground.chain }, { on := 0, ground := Ground.phase }, { on := 1, ground := Ground.phase }, { on := 2, ground := Ground.phase }, { on := 3, ground := Ground.phase }, { on := 4, ground := Ground.phase }, { on := 5, ground := Ground.phase }, { on := 6, ground := Ground.phase }, { on := 7, ground := Ground.phase }, { on := 8, ground := Ground.textOnly Departure.lateStores }, { on := 9, ground := Ground.phase }], guard := none }) rfl (fun K hK => ?_) AllReadyH.nil
              refine step_if (by rfl) (st_node_wp _ _ rfl rfl Y b2 dd rfl rfl HY.out.1 (fun G hG hnG => ?_))
              have HK := hide (HK.out.1.far hG (by have := HBB.out; have := HY.out.2; omega))
              have HRS := hide (show True from trivial)
              have HF := hide (show M3 G Y BB G.heap.size b2 dd from ⟨hnG, by rw [hG.2.1]; exact rn_beside3 HC.out HY.out.1 hG, hnG.lt⟩)
              refine hK.out _ _ ?_ (fun hHeld => ?_)
              · exact ⟨HK.out.2.1, HK.out.2.2⟩
              clear hK K
              try simp only [Act.put, ly1, ly2, ly3]
              refine wpAnyH_take (i := 11) (oi := { dst := some 9, op := Op.assign (Operand.tmp 37), type := 4, pos := "exact.go:3604", after := #[{ on := 8, ground := Ground.data }, { on := 10, ground := Ground.chain }, { on := 0, ground := Ground.phase }, { on := 1, ground := Ground.phase }, { on := 2, ground := Ground.phase }, { on := 3, ground := Ground.phase }, { on := 4, ground := Ground.phase }, { on := 5, ground := Ground.phase }, { on := 6, ground := Ground.phase }, { on := 7, ground := Ground.phase }, { on := 8, ground := Ground.phase }, { on := 9, ground := Ground.phase }, { on := 10, ground := Ground.phase }], guard := none }) (v := ?_) rfl (by kernel_rfl) (by kernel_rfl) (by kernel_rfl) (fun _ _ _ h => h) (Or.inl ⟨by rfl, ?_⟩) (by assumption) ?_
              rotate_left 1
              · (intro wq hSw; (try dsimp only at hSw); go_simp; try with_reducible rfl)
              try simp only [Act.put, ly1, ly2, ly3]
              refine wpAnyH_done (by kernel_rfl) ?_ _
              go_wp2_with fail
              go_meet
              case rel => exact ⟨Y, b2, rfl, rfl, HK.out, HF.out⟩
            refine AllReadyH.cons (o := { dst := some 8, op := Op.alloc 31, type := 0, pos := "exact.go:3604", after := #[], guard := none }) rfl (fun K hK => ?_) AllReadyH.nil
            · go_simp
              obtain ⟨x5, hwy⟩ : ∃ wy, wy = x2.alloc (.cells (nds Na.zero Nd.zero) 31) := ⟨_, rfl⟩
              have bx : Hid (Below x2.heap.size x2 x5) := by rw [hwy]; exact bal1 _ _
              have HY : Hid (NB x5 x2.heap.size 31 Na.zero Nd.zero ∧ BB ≤ x2.heap.size) := ⟨by rw [hwy]; exact NB.new _ _ _ _, HK.out.2⟩
              unfold nds Na.zero Nd.zero at hwy
              dsimp only [List.length_nil] at hwy
              rw [← hwy]
              clear hwy
              obtain ⟨Y, hYe⟩ : ∃ Y, Y = x2.heap.size := ⟨_, rfl⟩
              rw [← hYe] at HY ⊢
              have HK := hide (show Y2 w x5 a1 a2 d1 d2 ∧ BB ≤ x5.heap.size from ⟨HK.out.1.b (bx.out), Nat.le_trans HK.out.2 (bx.out).size⟩)
              have HRS := hide (show True from trivial)
              have HN := hide (show (NV x5 b1 d1 ∧ NNC b1) ∧ NV x5 bm d2 from ⟨⟨HN.out.1.1.below bx.out, HN.out.1.2⟩, HN.out.2.below bx.out⟩)
              clear bx hYe
              refine hK.out _ _ ?_ (fun hHeld => ?_)
              · exact ⟨HK.out.1.2.1, HK.out.1.2.2⟩
              clear hK K
              try simp only [Act.put, ly1, ly2, ly3]
              refine wpAnyH_ready (rs := [5]) (by kernel_rfl) (by simp) ?_
              refine AllReadyH.cons (o := { dst := some 35, op := Op.call { callee := Callee.value (Operand.func 45), args := #[Operand.tmp 31, Operand.tmp 33, Operand.tmp 34], argTypes := #[31, 31, 4] }, type := 68, pos := "exact.go:3604", after := #[{ on := 1, ground := Ground.data }, { on := 3, ground := Ground.data }, { on := 4, ground := Ground.data }, { on := 3, ground := Ground.chain }], guard := none }) rfl (fun K hK => ?_) AllReadyH.nil
              go_simp
              have HK0 := HK.out.2
              refine (hS.out x5 b1 bm HN.out.1.1 HN.out.2 HN.out.1.2).mono ?_
              rintro e x6 ⟨b2, rfl, o1, c1⟩
              have HK := hide (show Y2 w x6 a1 a2 d1 d2 ∧ BB ≤ x6.heap.size from ⟨HK.out.1.b (c1), Nat.le_trans HK.out.2 (c1).size⟩)
              have HRS := hide (show True from trivial)
              have HY := hide (show NB x6 Y 31 Na.zero Nd.zero ∧ BB ≤ Y from ⟨HY.out.1.b (c1), HY.out.2⟩)
              have HC : Hid (RN x6 BB x6.heap.size b2 dd) := (o1).wider HK0 (Nat.le_refl _) (Nat.le_refl _)
              clear o1 c1 HN
              go_wp2_with fail
              refine hK.out _ _ ?_ (fun hHeld => ?_)
              · exact ⟨HK.out.1.2.1, HK.out.1.2.2⟩
              clear hK K
              try simp only [Act.put, ly1, ly2, ly3]
              refine wpAnyH_take (i := 6) (oi := { dst := some 29, op := Op.move (Operand.tmp 35), type := 68, pos := "exact.go:3604", after := #[{ on := 5, ground := Ground.data }], guard := none }) (v := ?_) rfl (by kernel_rfl) (by kernel_rfl) (by kernel_rfl) (fun _ _ _ h => h) (Or.inl ⟨by rfl, ?_⟩) (by assumption) ?_
              rotate_left 1
              · (intro wq hSw; (try dsimp only at hSw); go_simp; try with_reducible rfl)
              try simp only [Act.put, ly1, ly2, ly3]
              refine wpAnyH_take (i := 7) (oi := { dst := some 36, op := Op.extract (Operand.tmp 29) 0, type := 31, pos := "exact.go:3604", after := #[{ on := 6, ground := Ground.data }], guard := none }) (v := ?_) rfl (by kernel_rfl) (by kernel_rfl) (by kernel_rfl) (fun _ _ _ h => h) (Or.inl ⟨by rfl, ?_⟩) (by assumption) ?_
              rotate_left 1
              · (intro wq hSw; (try dsimp only at hSw); go_simp; try with_reducible rfl)
              try simp only [Act.put, ly1, ly2, ly3]
              refine wpAnyH_take (i := 8) (oi := { dst := some 37, op := Op.extract (Operand.tmp 29) 1, type := 4, pos := "exact.go:3604", after := #[{ on := 6, ground := Ground.data }, { on := 10, ground := Ground.gcOnly Departure.lateStores }], guard := none }) (v := ?_) rfl (by kernel_rfl) (by kernel_rfl) (by kernel_rfl) (fun _ _ _ h => h) (Or.inl ⟨by rfl, ?_⟩) (by assumption) ?_
              rotate_left 1
              · (intro wq hSw; (try dsimp only at hSw); go_simp; try with_reducible rfl)
              try simp only [Act.put, ly1, ly2, ly3]
              refine wpAnyH_ready (rs := [10]) (by kernel_rfl) (by simp) ?_
              refine AllReadyH.cons (o := { dst := none, op := Op.store 31 (Operand.tmp 8) (Operand.tmp 36), type := 0, pos := "exact.go:3604", after := #[{ on := 9, ground := Ground.data }, { on := 7, ground := Ground.data }, { on := 5, ground := Ground.chain }, { on := 0, ground := Ground.phase }, { on := 1, ground := Ground.phase }, { on := 2, ground := Ground.phase }, { on := 3, ground := Ground.phase }, { on := 4, ground := Ground.phase }, { on := 5, ground := Ground.phase }, { on := 6, ground := Ground.phase }, { on := 7, ground := Ground.phase }, { on := 8, ground := Ground.textOnly Departure.lateStores }, { on := 9, ground := Ground.phase }], guard := none }) rfl (fun K hK => ?_) AllReadyH.nil
              refine step_if (by rfl) (st_node_wp _ _ rfl rfl Y b2 dd rfl rfl HY.out.1 (fun G hG hnG => ?_))
              have HK := hide (HK.out.1.far hG (by have := HBB.out; have := HY.out.2; omega))
              have HRS := hide (show True from trivial)
              have HF := hide (show M3 G Y BB G.heap.size b2 dd from ⟨hnG, by rw [hG.2.1]; exact rn_beside3 HC.out HY.out.1 hG, hnG.lt⟩)
              refine hK.out _ _ ?_ (fun hHeld => ?_)
              · exact ⟨HK.out.2.1, HK.out.2.2⟩
              clear hK K
              try simp only [Act.put, ly1, ly2, ly3]
              refine wpAnyH_take (i := 11) (oi := { dst := some 9, op := Op.assign (Operand.tmp 37), type := 4, pos := "exact.go:3604", after := #[{ on := 8, ground := Ground.data }, { on := 10, ground := Ground.chain }, { on := 0, ground := Ground.phase }, { on := 1, ground := Ground.phase }, { on := 2, ground := Ground.phase }, { on := 3, ground := Ground.phase }, { on := 4, ground := Ground.phase }, { on := 5, ground := Ground.phase }, { on := 6, ground := Ground.phase }, { on := 7, ground := Ground.phase }, { on := 8, ground := Ground.phase }, { on := 9, ground := Ground.phase }, { on := 10, ground := Ground.phase }], guard := none }) (v := ?_) rfl (by kernel_rfl) (by kernel_rfl) (by kernel_rfl) (fun _ _ _ h => h) (Or.inl ⟨by rfl, ?_⟩) (by assumption) ?_
              rotate_left 1
              · (intro wq hSw; (try dsimp only at hSw); go_simp; try with_reducible rfl)
              try simp only [Act.put, ly1, ly2, ly3]
              refine wpAnyH_done (by kernel_rfl) ?_ _
              go_wp2_with fail
              go_meet
              case rel => exact ⟨Y, b2, rfl, rfl, HK.out, HF.out⟩
          refine AllReadyH.cons (o := { dst := some 8, op := Op.alloc 31, type := 0, pos := "exact.go:3604", after := #[], guard := none }) rfl (fun K hK => ?_) AllReadyH.nil
          · go_simp
            obtain ⟨x7, hwy⟩ : ∃ wy, wy = x1.alloc (.cells (nds Na.zero Nd.zero) 31) := ⟨_, rfl⟩
            have bx : Hid (Below x1.heap.size x1 x7) := by rw [hwy]; exact bal1 _ _
            have HY : Hid (NB x7 x1.heap.size 31 Na.zero Nd.zero ∧ BB ≤ x1.heap.size) := ⟨by rw [hwy]; exact NB.new _ _ _ _, HK.out.2⟩
            unfold nds Na.zero Nd.zero at hwy
            dsimp only [List.length_nil] at hwy
            rw [← hwy]
            clear hwy
            obtain ⟨Y, hYe⟩ : ∃ Y, Y = x1.heap.size := ⟨_, rfl⟩
            rw [← hYe] at HY ⊢
            have HK := hide (show Y2 w x7 a1 a2 d1 d2 ∧ BB ≤ x7.heap.size from ⟨HK.out.1.b (bx.out), Nat.le_trans HK.out.2 (bx.out).size⟩)
            have HRS := hide (show True from trivial)
            have HN := hide (show NV x7 b1 d1 ∧ NNC b1 from ⟨HN.out.1.below bx.out, HN.out.2⟩)
            clear bx hYe
            refine hK.out _ _ ?_ (fun hHeld => ?_)
            · exact ⟨HK.out.1.2.1, HK.out.1.2.2⟩
            clear hK K
            try simp only [Act.put, ly1, ly2, ly3]
            refine wpAnyH_ready (rs := [3]) (by kernel_rfl) (by simp) ?_
            refine AllReadyH.cons (o := { dst := some 33, op := Op.call { callee := Callee.value (Operand.func 22), args := #[Operand.tmp 32], argTypes := #[39] }, type := 31, pos := "exact.go:3604", after := #[{ on := 2, ground := Ground.data }, { on := 1, ground := Ground.chain }], guard := none }) rfl (fun K hK => ?_) AllReadyH.nil
            go_simp
            refine (ton_any a2 d2 x7 HD.out.2 (HV.out _ HK.out.1.1).2.1).mono ?_
            rintro e x8 ⟨bm, rfl, o1, c1⟩
            have HK := hide (show Y2 w x8 a1 a2 d1 d2 ∧ BB ≤ x8.heap.size from ⟨HK.out.1.b (c1), Nat.le_trans HK.out.2 (c1).size⟩)
            have HRS := hide (show True from trivial)
            have HY := hide (show NB x8 Y 31 Na.zero Nd.zero ∧ BB ≤ Y from ⟨HY.out.1.b (c1), HY.out.2⟩)
            have HN := hide (show (NV x8 b1 d1 ∧ NNC b1) ∧ NV x8 bm d2 from ⟨⟨HN.out.1.below c1, HN.out.2⟩, o1.nv⟩)
            clear o1 c1
            go_wp2_with fail
            refine hK.out _ _ ?_ (fun hHeld => ?_)
            · exact ⟨HK.out.1.2.1, HK.out.1.2.2⟩
            clear hK K
            try simp only [Act.put, ly1, ly2, ly3]
            refine wpAnyH_ready (rs := [5]) (by kernel_rfl) (by simp) ?_
            refine AllReadyH.cons (o := { dst := some 35, op := Op.call { callee := Callee.value (Operand.func 45), args := #[Operand.tmp 31, Operand.tmp 33, Operand.tmp 34], argTypes := #[31, 31, 4] }, type := 68, pos := "exact.go:3604", after := #[{ on := 1, ground := Ground.data }, { on := 3, ground := Ground.data }, { on := 4, ground := Ground.data }, { on := 3, ground := Ground.chain }], guard := none }) rfl (fun K hK => ?_) AllReadyH.nil
            go_simp
            have HK0 := HK.out.2
            refine (hS.out x8 b1 bm HN.out.1.1 HN.out.2 HN.out.1.2).mono ?_
            rintro e x9 ⟨b2, rfl, o1, c1⟩
            have HK := hide (show Y2 w x9 a1 a2 d1 d2 ∧ BB ≤ x9.heap.size from ⟨HK.out.1.b (c1), Nat.le_trans HK.out.2 (c1).size⟩)
            have HRS := hide (show True from trivial)
            have HY := hide (show NB x9 Y 31 Na.zero Nd.zero ∧ BB ≤ Y from ⟨HY.out.1.b (c1), HY.out.2⟩)
            have HC : Hid (RN x9 BB x9.heap.size b2 dd) := (o1).wider HK0 (Nat.le_refl _) (Nat.le_refl _)
            clear o1 c1 HN
            go_wp2_with fail
            refine hK.out _ _ ?_ (fun hHeld => ?_)
            · exact ⟨HK.out.1.2.1, HK.out.1.2.2⟩
            clear hK K
            try simp only [Act.put, ly1, ly2, ly3]
            refine wpAnyH_take (i := 6) (oi := { dst := some 29, op := Op.move (Operand.tmp 35), type := 68, pos := "exact.go:3604", after := #[{ on := 5, ground := Ground.data }], guard := none }) (v := ?_) rfl (by kernel_rfl) (by kernel_rfl) (by kernel_rfl) (fun _ _ _ h => h) (Or.inl ⟨by rfl, ?_⟩) (by assumption) ?_
            rotate_left 1
            · (intro wq hSw; (try dsimp only at hSw); go_simp; try with_reducible rfl)
            try simp only [Act.put, ly1, ly2, ly3]
            refine wpAnyH_take (i := 7) (oi := { dst := some 36, op := Op.extract (Operand.tmp 29) 0, type := 31, pos := "exact.go:3604", after := #[{ on := 6, ground := Ground.data }], guard := none }) (v := ?_) rfl (by kernel_rfl) (by kernel_rfl) (by kernel_rfl) (fun _ _ _ h => h) (Or.inl ⟨by rfl, ?_⟩) (by assumption) ?_
            rotate_left 1
            · (intro wq hSw; (try dsimp only at hSw); go_simp; try with_reducible rfl)
            try simp only [Act.put, ly1, ly2, ly3]
            refine wpAnyH_take (i := 8) (oi := { dst := some 37, op := Op.extract (Operand.tmp 29) 1, type := 4, pos := "exact.go:3604", after := #[{ on := 6, ground := Ground.data }, { on := 10, ground := Ground.gcOnly Departure.lateStores }], guard := none }) (v := ?_) rfl (by kernel_rfl) (by kernel_rfl) (by kernel_rfl) (fun _ _ _ h => h) (Or.inl ⟨by rfl, ?_⟩) (by assumption) ?_
            rotate_left 1
            · (intro wq hSw; (try dsimp only at hSw); go_simp; try with_reducible rfl)
            try simp only [Act.put, ly1, ly2, ly3]
            refine wpAnyH_ready (rs := [10]) (by kernel_rfl) (by simp) ?_
            refine AllReadyH.cons (o := { dst := none, op := Op.store 31 (Operand.tmp 8) (Operand.tmp 36), type := 0, pos := "exact.go:3604", after := #[{ on := 9, ground := Ground.data }, { on := 7, ground := Ground.data }, { on := 5, ground := Ground.chain }, { on := 0, ground := Ground.phase }, { on := 1, ground := Ground.phase }, { on := 2, ground := Ground.phase }, { on := 3, ground := Ground.phase }, { on := 4, ground := Ground.phase }, { on := 5, ground := Ground.phase }, { on := 6, ground := Ground.phase }, { on := 7, ground := Ground.phase }, { on := 8, ground := Ground.textOnly Departure.lateStores }, { on := 9, ground := Ground.phase }], guard := none }) rfl (fun K hK => ?_) AllReadyH.nil
            refine step_if (by rfl) (st_node_wp _ _ rfl rfl Y b2 dd rfl rfl HY.out.1 (fun G hG hnG => ?_))
            have HK := hide (HK.out.1.far hG (by have := HBB.out; have := HY.out.2; omega))
            have HRS := hide (show True from trivial)
            have HF := hide (show M3 G Y BB G.heap.size b2 dd from ⟨hnG, by rw [hG.2.1]; exact rn_beside3 HC.out HY.out.1 hG, hnG.lt⟩)
            refine hK.out _ _ ?_ (fun hHeld => ?_)
            · exact ⟨HK.out.2.1, HK.out.2.2⟩
            clear hK K
            try simp only [Act.put, ly1, ly2, ly3]
            refine wpAnyH_take (i := 11) (oi := { dst := some 9, op := Op.assign (Operand.tmp 37), type := 4, pos := "exact.go:3604", after := #[{ on := 8, ground := Ground.data }, { on := 10, ground := Ground.chain }, { on := 0, ground := Ground.phase }, { on := 1, ground := Ground.phase }, { on := 2, ground := Ground.phase }, { on := 3, ground := Ground.phase }, { on := 4, ground := Ground.phase }, { on := 5, ground := Ground.phase }, { on := 6, ground := Ground.phase }, { on := 7, ground := Ground.phase }, { on := 8, ground := Ground.phase }, { on := 9, ground := Ground.phase }, { on := 10, ground := Ground.phase }], guard := none }) (v := ?_) rfl (by kernel_rfl) (by kernel_rfl) (by kernel_rfl) (fun _ _ _ h => h) (Or.inl ⟨by rfl, ?_⟩) (by assumption) ?_
            rotate_left 1
            · (intro wq hSw; (try dsimp only at hSw); go_simp; try with_reducible rfl)
            try simp only [Act.put, ly1, ly2, ly3]
            refine wpAnyH_done (by kernel_rfl) ?_ _
            go_wp2_with fail
            go_meet
            case rel => exact ⟨Y, b2, rfl, rfl, HK.out, HF.out⟩
        refine AllReadyH.cons (o := { dst := some 8, op := Op.alloc 31, type := 0, pos := "exact.go:3604", after := #[], guard := none }) rfl (fun K hK => ?_) AllReadyH.nil
        · go_simp
          obtain ⟨x10, hwy⟩ : ∃ wy, wy = (ws.alloc (.cells (nds Na.zero Nd.zero) 31)).drew := ⟨_, rfl⟩
          have bx : Hid (Below ws.drew.heap.size ws.drew x10) := by rw [hwy]; exact alloc_drew3 _ _
          have HY : Hid (NB x10 ws.heap.size 31 Na.zero Nd.zero ∧ BB ≤ ws.heap.size) := ⟨by rw [hwy]; exact NB.new _ _ _ _, HK.out.2⟩
          unfold nds Na.zero Nd.zero at hwy
          dsimp only [List.length_nil] at hwy
          rw [← hwy]
          clear hwy
          obtain ⟨Y, hYe⟩ : ∃ Y, Y = ws.heap.size := ⟨_, rfl⟩
          rw [← hYe] at HY ⊢
          have HK := hide (show Y2 w x10 a1 a2 d1 d2 ∧ BB ≤ x10.heap.size from ⟨HK.out.1.b (bx.out), Nat.le_trans HK.out.2 (bx.out).size⟩)
          have HRS := hide (show True from trivial)
          clear bx hYe
          refine hK.out _ _ ?_ (fun hHeld => ?_)
          · exact ⟨HK.out.1.2.1, HK.out.1.2.2⟩
          clear hK K
          try simp only [Act.put, ly1, ly2, ly3]
          refine wpAnyH_ready (rs := [1]) (by kernel_rfl) (by simp) ?_
          refine AllReadyH.cons (o := { dst := some 31, op := Op.call { callee := Callee.value (Operand.func 22), args := #[Operand.tmp 30], argTypes := #[39] }, type := 31, pos := "exact.go:3604", after := #[{ on := 0, ground := Ground.data }], guard := none }) rfl (fun K hK => ?_) AllReadyH.nil
          go_simp
          refine (ton_any a1 d1 x10 HD.out.1 (HV.out _ HK.out.1.1).1).mono ?_
          rintro e x11 ⟨b1, rfl, o1, c1⟩
          have HK := hide (show Y2 w x11 a1 a2 d1 d2 ∧ BB ≤ x11.heap.size from ⟨HK.out.1.b (c1), Nat.le_trans HK.out.2 (c1).size⟩)
          have HRS := hide (show True from trivial)
          have HY := hide (show NB x11 Y 31 Na.zero Nd.zero ∧ BB ≤ Y from ⟨HY.out.1.b (c1), HY.out.2⟩)
          have HN := hide (show NV x11 b1 d1 ∧ NNC b1 from ⟨o1.nv, o1.2.1⟩)
          clear o1 c1
          go_wp2_with fail
          refine hK.out _ _ ?_ (fun hHeld => ?_)
          · exact ⟨HK.out.1.2.1, HK.out.1.2.2⟩
          clear hK K
          try simp only [Act.put, ly1, ly2, ly3]
          refine wpAnyH_ready (rs := [3]) (by kernel_rfl) (by simp) ?_
          refine AllReadyH.cons (o := { dst := some 33, op := Op.call { callee := Callee.value (Operand.func 22), args := #[Operand.tmp 32], argTypes := #[39] }, type := 31, pos := "exact.go:3604", after := #[{ on := 2, ground := Ground.data }, { on := 1, ground := Ground.chain }], guard := none }) rfl (fun K hK => ?_) AllReadyH.nil
          go_simp
          refine (ton_any a2 d2 x11 HD.out.2 (HV.out _ HK.out.1.1).2.1).mono ?_
          rintro e x12 ⟨bm, rfl, o1, c1⟩
          have HK := hide (show Y2 w x12 a1 a2 d1 d2 ∧ BB ≤ x12.heap.size from ⟨HK.out.1.b (c1), Nat.le_trans HK.out.2 (c1).size⟩)
          have HRS := hide (show True from trivial)
          have HY := hide (show NB x12 Y 31 Na.zero Nd.zero ∧ BB ≤ Y from ⟨HY.out.1.b (c1), HY.out.2⟩)
          have HN := hide (show (NV x12 b1 d1 ∧ NNC b1) ∧ NV x12 bm d2 from ⟨⟨HN.out.1.below c1, HN.out.2⟩, o1.nv⟩)
          clear o1 c1
          go_wp2_with fail
          refine hK.out _ _ ?_ (fun hHeld => ?_)
          · exact ⟨HK.out.1.2.1, HK.out.1.2.2⟩
          clear hK K
          try simp only [Act.put, ly1, ly2, ly3]
          refine wpAnyH_ready (rs := [5]) (by kernel_rfl) (by simp) ?_
          refine AllReadyH.cons (o := { dst := some 35, op := Op.call { callee := Callee.value (Operand.func 45), args := #[Operand.tmp 31, Operand.tmp 33, Operand.tmp 34], argTypes := #[31, 31, 4] }, type := 68, pos := "exact.go:3604", after := #[{ on := 1, ground := Ground.data }, { on := 3, ground := Ground.data }, { on := 4, ground := Ground.data }, { on := 3, ground := Ground.chain }], guard := none }) rfl (fun K hK => ?_) AllReadyH.nil
          go_simp
          have HK0 := HK.out.2
          refine (hS.out x12 b1 bm HN.out.1.1 HN.out.2 HN.out.1.2).mono ?_
          rintro e x13 ⟨b2, rfl, o1, c1⟩
          have HK := hide (show Y2 w x13 a1 a2 d1 d2 ∧ BB ≤ x13.heap.size from ⟨HK.out.1.b (c1), Nat.le_trans HK.out.2 (c1).size⟩)
          have HRS := hide (show True from trivial)
          have HY := hide (show NB x13 Y 31 Na.zero Nd.zero ∧ BB ≤ Y from ⟨HY.out.1.b (c1), HY.out.2⟩)
          have HC : Hid (RN x13 BB x13.heap.size b2 dd) := (o1).wider HK0 (Nat.le_refl _) (Nat.le_refl _)
          clear o1 c1 HN
          go_wp2_with fail
          refine hK.out _ _ ?_ (fun hHeld => ?_)
          · exact ⟨HK.out.1.2.1, HK.out.1.2.2⟩
          clear hK K
          try simp only [Act.put, ly1, ly2, ly3]
          refine wpAnyH_take (i := 6) (oi := { dst := some 29, op := Op.move (Operand.tmp 35), type := 68, pos := "exact.go:3604", after := #[{ on := 5, ground := Ground.data }], guard := none }) (v := ?_) rfl (by kernel_rfl) (by kernel_rfl) (by kernel_rfl) (fun _ _ _ h => h) (Or.inl ⟨by rfl, ?_⟩) (by assumption) ?_
          rotate_left 1
          · (intro wq hSw; (try dsimp only at hSw); go_simp; try with_reducible rfl)
          try simp only [Act.put, ly1, ly2, ly3]
          refine wpAnyH_take (i := 7) (oi := { dst := some 36, op := Op.extract (Operand.tmp 29) 0, type := 31, pos := "exact.go:3604", after := #[{ on := 6, ground := Ground.data }], guard := none }) (v := ?_) rfl (by kernel_rfl) (by kernel_rfl) (by kernel_rfl) (fun _ _ _ h => h) (Or.inl ⟨by rfl, ?_⟩) (by assumption) ?_
          rotate_left 1
          · (intro wq hSw; (try dsimp only at hSw); go_simp; try with_reducible rfl)
          try simp only [Act.put, ly1, ly2, ly3]
          refine wpAnyH_take (i := 8) (oi := { dst := some 37, op := Op.extract (Operand.tmp 29) 1, type := 4, pos := "exact.go:3604", after := #[{ on := 6, ground := Ground.data }, { on := 10, ground := Ground.gcOnly Departure.lateStores }], guard := none }) (v := ?_) rfl (by kernel_rfl) (by kernel_rfl) (by kernel_rfl) (fun _ _ _ h => h) (Or.inl ⟨by rfl, ?_⟩) (by assumption) ?_
          rotate_left 1
          · (intro wq hSw; (try dsimp only at hSw); go_simp; try with_reducible rfl)
          try simp only [Act.put, ly1, ly2, ly3]
          refine wpAnyH_ready (rs := [10]) (by kernel_rfl) (by simp) ?_
          refine AllReadyH.cons (o := { dst := none, op := Op.store 31 (Operand.tmp 8) (Operand.tmp 36), type := 0, pos := "exact.go:3604", after := #[{ on := 9, ground := Ground.data }, { on := 7, ground := Ground.data }, { on := 5, ground := Ground.chain }, { on := 0, ground := Ground.phase }, { on := 1, ground := Ground.phase }, { on := 2, ground := Ground.phase }, { on := 3, ground := Ground.phase }, { on := 4, ground := Ground.phase }, { on := 5, ground := Ground.phase }, { on := 6, ground := Ground.phase }, { on := 7, ground := Ground.phase }, { on := 8, ground := Ground.textOnly Departure.lateStores }, { on := 9, ground := Ground.phase }], guard := none }) rfl (fun K hK => ?_) AllReadyH.nil
          refine step_if (by rfl) (st_node_wp _ _ rfl rfl Y b2 dd rfl rfl HY.out.1 (fun G hG hnG => ?_))
          have HK := hide (HK.out.1.far hG (by have := HBB.out; have := HY.out.2; omega))
          have HRS := hide (show True from trivial)
          have HF := hide (show M3 G Y BB G.heap.size b2 dd from ⟨hnG, by rw [hG.2.1]; exact rn_beside3 HC.out HY.out.1 hG, hnG.lt⟩)
          refine hK.out _ _ ?_ (fun hHeld => ?_)
          · exact ⟨HK.out.2.1, HK.out.2.2⟩
          clear hK K
          try simp only [Act.put, ly1, ly2, ly3]
          refine wpAnyH_take (i := 11) (oi := { dst := some 9, op := Op.assign (Operand.tmp 37), type := 4, pos := "exact.go:3604", after := #[{ on := 8, ground := Ground.data }, { on := 10, ground := Ground.chain }, { on := 0, ground := Ground.phase }, { on := 1, ground := Ground.phase }, { on := 2, ground := Ground.phase }, { on := 3, ground := Ground.phase }, { on := 4, ground := Ground.phase }, { on := 5, ground := Ground.phase }, { on := 6, ground := Ground.phase }, { on := 7, ground := Ground.phase }, { on := 8, ground := Ground.phase }, { on := 9, ground := Ground.phase }, { on := 10, ground := Ground.phase }], guard := none }) (v := ?_) rfl (by kernel_rfl) (by kernel_rfl) (by kernel_rfl) (fun _ _ _ h => h) (Or.inl ⟨by rfl, ?_⟩) (by assumption) ?_
          rotate_left 1
          · (intro wq hSw; (try dsimp only at hSw); go_simp; try with_reducible rfl)
          try simp only [Act.put, ly1, ly2, ly3]
          refine wpAnyH_done (by kernel_rfl) ?_ _
          go_wp2_with fail
          go_meet
          case rel => exact ⟨Y, b2, rfl, rfl, HK.out, HF.out⟩
      case rest =>
        obtain ⟨X2, b2, rfl, rfl, hc⟩ := hcut
        obtain ⟨T2, hT2⟩ : ∃ T2, T2 = wc.heap.size := ⟨_, rfl⟩
        have H3 : Hid (Y2 w wc a1 a2 d1 d2 ∧ M3 wc X2 BB T2 b2 dd ∧ BB ≤ T2 ∧ X2 < T2) := by rw [hT2]; exact ⟨hc.out.1, hc.out.2, hc.out.2.2.1.1.1, hc.out.2.2.2⟩
        clear hc HK HRS hS
        generalize BB = B2 at *
        as_aux_lemma =>
          go_wp2_with (refine ld_nodel rfl _ rfl w.heap.size rfl H3.out.1.2.1 ?_)
          refine (ton_any a1 d1 wc HD.out.1 (HV.out _ H3.out.1.1).1).mono ?_
          rintro e w3 ⟨b3, rfl, o3, c3⟩
          obtain ⟨W3, hW3⟩ : ∃ W3, W3 = w3.alloc (.cells (nds b3 d1) 31) := ⟨_, rfl⟩
          have H4 : Hid (Y2 w W3 a1 a2 d1 d2 ∧ M3 W3 X2 B2 T2 b2 dd ∧ GN W3 w3.heap.size T2 b3 d1 d1) := by rw [hW3]; exact ⟨(H3.out.1.b c3).b (bal1 w3 _), (H3.out.2.1.b c3).b (bal1 w3 _), by rw [hT2]; exact GN.new o3⟩
          have h23 : Hid (w.heap.size + 1 < B2 ∧ B2 ≤ T2 ∧ T2 ≤ w3.heap.size) := ⟨HBB.out, H3.out.2.2.1, by rw [hT2]; exact c3.size⟩
          have hsz3 : W3.heap.size = w3.heap.size + 1 := by rw [hW3]; simp
          clear o3 c3 H3 hT2
          as_aux_lemma =>
            unfold nds at hW3
            unfold nv nds
            go_upto_region 10 with fail
            rw [← hW3]
            clear hW3
            generalize w3.heap.size = X3 at *
            generalize T2 = B3 at *
            go_wp2_with (refine ld_nodel rfl _ rfl (w.heap.size + 1) rfl H4.out.1.2.2 ?_)
            refine (ton_any a2 d2 W3 HD.out.2 (HV.out _ H4.out.1.1).2.1).mono ?_
            rintro e w4 ⟨b4, rfl, o4, c4⟩
            obtain ⟨W4, hW4⟩ : ∃ W4, W4 = w4.alloc (.cells (nds b4 d2) 31) := ⟨_, rfl⟩
            have H5 : Hid (Y2 w W4 a1 a2 d1 d2 ∧ M3 W4 X2 B2 B3 b2 dd ∧ GN W4 X3 B3 b3 d1 d1 ∧ GN W4 w4.heap.size W3.heap.size b4 d2 d2) := by rw [hW4]; exact ⟨(H4.out.1.b c4).b (bal1 w4 _), (H4.out.2.1.b c4).b (bal1 w4 _), (H4.out.2.2.b c4).b (bal1 w4 _), GN.new o4⟩
            have hsz4 : W4.heap.size = w4.heap.size + 1 := by rw [hW4]; simp
            have h34 : Hid (X3 < W3.heap.size ∧ W3.heap.size ≤ w4.heap.size) := ⟨by omega, c4.size⟩
            clear o4 c4 H4
            as_aux_lemma =>
              unfold nds at hW4
              unfold nv nds
              go_upto_region 11 with fail
              rw [← hW4]
              clear hW4
              generalize w4.heap.size = X4 at *
              generalize W3.heap.size = B4 at *
              go_wp2_with (first | (refine ld_node rfl _ rfl X3 rfl H5.out.2.2.1.1 ?_) | (refine ld_node rfl _ rfl X4 rfl H5.out.2.2.2.1 ?_))
              refine (hI.out W4 b3 b4 (HV.out _ H5.out.1.1).2.2 H5.out.2.2.1.2.nv H5.out.2.2.2.2.nv H5.out.2.2.1.2.2.1).mono ?_
              rintro e w5 ⟨b5, rfl, o5, c5⟩
              obtain ⟨W5, hW5⟩ : ∃ W5, W5 = w5.alloc (.cells (nds b5 dd) 31) := ⟨_, rfl⟩
              have H6 : Hid (Y2 w W5 a1 a2 d1 d2 ∧ M3 W5 X2 B2 B3 b2 dd ∧ GN W5 X3 B3 b3 d1 d1 ∧ GN W5 X4 B4 b4 d2 d2 ∧ GN W5 w5.heap.size W4.heap.size b5 dd dd) := by
                have bx := bal1 w5 (.cells (nds b5 dd) 31)
                rw [hW5]; exact ⟨(H5.out.1.b c5).b bx, (H5.out.2.1.b c5).b bx, (H5.out.2.2.1.b c5).b bx, (H5.out.2.2.2.b c5).b bx, GN.new o5⟩
              have h45 : Hid (X4 < W4.heap.size ∧ W4.heap.size ≤ w5.heap.size) := ⟨by omega, c5.size⟩
              clear o5 c5 H5
              as_aux_lemma =>
                unfold nds at hW5
                unfold nv nds
                go_upto_region 12 with fail
                rw [← hW5]
                clear hW5
                generalize w5.heap.size = X5 at *
                generalize W4.heap.size = B5 at *
                have HX : Hid (w.heap.size + 1 < B3 ∧ B3 ≤ X3 ∧ X3 < B4 ∧ B4 ≤ X4 ∧ X4 < B5 ∧ B5 ≤ X5 ∧ w.heap.size + 1 < B4 ∧ B3 ≤ B4 ∧ w.heap.size + 1 < B5 ∧ B3 ≤ B5) := by
                  have e1 := h23.out; have e2 := h34.out; have e3 := h45.out
                  refine ⟨?_, ?_, ?_, ?_, ?_, ?_, ?_, ?_, ?_, ?_⟩ <;> omega
                clear hsz3 hsz4
                have XB : ∀ {V V' : World}, (Y2 w V a1 a2 d1 d2 ∧ M3 V X2 B2 B3 b2 dd ∧ GN V X3 B3 b3 d1 d1 ∧ GN V X4 B4 b4 d2 d2 ∧ GN V X5 B5 b5 dd dd) → Below V.heap.size V V' → (Y2 w V' a1 a2 d1 d2 ∧ M3 V' X2 B2 B3 b2 dd ∧ GN V' X3 B3 b3 d1 d1 ∧ GN V' X4 B4 b4 d2 d2 ∧ GN V' X5 B5 b5 dd dd) := fun h hb => ⟨h.1.b hb, h.2.1.b hb, h.2.2.1.b hb, h.2.2.2.1.b hb, h.2.2.2.2.b hb⟩
                go_wp2_with (first | (refine ld_node rfl _ rfl X5 rfl H6.out.2.2.2.2.1 ?_) | (refine ld_node rfl _ rfl X2 rfl H6.out.2.1.1 ?_))
                refine (eqn_yes b5 b2 dd W5 HDD.out H6.out.2.2.2.2.2.nv H6.out.2.1.2.1.nv).mono ?_
                rintro e w7 ⟨rfl, c7⟩
                have H7 := hide (XB H6.out c7)
                clear c7 H6
                as_aux_lemma =>
                  go_wp2_with fail
                  have HA := hide (XB H7.out (kdrew w7))
                  clear H7
                  have HS0 : Hid (NB w7.drew X3 31 b3 d1 ∧ NB w7.drew w.heap.size 39 a1 d1) := ⟨HA.out.2.2.1.1, HA.out.1.2.1⟩
                  refine wp_region_held_drew (S := (fun w' => NB w' X3 31 b3 d1 ∧ NB w' w.heap.size 39 a1 d1)) (by kernel_rfl) ?_ (fun hHeld => ?_)
                  · exact ⟨HS0.out.1, HS0.out.2⟩
                  refine wpAnyH_take (i := 0) (oi := { dst := some 58, op := Op.load 31 (Operand.tmp 10), type := 31, pos := "exact.go:3611", after := #[], guard := none }) (v := nv b3 d1) rfl (by kernel_rfl) (by kernel_rfl) (by kernel_rfl) (fun _ _ _ h => h) (yieldsIf_load_mid (by rfl) _ _ rfl X3 0 rfl (nds b3 d1).toList _ (fun wq hSw => range_of hSw.1 rfl) Tryz.underlying31 rfl (by kernel_rfl)) (by assumption) ?_
                  try simp only [Act.put, ly1, ly2, ly3]
                  refine wpAnyH_take (i := 1) (oi := { dst := some 59, op := Op.load 39 (Operand.tmp 3), type := 39, pos := "exact.go:3611", after := #[], guard := none }) (v := nv a1 d1) rfl (by kernel_rfl) (by kernel_rfl) (by kernel_rfl) (fun _ _ _ h => h) (yieldsIf_load_mid (by rfl) _ _ rfl w.heap.size 0 rfl (nds a1 d1).toList _ (fun wq hSw => range_of hSw.2 rfl) Tryz.underlying39 rfl (by kernel_rfl)) (by assumption) ?_
                  try simp only [Act.put, ly1, ly2, ly3]
                  refine wpAnyH_ready (rs := [2]) (by kernel_rfl) (by simp) ?_
                  refine AllReadyH.cons (o := { dst := some 60, op := Op.call { callee := Callee.value (Operand.func 22), args := #[Operand.tmp 59], argTypes := #[39] }, type := 31, pos := "exact.go:3611", after := #[{ on := 1, ground := Ground.data }], guard := none }) rfl (fun K hK => ?_) AllReadyH.nil
                  go_simp
                  refine (ton_any a1 d1 w7.drew HD.out.1 (HV.out _ HA.out.1.1).1).mono ?_
                  rintro e y1 ⟨bb, rfl, o1, c1⟩
                  have H1 := hide (And.intro (XB HA.out c1) o1.nv)
                  have HK : Hid (NB y1 X3 31 b3 d1 ∧ NB y1 w.heap.size 39 a1 d1) := ⟨H1.out.1.2.2.1.1, H1.out.1.1.2.1⟩
                  clear o1 c1
                  go_wp2_with fail
                  refine hK.out _ _ ?_ (fun hHeld => ?_)
                  · exact HK.out
                  clear hK K
                  try simp only [Act.put, ly1, ly2, ly3]
                  refine wpAnyH_ready (rs := [3]) (by kernel_rfl) (by simp) ?_
                  refine AllReadyH.cons (o := { dst := some 61, op := Op.call { callee := Callee.value (Operand.func 17), args := #[Operand.tmp 58, Operand.tmp 60], argTypes := #[31, 31] }, type := 4, pos := "exact.go:3611", after := #[{ on := 0, ground := Ground.data }, { on := 2, ground := Ground.data }, { on := 2, ground := Ground.chain }], guard := none }) rfl (fun K hK => ?_) AllReadyH.nil
                  go_simp
                  clear HK
                  refine (eqn_yes b3 bb d1 y1 HD.out.1 H1.out.1.2.2.1.2.nv H1.out.2).mono ?_
                  rintro e w8 ⟨rfl, c1⟩
                  have H2 := hide (XB H1.out.1 c1)
                  have HK : Hid (NB w8 X3 31 b3 d1 ∧ NB w8 w.heap.size 39 a1 d1) := ⟨H2.out.2.2.1.1, H2.out.1.2.1⟩
                  clear c1 H1
                  go_wp2_with fail
                  refine hK.out _ _ ?_ (fun hHeld => ?_)
                  · exact HK.out
                  clear hK K
                  try simp only [Act.put, ly1, ly2, ly3]
                  refine wpAnyH_take (i := 4) (oi := { dst := some 62, op := Op.unOp UnOp.not 4 (Operand.tmp 61), type := 4, pos := "exact.go:3611", after := #[{ on := 3, ground := Ground.data }], guard := none }) (v := ?_) rfl (by kernel_rfl) (by kernel_rfl) (by kernel_rfl) (fun _ _ _ h => h) (Or.inl ⟨by rfl, ?_⟩) (by assumption) ?_
                  rotate_left 1
                  · (intro wq hSw; (try dsimp only at hSw); go_simp; try with_reducible rfl)
                  try simp only [Act.put, ly1, ly2, ly3]
                  refine wpAnyH_done (by kernel_rfl) ?_ _
                  clear HA HK HS0
                  have HA := hide H2.out
                  clear H2
                  as_aux_lemma =>
                    go_wp2_with fail
                    have HA := hide (XB HA.out (kdrew w8))
                    have HS0 : Hid (NB w8.drew X4 31 b4 d2 ∧ NB w8.drew (w.heap.size + 1) 39 a2 d2) := ⟨HA.out.2.2.2.1.1, HA.out.1.2.2⟩
                    refine wp_region_held_drew (S := (fun w' => NB w' X4 31 b4 d2 ∧ NB w' (w.heap.size + 1) 39 a2 d2)) (by kernel_rfl) ?_ (fun hHeld => ?_)
                    · exact ⟨HS0.out.1, HS0.out.2⟩
                    refine wpAnyH_take (i := 0) (oi := { dst := some 63, op := Op.load 31 (Operand.tmp 11), type := 31, pos := "exact.go:3614", after := #[], guard := none }) (v := nv b4 d2) rfl (by kernel_rfl) (by kernel_rfl) (by kernel_rfl) (fun _ _ _ h => h) (yieldsIf_load_mid (by rfl) _ _ rfl X4 0 rfl (nds b4 d2).toList _ (fun wq hSw => range_of hSw.1 rfl) Tryz.underlying31 rfl (by kernel_rfl)) (by assumption) ?_
                    try simp only [Act.put, ly1, ly2, ly3]
                    refine wpAnyH_take (i := 1) (oi := { dst := some 64, op := Op.load 39 (Operand.tmp 4), type := 39, pos := "exact.go:3614", after := #[], guard := none }) (v := nv a2 d2) rfl (by kernel_rfl) (by kernel_rfl) (by kernel_rfl) (fun _ _ _ h => h) (yieldsIf_load_mid (by rfl) _ _ rfl (w.heap.size + 1) 0 rfl (nds a2 d2).toList _ (fun wq hSw => range_of hSw.2 rfl) Tryz.underlying39 rfl (by kernel_rfl)) (by assumption) ?_
                    try simp only [Act.put, ly1, ly2, ly3]
                    refine wpAnyH_ready (rs := [2]) (by kernel_rfl) (by simp) ?_
                    refine AllReadyH.cons (o := { dst := some 65, op := Op.call { callee := Callee.value (Operand.func 22), args := #[Operand.tmp 64], argTypes := #[39] }, type := 31, pos := "exact.go:3614", after := #[{ on := 1, ground := Ground.data }], guard := none }) rfl (fun K hK => ?_) AllReadyH.nil
                    go_simp
                    refine (ton_any a2 d2 w8.drew HD.out.2 (HV.out _ HA.out.1.1).2.1).mono ?_
                    rintro e y1 ⟨bb, rfl, o1, c1⟩
                    have H1 := hide (And.intro (XB HA.out c1) o1.nv)
                    have HK : Hid (NB y1 X4 31 b4 d2 ∧ NB y1 (w.heap.size + 1) 39 a2 d2) := ⟨H1.out.1.2.2.2.1.1, H1.out.1.1.2.2⟩
                    clear o1 c1
                    go_wp2_with fail
                    refine hK.out _ _ ?_ (fun hHeld => ?_)
                    · exact HK.out
                    clear hK K
                    try simp only [Act.put, ly1, ly2, ly3]
                    refine wpAnyH_ready (rs := [3]) (by kernel_rfl) (by simp) ?_
                    refine AllReadyH.cons (o := { dst := some 66, op := Op.call { callee := Callee.value (Operand.func 17), args := #[Operand.tmp 63, Operand.tmp 65], argTypes := #[31, 31] }, type := 4, pos := "exact.go:3614", after := #[{ on := 0, ground := Ground.data }, { on := 2, ground := Ground.data }, { on := 2, ground := Ground.chain }], guard := none }) rfl (fun K hK => ?_) AllReadyH.nil
                    go_simp
                    clear HK
                    refine (eqn_yes b4 bb d2 y1 HD.out.2 H1.out.1.2.2.2.1.2.nv H1.out.2).mono ?_
                    rintro e w9 ⟨rfl, c1⟩
                    have H2 := hide (XB H1.out.1 c1)
                    have HK : Hid (NB w9 X4 31 b4 d2 ∧ NB w9 (w.heap.size + 1) 39 a2 d2) := ⟨H2.out.2.2.2.1.1, H2.out.1.2.2⟩
                    clear c1 H1
                    go_wp2_with fail
                    refine hK.out _ _ ?_ (fun hHeld => ?_)
                    · exact HK.out
                    clear hK K
                    try simp only [Act.put, ly1, ly2, ly3]
                    refine wpAnyH_take (i := 4) (oi := { dst := some 67, op := Op.unOp UnOp.not 4 (Operand.tmp 66), type := 4, pos := "exact.go:3614", after := #[{ on := 3, ground := Ground.data }], guard := none }) (v := ?_) rfl (by kernel_rfl) (by kernel_rfl) (by kernel_rfl) (fun _ _ _ h => h) (Or.inl ⟨by rfl, ?_⟩) (by assumption) ?_
                    rotate_left 1
                    · (intro wq hSw; (try dsimp only at hSw); go_simp; try with_reducible rfl)
                    try simp only [Act.put, ly1, ly2, ly3]
                    refine wpAnyH_done (by kernel_rfl) ?_ _
                    clear HA HK HS0
                    have HA := hide H2.out
                    clear H2
                    as_aux_lemma =>
                      go_wp2_with (refine ld_node rfl _ rfl X3 rfl HA.out.2.2.1.1 ?_)
                      refine (markn_any b3 d1 B3 X3 1 w9 HL.out.1 (by omega) (by omega) HA.out.2.2.1.2).mono ?_
                      rintro e w10 ⟨rfl, _, m1⟩
                      have HA2 : Hid (Y2 w w10 a1 a2 d1 d2 ∧ M3 w10 X2 B2 B3 b2 dd ∧ GN w10 X4 B4 b4 d2 d2 ∧ GN w10 X5 B5 b5 dd dd) := ⟨HA.out.1.onb m1 HX.out.1, HA.out.2.1.onb m1 (Nat.le_refl _), HA.out.2.2.2.1.onb m1 (.inr (Nat.le_of_lt HX.out.2.2.1)), HA.out.2.2.2.2.onb m1 (.inr (by have := HX.out; omega))⟩
                      clear m1 HA XB
                      have hc1 := kncnt_nn d1
                      have hc3 : ncnt d1 ≤ 1048576 := Int.le_trans (kncnt_le d1) HL.out.1
                      have hc5 := kncnt_nn d2
                      have hc6 : ncnt d2 ≤ 1048576 := Int.le_trans (kncnt_le d2) HL.out.2
                      generalize ncnt d1 = n1 at *
                      as_aux_lemma =>
                        go_wp2_with (refine ld_node rfl _ rfl X4 rfl HA2.out.2.2.1.1 ?_)
                        refine (markn_any b4 d2 B4 X4 (1 + n1) w10 HL.out.2 (by omega) (by omega) HA2.out.2.2.1.2).mono ?_
                        rintro e w11 ⟨rfl, _, m1⟩
                        have H10 : Hid (Y2 w w11 a1 a2 d1 d2 ∧ M3 w11 X2 B2 B3 b2 dd ∧ GN w11 X5 B5 b5 dd dd) := ⟨HA2.out.1.onb m1 HX.out.2.2.2.2.2.2.1, HA2.out.2.1.onb m1 HX.out.2.2.2.2.2.2.2.1, HA2.out.2.2.2.onb m1 (.inr (Nat.le_of_lt HX.out.2.2.2.2.1))⟩
                        clear m1 HA2
                        generalize ncnt d2 = n2 at *
                        have hc4 : ¬ 1 + n1 + n2 < 0 := by omega
                        generalize 1 + n1 + n2 = n3 at *
                        obtain ⟨u0, u1, u2, u3, u4, u5, u6, u7, u8, u9, u10, u11, u12, u13, u14, u15⟩ := H10.out.2.2.1.cells
                        obtain ⟨t0, t1, t2, t3, t4, t5, t6, t7, t8, t9, t10, t11, t12, t13, t14, t15⟩ := H10.out.2.1.1.cells
                        as_aux_lemma =>
                          go_wp2_with fail
                          clear u0 u1 u2 u3 u4 u5 u6 u7 u8 u9 u10 u11 u12 u13 u14 u15 t0 t1 t2 t3 t4 t5 t6 t7 t8 t9 t10 t11 t12 t13 t14 t15 hc1 hc3 hc5 hc6
                          refine (eqn_yes b5 b2 dd w11 HDD.out H10.out.2.2.2.nv H10.out.2.1.2.1.nv).mono ?_
                          rintro e w12 ⟨rfl, c1⟩
                          have H12 : Hid (Y2 w w12 a1 a2 d1 d2 ∧ M3 w12 X2 B2 B3 b2 dd ∧ GN w12 X5 B5 b5 dd dd) := ⟨H10.out.1.b c1, H10.out.2.1.b c1, H10.out.2.2.b c1⟩
                          clear c1 H10
                          as_aux_lemma =>
                            go_wp2_with (refine ld_node rfl _ rfl X5 rfl H12.out.2.2.1 ?_)
                            refine (markn_any b5 dd B5 X5 1 w12 HTT.out (by omega) (by omega) H12.out.2.2.2).mono ?_
                            rintro e w13 ⟨rfl, n13, m1⟩
                            have HG : Hid (Y2 w w13 a1 a2 d1 d2 ∧ M3 w13 X2 B2 B3 b2 dd ∧ GN w13 X5 B5 b5 dd (mkN dd 1)) := ⟨H12.out.1.onb m1 HX.out.2.2.2.2.2.2.2.2.1, H12.out.2.1.onb m1 HX.out.2.2.2.2.2.2.2.2.2, H12.out.2.2.mk m1 n13⟩
                            clear m1 n13 H12
                            have hc1 := kncnt_nn dd
                            have hc3 : ncnt dd ≤ 1048576 := Int.le_trans (kncnt_le dd) HTT.out
                            have hc2 : ¬ 1 + ncnt dd < 0 := by omega
                            have hheld := hide (heldn_any b5 dd 1 w13 HTT.out (by omega) (by omega) HG.out.2.2.2.nv)
                            have hheld2 : Hid (∀ V, NV V b5 (mkN dd 1) → Calls Tryz.prog 19 #[nv b5 dd, .int .i64 1] V fun e w' => e = .returned (.int .i64 (1 + ncnt dd)) ∧ Below V.heap.size V w') := fun V hv => heldn_any b5 dd 1 V HTT.out (by omega) (by omega) hv
                            generalize ncnt dd = n4 at *
                            as_aux_lemma =>
                              go_wp2_with (refine ld_node rfl _ rfl X5 rfl HG.out.2.2.1 ?_)
                              refine hheld.out.mono ?_
                              rintro e w14 ⟨rfl, c1⟩
                              have HH : Hid (Y2 w w14 a1 a2 d1 d2 ∧ M3 w14 X2 B2 B3 b2 dd ∧ GN w14 X5 B5 b5 dd (mkN dd 1)) := ⟨HG.out.1.b c1, HG.out.2.1.b c1, HG.out.2.2.b c1⟩
                              clear c1 HG hheld
                              as_aux_lemma =>
                                go_upto_region 31 with fail
                                obtain ⟨BB, hBB⟩ : ∃ BB, BB = w14.heap.size := ⟨_, rfl⟩
                                have HBB : Hid (w.heap.size + 1 < BB) := by rw [hBB]; exact HH.out.1.2.2.lt
                                have HK : Hid (Y2 w w14.drew a1 a2 d1 d2 ∧ BB ≤ w14.drew.heap.size) := by rw [hBB]; exact ⟨HH.out.1.b (kdrew w14), Nat.le_refl _⟩
                                obtain ⟨b0, hb0⟩ : ∃ b0, b0 = b2 := ⟨_, rfl⟩
                                have HRS : Hid (M3 w14.drew X2 B2 B3 b0 dd ∧ GN w14.drew X5 B5 b5 dd (mkN dd 1) ∧ B3 ≤ BB ∧ X5 < BB) := by rw [hBB, hb0]; exact ⟨HH.out.2.1.b (kdrew w14), HH.out.2.2.b (kdrew w14), HH.out.2.1.2.1.1.2, HH.out.2.2.1.lt⟩
                                clear hBB HH hb0
                                go_cut [17, 18] from 19 (fun y q wc => ∃ Y b6, y = .pointer (some ⟨Y, 0, none⟩) ∧ q = .bool qq ∧ Hid (Y2 w wc a1 a2 d1 d2 ∧ (M3 wc X2 B2 B3 b0 dd ∧ GN wc X5 B5 b5 dd (mkN dd 1) ∧ B3 ≤ BB ∧ X5 < BB) ∧ M3 wc Y BB wc.heap.size b6 dd))
                                case first =>
                                  refine wp_region_held_drew (S := (fun w' => NB w' w.heap.size 39 a1 d1 ∧ NB w' (w.heap.size + 1) 39 a2 d2)) (by kernel_rfl) ?_ (fun hHeld => ?_)
                                  · exact ⟨HK.out.1.2.1, HK.out.1.2.2⟩
                                  refine wpAnyH_take (i := 0) (oi := { dst := some 99, op := Op.load 39 (Operand.tmp 3), type := 39, pos := "exact.go:3633", after := #[], guard := none }) (v := nv a1 d1) rfl (by kernel_rfl) (by kernel_rfl) (by kernel_rfl) (fun _ _ _ h => h) (yieldsIf_load_mid (by rfl) _ _ rfl w.heap.size 0 rfl (nds a1 d1).toList _ (fun wq hSw => range_of hSw.1 rfl) Tryz.underlying39 rfl (by kernel_rfl)) (by assumption) ?_
                                  try simp only [Act.put, ly1, ly2, ly3]
                                  refine wpAnyH_take (i := 2) (oi := { dst := some 101, op := Op.load 39 (Operand.tmp 4), type := 39, pos := "exact.go:3633", after := #[], guard := none }) (v := nv a2 d2) rfl (by kernel_rfl) (by kernel_rfl) (by kernel_rfl) (fun _ _ _ h => h) (yieldsIf_load_mid (by rfl) _ _ rfl (w.heap.size + 1) 0 rfl (nds a2 d2).toList _ (fun wq hSw => range_of hSw.2 rfl) Tryz.underlying39 rfl (by kernel_rfl)) (by assumption) ?_
                                  try simp only [Act.put, ly1, ly2, ly3]
                                  refine wpAnyH_take (i := 4) (oi := { dst := some 103, op := Op.move (Operand.tmp 2), type := 4, pos := "exact.go:3633", after := #[], guard := none }) (v := ?_) rfl (by kernel_rfl) (by kernel_rfl) (by kernel_rfl) (fun _ _ _ h => h) (Or.inl ⟨by rfl, ?_⟩) (by assumption) ?_
                                  rotate_left 1
                                  · (intro wq hSw; (try dsimp only at hSw); go_simp; try with_reducible rfl)
                                  try simp only [Act.put, ly1, ly2, ly3]
                                  refine wpAnyH_ready (rs := [1, 9]) (by kernel_rfl) (by simp) ?_
                                  refine AllReadyH.cons (o := { dst := some 100, op := Op.call { callee := Callee.value (Operand.func 22), args := #[Operand.tmp 99], argTypes := #[39] }, type := 31, pos := "exact.go:3633", after := #[{ on := 0, ground := Ground.data }], guard := none }) rfl (fun K hK => ?_) ?_
                                  · go_simp
                                    refine (ton_any a1 d1 w14.drew HD.out.1 (HV.out _ HK.out.1.1).1).mono ?_
                                    rintro e z1 ⟨b1, rfl, o1, c1⟩
                                    have HK := hide (show Y2 w z1 a1 a2 d1 d2 ∧ BB ≤ z1.heap.size from ⟨HK.out.1.b (c1), Nat.le_trans HK.out.2 (c1).size⟩)
                                    have HRS := hide (show M3 z1 X2 B2 B3 b0 dd ∧ GN z1 X5 B5 b5 dd (mkN dd 1) ∧ B3 ≤ BB ∧ X5 < BB from ⟨HRS.out.1.b (c1), HRS.out.2.1.b (c1), HRS.out.2.2⟩)
                                    have HN := hide (show NV z1 b1 d1 ∧ NNC b1 from ⟨o1.nv, o1.2.1⟩)
                                    clear o1 c1
                                    go_wp2_with fail
                                    refine hK.out _ _ ?_ (fun hHeld => ?_)
                                    · exact ⟨HK.out.1.2.1, HK.out.1.2.2⟩
                                    clear hK K
                                    try simp only [Act.put, ly1, ly2, ly3]
                                    refine wpAnyH_ready (rs := [3, 9]) (by kernel_rfl) (by simp) ?_
                                    refine AllReadyH.cons (o := { dst := some 102, op := Op.call { callee := Callee.value (Operand.func 22), args := #[Operand.tmp 101], argTypes := #[39] }, type := 31, pos := "exact.go:3633", after := #[{ on := 2, ground := Ground.data }, { on := 1, ground := Ground.chain }], guard := none }) rfl (fun K hK => ?_) ?_
                                    · go_simp
                                      refine (ton_any a2 d2 z1 HD.out.2 (HV.out _ HK.out.1.1).2.1).mono ?_
                                      rintro e z2 ⟨bm, rfl, o1, c1⟩
                                      have HK := hide (show Y2 w z2 a1 a2 d1 d2 ∧ BB ≤ z2.heap.size from ⟨HK.out.1.b (c1), Nat.le_trans HK.out.2 (c1).size⟩)
                                      have HRS := hide (show M3 z2 X2 B2 B3 b0 dd ∧ GN z2 X5 B5 b5 dd (mkN dd 1) ∧ B3 ≤ BB ∧ X5 < BB from ⟨HRS.out.1.b (c1), HRS.out.2.1.b (c1), HRS.out.2.2⟩)
                                      have HN := hide (show (NV z2 b1 d1 ∧ NNC b1) ∧ NV z2 bm d2 from ⟨⟨HN.out.1.below c1, HN.out.2⟩, o1.nv⟩)
                                      clear o1 c1
                                      go_wp2_with fail
                                      refine hK.out _ _ ?_ (fun hHeld => ?_)
                                      · exact ⟨HK.out.1.2.1, HK.out.1.2.2⟩
                                      clear hK K
                                      try simp only [Act.put, ly1, ly2, ly3]
                                      refine wpAnyH_ready (rs := [5, 9]) (by kernel_rfl) (by simp) ?_
                                      refine AllReadyH.cons (o := { dst := some 104, op := Op.call { callee := Callee.value (Operand.func 46), args := #[Operand.tmp 100, Operand.tmp 102, Operand.tmp 103], argTypes := #[31, 31, 4] }, type := 68, pos := "exact.go:3633", after := #[{ on := 1, ground := Ground.data }, { on := 3, ground := Ground.data }, { on := 4, ground := Ground.data }, { on := 3, ground := Ground.chain }], guard := none }) rfl (fun K hK => ?_) ?_
                                      · go_simp
                                        have HK0 := HK.out.2
                                        refine (hI.out z2 b1 bm (HV.out _ HK.out.1.1).2.2 HN.out.1.1 HN.out.2 HN.out.1.2).mono ?_
                                        rintro e z3 ⟨b2, rfl, o1, c1⟩
                                        have HK := hide (show Y2 w z3 a1 a2 d1 d2 ∧ BB ≤ z3.heap.size from ⟨HK.out.1.b (c1), Nat.le_trans HK.out.2 (c1).size⟩)
                                        have HRS := hide (show M3 z3 X2 B2 B3 b0 dd ∧ GN z3 X5 B5 b5 dd (mkN dd 1) ∧ B3 ≤ BB ∧ X5 < BB from ⟨HRS.out.1.b (c1), HRS.out.2.1.b (c1), HRS.out.2.2⟩)
                                        have HC : Hid (RN z3 BB z3.heap.size b2 dd) := (o1.rn).wider HK0 (Nat.le_refl _) (Nat.le_refl _)
                                        clear o1 c1 HN
                                        go_wp2_with fail
                                        refine hK.out _ _ ?_ (fun hHeld => ?_)
                                        · exact ⟨HK.out.1.2.1, HK.out.1.2.2⟩
                                        clear hK K
                                        try simp only [Act.put, ly1, ly2, ly3]
                                        refine wpAnyH_take (i := 6) (oi := { dst := some 98, op := Op.move (Operand.tmp 104), type := 68, pos := "exact.go:3633", after := #[{ on := 5, ground := Ground.data }], guard := none }) (v := ?_) rfl (by kernel_rfl) (by kernel_rfl) (by kernel_rfl) (fun _ _ _ h => h) (Or.inl ⟨by rfl, ?_⟩) (by assumption) ?_
                                        rotate_left 1
                                        · (intro wq hSw; (try dsimp only at hSw); go_simp; try with_reducible rfl)
                                        try simp only [Act.put, ly1, ly2, ly3]
                                        refine wpAnyH_take (i := 7) (oi := { dst := some 105, op := Op.extract (Operand.tmp 98) 0, type := 31, pos := "exact.go:3633", after := #[{ on := 6, ground := Ground.data }], guard := none }) (v := ?_) rfl (by kernel_rfl) (by kernel_rfl) (by kernel_rfl) (fun _ _ _ h => h) (Or.inl ⟨by rfl, ?_⟩) (by assumption) ?_
                                        rotate_left 1
                                        · (intro wq hSw; (try dsimp only at hSw); go_simp; try with_reducible rfl)
                                        try simp only [Act.put, ly1, ly2, ly3]
                                        refine wpAnyH_take (i := 8) (oi := { dst := some 106, op := Op.extract (Operand.tmp 98) 1, type := 4, pos := "exact.go:3633", after := #[{ on := 6, ground := Ground.data }, { on := 10, ground := Ground.gcOnly Departure.lateStores }], guard := none }) (v := ?_) rfl (by kernel_rfl) (by kernel_rfl) (by kernel_rfl) (fun _ _ _ h => h) (Or.inl ⟨by rfl, ?_⟩) (by assumption) ?_
                                        rotate_left 1
                                        · (intro wq hSw; (try dsimp only at hSw); go_simp; try with_reducible rfl)
                                        try simp only [Act.put, ly1, ly2, ly3]
                                        refine wpAnyH_ready (rs := [9]) (by kernel_rfl) (by simp) ?_
                                        refine AllReadyH.cons (o := { dst := some 17, op := Op.alloc 31, type := 0, pos := "exact.go:3633", after := #[], guard := none }) rfl (fun K hK => ?_) AllReadyH.nil
                                        go_simp
                                        obtain ⟨z4, hwy⟩ : ∃ wy, wy = z3.alloc (.cells (nds Na.zero Nd.zero) 31) := ⟨_, rfl⟩
                                        have bx : Hid (Below z3.heap.size z3 z4) := by rw [hwy]; exact bal1 _ _
                                        have HY : Hid (NB z4 z3.heap.size 31 Na.zero Nd.zero ∧ BB ≤ z3.heap.size) := ⟨by rw [hwy]; exact NB.new _ _ _ _, HK.out.2⟩
                                        unfold nds Na.zero Nd.zero at hwy
                                        dsimp only [List.length_nil] at hwy
                                        rw [← hwy]
                                        clear hwy
                                        obtain ⟨Y, hYe⟩ : ∃ Y, Y = z3.heap.size := ⟨_, rfl⟩
                                        rw [← hYe] at HY ⊢
                                        have HK := hide (show Y2 w z4 a1 a2 d1 d2 ∧ BB ≤ z4.heap.size from ⟨HK.out.1.b (bx.out), Nat.le_trans HK.out.2 (bx.out).size⟩)
                                        have HRS := hide (show M3 z4 X2 B2 B3 b0 dd ∧ GN z4 X5 B5 b5 dd (mkN dd 1) ∧ B3 ≤ BB ∧ X5 < BB from ⟨HRS.out.1.b (bx.out), HRS.out.2.1.b (bx.out), HRS.out.2.2⟩)
                                        have HC := hide (rn_up3 HC.out bx.out)
                                        clear bx hYe
                                        refine hK.out _ _ ?_ (fun hHeld => ?_)
                                        · exact ⟨HK.out.1.2.1, HK.out.1.2.2⟩
                                        clear hK K
                                        try simp only [Act.put, ly1, ly2, ly3]
                                        refine wpAnyH_ready (rs := [10]) (by kernel_rfl) (by simp) ?_
                                        refine AllReadyH.cons (o := { dst := none, op := Op.store 31 (Operand.tmp 17) (Operand.tmp 105), type := 0, pos := "exact.go:3633", after := #[{ on := 9, ground := Ground.data }, { on := 7, ground := Ground.data }, { on := 5, ground := Ground.chain }, { on := 0, ground := Ground.phase }, { on := 1, ground := Ground.phase }, { on := 2, ground := Ground.phase }, { on := 3, ground := Ground.phase }, { on := 4, ground := Ground.phase }, { on := 5, ground := Ground.phase }, { on := 6, ground := Ground.phase }, { on := 7, ground := Ground.phase }, { on := 8, ground := Ground.textOnly Departure.lateStores }, { on := 9, ground := Ground.phase }], guard := none }) rfl (fun K hK => ?_) AllReadyH.nil
                                        refine step_if (by rfl) (st_node_wp _ _ rfl rfl Y b2 dd rfl rfl HY.out.1 (fun G hG hnG => ?_))
                                        have HK := hide (HK.out.1.far hG (by have := HBB.out; have := HY.out.2; omega))
                                        have HRS := hide (show M3 G X2 B2 B3 b0 dd ∧ GN G X5 B5 b5 dd (mkN dd 1) ∧ B3 ≤ BB ∧ X5 < BB from ⟨HRS.out.1.onb (OnB.only (B := BB) (T := Y + 1) hG ⟨HY.out.2, Nat.lt_succ_self _⟩) HRS.out.2.2.1, HRS.out.2.1.onb (OnB.only (B := BB) (T := Y + 1) hG ⟨HY.out.2, Nat.lt_succ_self _⟩) (.inl HRS.out.2.2.2), HRS.out.2.2⟩)
                                        have HF := hide (show M3 G Y BB G.heap.size b2 dd from ⟨hnG, by rw [hG.2.1]; exact rn_beside3 HC.out HY.out.1 hG, hnG.lt⟩)
                                        refine hK.out _ _ ?_ (fun hHeld => ?_)
                                        · exact ⟨HK.out.2.1, HK.out.2.2⟩
                                        clear hK K
                                        try simp only [Act.put, ly1, ly2, ly3]
                                        refine wpAnyH_take (i := 11) (oi := { dst := some 18, op := Op.assign (Operand.tmp 106), type := 4, pos := "exact.go:3633", after := #[{ on := 8, ground := Ground.data }, { on := 10, ground := Ground.chain }, { on := 0, ground := Ground.phase }, { on := 1, ground := Ground.phase }, { on := 2, ground := Ground.phase }, { on := 3, ground := Ground.phase }, { on := 4, ground := Ground.phase }, { on := 5, ground := Ground.phase }, { on := 6, ground := Ground.phase }, { on := 7, ground := Ground.phase }, { on := 8, ground := Ground.phase }, { on := 9, ground := Ground.phase }, { on := 10, ground := Ground.phase }], guard := none }) (v := ?_) rfl (by kernel_rfl) (by kernel_rfl) (by kernel_rfl) (fun _ _ _ h => h) (Or.inl ⟨by rfl, ?_⟩) (by assumption) ?_
                                        rotate_left 1
                                        · (intro wq hSw; (try dsimp only at hSw); go_simp; try with_reducible rfl)
                                        try simp only [Act.put, ly1, ly2, ly3]
                                        refine wpAnyH_done (by kernel_rfl) ?_ _
                                        go_wp2_with fail
                                        go_meet
                                        case rel => exact ⟨Y, b2, rfl, rfl, HK.out, HRS.out, HF.out⟩
                                      refine AllReadyH.cons (o := { dst := some 17, op := Op.alloc 31, type := 0, pos := "exact.go:3633", after := #[], guard := none }) rfl (fun K hK => ?_) AllReadyH.nil
                                      · go_simp
                                        obtain ⟨z5, hwy⟩ : ∃ wy, wy = z2.alloc (.cells (nds Na.zero Nd.zero) 31) := ⟨_, rfl⟩
                                        have bx : Hid (Below z2.heap.size z2 z5) := by rw [hwy]; exact bal1 _ _
                                        have HY : Hid (NB z5 z2.heap.size 31 Na.zero Nd.zero ∧ BB ≤ z2.heap.size) := ⟨by rw [hwy]; exact NB.new _ _ _ _, HK.out.2⟩
                                        unfold nds Na.zero Nd.zero at hwy
                                        dsimp only [List.length_nil] at hwy
                                        rw [← hwy]
                                        clear hwy
                                        obtain ⟨Y, hYe⟩ : ∃ Y, Y = z2.heap.size := ⟨_, rfl⟩
                                        rw [← hYe] at HY ⊢
                                        have HK := hide (show Y2 w z5 a1 a2 d1 d2 ∧ BB ≤ z5.heap.size from ⟨HK.out.1.b (bx.out), Nat.le_trans HK.out.2 (bx.out).size⟩)
                                        have HRS := hide (show M3 z5 X2 B2 B3 b0 dd ∧ GN z5 X5 B5 b5 dd (mkN dd 1) ∧ B3 ≤ BB ∧ X5 < BB from ⟨HRS.out.1.b (bx.out), HRS.out.2.1.b (bx.out), HRS.out.2.2⟩)
                                        have HN := hide (show (NV z5 b1 d1 ∧ NNC b1) ∧ NV z5 bm d2 from ⟨⟨HN.out.1.1.below bx.out, HN.out.1.2⟩, HN.out.2.below bx.out⟩)
                                        clear bx hYe
                                        refine hK.out _ _ ?_ (fun hHeld => ?_)
                                        · exact ⟨HK.out.1.2.1, HK.out.1.2.2⟩
                                        clear hK K
                                        try simp only [Act.put, ly1, ly2, ly3]
                                        refine wpAnyH_ready (rs := [5]) (by kernel_rfl) (by simp) ?_
                                        refine AllReadyH.cons (o := { dst := some 104, op := Op.call { callee := Callee.value (Operand.func 46), args := #[Operand.tmp 100, Operand.tmp 102, Operand.tmp 103], argTypes := #[31, 31, 4] }, type := 68, pos := "exact.go:3633", after := #[{ on := 1, ground := Ground.data }, { on := 3, ground := Ground.data }, { on := 4, ground := Ground.data }, { on := 3, ground := Ground.chain }], guard := none }) rfl (fun K hK => ?_) AllReadyH.nil
                                        go_simp
                                        have HK0 := HK.out.2
                                        refine (hI.out z5 b1 bm (HV.out _ HK.out.1.1).2.2 HN.out.1.1 HN.out.2 HN.out.1.2).mono ?_
                                        rintro e z6 ⟨b2, rfl, o1, c1⟩
                                        have HK := hide (show Y2 w z6 a1 a2 d1 d2 ∧ BB ≤ z6.heap.size from ⟨HK.out.1.b (c1), Nat.le_trans HK.out.2 (c1).size⟩)
                                        have HRS := hide (show M3 z6 X2 B2 B3 b0 dd ∧ GN z6 X5 B5 b5 dd (mkN dd 1) ∧ B3 ≤ BB ∧ X5 < BB from ⟨HRS.out.1.b (c1), HRS.out.2.1.b (c1), HRS.out.2.2⟩)
                                        have HY := hide (show NB z6 Y 31 Na.zero Nd.zero ∧ BB ≤ Y from ⟨HY.out.1.b (c1), HY.out.2⟩)
                                        have HC : Hid (RN z6 BB z6.heap.size b2 dd) := (o1.rn).wider HK0 (Nat.le_refl _) (Nat.le_refl _)
                                        clear o1 c1 HN
                                        go_wp2_with fail
                                        refine hK.out _ _ ?_ (fun hHeld => ?_)
                                        · exact ⟨HK.out.1.2.1, HK.out.1.2.2⟩
                                        clear hK K
                                        try simp only [Act.put, ly1, ly2, ly3]
                                        refine wpAnyH_take (i := 6) (oi := { dst := some 98, op := Op.move (Operand.tmp 104), type := 68, pos := "exact.go:3633", after := #[{ on := 5, ground := Ground.data }], guard := none }) (v := ?_) rfl (by kernel_rfl) (by kernel_rfl) (by kernel_rfl) (fun _ _ _ h => h) (Or.inl ⟨by rfl, ?_⟩) (by assumption) ?_
                                        rotate_left 1
                                        · (intro wq hSw; (try dsimp only at hSw); go_simp; try with_reducible rfl)
                                        try simp only [Act.put, ly1, ly2, ly3]
                                        refine wpAnyH_take (i := 7) (oi := { dst := some 105, op := Op.extract (Operand.tmp 98) 0, type := 31, pos := "exact.go:3633", after := #[{ on := 6, ground := Ground.data }], guard := none }) (v := ?_) rfl (by kernel_rfl) (by kernel_rfl) (by kernel_rfl) (fun _ _ _ h => h) (Or.inl ⟨by rfl, ?_⟩) (by assumption) ?_
                                        rotate_left 1
                                        · (intro wq hSw; (try dsimp only at hSw); go_simp; try with_reducible rfl)
                                        try simp only [Act.put, ly1, ly2, ly3]
                                        refine wpAnyH_take (i := 8) (oi := { dst := some 106, op := Op.extract (Operand.tmp 98) 1, type := 4, pos := "exact.go:3633", after := #[{ on := 6, ground := Ground.data }, { on := 10, ground := Ground.gcOnly Departure.lateStores }], guard := none }) (v := ?_) rfl (by kernel_rfl) (by kernel_rfl) (by kernel_rfl) (fun _ _ _ h => h) (Or.inl ⟨by rfl, ?_⟩) (by assumption) ?_
                                        rotate_left 1
                                        · (intro wq hSw; (try dsimp only at hSw); go_simp; try with_reducible rfl)
                                        try simp only [Act.put, ly1, ly2, ly3]
                                        refine wpAnyH_ready (rs := [10]) (by kernel_rfl) (by simp) ?_
                                        refine AllReadyH.cons (o := { dst := none, op := Op.store 31 (Operand.tmp 17) (Operand.tmp 105), type := 0, pos := "exact.go:3633", after := #[{ on := 9, ground := Ground.data }, { on := 7, ground := Ground.data }, { on := 5, ground := Ground.chain }, { on := 0, ground := Ground.phase }, { on := 1, ground := Ground.phase }, { on := 2, ground := Ground.phase }, { on := 3, ground := Ground.phase }, { on := 4, ground := Ground.phase }, { on := 5, ground := Ground.phase }, { on := 6, ground := Ground.phase }, { on := 7, ground := Ground.phase }, { on := 8, ground := Ground.textOnly Departure.lateStores }, { on := 9, ground := Ground.phase }], guard := none }) rfl (fun K hK => ?_) AllReadyH.nil
                                        refine step_if (by rfl) (st_node_wp _ _ rfl rfl Y b2 dd rfl rfl HY.out.1 (fun G hG hnG => ?_))
                                        have HK := hide (HK.out.1.far hG (by have := HBB.out; have := HY.out.2; omega))
                                        have HRS := hide (show M3 G X2 B2 B3 b0 dd ∧ GN G X5 B5 b5 dd (mkN dd 1) ∧ B3 ≤ BB ∧ X5 < BB from ⟨HRS.out.1.onb (OnB.only (B := BB) (T := Y + 1) hG ⟨HY.out.2, Nat.lt_succ_self _⟩) HRS.out.2.2.1, HRS.out.2.1.onb (OnB.only (B := BB) (T := Y + 1) hG ⟨HY.out.2, Nat.lt_succ_self _⟩) (.inl HRS.out.2.2.2), HRS.out.2.2⟩)
                                        have HF := hide (show M3 G Y BB G.heap.size b2 dd from ⟨hnG, by rw [hG.2.1]; exact rn_beside3 HC.out HY.out.1 hG, hnG.lt⟩)
                                        refine hK.out _ _ ?_ (fun hHeld => ?_)
                                        · exact ⟨HK.out.2.1, HK.out.2.2⟩
                                        clear hK K
                                        try simp only [Act.put, ly1, ly2, ly3]
                                        refine wpAnyH_take (i := 11) (oi := { dst := some 18, op := Op.assign (Operand.tmp 106), type := 4, pos := "exact.go:3633", after := #[{ on := 8, ground := Ground.data }, { on := 10, ground := Ground.chain }, { on := 0, ground := Ground.phase }, { on := 1, ground := Ground.phase }, { on := 2, ground := Ground.phase }, { on := 3, ground := Ground.phase }, { on := 4, ground := Ground.phase }, { on := 5, ground := Ground.phase }, { on := 6, ground := Ground.phase }, { on := 7, ground := Ground.phase }, { on := 8, ground := Ground.phase }, { on := 9, ground := Ground.phase }, { on := 10, ground := Ground.phase }], guard := none }) (v := ?_) rfl (by kernel_rfl) (by kernel_rfl) (by kernel_rfl) (fun _ _ _ h => h) (Or.inl ⟨by rfl, ?_⟩) (by assumption) ?_
                                        rotate_left 1
                                        · (intro wq hSw; (try dsimp only at hSw); go_simp; try with_reducible rfl)
                                        try simp only [Act.put, ly1, ly2, ly3]
                                        refine wpAnyH_done (by kernel_rfl) ?_ _
                                        go_wp2_with fail
                                        go_meet
                                        case rel => exact ⟨Y, b2, rfl, rfl, HK.out, HRS.out, HF.out⟩
                                    refine AllReadyH.cons (o := { dst := some 17, op := Op.alloc 31, type := 0, pos := "exact.go:3633", after := #[], guard := none }) rfl (fun K hK => ?_) AllReadyH.nil
                                    · go_simp
                                      obtain ⟨z7, hwy⟩ : ∃ wy, wy = z1.alloc (.cells (nds Na.zero Nd.zero) 31) := ⟨_, rfl⟩
                                      have bx : Hid (Below z1.heap.size z1 z7) := by rw [hwy]; exact bal1 _ _
                                      have HY : Hid (NB z7 z1.heap.size 31 Na.zero Nd.zero ∧ BB ≤ z1.heap.size) := ⟨by rw [hwy]; exact NB.new _ _ _ _, HK.out.2⟩
                                      unfold nds Na.zero Nd.zero at hwy
                                      dsimp only [List.length_nil] at hwy
                                      rw [← hwy]
                                      clear hwy
                                      obtain ⟨Y, hYe⟩ : ∃ Y, Y = z1.heap.size := ⟨_, rfl⟩
                                      rw [← hYe] at HY ⊢
                                      have HK := hide (show Y2 w z7 a1 a2 d1 d2 ∧ BB ≤ z7.heap.size from ⟨HK.out.1.b (bx.out), Nat.le_trans HK.out.2 (bx.out).size⟩)
                                      have HRS := hide (show M3 z7 X2 B2 B3 b0 dd ∧ GN z7 X5 B5 b5 dd (mkN dd 1) ∧ B3 ≤ BB ∧ X5 < BB from ⟨HRS.out.1.b (bx.out), HRS.out.2.1.b (bx.out), HRS.out.2.2⟩)
                                      have HN := hide (show NV z7 b1 d1 ∧ NNC b1 from ⟨HN.out.1.below bx.out, HN.out.2⟩)
                                      clear bx hYe
                                      refine hK.out _ _ ?_ (fun hHeld => ?_)
                                      · exact ⟨HK.out.1.2.1, HK.out.1.2.2⟩
                                      clear hK K
                                      try simp only [Act.put, ly1, ly2, ly3]
                                      refine wpAnyH_ready (rs := [3]) (by kernel_rfl) (by simp) ?_
                                      refine AllReadyH.cons (o := { dst := some 102, op := Op.call { callee := Callee.value (Operand.func 22), args := #[Operand.tmp 101], argTypes := #[39] }, type := 31, pos := "exact.go:3633", after := #[{ on := 2, ground := Ground.data }, { on := 1, ground := Ground.chain }], guard := none }) rfl (fun K hK => ?_) AllReadyH.nil
                                      go_simp
                                      refine (ton_any a2 d2 z7 HD.out.2 (HV.out _ HK.out.1.1).2.1).mono ?_
                                      rintro e z8 ⟨bm, rfl, o1, c1⟩
                                      have HK := hide (show Y2 w z8 a1 a2 d1 d2 ∧ BB ≤ z8.heap.size from ⟨HK.out.1.b (c1), Nat.le_trans HK.out.2 (c1).size⟩)
                                      have HRS := hide (show M3 z8 X2 B2 B3 b0 dd ∧ GN z8 X5 B5 b5 dd (mkN dd 1) ∧ B3 ≤ BB ∧ X5 < BB from ⟨HRS.out.1.b (c1), HRS.out.2.1.b (c1), HRS.out.2.2⟩)
                                      have HY := hide (show NB z8 Y 31 Na.zero Nd.zero ∧ BB ≤ Y from ⟨HY.out.1.b (c1), HY.out.2⟩)
                                      have HN := hide (show (NV z8 b1 d1 ∧ NNC b1) ∧ NV z8 bm d2 from ⟨⟨HN.out.1.below c1, HN.out.2⟩, o1.nv⟩)
                                      clear o1 c1
                                      go_wp2_with fail
                                      refine hK.out _ _ ?_ (fun hHeld => ?_)
                                      · exact ⟨HK.out.1.2.1, HK.out.1.2.2⟩
                                      clear hK K
                                      try simp only [Act.put, ly1, ly2, ly3]
                                      refine wpAnyH_ready (rs := [5]) (by kernel_rfl) (by simp) ?_
                                      refine AllReadyH.cons (o := { dst := some 104, op := Op.call { callee := Callee.value (Operand.func 46), args := #[Operand.tmp 100, Operand.tmp 102, Operand.tmp 103], argTypes := #[31, 31, 4] }, type := 68, pos := "exact.go:3633", after := #[{ on := 1, ground := Ground.data }, { on := 3, ground := Ground.data }, { on := 4, ground := Ground.data }, { on := 3, ground := Ground.chain }], guard := none }) rfl (fun K hK => ?_) AllReadyH.nil
                                      go_simp
                                      have HK0 := HK.out.2
                                      refine (hI.out z8 b1 bm (HV.out _ HK.out.1.1).2.2 HN.out.1.1 HN.out.2 HN.out.1.2).mono ?_
                                      rintro e z9 ⟨b2, rfl, o1, c1⟩
                                      have HK := hide (show Y2 w z9 a1 a2 d1 d2 ∧ BB ≤ z9.heap.size from ⟨HK.out.1.b (c1), Nat.le_trans HK.out.2 (c1).size⟩)
                                      have HRS := hide (show M3 z9 X2 B2 B3 b0 dd ∧ GN z9 X5 B5 b5 dd (mkN dd 1) ∧ B3 ≤ BB ∧ X5 < BB from ⟨HRS.out.1.b (c1), HRS.out.2.1.b (c1), HRS.out.2.2⟩)
                                      have HY := hide (show NB z9 Y 31 Na.zero Nd.zero ∧ BB ≤ Y from ⟨HY.out.1.b (c1), HY.out.2⟩)
                                      have HC : Hid (RN z9 BB z9.heap.size b2 dd) := (o1.rn).wider HK0 (Nat.le_refl _) (Nat.le_refl _)
                                      clear o1 c1 HN
                                      go_wp2_with fail
                                      refine hK.out _ _ ?_ (fun hHeld => ?_)
                                      · exact ⟨HK.out.1.2.1, HK.out.1.2.2⟩
                                      clear hK K
                                      try simp only [Act.put, ly1, ly2, ly3]
                                      refine wpAnyH_take (i := 6) (oi := { dst := some 98, op := Op.move (Operand.tmp 104), type := 68, pos := "exact.go:3633", after := #[{ on := 5, ground := Ground.data }], guard := none }) (v := ?_) rfl (by kernel_rfl) (by kernel_rfl) (by kernel_rfl) (fun _ _ _ h => h) (Or.inl ⟨by rfl, ?_⟩) (by assumption) ?_
                                      rotate_left 1
                                      · (intro wq hSw; (try dsimp only at hSw); go_simp; try with_reducible rfl)
                                      try simp only [Act.put, ly1, ly2, ly3]
                                      refine wpAnyH_take (i := 7) (oi := { dst := some 105, op := Op.extract (Operand.tmp 98) 0, type := 31, pos := "exact.go:3633", after := #[{ on := 6, ground := Ground.data }], guard := none }) (v := ?_) rfl (by kernel_rfl) (by kernel_rfl) (by kernel_rfl) (fun _ _ _ h => h) (Or.inl ⟨by rfl, ?_⟩) (by assumption) ?_
                                      rotate_left 1
                                      · (intro wq hSw; (try dsimp only at hSw); go_simp; try with_reducible rfl)
                                      try simp only [Act.put, ly1, ly2, ly3]
                                      refine wpAnyH_take (i := 8) (oi := { dst := some 106, op := Op.extract (Operand.tmp 98) 1, type := 4, pos := "exact.go:3633", after := #[{ on := 6, ground := Ground.data }, { on := 10, ground := Ground.gcOnly Departure.lateStores }], guard := none }) (v := ?_) rfl (by kernel_rfl) (by kernel_rfl) (by kernel_rfl) (fun _ _ _ h => h) (Or.inl ⟨by rfl, ?_⟩) (by assumption) ?_
                                      rotate_left 1
                                      · (intro wq hSw; (try dsimp only at hSw); go_simp; try with_reducible rfl)
                                      try simp only [Act.put, ly1, ly2, ly3]
                                      refine wpAnyH_ready (rs := [10]) (by kernel_rfl) (by simp) ?_
                                      refine AllReadyH.cons (o := { dst := none, op := Op.store 31 (Operand.tmp 17) (Operand.tmp 105), type := 0, pos := "exact.go:3633", after := #[{ on := 9, ground := Ground.data }, { on := 7, ground := Ground.data }, { on := 5, ground := Ground.chain }, { on := 0, ground := Ground.phase }, { on := 1, ground := Ground.phase }, { on := 2, ground := Ground.phase }, { on := 3, ground := Ground.phase }, { on := 4, ground := Ground.phase }, { on := 5, ground := Ground.phase }, { on := 6, ground := Ground.phase }, { on := 7, ground := Ground.phase }, { on := 8, ground := Ground.textOnly Departure.lateStores }, { on := 9, ground := Ground.phase }], guard := none }) rfl (fun K hK => ?_) AllReadyH.nil
                                      refine step_if (by rfl) (st_node_wp _ _ rfl rfl Y b2 dd rfl rfl HY.out.1 (fun G hG hnG => ?_))
                                      have HK := hide (HK.out.1.far hG (by have := HBB.out; have := HY.out.2; omega))
                                      have HRS := hide (show M3 G X2 B2 B3 b0 dd ∧ GN G X5 B5 b5 dd (mkN dd 1) ∧ B3 ≤ BB ∧ X5 < BB from ⟨HRS.out.1.onb (OnB.only (B := BB) (T := Y + 1) hG ⟨HY.out.2, Nat.lt_succ_self _⟩) HRS.out.2.2.1, HRS.out.2.1.onb (OnB.only (B := BB) (T := Y + 1) hG ⟨HY.out.2, Nat.lt_succ_self _⟩) (.inl HRS.out.2.2.2), HRS.out.2.2⟩)
                                      have HF := hide (show M3 G Y BB G.heap.size b2 dd from ⟨hnG, by rw [hG.2.1]; exact rn_beside3 HC.out HY.out.1 hG, hnG.lt⟩)
                                      refine hK.out _ _ ?_ (fun hHeld => ?_)
                                      · exact ⟨HK.out.2.1, HK.out.2.2⟩
                                      clear hK K
                                      try simp only [Act.put, ly1, ly2, ly3]
                                      refine wpAnyH_take (i := 11) (oi := { dst := some 18, op := Op.assign (Operand.tmp 106), type := 4, pos := "exact.go:3633", after := #[{ on := 8, ground := Ground.data }, { on := 10, ground := Ground.chain }, { on := 0, ground := Ground.phase }, { on := 1, ground := Ground.phase }, { on := 2, ground := Ground.phase }, { on := 3, ground := Ground.phase }, { on := 4, ground := Ground.phase }, { on := 5, ground := Ground.phase }, { on := 6, ground := Ground.phase }, { on := 7, ground := Ground.phase }, { on := 8, ground := Ground.phase }, { on := 9, ground := Ground.phase }, { on := 10, ground := Ground.phase }], guard := none }) (v := ?_) rfl (by kernel_rfl) (by kernel_rfl) (by kernel_rfl) (fun _ _ _ h => h) (Or.inl ⟨by rfl, ?_⟩) (by assumption) ?_
                                      rotate_left 1
                                      · (intro wq hSw; (try dsimp only at hSw); go_simp; try with_reducible rfl)
                                      try simp only [Act.put, ly1, ly2, ly3]
                                      refine wpAnyH_done (by kernel_rfl) ?_ _
                                      go_wp2_with fail
                                      go_meet
                                      case rel => exact ⟨Y, b2, rfl, rfl, HK.out, HRS.out, HF.out⟩
                                  refine AllReadyH.cons (o := { dst := some 17, op := Op.alloc 31, type := 0, pos := "exact.go:3633", after := #[], guard := none }) rfl (fun K hK => ?_) AllReadyH.nil
                                  · go_simp
                                    obtain ⟨z10, hwy⟩ : ∃ wy, wy = (w14.alloc (.cells (nds Na.zero Nd.zero) 31)).drew := ⟨_, rfl⟩
                                    have bx : Hid (Below w14.drew.heap.size w14.drew z10) := by rw [hwy]; exact alloc_drew3 _ _
                                    have HY : Hid (NB z10 w14.heap.size 31 Na.zero Nd.zero ∧ BB ≤ w14.heap.size) := ⟨by rw [hwy]; exact NB.new _ _ _ _, HK.out.2⟩
                                    unfold nds Na.zero Nd.zero at hwy
                                    dsimp only [List.length_nil] at hwy
                                    rw [← hwy]
                                    clear hwy
                                    obtain ⟨Y, hYe⟩ : ∃ Y, Y = w14.heap.size := ⟨_, rfl⟩
                                    rw [← hYe] at HY ⊢
                                    have HK := hide (show Y2 w z10 a1 a2 d1 d2 ∧ BB ≤ z10.heap.size from ⟨HK.out.1.b (bx.out), Nat.le_trans HK.out.2 (bx.out).size⟩)
                                    have HRS := hide (show M3 z10 X2 B2 B3 b0 dd ∧ GN z10 X5 B5 b5 dd (mkN dd 1) ∧ B3 ≤ BB ∧ X5 < BB from ⟨HRS.out.1.b (bx.out), HRS.out.2.1.b (bx.out), HRS.out.2.2⟩)
                                    clear bx hYe
                                    refine hK.out _ _ ?_ (fun hHeld => ?_)
                                    · exact ⟨HK.out.1.2.1, HK.out.1.2.2⟩
                                    clear hK K
                                    try simp only [Act.put, ly1, ly2, ly3]
                                    refine wpAnyH_ready (rs := [1]) (by kernel_rfl) (by simp) ?_
                                    refine AllReadyH.cons (o := { dst := some 100, op := Op.call { callee := Callee.value (Operand.func 22), args := #[Operand.tmp 99], argTypes := #[39] }, type := 31, pos := "exact.go:3633", after := #[{ on := 0, ground := Ground.data }], guard := none }) rfl (fun K hK => ?_) AllReadyH.nil
                                    go_simp
                                    refine (ton_any a1 d1 z10 HD.out.1 (HV.out _ HK.out.1.1).1).mono ?_
                                    rintro e z11 ⟨b1, rfl, o1, c1⟩
                                    have HK := hide (show Y2 w z11 a1 a2 d1 d2 ∧ BB ≤ z11.heap.size from ⟨HK.out.1.b (c1), Nat.le_trans HK.out.2 (c1).size⟩)
                                    have HRS := hide (show M3 z11 X2 B2 B3 b0 dd ∧ GN z11 X5 B5 b5 dd (mkN dd 1) ∧ B3 ≤ BB ∧ X5 < BB from ⟨HRS.out.1.b (c1), HRS.out.2.1.b (c1), HRS.out.2.2⟩)
                                    have HY := hide (show NB z11 Y 31 Na.zero Nd.zero ∧ BB ≤ Y from ⟨HY.out.1.b (c1), HY.out.2⟩)
                                    have HN := hide (show NV z11 b1 d1 ∧ NNC b1 from ⟨o1.nv, o1.2.1⟩)
                                    clear o1 c1
                                    go_wp2_with fail
                                    refine hK.out _ _ ?_ (fun hHeld => ?_)
                                    · exact ⟨HK.out.1.2.1, HK.out.1.2.2⟩
                                    clear hK K
                                    try simp only [Act.put, ly1, ly2, ly3]
                                    refine wpAnyH_ready (rs := [3]) (by kernel_rfl) (by simp) ?_
                                    refine AllReadyH.cons (o := { dst := some 102, op := Op.call { callee := Callee.value (Operand.func 22), args := #[Operand.tmp 101], argTypes := #[39] }, type := 31, pos := "exact.go:3633", after := #[{ on := 2, ground := Ground.data }, { on := 1, ground := Ground.chain }], guard := none }) rfl (fun K hK => ?_) AllReadyH.nil
                                    go_simp
                                    refine (ton_any a2 d2 z11 HD.out.2 (HV.out _ HK.out.1.1).2.1).mono ?_
                                    rintro e z12 ⟨bm, rfl, o1, c1⟩
                                    have HK := hide (show Y2 w z12 a1 a2 d1 d2 ∧ BB ≤ z12.heap.size from ⟨HK.out.1.b (c1), Nat.le_trans HK.out.2 (c1).size⟩)
                                    have HRS := hide (show M3 z12 X2 B2 B3 b0 dd ∧ GN z12 X5 B5 b5 dd (mkN dd 1) ∧ B3 ≤ BB ∧ X5 < BB from ⟨HRS.out.1.b (c1), HRS.out.2.1.b (c1), HRS.out.2.2⟩)
                                    have HY := hide (show NB z12 Y 31 Na.zero Nd.zero ∧ BB ≤ Y from ⟨HY.out.1.b (c1), HY.out.2⟩)
                                    have HN := hide (show (NV z12 b1 d1 ∧ NNC b1) ∧ NV z12 bm d2 from ⟨⟨HN.out.1.below c1, HN.out.2⟩, o1.nv⟩)
                                    clear o1 c1
                                    go_wp2_with fail
                                    refine hK.out _ _ ?_ (fun hHeld => ?_)
                                    · exact ⟨HK.out.1.2.1, HK.out.1.2.2⟩
                                    clear hK K
                                    try simp only [Act.put, ly1, ly2, ly3]
                                    refine wpAnyH_ready (rs := [5]) (by kernel_rfl) (by simp) ?_
                                    refine AllReadyH.cons (o := { dst := some 104, op := Op.call { callee := Callee.value (Operand.func 46), args := #[Operand.tmp 100, Operand.tmp 102, Operand.tmp 103], argTypes := #[31, 31, 4] }, type := 68, pos := "exact.go:3633", after := #[{ on := 1, ground := Ground.data }, { on := 3, ground := Ground.data }, { on := 4, ground := Ground.data }, { on := 3, ground := Ground.chain }], guard := none }) rfl (fun K hK => ?_) AllReadyH.nil
                                    go_simp
                                    have HK0 := HK.out.2
                                    refine (hI.out z12 b1 bm (HV.out _ HK.out.1.1).2.2 HN.out.1.1 HN.out.2 HN.out.1.2).mono ?_
                                    rintro e z13 ⟨b2, rfl, o1, c1⟩
                                    have HK := hide (show Y2 w z13 a1 a2 d1 d2 ∧ BB ≤ z13.heap.size from ⟨HK.out.1.b (c1), Nat.le_trans HK.out.2 (c1).size⟩)
                                    have HRS := hide (show M3 z13 X2 B2 B3 b0 dd ∧ GN z13 X5 B5 b5 dd (mkN dd 1) ∧ B3 ≤ BB ∧ X5 < BB from ⟨HRS.out.1.b (c1), HRS.out.2.1.b (c1), HRS.out.2.2⟩)
                                    have HY := hide (show NB z13 Y 31 Na.zero Nd.zero ∧ BB ≤ Y from ⟨HY.out.1.b (c1), HY.out.2⟩)
                                    have HC : Hid (RN z13 BB z13.heap.size b2 dd) := (o1.rn).wider HK0 (Nat.le_refl _) (Nat.le_refl _)
                                    clear o1 c1 HN
                                    go_wp2_with fail
                                    refine hK.out _ _ ?_ (fun hHeld => ?_)
                                    · exact ⟨HK.out.1.2.1, HK.out.1.2.2⟩
                                    clear hK K
                                    try simp only [Act.put, ly1, ly2, ly3]
                                    refine wpAnyH_take (i := 6) (oi := { dst := some 98, op := Op.move (Operand.tmp 104), type := 68, pos := "exact.go:3633", after := #[{ on := 5, ground := Ground.data }], guard := none }) (v := ?_) rfl (by kernel_rfl) (by kernel_rfl) (by kernel_rfl) (fun _ _ _ h => h) (Or.inl ⟨by rfl, ?_⟩) (by assumption) ?_
                                    rotate_left 1
                                    · (intro wq hSw; (try dsimp only at hSw); go_simp; try with_reducible rfl)
                                    try simp only [Act.put, ly1, ly2, ly3]
                                    refine wpAnyH_take (i := 7) (oi := { dst := some 105, op := Op.extract (Operand.tmp 98) 0, type := 31, pos := "exact.go:3633", after := #[{ on := 6, ground := Ground.data }], guard := none }) (v := ?_) rfl (by kernel_rfl) (by kernel_rfl) (by kernel_rfl) (fun _ _ _ h => h) (Or.inl ⟨by rfl, ?_⟩) (by assumption) ?_
                                    rotate_left 1
                                    · (intro wq hSw; (try dsimp only at hSw); go_simp; try with_reducible rfl)
                                    try simp only [Act.put, ly1, ly2, ly3]
                                    refine wpAnyH_take (i := 8) (oi := { dst := some 106, op := Op.extract (Operand.tmp 98) 1, type := 4, pos := "exact.go:3633", after := #[{ on := 6, ground := Ground.data }, { on := 10, ground := Ground.gcOnly Departure.lateStores }], guard := none }) (v := ?_) rfl (by kernel_rfl) (by kernel_rfl) (by kernel_rfl) (fun _ _ _ h => h) (Or.inl ⟨by rfl, ?_⟩) (by assumption) ?_
                                    rotate_left 1
                                    · (intro wq hSw; (try dsimp only at hSw); go_simp; try with_reducible rfl)
                                    try simp only [Act.put, ly1, ly2, ly3]
                                    refine wpAnyH_ready (rs := [10]) (by kernel_rfl) (by simp) ?_
                                    refine AllReadyH.cons (o := { dst := none, op := Op.store 31 (Operand.tmp 17) (Operand.tmp 105), type := 0, pos := "exact.go:3633", after := #[{ on := 9, ground := Ground.data }, { on := 7, ground := Ground.data }, { on := 5, ground := Ground.chain }, { on := 0, ground := Ground.phase }, { on := 1, ground := Ground.phase }, { on := 2, ground := Ground.phase }, { on := 3, ground := Ground.phase }, { on := 4, ground := Ground.phase }, { on := 5, ground := Ground.phase }, { on := 6, ground := Ground.phase }, { on := 7, ground := Ground.phase }, { on := 8, ground := Ground.textOnly Departure.lateStores }, { on := 9, ground := Ground.phase }], guard := none }) rfl (fun K hK => ?_) AllReadyH.nil
                                    refine step_if (by rfl) (st_node_wp _ _ rfl rfl Y b2 dd rfl rfl HY.out.1 (fun G hG hnG => ?_))
                                    have HK := hide (HK.out.1.far hG (by have := HBB.out; have := HY.out.2; omega))
                                    have HRS := hide (show M3 G X2 B2 B3 b0 dd ∧ GN G X5 B5 b5 dd (mkN dd 1) ∧ B3 ≤ BB ∧ X5 < BB from ⟨HRS.out.1.onb (OnB.only (B := BB) (T := Y + 1) hG ⟨HY.out.2, Nat.lt_succ_self _⟩) HRS.out.2.2.1, HRS.out.2.1.onb (OnB.only (B := BB) (T := Y + 1) hG ⟨HY.out.2, Nat.lt_succ_self _⟩) (.inl HRS.out.2.2.2), HRS.out.2.2⟩)
                                    have HF := hide (show M3 G Y BB G.heap.size b2 dd from ⟨hnG, by rw [hG.2.1]; exact rn_beside3 HC.out HY.out.1 hG, hnG.lt⟩)
                                    refine hK.out _ _ ?_ (fun hHeld => ?_)
                                    · exact ⟨HK.out.2.1, HK.out.2.2⟩
                                    clear hK K
                                    try simp only [Act.put, ly1, ly2, ly3]
                                    refine wpAnyH_take (i := 11) (oi := { dst := some 18, op := Op.assign (Operand.tmp 106), type := 4, pos := "exact.go:3633", after := #[{ on := 8, ground := Ground.data }, { on := 10, ground := Ground.chain }, { on := 0, ground := Ground.phase }, { on := 1, ground := Ground.phase }, { on := 2, ground := Ground.phase }, { on := 3, ground := Ground.phase }, { on := 4, ground := Ground.phase }, { on := 5, ground := Ground.phase }, { on := 6, ground := Ground.phase }, { on := 7, ground := Ground.phase }, { on := 8, ground := Ground.phase }, { on := 9, ground := Ground.phase }, { on := 10, ground := Ground.phase }], guard := none }) (v := ?_) rfl (by kernel_rfl) (by kernel_rfl) (by kernel_rfl) (fun _ _ _ h => h) (Or.inl ⟨by rfl, ?_⟩) (by assumption) ?_
                                    rotate_left 1
                                    · (intro wq hSw; (try dsimp only at hSw); go_simp; try with_reducible rfl)
                                    try simp only [Act.put, ly1, ly2, ly3]
                                    refine wpAnyH_done (by kernel_rfl) ?_ _
                                    go_wp2_with fail
                                    go_meet
                                    case rel => exact ⟨Y, b2, rfl, rfl, HK.out, HRS.out, HF.out⟩
                                case rest =>
                                  obtain ⟨X6, b6, rfl, rfl, hc⟩ := hcut
                                  have HL6 := hide hc.out
                                  clear hc HK HRS hI
                                  as_aux_lemma =>
                                    go_wp2_with (first | (refine ld_node rfl _ rfl X6 rfl HL6.out.2.2.1 ?_) | (refine ld_node rfl _ rfl X2 rfl HL6.out.2.1.1.1 ?_))
                                    refine (eqn_yes b6 b0 dd wc HDD.out HL6.out.2.2.2.1.nv HL6.out.2.1.1.2.1.nv).mono ?_
                                    rintro e w17 ⟨rfl, c1⟩
                                    have HM : Hid (Y2 w w17 a1 a2 d1 d2 ∧ GN w17 X5 B5 b5 dd (mkN dd 1)) := ⟨HL6.out.1.b c1, HL6.out.2.1.2.1.b c1⟩
                                    clear c1 HL6
                                    as_aux_lemma =>
                                      go_wp2_with (refine ld_node rfl _ rfl X5 rfl HM.out.2.1 ?_)
                                      refine (hheld2.out w17 HM.out.2.2.nv).mono ?_
                                      rintro e w18 ⟨rfl, c1⟩
                                      have HZ : Hid (Below w.heap.size w w18) := (HM.out.1.b c1).1
                                      clear c1 HM hheld2
                                      go_wp2
                                      go_ret
                                      exact ⟨rfl, HZ.out⟩

end Go.Proofs.YtkndnndildnbpaaGreatDoor.fnExactLead

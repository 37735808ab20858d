/- The walk of a law: what its body does at any argument. -/
import Derived.WalkKit
import Derived.ProofKit
import Derived.OpenShut
import Derived.ShutString
import Derived.ChangeOld
import Derived.Below
import Derived.Test.YtkndnndildnbpaaGreatDoorHn

namespace Go.Proofs.YtkndnndildnbpaaGreatDoor.fnExactLeave
open Go.ChangeShapes Go.WideShapes Go.ChangeAt Go.RowKit
set_option linter.unusedVariables false

set_option maxHeartbeats 100000000 in
set_option maxRecDepth 100000 in
theorem walk (a : Na) (d : Nd) (w : World) (hg : ErrT w) (hv : NV w a d) (hw : NBw d) :
    Calls Tryz.prog 13 #[nv a d] w fun e w' => e = .returned (.bool true) ∧ Below w.heap.size w w' := by
  obtain ⟨W0, hW0⟩ : ∃ W0, W0 = w.alloc (.cells (nds a d) 39) := ⟨_, rfl⟩
  have HA : Hid (Y0 w W0 a d) := by rw [hW0]; exact ⟨bal1 _ _, NB.new _ _ _ _⟩
  have HV : Hid (∀ V, Below w.heap.size w V → NV V a d ∧ ErrT V) := fun V hb => ⟨hv.below hb, hg.below hb⟩
  have hsz := hide (szn_any a d 1048576 W0 hw (by omega) (by omega) (HV.out _ HA.out.1).1)
  clear hg hv hw 
  unfold nv
  unfold nds at hW0 ⊢
  go_enter Tryz.func13, Tryz.ntmps13
  go_upto_region 1 with fail
  rw [← hW0]
  clear hW0
  generalize Value.agg #[.int .i64 d.id, .bool d.up, .bool d.pr, .slice a.im d.im.length a.imc, .slice a.go d.g.length a.gc, .slice a.bo d.n a.bc, .bool d.fi, .bool d.ol, .bool d.he, .int .i64 d.la, .slice a.aA d.A.length a.cA, .slice a.aB d.C.length a.cB, .slice a.co d.co.length a.coc, .slice a.so d.m a.sc, .slice a.cp d.cp.length a.cpc, .slice a.wt d.wt.length a.wtc] = vn at *
  go_wp2_with (refine ld_nodel rfl _ rfl w.heap.size rfl HA.out.2 ?_)
  refine hsz.out.mono ?_
  rintro e ws ⟨hs, bs⟩
  have H1 := hide (HA.out.b bs)
  clear bs HA hsz
  rcases hs with ⟨hle, rfl⟩ | rfl
  case inr =>
    go_wp2
    go_ret
    exact ⟨rfl, H1.out.1⟩
  have hkd : ¬ (1048576 : Int) - ntot d < 0 := by omega
  have hk0 : 0 ≤ ntot d := by unfold ntot; omega
  have HD := hide (nbd_of hle)
  have HT : Hid (ntot d ≤ 1048576) := hle
  have HTT : Hid (ntot (pick Classical.propDecidable (LvC d) (lvn d) d) ≤ 1048576) := ntot_lv hle
  have HDD : Hid (NBd (pick Classical.propDecidable (LvC d) (lvn d) d)) := nbd_of HTT.out
  have hS : Hid (∀ (V : World) (b : Na), NV V b d → NNC b → Calls Tryz.prog 47 #[nv b d] V fun e w' => ∃ c, e = .returned (.tuple #[nv c (pick Classical.propDecidable (LvC d) (lvn d) d), .bool (dcd Classical.propDecidable (LvC d))]) ∧ RN w' V.heap.size w'.heap.size c (pick Classical.propDecidable (LvC d) (lvn d) d) ∧ Below V.heap.size V w') := fun V b h1 h2 => leave_s b d V HD.out h1 h2
  have hI : Hid (∀ (V : World) (b : Na), ErrT V → NV V b d → NNC b → Calls Tryz.prog 48 #[nv b d] V fun e w' => ∃ c, e = .returned (.tuple #[nv c (pick Classical.propDecidable (LvC d) (lvn d) d), .bool (dcd Classical.propDecidable (LvC d))]) ∧ ON w' V.heap.size w'.heap.size c (pick Classical.propDecidable (LvC d) (lvn d) d) ∧ Below V.heap.size V w') := fun V b h0 h1 h2 => leave_i b d V h0 HD.out h1 h2
  generalize (pick Classical.propDecidable (LvC d) (lvn d) d) = dd at *
  generalize (dcd Classical.propDecidable (LvC d)) = qq at *
  have hq1 : (qq != qq) = false := by cases qq <;> rfl
  have hq2 : (qq == qq) = true := by cases qq <;> rfl
  generalize hT0 : ntot d = t0 at hkd hk0 hle ⊢
  clear hT0
  as_aux_lemma =>
    go_wp2_with (refine ld_nodel rfl _ rfl w.heap.size rfl H1.out.2 ?_)
    clear hkd hk0 hle
    refine (ton_any a d ws HD.out (HV.out _ H1.out.1).1).mono ?_
    rintro e w1 ⟨b1, rfl, o1, c1⟩
    have H2 : Hid (Y0 w w1 a d ∧ NV w1 b1 d ∧ NNC b1) := ⟨H1.out.b c1, o1.nv, o1.2.1⟩
    clear o1 c1 H1
    go_wp2_with fail
    refine (hS.out w1 b1 H2.out.2.1 H2.out.2.2).mono ?_
    rintro e w2 ⟨b2, rfl, o2, c2⟩
    obtain ⟨W2, hW2⟩ : ∃ W2, W2 = w2.alloc (.cells (nds b2 dd) 31) := ⟨_, rfl⟩
    have H3 : Hid (Y0 w W2 a d ∧ MN W2 w2.heap.size w1.heap.size b2 dd) := by rw [hW2]; exact ⟨(H2.out.1.b c2).b (bal1 w2 _), MN.new o2⟩
    have hsz2 : W2.heap.size = w2.heap.size + 1 := by rw [hW2]; simp
    have hwx : w.heap.size < W2.heap.size := H3.out.1.2.lt
    clear o2 c2 H2 hS
    as_aux_lemma =>
      unfold nds at hW2
      unfold nv nds
      go_upto_region 6 with fail
      rw [← hW2]
      clear hW2
      generalize w2.heap.size = X2 at *
      generalize w1.heap.size = B2 at *
      go_wp2_with (refine ld_nodel rfl _ rfl w.heap.size rfl H3.out.1.2 ?_)
      refine (ton_any a d W2 HD.out (HV.out _ H3.out.1.1).1).mono ?_
      rintro e w3 ⟨b3, rfl, o3, c3⟩
      obtain ⟨W3, hW3⟩ : ∃ W3, W3 = w3.alloc (.cells (nds b3 d) 31) := ⟨_, rfl⟩
      have H4 : Hid (Y0 w W3 a d ∧ MN W3 X2 B2 b2 dd ∧ GN W3 w3.heap.size W2.heap.size b3 d d) := by rw [hW3]; exact ⟨(H3.out.1.b c3).b (bal1 w3 _), (H3.out.2.b c3).b (bal1 w3 _), GN.new o3⟩
      have hsz3 : W3.heap.size = w3.heap.size + 1 := by rw [hW3]; simp
      clear o3 c3 H3
      as_aux_lemma =>
        unfold nds at hW3
        unfold nv nds
        go_upto_region 7 with fail
        rw [← hW3]
        clear hW3
        generalize w3.heap.size = X3 at *
        generalize W2.heap.size = B3 at *
        go_wp2_with (refine ld_node rfl _ rfl X3 rfl H4.out.2.2.1 ?_)
        refine (hI.out W3 b3 (HV.out _ H4.out.1.1).2 H4.out.2.2.2.nv H4.out.2.2.2.2.1).mono ?_
        rintro e w4 ⟨b4, rfl, o4, c4⟩
        obtain ⟨W4, hW4⟩ : ∃ W4, W4 = w4.alloc (.cells (nds b4 dd) 31) := ⟨_, rfl⟩
        have H5 : Hid (Y0 w W4 a d ∧ MN W4 X2 B2 b2 dd ∧ GN W4 X3 B3 b3 d d ∧ GN W4 w4.heap.size W3.heap.size b4 dd dd) := by rw [hW4]; exact ⟨(H4.out.1.b c4).b (bal1 w4 _), (H4.out.2.1.b c4).b (bal1 w4 _), (H4.out.2.2.b c4).b (bal1 w4 _), GN.new o4⟩
        have hwx3 : w.heap.size < W3.heap.size := H4.out.1.2.lt
        clear o4 c4 H4
        as_aux_lemma =>
          unfold nds at hW4
          unfold nv nds
          go_upto_region 8 with fail
          rw [← hW4]
          clear hW4
          generalize w4.heap.size = X4 at *
          generalize W3.heap.size = B4 at *
          have HX : Hid (X2 < B3 ∧ X3 < B4 ∧ w.heap.size < B3 ∧ w.heap.size < B4) := ⟨by omega, by omega, hwx, hwx3⟩
          have HB24 : Hid (X2 < B4) := (show _ < _ from by have := H5.out.2.2.1.2.1.1; omega)
          clear hsz2 hsz3 hwx hwx3
          have XB : ∀ {V V' : World}, (Y0 w V a d ∧ MN V X2 B2 b2 dd ∧ GN V X3 B3 b3 d d ∧ GN V X4 B4 b4 dd dd) → Below V.heap.size V V' → (Y0 w V' a d ∧ MN V' X2 B2 b2 dd ∧ GN V' X3 B3 b3 d d ∧ GN V' X4 B4 b4 dd dd) := fun h hb => ⟨h.1.b hb, h.2.1.b hb, h.2.2.1.b hb, h.2.2.2.b hb⟩
          go_wp2_with (first | (refine ld_node rfl _ rfl X4 rfl H5.out.2.2.2.1 ?_) | (refine ld_node rfl _ rfl X2 rfl H5.out.2.1.1 ?_))
          refine (eqn_yes b4 b2 dd W4 HDD.out H5.out.2.2.2.2.nv H5.out.2.1.2.nv).mono ?_
          rintro e w7 ⟨rfl, c7⟩
          have H7 := hide (XB H5.out c7)
          clear c7 H5
          as_aux_lemma =>
            go_wp2_with fail
            have HA := hide (XB H7.out (kdrew w7))
            clear H7
            have HS0 : Hid (NB w7.drew X3 31 b3 d ∧ NB w7.drew w.heap.size 39 a d) := ⟨HA.out.2.2.1.1, HA.out.1.2⟩
            refine wp_region_held_drew (S := (fun w' => NB w' X3 31 b3 d ∧ NB w' w.heap.size 39 a d)) (by kernel_rfl) ?_ (fun hHeld => ?_)
            · exact ⟨HS0.out.1, HS0.out.2⟩
            refine wpAnyH_take (i := 0) (oi := { dst := some 41, op := Op.load 31 (Operand.tmp 6), type := 31, pos := "exact.go:3661", after := #[], guard := none }) (v := nv b3 d) rfl (by kernel_rfl) (by kernel_rfl) (by kernel_rfl) (fun _ _ _ h => h) (yieldsIf_load_mid (by rfl) _ _ rfl X3 0 rfl (nds b3 d).toList _ (fun wq hSw => range_of hSw.1 rfl) Tryz.underlying31 rfl (by kernel_rfl)) (by assumption) ?_
            try simp only [Act.put, ly1, ly2, ly3]
            refine wpAnyH_take (i := 1) (oi := { dst := some 42, op := Op.load 39 (Operand.tmp 1), type := 39, pos := "exact.go:3661", after := #[], guard := none }) (v := nv a d) rfl (by kernel_rfl) (by kernel_rfl) (by kernel_rfl) (fun _ _ _ h => h) (yieldsIf_load_mid (by rfl) _ _ rfl w.heap.size 0 rfl (nds a d).toList _ (fun wq hSw => range_of hSw.2 rfl) Tryz.underlying39 rfl (by kernel_rfl)) (by assumption) ?_
            try simp only [Act.put, ly1, ly2, ly3]
            refine wpAnyH_ready (rs := [2]) (by kernel_rfl) (by simp) ?_
            refine AllReadyH.cons (o := { dst := some 43, op := Op.call { callee := Callee.value (Operand.func 22), args := #[Operand.tmp 42], argTypes := #[39] }, type := 31, pos := "exact.go:3661", after := #[{ on := 1, ground := Ground.data }], guard := none }) rfl (fun K hK => ?_) AllReadyH.nil
            go_simp
            refine (ton_any a d w7.drew HD.out (HV.out _ HA.out.1.1).1).mono ?_
            rintro e y1 ⟨bb, rfl, o1, c1⟩
            have H1 := hide (And.intro (XB HA.out c1) o1.nv)
            have HK : Hid (NB y1 X3 31 b3 d ∧ NB y1 w.heap.size 39 a d) := ⟨H1.out.1.2.2.1.1, H1.out.1.1.2⟩
            clear o1 c1
            go_wp2_with fail
            refine hK.out _ _ ?_ (fun hHeld => ?_)
            · exact HK.out
            clear hK K
            try simp only [Act.put, ly1, ly2, ly3]
            refine wpAnyH_ready (rs := [3]) (by kernel_rfl) (by simp) ?_
            refine AllReadyH.cons (o := { dst := some 44, op := Op.call { callee := Callee.value (Operand.func 17), args := #[Operand.tmp 41, Operand.tmp 43], argTypes := #[31, 31] }, type := 4, pos := "exact.go:3661", after := #[{ on := 0, ground := Ground.data }, { on := 2, ground := Ground.data }, { on := 2, ground := Ground.chain }], guard := none }) rfl (fun K hK => ?_) AllReadyH.nil
            go_simp
            clear HK
            refine (eqn_yes b3 bb d y1 HD.out H1.out.1.2.2.1.2.nv H1.out.2).mono ?_
            rintro e w8 ⟨rfl, c1⟩
            have H2 := hide (XB H1.out.1 c1)
            have HK : Hid (NB w8 X3 31 b3 d ∧ NB w8 w.heap.size 39 a d) := ⟨H2.out.2.2.1.1, H2.out.1.2⟩
            clear c1 H1
            go_wp2_with fail
            refine hK.out _ _ ?_ (fun hHeld => ?_)
            · exact HK.out
            clear hK K
            try simp only [Act.put, ly1, ly2, ly3]
            refine wpAnyH_take (i := 4) (oi := { dst := some 45, op := Op.unOp UnOp.not 4 (Operand.tmp 44), type := 4, pos := "exact.go:3661", after := #[{ on := 3, ground := Ground.data }], guard := none }) (v := ?_) rfl (by kernel_rfl) (by kernel_rfl) (by kernel_rfl) (fun _ _ _ h => h) (Or.inl ⟨by rfl, ?_⟩) (by assumption) ?_
            rotate_left 1
            · (intro wq hSw; (try dsimp only at hSw); go_simp; try with_reducible rfl)
            try simp only [Act.put, ly1, ly2, ly3]
            refine wpAnyH_done (by kernel_rfl) ?_ _
            clear HA HK HS0
            have HA := hide H2.out
            clear H2
            as_aux_lemma =>
              go_wp2_with (refine ld_node rfl _ rfl X3 rfl HA.out.2.2.1.1 ?_)
              refine (markn_any b3 d B3 X3 1 w8 HT.out (by omega) (by omega) HA.out.2.2.1.2).mono ?_
              rintro e w10 ⟨rfl, _, m1⟩
              have H10 : Hid (Y0 w w10 a d ∧ MN w10 X2 B2 b2 dd ∧ GN w10 X4 B4 b4 dd dd) := ⟨HA.out.1.onb m1 HX.out.2.2.1, HA.out.2.1.onb m1 HX.out.1, HA.out.2.2.2.onb m1 (.inr (Nat.le_of_lt HX.out.2.1))⟩
              clear m1 HA XB
              have hc1 := kncnt_nn d
              have hc2 : ¬ 1 + ncnt d < 0 := by omega
              have hc3 : ncnt d ≤ 1048576 := Int.le_trans (kncnt_le d) HT.out
              obtain ⟨u0, u1, u2, u3, u4, u5, u6, u7, u8, u9, u10, u11, u12, u13, u14, u15⟩ := H10.out.2.2.1.cells
              obtain ⟨t0, t1, t2, t3, t4, t5, t6, t7, t8, t9, t10, t11, t12, t13, t14, t15⟩ := H10.out.2.1.1.cells
              generalize ncnt d = n1 at *
              as_aux_lemma =>
                go_wp2_with fail
                clear u0 u1 u2 u3 u4 u5 u6 u7 u8 u9 u10 u11 u12 u13 u14 u15 t0 t1 t2 t3 t4 t5 t6 t7 t8 t9 t10 t11 t12 t13 t14 t15 hc1 hc3
                refine (eqn_yes b4 b2 dd w10 HDD.out H10.out.2.2.2.nv H10.out.2.1.2.nv).mono ?_
                rintro e w12 ⟨rfl, c1⟩
                have H12 : Hid (Y0 w w12 a d ∧ MN w12 X2 B2 b2 dd ∧ GN w12 X4 B4 b4 dd dd) := ⟨H10.out.1.b c1, H10.out.2.1.b c1, H10.out.2.2.b c1⟩
                clear c1 H10
                as_aux_lemma =>
                  go_wp2_with (refine ld_node rfl _ rfl X4 rfl H12.out.2.2.1 ?_)
                  refine (markn_any b4 dd B4 X4 1 w12 HTT.out (by omega) (by omega) H12.out.2.2.2).mono ?_
                  rintro e w13 ⟨rfl, n13, m1⟩
                  have HG : Hid (Y0 w w13 a d ∧ MN w13 X2 B2 b2 dd ∧ GN w13 X4 B4 b4 dd (mkN dd 1)) := ⟨H12.out.1.onb m1 HX.out.2.2.2, H12.out.2.1.onb m1 HB24.out, H12.out.2.2.mk m1 n13⟩
                  clear m1 n13 H12
                  have hc1 := kncnt_nn dd
                  have hc3 : ncnt dd ≤ 1048576 := Int.le_trans (kncnt_le dd) HTT.out
                  have hc2 : ¬ 1 + ncnt dd < 0 := by omega
                  have hheld := hide (heldn_any b4 dd 1 w13 HTT.out (by omega) (by omega) HG.out.2.2.2.nv)
                  have hheld2 : Hid (∀ V, NV V b4 (mkN dd 1) → Calls Tryz.prog 19 #[nv b4 dd, .int .i64 1] V fun e w' => e = .returned (.int .i64 (1 + ncnt dd)) ∧ Below V.heap.size V w') := fun V hv => heldn_any b4 dd 1 V HTT.out (by omega) (by omega) hv
                  generalize ncnt dd = n2 at *
                  as_aux_lemma =>
                    go_wp2_with (refine ld_node rfl _ rfl X4 rfl HG.out.2.2.1 ?_)
                    refine hheld.out.mono ?_
                    rintro e w14 ⟨rfl, c1⟩
                    have HH : Hid (Y0 w w14 a d ∧ MN w14 X2 B2 b2 dd ∧ GN w14 X4 B4 b4 dd (mkN dd 1)) := ⟨HG.out.1.b c1, HG.out.2.1.b c1, HG.out.2.2.b c1⟩
                    clear c1 HG hheld
                    as_aux_lemma =>
                      go_wp2_with (refine ld_nodel rfl _ rfl w.heap.size rfl HH.out.1.2 ?_)
                      refine (ton_any a d w14 HD.out (HV.out _ HH.out.1.1).1).mono ?_
                      rintro e w15 ⟨b5, rfl, o5, c5⟩
                      have HJ : Hid ((Y0 w w15 a d ∧ MN w15 X2 B2 b2 dd ∧ GN w15 X4 B4 b4 dd (mkN dd 1)) ∧ NV w15 b5 d ∧ NNC b5) := ⟨⟨HH.out.1.b c5, HH.out.2.1.b c5, HH.out.2.2.b c5⟩, o5.nv, o5.2.1⟩
                      clear o5 c5 HH
                      go_wp2_with fail
                      refine (hI.out w15 b5 (HV.out _ HJ.out.1.1.1).2 HJ.out.2.1 HJ.out.2.2).mono ?_
                      rintro e w16 ⟨b6, rfl, o6, c6⟩
                      obtain ⟨W6, hW6⟩ : ∃ W6, W6 = w16.alloc (.cells (nds b6 dd) 31) := ⟨_, rfl⟩
                      have HL : Hid ((Y0 w W6 a d ∧ MN W6 X2 B2 b2 dd ∧ GN W6 X4 B4 b4 dd (mkN dd 1)) ∧ GN W6 w16.heap.size w15.heap.size b6 dd dd) := by
                        have bx := bal1 w16 (.cells (nds b6 dd) 31)
                        rw [hW6]; exact ⟨⟨(HJ.out.1.1.b c6).b bx, (HJ.out.1.2.1.b c6).b bx, (HJ.out.1.2.2.b c6).b bx⟩, GN.new o6⟩
                      clear o6 c6 HJ hI
                      as_aux_lemma =>
                        unfold nds at hW6
                        unfold nv nds
                        go_upto_region 25 with fail
                        rw [← hW6]
                        clear hW6
                        generalize w16.heap.size = X6 at *
                        go_wp2_with (first | (refine ld_node rfl _ rfl X6 rfl HL.out.2.1 ?_) | (refine ld_node rfl _ rfl X2 rfl HL.out.1.2.1.1 ?_))
                        refine (eqn_yes b6 b2 dd W6 HDD.out HL.out.2.2.nv HL.out.1.2.1.2.nv).mono ?_
                        rintro e w17 ⟨rfl, c1⟩
                        have HM : Hid (Y0 w w17 a d ∧ GN w17 X4 B4 b4 dd (mkN dd 1)) := ⟨HL.out.1.1.b c1, HL.out.1.2.2.b c1⟩
                        clear c1 HL
                        as_aux_lemma =>
                          go_wp2_with (refine ld_node rfl _ rfl X4 rfl HM.out.2.1 ?_)
                          refine (hheld2.out w17 HM.out.2.2.nv).mono ?_
                          rintro e w18 ⟨rfl, c1⟩
                          have HZ : Hid (Below w.heap.size w w18) := (HM.out.1.b c1).1
                          clear c1 HM hheld2
                          go_wp2
                          go_ret
                          exact ⟨rfl, HZ.out⟩

end Go.Proofs.YtkndnndildnbpaaGreatDoor.fnExactLeave

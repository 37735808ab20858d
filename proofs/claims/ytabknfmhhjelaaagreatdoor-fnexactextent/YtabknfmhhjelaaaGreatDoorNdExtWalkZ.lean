/- The walk of a law: what its body does at any argument. -/
import Derived.WalkKit
import Derived.ProofKit
import Derived.OpenShut
import Derived.ShutString
import Derived.ChangeOld
import Derived.Below
import Derived.Test.YtabknfmhhjelaaaGreatDoorGt

namespace Go.Proofs.YtabknfmhhjelaaaGreatDoor.fnExactExtent
open Go.ChangeShapes Go.WideShapes Go.ChangeAt Go.RowKit
set_option linter.unusedVariables false

set_option maxHeartbeats 16000000 in
set_option maxRecDepth 100000 in
theorem walk (a1 : Na) (d1 : Nd) (a2 : Na) (d2 : Nd) (w : World) (hg : ErrT w) (hv1 : NV w a1 d1) (hw1 : NBw d1) (hv2 : NV w a2 d2) (hw2 : NBw d2) :
    Calls Tryz.prog 3 #[nv a1 d1, nv a2 d2] w fun e w' => e = .returned (.bool true) ∧ Below w.heap.size w w' := by
  obtain ⟨W0, hW0⟩ : ∃ W0, W0 = (w.alloc (.cells (nds a1 d1) 31)).alloc (.cells (nds a2 d2) 31) := ⟨_, rfl⟩
  have HA : Hid (N2 w W0 31 a1 a2 d1 d2) := by rw [hW0]; exact N2.new _ _ _ _ _ _
  have HV : Hid (∀ V, Below w.heap.size w V → NV V a1 d1 ∧ NV V a2 d2 ∧ ErrT V) := fun V hb => ⟨hv1.below hb, hv2.below hb, hg.below hb⟩
  have HW : Hid (NBw d1 ∧ NBw d2) := ⟨hw1, hw2⟩
  obtain ⟨u0, u1, u2, u3, u4, u5, u6, u7, u8, u9, u10, u11, u12, u13, u14, u15⟩ := HA.out.2.1.cells
  have HE8 : (exl Classical.propDecidable d1 d2).length ≤ 8 := (exl_asc d1 d2).len
  have hnn := ntot_nn d1
  clear hg hv1 hv2 hw1 hw2
  unfold nv
  unfold nds at hW0 ⊢
  go_enter Tryz.func3, Tryz.ntmps3
  go_upto_region 1 with fail
  rw [← hW0]
  clear hW0
  generalize Value.agg #[.int .i64 d1.id, .bool d1.up, .bool d1.pr, .slice a1.im d1.im.length a1.imc, .slice a1.go d1.g.length a1.gc, .slice a1.bo d1.n a1.bc, .bool d1.fi, .bool d1.ol, .bool d1.he, .int .i64 d1.la, .slice a1.aA d1.A.length a1.cA, .slice a1.aB d1.C.length a1.cB, .slice a1.co d1.co.length a1.coc, .slice a1.so d1.m a1.sc, .slice a1.cp d1.cp.length a1.cpc, .slice a1.wt d1.wt.length a1.wtc] = vn1 at *
  generalize Value.agg #[.int .i64 d2.id, .bool d2.up, .bool d2.pr, .slice a2.im d2.im.length a2.imc, .slice a2.go d2.g.length a2.gc, .slice a2.bo d2.n a2.bc, .bool d2.fi, .bool d2.ol, .bool d2.he, .int .i64 d2.la, .slice a2.aA d2.A.length a2.cA, .slice a2.aB d2.C.length a2.cB, .slice a2.co d2.co.length a2.coc, .slice a2.so d2.m a2.sc, .slice a2.cp d2.cp.length a2.cpc, .slice a2.wt d2.wt.length a2.wtc] = vn2 at *
  go_wp2_with fail
  refine (szn_any a1 d1 1048576 W0 HW.out.1 (by omega) (by omega) (HV.out _ HA.out.1).1).mono ?_
  rintro e y1 ⟨hs, bs⟩
  have H1 := hide (HA.out.b bs)
  clear bs HA u0 u1 u2 u3 u4 u5 u6 u7 u8 u9 u10 u11 u12 u13 u14 u15
  rcases hs with ⟨hle, rfl⟩ | rfl
  case inr =>
    go_wp2
    go_ret
    exact ⟨rfl, H1.out.1⟩
  obtain ⟨x1, hx1⟩ : ∃ x1, x1 = (1048576 : Int) - ntot d1 := ⟨_, rfl⟩
  rw [← hx1]
  have hx0 : 0 ≤ x1 := by omega
  have hx2 : x1 ≤ 1048576 := by omega
  have hx3 : ¬ x1 < 0 := by omega
  have HL1 : Hid (ntot d1 ≤ 1048576) := hle
  clear hle hx1 hnn
  obtain ⟨u0, u1, u2, u3, u4, u5, u6, u7, u8, u9, u10, u11, u12, u13, u14, u15⟩ := H1.out.2.2.cells
  as_aux_lemma =>
    go_wp2_with fail
    refine (szn_any a2 d2 x1 y1 HW.out.2 hx0 hx2 (HV.out _ H1.out.1).2.1).mono ?_
    rintro e ws ⟨hs, bs⟩
    have HN0 := hide (H1.out.b bs)
    clear bs H1 u0 u1 u2 u3 u4 u5 u6 u7 u8 u9 u10 u11 u12 u13 u14 u15
    rcases hs with ⟨hle, rfl⟩ | rfl
    case inr =>
      go_wp2
      go_ret
      exact ⟨rfl, HN0.out.1⟩
    have HL : Hid (ntot d1 ≤ 1048576 ∧ ntot d2 ≤ 1048576) := ⟨HL1.out, by omega⟩
    have HD : Hid (NBd d1 ∧ NBd d2) := ⟨nbd_of HL.out.1, nbd_of HL.out.2⟩
    have hkd : ¬ x1 - ntot d2 < 0 := by omega
    have hk0 : 0 ≤ ntot d2 := ntot_nn d2
    generalize ntot d2 = t2 at hkd hk0 hle ⊢
    clear HL1 HW
    as_aux_lemma =>
      go_wp2_with fail
      have HA : Hid (N2 w ws.drew 31 a1 a2 d1 d2) := HN0.out.b (drew_b ws)
      have HS0 : Hid (NB ws.drew w.heap.size 31 a1 d1 ∧ NB ws.drew (w.heap.size + 1) 31 a2 d2) := ⟨HN0.out.2.1, HN0.out.2.2⟩
      refine wp_region_held_drew (S := (fun w' => NB w' w.heap.size 31 a1 d1 ∧ NB w' (w.heap.size + 1) 31 a2 d2)) (by kernel_rfl) ?_ (fun hHeld => ?_)
      · exact ⟨HS0.out.1, HS0.out.2⟩
      refine wpAnyH_take (i := 0) (oi := { dst := some 24, op := Op.load 31 (Operand.tmp 2), type := 31, pos := "exact.go:3193", after := #[], guard := none }) (v := nv a1 d1) rfl (by kernel_rfl) (by kernel_rfl) (by kernel_rfl) (fun _ _ _ h => h) (Or.inl ⟨by rfl, ?_⟩) (by assumption) ?_
      · (intro wq hSw; obtain ⟨u0, u1, u2, u3, u4, u5, u6, u7, u8, u9, u10, u11, u12, u13, u14, u15⟩ := hSw.1.cells; go_simp; rfl)
      try simp only [Act.put, ly1, ly2, ly3]
      refine wpAnyH_take (i := 2) (oi := { dst := some 26, op := Op.load 31 (Operand.tmp 3), type := 31, pos := "exact.go:3193", after := #[], guard := none }) (v := nv a2 d2) rfl (by kernel_rfl) (by kernel_rfl) (by kernel_rfl) (fun _ _ _ h => h) (Or.inl ⟨by rfl, ?_⟩) (by assumption) ?_
      · (intro wq hSw; obtain ⟨u0, u1, u2, u3, u4, u5, u6, u7, u8, u9, u10, u11, u12, u13, u14, u15⟩ := hSw.2.cells; go_simp; rfl)
      try simp only [Act.put, ly1, ly2, ly3]
      refine wpAnyH_ready (rs := [1]) (by kernel_rfl) (by simp) ?_
      refine AllReadyH.cons (o := { dst := some 25, op := Op.call { callee := Callee.value (Operand.func 6), args := #[Operand.tmp 24], argTypes := #[31] }, type := 37, pos := "exact.go:3193", after := #[{ on := 0, ground := Ground.data }], guard := none }) rfl (fun K hK => ?_) AllReadyH.nil
      go_simp
      refine (ton_any a1 d1 ws.drew HD.out.1 (HV.out _ HA.out.1).1).mono ?_
      rintro e w1 ⟨b1, rfl, o1, c1⟩
      have H1 : Hid (N2 w w1 31 a1 a2 d1 d2 ∧ NV w1 b1 d1) := ⟨HA.out.b c1, o1.nv⟩
      have HK : Hid (NB w1 w.heap.size 31 a1 d1 ∧ NB w1 (w.heap.size + 1) 31 a2 d2) := H1.out.1.2
      have HS1 := hide c1.size
      clear o1 c1
      go_wp2_with fail
      refine hK.out _ _ ?_ (fun hHeld => ?_)
      · exact HK.out
      clear hK K
      try simp only [Act.put, ly1, ly2, ly3]
      refine wpAnyH_ready (rs := [3]) (by kernel_rfl) (by simp) ?_
      refine AllReadyH.cons (o := { dst := some 27, op := Op.call { callee := Callee.value (Operand.func 6), args := #[Operand.tmp 26], argTypes := #[31] }, type := 37, pos := "exact.go:3193", after := #[{ on := 2, ground := Ground.data }, { on := 1, ground := Ground.chain }], guard := none }) rfl (fun K hK => ?_) AllReadyH.nil
      go_simp
      clear HK
      refine (ton_any a2 d2 w1 HD.out.2 (HV.out _ H1.out.1.1).2.1).mono ?_
      rintro e w2 ⟨b2, rfl, o2, c2⟩
      have H2 : Hid (N2 w w2 31 a1 a2 d1 d2 ∧ NV w2 b1 d1 ∧ NV w2 b2 d2) := ⟨H1.out.1.b c2, H1.out.2.below c2, o2.nv⟩
      have HK : Hid (NB w2 w.heap.size 31 a1 d1 ∧ NB w2 (w.heap.size + 1) 31 a2 d2) := H2.out.1.2
      clear o2 c2
      go_wp2_with fail
      refine hK.out _ _ ?_ (fun hHeld => ?_)
      · exact HK.out
      clear hK K
      try simp only [Act.put, ly1, ly2, ly3]
      refine wpAnyH_ready (rs := [4]) (by kernel_rfl) (by simp) ?_
      refine AllReadyH.cons (o := { dst := some 28, op := Op.call { callee := Callee.value (Operand.func 5), args := #[Operand.tmp 25, Operand.tmp 27], argTypes := #[37, 37] }, type := 22, pos := "exact.go:3193", after := #[{ on := 1, ground := Ground.data }, { on := 3, ground := Ground.data }, { on := 3, ground := Ground.chain }], guard := none }) rfl (fun K hK => ?_) AllReadyH.nil
      go_simp
      clear HK
      refine (extent_spec b1 b2 d1 d2 w2 HD.out.1 HD.out.2 H2.out.2.1 H2.out.2.2).mono ?_
      rintro e w3 ⟨v3, rfl, o3, c3⟩
      obtain ⟨p0, c0, rfl, r0⟩ := own_rs o3
      have H3 : Hid (X0 w w3 a1 a2 d1 d2 (exl Classical.propDecidable d1 d2) p0 c0 w3.heap.size) := ⟨H2.out.1.b c3, r0.wide (Nat.le_trans (N2.sz H2.out.1) (Nat.le_refl _)) (Nat.le_refl _), Nat.le_trans (N2.sz H2.out.1) c3.size, Nat.le_refl _⟩
      have HK : Hid (NB w3 w.heap.size 31 a1 d1 ∧ NB w3 (w.heap.size + 1) 31 a2 d2) := H3.out.1.2
      clear o3 c3 r0 H1 H2
      go_wp2_with fail
      refine hK.out _ _ ?_ (fun hHeld => ?_)
      · exact HK.out
      clear hK K
      try simp only [Act.put, ly1, ly2, ly3]
      refine wpAnyH_take (i := 5) (oi := { dst := some 6, op := Op.assign (Operand.tmp 28), type := 22, pos := "exact.go:3193", after := #[{ on := 4, ground := Ground.data }, { on := 4, ground := Ground.chain }, { on := 0, ground := Ground.phase }, { on := 1, ground := Ground.phase }, { on := 2, ground := Ground.phase }, { on := 3, ground := Ground.phase }, { on := 4, ground := Ground.phase }], guard := none }) (v := ?_) rfl (by kernel_rfl) (by kernel_rfl) (by kernel_rfl) (fun _ _ _ h => h) (Or.inl ⟨by rfl, ?_⟩) (by assumption) ?_
      rotate_left 1
      · (intro wq hSw; (try dsimp only at hSw); go_simp; try with_reducible rfl)
      try simp only [Act.put, ly1, ly2, ly3]
      refine wpAnyH_done (by kernel_rfl) ?_ _
      generalize hT0 : w3.heap.size = T0 at H3
      clear HN0 HA HS0 HK HS1 hx0 hx2 hx3 hkd hk0 hle
      obtain ⟨u0, u1, u2, u3, u4, u5, u6, u7, u8, u9, u10, u11, u12, u13, u14, u15⟩ := H3.out.1.2.1.cells
      as_aux_lemma =>
        go_wp2_with fail
        refine (ton_any a1 d1 w3 HD.out.1 (HV.out _ H3.out.1.1).1).mono ?_
        rintro e y3 ⟨b3, rfl, o3, c3⟩
        obtain ⟨W3, hW3⟩ : ∃ W3, W3 = y3.alloc (.cells (nds b3 d1) 37) := ⟨_, rfl⟩
        have H4 : Hid (X0 w W3 a1 a2 d1 d2 (exl Classical.propDecidable d1 d2) p0 c0 T0 ∧ VN W3 y3.heap.size w3.heap.size b3 d1) := by
          rw [hW3]; exact ⟨(H3.out.b c3).b (bal1 y3 _), VN.new o3⟩
        have hTB : T0 ≤ w3.heap.size := Nat.le_of_eq hT0.symm
        have hsz : W3.heap.size = y3.heap.size + 1 := by rw [hW3]; simp
        clear o3 c3 H3 hT0 u0 u1 u2 u3 u4 u5 u6 u7 u8 u9 u10 u11 u12 u13 u14 u15
        as_aux_lemma =>
          unfold nds at hW3
          unfold nv nds
          go_upto_region 10 with fail
          rw [← hW3]
          clear hW3
          generalize y3.heap.size = X3 at *
          generalize w3.heap.size = B3 at *
          obtain ⟨u0, u1, u2, u3, u4, u5, u6, u7, u8, u9, u10, u11, u12, u13, u14, u15⟩ := H4.out.1.1.2.2.cells
          go_wp2_with fail
          refine (ton_any a2 d2 W3 HD.out.2 (HV.out _ H4.out.1.1.1).2.1).mono ?_
          rintro e y4 ⟨b4, rfl, o4, c4⟩
          obtain ⟨W4, hW4⟩ : ∃ W4, W4 = y4.alloc (.cells (nds b4 d2) 37) := ⟨_, rfl⟩
          have H5 : Hid (X0 w W4 a1 a2 d1 d2 (exl Classical.propDecidable d1 d2) p0 c0 T0 ∧ VN W4 X3 B3 b3 d1 ∧ VN W4 y4.heap.size W3.heap.size b4 d2) := by
            rw [hW4]; exact ⟨(H4.out.1.b c4).b (bal1 y4 _), (H4.out.2.b c4).b (bal1 y4 _), VN.new o4⟩
          have hsz4 : W4.heap.size = y4.heap.size + 1 := by rw [hW4]; simp
          clear o4 c4 H4 u0 u1 u2 u3 u4 u5 u6 u7 u8 u9 u10 u11 u12 u13 u14 u15
          as_aux_lemma =>
            unfold nds at hW4
            unfold nv nds
            go_upto_region 11 with fail
            rw [← hW4]
            clear hW4
            generalize y4.heap.size = X4 at *
            generalize W3.heap.size = B4 at *
            obtain ⟨u0, u1, u2, u3, u4, u5, u6, u7, u8, u9, u10, u11, u12, u13, u14, u15⟩ := H5.out.2.1.1.cells
            obtain ⟨t0, t1, t2, t3, t4, t5, t6, t7, t8, t9, t10, t11, t12, t13, t14, t15⟩ := H5.out.2.2.1.cells
            go_wp2_with fail
            refine (extent_impl b3 b4 d1 d2 W4 (HV.out _ H5.out.1.1.1).2.2 HD.out.1 HD.out.2 H5.out.2.1.2.nv H5.out.2.2.2.nv).mono ?_
            rintro e w6 ⟨v6, rfl, o6, c6⟩
            obtain ⟨pg, cg, rfl, r6⟩ := own_rs o6
            obtain ⟨Bg, hBg⟩ : ∃ Bg, Bg = W4.heap.size := ⟨_, rfl⟩
            obtain ⟨Tg, hTg⟩ : ∃ Tg, Tg = w6.heap.size := ⟨_, rfl⟩
            have H6 : Hid (X0 w w6 a1 a2 d1 d2 (exl Classical.propDecidable d1 d2) p0 c0 T0 ∧ VN w6 X3 B3 b3 d1 ∧ VN w6 X4 B4 b4 d2 ∧ GL w6 X4 (exl Classical.propDecidable d1 d2) pg cg Bg Tg) := ⟨H5.out.1.b c6, H5.out.2.1.b c6, H5.out.2.2.b c6, by rw [hTg]; rw [← hBg] at r6; exact r6, by omega, by rw [hBg, hTg]; exact c6.size, Nat.le_of_eq hTg⟩
            have hX34 : X3 < B4 := by omega
            clear o6 c6 r6 H5 hBg hTg hsz hsz4 u0 u1 u2 u3 u4 u5 u6 u7 u8 u9 u10 u11 u12 u13 u14 u15 t0 t1 t2 t3 t4 t5 t6 t7 t8 t9 t10 t11 t12 t13 t14 t15
            have XB : ∀ {V V' : World}, (X0 w V a1 a2 d1 d2 (exl Classical.propDecidable d1 d2) p0 c0 T0 ∧ VN V X3 B3 b3 d1 ∧ VN V X4 B4 b4 d2 ∧ GL V X4 (exl Classical.propDecidable d1 d2) pg cg Bg Tg) → Below V.heap.size V V' → (X0 w V' a1 a2 d1 d2 (exl Classical.propDecidable d1 d2) p0 c0 T0 ∧ VN V' X3 B3 b3 d1 ∧ VN V' X4 B4 b4 d2 ∧ GL V' X4 (exl Classical.propDecidable d1 d2) pg cg Bg Tg) := fun h hb => ⟨h.1.b hb, h.2.1.b hb, h.2.2.1.b hb, h.2.2.2.b hb⟩
            as_aux_lemma =>
              go_wp2_with fail
              refine (eqi_b pg p0 cg c0 (exl Classical.propDecidable d1 d2) w6 (by omega) H6.out.2.2.2.sl H6.out.1.sl).mono ?_
              rintro e w7 ⟨rfl, c7⟩
              have H7 := hide (XB H6.out c7)
              clear c7 H6
              as_aux_lemma =>
                go_wp2_with fail
                have HA := hide (XB H7.out (drew_b w7))
                clear H7
                have HS0 : Hid (NB w7.drew X3 37 b3 d1 ∧ NB w7.drew w.heap.size 31 a1 d1) := ⟨HA.out.2.1.1, HA.out.1.1.2.1⟩
                refine wp_region_held_drew (S := (fun w' => NB w' X3 37 b3 d1 ∧ NB w' w.heap.size 31 a1 d1)) (by kernel_rfl) ?_ (fun hHeld => ?_)
                · exact ⟨HS0.out.1, HS0.out.2⟩
                refine wpAnyH_take (i := 0) (oi := { dst := some 40, op := Op.load 37 (Operand.tmp 7), type := 37, pos := "exact.go:3200", after := #[], guard := none }) (v := nv b3 d1) rfl (by kernel_rfl) (by kernel_rfl) (by kernel_rfl) (fun _ _ _ h => h) (Or.inl ⟨by rfl, ?_⟩) (by assumption) ?_
                · (intro wq hSw; obtain ⟨u0, u1, u2, u3, u4, u5, u6, u7, u8, u9, u10, u11, u12, u13, u14, u15⟩ := hSw.1.cells; go_simp; rfl)
                try simp only [Act.put, ly1, ly2, ly3]
                refine wpAnyH_take (i := 1) (oi := { dst := some 41, op := Op.load 31 (Operand.tmp 2), type := 31, pos := "exact.go:3200", after := #[], guard := none }) (v := nv a1 d1) rfl (by kernel_rfl) (by kernel_rfl) (by kernel_rfl) (fun _ _ _ h => h) (Or.inl ⟨by rfl, ?_⟩) (by assumption) ?_
                · (intro wq hSw; obtain ⟨u0, u1, u2, u3, u4, u5, u6, u7, u8, u9, u10, u11, u12, u13, u14, u15⟩ := hSw.2.cells; go_simp; rfl)
                try simp only [Act.put, ly1, ly2, ly3]
                refine wpAnyH_ready (rs := [2]) (by kernel_rfl) (by simp) ?_
                refine AllReadyH.cons (o := { dst := some 42, op := Op.call { callee := Callee.value (Operand.func 6), args := #[Operand.tmp 41], argTypes := #[31] }, type := 37, pos := "exact.go:3200", after := #[{ on := 1, ground := Ground.data }], guard := none }) rfl (fun K hK => ?_) AllReadyH.nil
                go_simp
                refine (ton_any a1 d1 w7.drew HD.out.1 (HV.out _ HA.out.1.1.1).1).mono ?_
                rintro e y1 ⟨bb, rfl, o1, c1⟩
                have H1 := hide (And.intro (XB HA.out c1) o1.nv)
                have HK : Hid (NB y1 X3 37 b3 d1 ∧ NB y1 w.heap.size 31 a1 d1) := ⟨H1.out.1.2.1.1, H1.out.1.1.1.2.1⟩
                clear o1 c1
                go_wp2_with fail
                refine hK.out _ _ ?_ (fun hHeld => ?_)
                · exact HK.out
                clear hK K
                try simp only [Act.put, ly1, ly2, ly3]
                refine wpAnyH_ready (rs := [3]) (by kernel_rfl) (by simp) ?_
                refine AllReadyH.cons (o := { dst := some 43, op := Op.call { callee := Callee.value (Operand.func 9), args := #[Operand.tmp 40, Operand.tmp 42], argTypes := #[37, 37] }, type := 4, pos := "exact.go:3200", after := #[{ on := 0, ground := Ground.data }, { on := 2, ground := Ground.data }, { on := 2, ground := Ground.chain }], guard := none }) rfl (fun K hK => ?_) AllReadyH.nil
                go_simp
                clear HK
                refine (eqn_yes b3 bb d1 y1 HD.out.1 H1.out.1.2.1.2.nv H1.out.2).mono ?_
                rintro e w8 ⟨rfl, c1⟩
                have H2 := hide (XB H1.out.1 c1)
                have HK : Hid (NB w8 X3 37 b3 d1 ∧ NB w8 w.heap.size 31 a1 d1) := ⟨H2.out.2.1.1, H2.out.1.1.2.1⟩
                clear c1 H1
                go_wp2_with fail
                refine hK.out _ _ ?_ (fun hHeld => ?_)
                · exact HK.out
                clear hK K
                try simp only [Act.put, ly1, ly2, ly3]
                refine wpAnyH_take (i := 4) (oi := { dst := some 44, op := Op.unOp UnOp.not 4 (Operand.tmp 43), type := 4, pos := "exact.go:3200", after := #[{ on := 3, ground := Ground.data }], guard := none }) (v := ?_) rfl (by kernel_rfl) (by kernel_rfl) (by kernel_rfl) (fun _ _ _ h => h) (Or.inl ⟨by rfl, ?_⟩) (by assumption) ?_
                rotate_left 1
                · (intro wq hSw; (try dsimp only at hSw); go_simp; try with_reducible rfl)
                try simp only [Act.put, ly1, ly2, ly3]
                refine wpAnyH_done (by kernel_rfl) ?_ _
                clear HA HK HS0
                have HA := hide H2.out
                clear H2
                go_wp2_with fail
                have HA0 := hide (XB HA.out (drew_b w8))
                clear HA
                have HA := hide HA0.out
                clear HA0
                have HS0 : Hid (NB w8.drew X4 37 b4 d2 ∧ NB w8.drew (w.heap.size + 1) 31 a2 d2) := ⟨HA.out.2.2.1.1, HA.out.1.1.2.2⟩
                refine wp_region_held_drew (S := (fun w' => NB w' X4 37 b4 d2 ∧ NB w' (w.heap.size + 1) 31 a2 d2)) (by kernel_rfl) ?_ (fun hHeld => ?_)
                · exact ⟨HS0.out.1, HS0.out.2⟩
                refine wpAnyH_take (i := 0) (oi := { dst := some 45, op := Op.load 37 (Operand.tmp 8), type := 37, pos := "exact.go:3203", after := #[], guard := none }) (v := nv b4 d2) rfl (by kernel_rfl) (by kernel_rfl) (by kernel_rfl) (fun _ _ _ h => h) (Or.inl ⟨by rfl, ?_⟩) (by assumption) ?_
                · (intro wq hSw; obtain ⟨u0, u1, u2, u3, u4, u5, u6, u7, u8, u9, u10, u11, u12, u13, u14, u15⟩ := hSw.1.cells; go_simp; rfl)
                try simp only [Act.put, ly1, ly2, ly3]
                refine wpAnyH_take (i := 1) (oi := { dst := some 46, op := Op.load 31 (Operand.tmp 3), type := 31, pos := "exact.go:3203", after := #[], guard := none }) (v := nv a2 d2) rfl (by kernel_rfl) (by kernel_rfl) (by kernel_rfl) (fun _ _ _ h => h) (Or.inl ⟨by rfl, ?_⟩) (by assumption) ?_
                · (intro wq hSw; obtain ⟨u0, u1, u2, u3, u4, u5, u6, u7, u8, u9, u10, u11, u12, u13, u14, u15⟩ := hSw.2.cells; go_simp; rfl)
                try simp only [Act.put, ly1, ly2, ly3]
                refine wpAnyH_ready (rs := [2]) (by kernel_rfl) (by simp) ?_
                refine AllReadyH.cons (o := { dst := some 47, op := Op.call { callee := Callee.value (Operand.func 6), args := #[Operand.tmp 46], argTypes := #[31] }, type := 37, pos := "exact.go:3203", after := #[{ on := 1, ground := Ground.data }], guard := none }) rfl (fun K hK => ?_) AllReadyH.nil
                go_simp
                refine (ton_any a2 d2 w8.drew HD.out.2 (HV.out _ HA.out.1.1.1).2.1).mono ?_
                rintro e y1 ⟨bb, rfl, o1, c1⟩
                have H1 := hide (And.intro (XB HA.out c1) o1.nv)
                have HK : Hid (NB y1 X4 37 b4 d2 ∧ NB y1 (w.heap.size + 1) 31 a2 d2) := ⟨H1.out.1.2.2.1.1, H1.out.1.1.1.2.2⟩
                clear o1 c1
                go_wp2_with fail
                refine hK.out _ _ ?_ (fun hHeld => ?_)
                · exact HK.out
                clear hK K
                try simp only [Act.put, ly1, ly2, ly3]
                refine wpAnyH_ready (rs := [3]) (by kernel_rfl) (by simp) ?_
                refine AllReadyH.cons (o := { dst := some 48, op := Op.call { callee := Callee.value (Operand.func 9), args := #[Operand.tmp 45, Operand.tmp 47], argTypes := #[37, 37] }, type := 4, pos := "exact.go:3203", after := #[{ on := 0, ground := Ground.data }, { on := 2, ground := Ground.data }, { on := 2, ground := Ground.chain }], guard := none }) rfl (fun K hK => ?_) AllReadyH.nil
                go_simp
                clear HK
                refine (eqn_yes b4 bb d2 y1 HD.out.2 H1.out.1.2.2.1.2.nv H1.out.2).mono ?_
                rintro e w9 ⟨rfl, c1⟩
                have H2 := hide (XB H1.out.1 c1)
                have HK : Hid (NB w9 X4 37 b4 d2 ∧ NB w9 (w.heap.size + 1) 31 a2 d2) := ⟨H2.out.2.2.1.1, H2.out.1.1.2.2⟩
                clear c1 H1
                go_wp2_with fail
                refine hK.out _ _ ?_ (fun hHeld => ?_)
                · exact HK.out
                clear hK K
                try simp only [Act.put, ly1, ly2, ly3]
                refine wpAnyH_take (i := 4) (oi := { dst := some 49, op := Op.unOp UnOp.not 4 (Operand.tmp 48), type := 4, pos := "exact.go:3203", after := #[{ on := 3, ground := Ground.data }], guard := none }) (v := ?_) rfl (by kernel_rfl) (by kernel_rfl) (by kernel_rfl) (fun _ _ _ h => h) (Or.inl ⟨by rfl, ?_⟩) (by assumption) ?_
                rotate_left 1
                · (intro wq hSw; (try dsimp only at hSw); go_simp; try with_reducible rfl)
                try simp only [Act.put, ly1, ly2, ly3]
                refine wpAnyH_done (by kernel_rfl) ?_ _
                clear HA HK HS0
                have HA := hide H2.out
                clear H2
                as_aux_lemma =>
                  obtain ⟨u0, u1, u2, u3, u4, u5, u6, u7, u8, u9, u10, u11, u12, u13, u14, u15⟩ := HA.out.2.1.1.cells
                  go_wp2_with fail
                  refine (markn_any b3 d1 B3 X3 1 w9 HL.out.1 (by omega) (by omega) HA.out.2.1.2).mono ?_
                  rintro e w10 ⟨rfl, _, m1⟩
                  have H10 : Hid (X0 w w10 a1 a2 d1 d2 (exl Classical.propDecidable d1 d2) p0 c0 T0 ∧ VN w10 X4 B4 b4 d2 ∧ GL w10 X4 (exl Classical.propDecidable d1 d2) pg cg Bg Tg) :=
                    ⟨HA.out.1.onb m1 hTB, HA.out.2.2.1.onb m1 (.inr (by omega)), HA.out.2.2.2.onb m1 (.inl (by have := HA.out.2.2.2.2.1; have := HA.out.2.2.1.2.1.1; omega))⟩
                  have hB34 : T0 ≤ B4 := by have := HA.out.2.1.2.1.1; omega
                  have hBX4 : B4 ≤ X4 := HA.out.2.2.1.2.1.1
                  clear m1 HA XB u0 u1 u2 u3 u4 u5 u6 u7 u8 u9 u10 u11 u12 u13 u14 u15
                  have hc1 := ncnt_nn d1
                  have hc2 : ncnt d1 ≤ 1048576 := Int.le_trans (ncnt_le d1) HL.out.1
                  have hc3 := ncnt_nn d2
                  have hc4 : ncnt d2 ≤ 1048576 := Int.le_trans (ncnt_le d2) HL.out.2
                  obtain ⟨u0, u1, u2, u3, u4, u5, u6, u7, u8, u9, u10, u11, u12, u13, u14, u15⟩ := H10.out.2.1.1.cells
                  generalize ncnt d1 = n1 at *
                  as_aux_lemma =>
                    go_wp2_with fail
                    refine (markn_any b4 d2 B4 X4 (1 + n1) w10 HL.out.2 (by omega) (by omega) H10.out.2.1.2).mono ?_
                    rintro e w11 ⟨rfl, _, m1⟩
                    have H11 : Hid (X0 w w11 a1 a2 d1 d2 (exl Classical.propDecidable d1 d2) p0 c0 T0 ∧ GL w11 X4 (exl Classical.propDecidable d1 d2) pg cg Bg Tg) :=
                      ⟨H10.out.1.onb m1 hB34, H10.out.2.2.onb m1 (.inl (by have := H10.out.2.2.2.1; omega))⟩
                    clear m1 H10 u0 u1 u2 u3 u4 u5 u6 u7 u8 u9 u10 u11 u12 u13 u14 u15
                    generalize ncnt d2 = n2 at *
                    have hneg : ¬ 1 + n1 + n2 < 0 := by omega
                    as_aux_lemma =>
                      go_wp2_with fail
                      refine (eqi_b pg p0 cg c0 (exl Classical.propDecidable d1 d2) w11 (by omega) H11.out.2.sl H11.out.1.sl).mono ?_
                      rintro e w12 ⟨rfl, c1⟩
                      have H12 : Hid (X0 w w12 a1 a2 d1 d2 (exl Classical.propDecidable d1 d2) p0 c0 T0 ∧ GL w12 X4 (exl Classical.propDecidable d1 d2) pg cg Bg Tg) := ⟨H11.out.1.b c1, H11.out.2.b c1⟩
                      clear c1 H11
                      as_aux_lemma =>
                        go_wp2_with fail
                        refine (marki_g (exl Classical.propDecidable d1 d2) X4 Bg Tg pg cg w12 (by omega) H12.out.2).mono ?_
                        rintro e w13 ⟨rfl, g1, m1⟩
                        have HG : Hid (X0 w w13 a1 a2 d1 d2 (exl Classical.propDecidable d1 d2) p0 c0 T0 ∧ GL w13 X4 (mkl 1 (exl Classical.propDecidable d1 d2).length) pg cg Bg Tg) := ⟨H12.out.1.onb m1 (by have := H12.out.2.2.1; omega), g1⟩
                        clear g1 m1 H12
                        have hr : ((exl Classical.propDecidable d1 d2).length : Int) ≤ 8 := by omega
                        have hr0 : ¬ 1 + ((exl Classical.propDecidable d1 d2).length : Int) < 0 := by omega
                        go_wp2_with fail
                        refine (heldi_g (exl Classical.propDecidable d1 d2) X4 Bg Tg pg cg w13 (by omega) HG.out.2).mono ?_
                        rintro e wk ⟨rfl, hw⟩
                        subst hw
                        as_aux_lemma =>
                          go_wp2_with fail
                          have HA : Hid (N2 w wk.drew 31 a1 a2 d1 d2) := HG.out.1.1.b (drew_b wk)
                          have HS0 : Hid (NB wk.drew w.heap.size 31 a1 d1 ∧ NB wk.drew (w.heap.size + 1) 31 a2 d2) := ⟨HA.out.2.1, HA.out.2.2⟩
                          refine wp_region_held_drew (S := (fun w' => NB w' w.heap.size 31 a1 d1 ∧ NB w' (w.heap.size + 1) 31 a2 d2)) (by kernel_rfl) ?_ (fun hHeld => ?_)
                          · exact ⟨HS0.out.1, HS0.out.2⟩
                          refine wpAnyH_take (i := 0) (oi := { dst := some 75, op := Op.load 31 (Operand.tmp 2), type := 31, pos := "exact.go:3222", after := #[], guard := none }) (v := nv a1 d1) rfl (by kernel_rfl) (by kernel_rfl) (by kernel_rfl) (fun _ _ _ h => h) (Or.inl ⟨by rfl, ?_⟩) (by assumption) ?_
                          · (intro wq hSw; obtain ⟨u0, u1, u2, u3, u4, u5, u6, u7, u8, u9, u10, u11, u12, u13, u14, u15⟩ := hSw.1.cells; go_simp; rfl)
                          try simp only [Act.put, ly1, ly2, ly3]
                          refine wpAnyH_take (i := 2) (oi := { dst := some 77, op := Op.load 31 (Operand.tmp 3), type := 31, pos := "exact.go:3222", after := #[], guard := none }) (v := nv a2 d2) rfl (by kernel_rfl) (by kernel_rfl) (by kernel_rfl) (fun _ _ _ h => h) (Or.inl ⟨by rfl, ?_⟩) (by assumption) ?_
                          · (intro wq hSw; obtain ⟨u0, u1, u2, u3, u4, u5, u6, u7, u8, u9, u10, u11, u12, u13, u14, u15⟩ := hSw.2.cells; go_simp; rfl)
                          try simp only [Act.put, ly1, ly2, ly3]
                          refine wpAnyH_ready (rs := [1]) (by kernel_rfl) (by simp) ?_
                          refine AllReadyH.cons (o := { dst := some 76, op := Op.call { callee := Callee.value (Operand.func 6), args := #[Operand.tmp 75], argTypes := #[31] }, type := 37, pos := "exact.go:3222", after := #[{ on := 0, ground := Ground.data }], guard := none }) rfl (fun K hK => ?_) AllReadyH.nil
                          go_simp
                          refine (ton_any a1 d1 wk.drew HD.out.1 (HV.out _ HA.out.1).1).mono ?_
                          rintro e w1 ⟨b1, rfl, o1, c1⟩
                          have H1 : Hid (N2 w w1 31 a1 a2 d1 d2 ∧ NV w1 b1 d1) := ⟨HA.out.b c1, o1.nv⟩
                          have HK : Hid (NB w1 w.heap.size 31 a1 d1 ∧ NB w1 (w.heap.size + 1) 31 a2 d2) := H1.out.1.2
                          have HB1 := hide c1
                          clear o1 c1
                          go_wp2_with fail
                          refine hK.out _ _ ?_ (fun hHeld => ?_)
                          · exact HK.out
                          clear hK K
                          try simp only [Act.put, ly1, ly2, ly3]
                          refine wpAnyH_ready (rs := [3]) (by kernel_rfl) (by simp) ?_
                          refine AllReadyH.cons (o := { dst := some 78, op := Op.call { callee := Callee.value (Operand.func 6), args := #[Operand.tmp 77], argTypes := #[31] }, type := 37, pos := "exact.go:3222", after := #[{ on := 2, ground := Ground.data }, { on := 1, ground := Ground.chain }], guard := none }) rfl (fun K hK => ?_) AllReadyH.nil
                          go_simp
                          clear HK
                          refine (ton_any a2 d2 w1 HD.out.2 (HV.out _ H1.out.1.1).2.1).mono ?_
                          rintro e w2 ⟨b2, rfl, o2, c2⟩
                          have H2 : Hid (N2 w w2 31 a1 a2 d1 d2 ∧ NV w2 b1 d1 ∧ NV w2 b2 d2) := ⟨H1.out.1.b c2, H1.out.2.below c2, o2.nv⟩
                          have HK : Hid (NB w2 w.heap.size 31 a1 d1 ∧ NB w2 (w.heap.size + 1) 31 a2 d2) := H2.out.1.2
                          have HB2 := hide (HB1.out.trans (c2.mono HB1.out.size))
                          clear o2 c2
                          go_wp2_with fail
                          refine hK.out _ _ ?_ (fun hHeld => ?_)
                          · exact HK.out
                          clear hK K
                          try simp only [Act.put, ly1, ly2, ly3]
                          refine wpAnyH_ready (rs := [4]) (by kernel_rfl) (by simp) ?_
                          refine AllReadyH.cons (o := { dst := some 79, op := Op.call { callee := Callee.value (Operand.func 7), args := #[Operand.tmp 76, Operand.tmp 78], argTypes := #[37, 37] }, type := 22, pos := "exact.go:3222", after := #[{ on := 1, ground := Ground.data }, { on := 3, ground := Ground.data }, { on := 3, ground := Ground.chain }], guard := none }) rfl (fun K hK => ?_) AllReadyH.nil
                          go_simp
                          clear HK
                          refine (extent_impl b1 b2 d1 d2 w2 (HV.out _ H2.out.1.1).2.2 HD.out.1 HD.out.2 H2.out.2.1 H2.out.2.2).mono ?_
                          rintro e w3 ⟨v3, rfl, o3, c3⟩
                          obtain ⟨ph, ch, rfl, rh⟩ := own_rs o3
                          have HB3 := hide (HB2.out.trans (c3.mono HB2.out.size))
                          have H3 : Hid (N2 w w3 31 a1 a2 d1 d2 ∧ SL .i64 w3 ph (exl Classical.propDecidable d1 d2).length (lg (exl Classical.propDecidable d1 d2))) := ⟨H2.out.1.b c3, rh.head.sl⟩
                          have HK : Hid (NB w3 w.heap.size 31 a1 d1 ∧ NB w3 (w.heap.size + 1) 31 a2 d2) := H3.out.1.2
                          clear o3 c3 rh H1 H2 HB1 HB2
                          go_wp2_with fail
                          refine hK.out _ _ ?_ (fun hHeld => ?_)
                          · exact HK.out
                          clear hK K
                          try simp only [Act.put, ly1, ly2, ly3]
                          refine wpAnyH_take (i := 5) (oi := { dst := some 13, op := Op.assign (Operand.tmp 79), type := 22, pos := "exact.go:3222", after := #[{ on := 4, ground := Ground.data }, { on := 4, ground := Ground.chain }, { on := 0, ground := Ground.phase }, { on := 1, ground := Ground.phase }, { on := 2, ground := Ground.phase }, { on := 3, ground := Ground.phase }, { on := 4, ground := Ground.phase }], guard := none }) (v := ?_) rfl (by kernel_rfl) (by kernel_rfl) (by kernel_rfl) (fun _ _ _ h => h) (Or.inl ⟨by rfl, ?_⟩) (by assumption) ?_
                          rotate_left 1
                          · (intro wq hSw; (try dsimp only at hSw); go_simp; try with_reducible rfl)
                          try simp only [Act.put, ly1, ly2, ly3]
                          refine wpAnyH_done (by kernel_rfl) ?_ _
                          have HF : Hid (X0 w w3 a1 a2 d1 d2 (exl Classical.propDecidable d1 d2) p0 c0 T0 ∧ GL w3 X4 (mkl 1 (exl Classical.propDecidable d1 d2).length) pg cg Bg Tg) := ⟨(HG.out.1.b (drew_b wk)).b HB3.out, (HG.out.2.b (drew_b wk)).b HB3.out⟩
                          clear HG HA HS0 HK HB3
                          as_aux_lemma =>
                            go_wp2_with fail
                            refine (eqi_b ph p0 ch c0 (exl Classical.propDecidable d1 d2) w3 (by omega) H3.out.2 HF.out.1.sl).mono ?_
                            rintro e w15 ⟨rfl, c1⟩
                            have HL2 : Hid (X0 w w15 a1 a2 d1 d2 (exl Classical.propDecidable d1 d2) p0 c0 T0 ∧ GL w15 X4 (mkl 1 (exl Classical.propDecidable d1 d2).length) pg cg Bg Tg) := ⟨HF.out.1.b c1, HF.out.2.b c1⟩
                            clear c1 HF H3
                            go_wp2_with fail
                            refine (heldi_g (exl Classical.propDecidable d1 d2) X4 Bg Tg pg cg w15 (by omega) HL2.out.2).mono ?_
                            rintro e w16 ⟨rfl, hw⟩
                            subst hw
                            go_wp2
                            go_ret
                            exact ⟨rfl, HL2.out.1.1.1⟩

end Go.Proofs.YtabknfmhhjelaaaGreatDoor.fnExactExtent

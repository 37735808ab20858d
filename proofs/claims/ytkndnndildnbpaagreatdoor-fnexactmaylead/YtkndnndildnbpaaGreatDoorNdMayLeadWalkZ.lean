/- The walk of a law: what its body does at any argument. -/
import Derived.WalkKit
import Derived.ProofKit
import Derived.OpenShut
import Derived.ShutString
import Derived.ChangeOld
import Derived.Below
import Derived.Test.YtkndnndildnbpaaGreatDoorHe
import Derived.Test.YtkndnndildnbpaaGreatDoorHm

namespace Go.Proofs.YtkndnndildnbpaaGreatDoor.fnExactMayLead
open Go.ChangeShapes Go.WideShapes Go.ChangeAt Go.RowKit
set_option linter.unusedVariables false

set_option maxHeartbeats 100000000 in
set_option maxRecDepth 100000 in
theorem walk (a1 : Na) (d1 : Nd) (a2 : Na) (d2 : Nd) (q1 : Bool) (w : World) (hg : ErrL w) (hv1 : NV w a1 d1) (hw1 : NBw d1) (hv2 : NV w a2 d2) (hw2 : NBw d2)  :
    Calls Tryz.prog 11 #[nv a1 d1, nv a2 d2, .bool q1] w fun e w' => e = .returned (.bool true) ∧ Below w.heap.size w w' := by
  obtain ⟨W0, hW0⟩ : ∃ W0, W0 = (w.alloc (.cells (nds a1 d1) 39)).alloc (.cells (nds a2 d2) 39) := ⟨_, rfl⟩
  have HA : Hid (Y2 w W0 a1 a2 d1 d2) := by rw [hW0]; exact Y2.new _ _ _ _ _
  have HV : Hid (∀ V, Below w.heap.size w V → NV V a1 d1 ∧ NV V a2 d2 ∧ ErrL V) := fun V hb => ⟨hv1.below hb, hv2.below hb, hg.below hb⟩
  have HW : Hid (NBw d1 ∧ NBw d2) := ⟨hw1, hw2⟩
  clear hg hv1 hw1 hv2 hw2
  unfold nv
  unfold nds at hW0 ⊢
  go_enter Tryz.func11, Tryz.ntmps11
  go_upto_region 1 with fail
  rw [← hW0]
  clear hW0
  generalize Value.agg #[.int .i64 d1.id, .bool d1.up, .bool d1.pr, .slice a1.im d1.im.length a1.imc, .slice a1.go d1.g.length a1.gc, .slice a1.bo d1.n a1.bc, .bool d1.fi, .bool d1.ol, .bool d1.he, .int .i64 d1.la, .slice a1.aA d1.A.length a1.cA, .slice a1.aB d1.C.length a1.cB, .slice a1.co d1.co.length a1.coc, .slice a1.so d1.m a1.sc, .slice a1.cp d1.cp.length a1.cpc, .slice a1.wt d1.wt.length a1.wtc] = vn1 at *
  generalize Value.agg #[.int .i64 d2.id, .bool d2.up, .bool d2.pr, .slice a2.im d2.im.length a2.imc, .slice a2.go d2.g.length a2.gc, .slice a2.bo d2.n a2.bc, .bool d2.fi, .bool d2.ol, .bool d2.he, .int .i64 d2.la, .slice a2.aA d2.A.length a2.cA, .slice a2.aB d2.C.length a2.cB, .slice a2.co d2.co.length a2.coc, .slice a2.so d2.m a2.sc, .slice a2.cp d2.cp.length a2.cpc, .slice a2.wt d2.wt.length a2.wtc] = vn2 at *
  go_wp2_with (refine ld_nodel rfl _ rfl w.heap.size rfl HA.out.2.1 ?_)
  refine (szn_any a1 d1 1048576 W0 HW.out.1 (by omega) (by omega) (HV.out _ HA.out.1).1).mono ?_
  rintro e y1 ⟨hs, bs⟩
  have H0 := hide (HA.out.b bs)
  clear bs HA
  rcases hs with ⟨hle, rfl⟩ | rfl
  case inr =>
    go_wp2
    go_ret
    exact ⟨rfl, H0.out.1⟩
  obtain ⟨x1, hx1⟩ : ∃ x1, x1 = (1048576 : Int) - ntot d1 := ⟨_, rfl⟩
  rw [← hx1]
  have hnn := kntot_nn d1
  have hx0 : 0 ≤ x1 := by omega
  have hx2 : x1 ≤ 1048576 := by omega
  have hx3 : ¬ x1 < 0 := by omega
  have HL1 : Hid (ntot d1 ≤ 1048576) := hle
  clear hle hx1 hnn
  as_aux_lemma =>
    go_wp2_with (refine ld_nodel rfl _ rfl (w.heap.size + 1) rfl H0.out.2.2 ?_)
    refine (szn_any a2 d2 x1 y1 HW.out.2 hx0 hx2 (HV.out _ H0.out.1).2.1).mono ?_
    rintro e ws ⟨hs, bs⟩
    have H1 := hide (H0.out.b bs)
    clear bs H0 HW
    rcases hs with ⟨hle, rfl⟩ | rfl
    case inr =>
      go_wp2
      go_ret
      exact ⟨rfl, H1.out.1⟩
    have HD : Hid (NBd d1 ∧ NBd d2) := ⟨nbd_of HL1.out, nbd_of (by omega)⟩
    have hkd : ¬ x1 - ntot d2 < 0 := by omega
    generalize hT0 : ntot d2 = t2 at hkd hle ⊢
    clear hT0 hle HL1 hx0 hx2 hx3
    have hS : Hid (∀ (V : World) (b1 b2 : Na), NV V b1 d1 → NV V b2 d2 → Calls Tryz.prog 43 #[nv b1 d1, nv b2 d2, .bool q1] V fun e w' => e = .returned (.bool (dcd Classical.propDecidable (MlC d1 d2 q1))) ∧ Below V.heap.size V w') := fun V b1 b2 h1 h2 => (maylead_s b1 b2 d1 d2 q1 V HD.out.1 HD.out.2 h1 h2).mono fun e w' h => tells_dcd h
    have hI : Hid (∀ (V : World) (b1 b2 : Na), ErrL V → NV V b1 d1 → NV V b2 d2 → Calls Tryz.prog 44 #[nv b1 d1, nv b2 d2, .bool q1] V fun e w' => e = .returned (.bool (dcd Classical.propDecidable (MlC d1 d2 q1))) ∧ Below V.heap.size V w') := fun V b1 b2 hg h1 h2 => (maylead_i b1 b2 d1 d2 q1 V hg HD.out.1 HD.out.2 h1 h2).mono fun e w' h => tells_dcd h
    generalize (dcd Classical.propDecidable (MlC d1 d2 q1)) = qq at *
    have hq1 : (qq != qq) = false := by cases qq <;> rfl
    have hq2 : (qq == qq) = true := by cases qq <;> rfl
    as_aux_lemma =>
      go_upto_region 8 with fail
      clear hkd
      have HS0 : Hid (Y2 w ws.drew a1 a2 d1 d2) := H1.out.b (kdrew ws)
      refine wp_region_held_drew (S := (fun w' => NB w' w.heap.size 39 a1 d1 ∧ NB w' (w.heap.size + 1) 39 a2 d2)) (by kernel_rfl) ?_ (fun hHeld => ?_)
      · exact ⟨HS0.out.2.1, HS0.out.2.2⟩
      refine wpAnyH_take (i := 0) (oi := { dst := some 22, op := Op.load 39 (Operand.tmp 3), type := 39, pos := "exact.go:3577", after := #[], guard := none }) (v := nv a1 d1) rfl (by kernel_rfl) (by kernel_rfl) (by kernel_rfl) (fun _ _ _ h => h) (yieldsIf_load_mid (by rfl) _ _ rfl w.heap.size 0 rfl (nds a1 d1).toList _ (fun wq hSw => range_of hSw.1 rfl) Tryz.underlying39 rfl (by kernel_rfl)) (by assumption) ?_
      try simp only [Act.put, ly1, ly2, ly3]
      refine wpAnyH_take (i := 2) (oi := { dst := some 24, op := Op.load 39 (Operand.tmp 4), type := 39, pos := "exact.go:3577", after := #[], guard := none }) (v := nv a2 d2) rfl (by kernel_rfl) (by kernel_rfl) (by kernel_rfl) (fun _ _ _ h => h) (yieldsIf_load_mid (by rfl) _ _ rfl (w.heap.size + 1) 0 rfl (nds a2 d2).toList _ (fun wq hSw => range_of hSw.2 rfl) Tryz.underlying39 rfl (by kernel_rfl)) (by assumption) ?_
      try simp only [Act.put, ly1, ly2, ly3]
      refine wpAnyH_take (i := 4) (oi := { dst := some 26, op := Op.move (Operand.tmp 2), type := 4, pos := "exact.go:3577", after := #[], guard := none }) (v := ?_) rfl (by kernel_rfl) (by kernel_rfl) (by kernel_rfl) (fun _ _ _ h => h) (Or.inl ⟨by rfl, ?_⟩) (by assumption) ?_
      rotate_left 1
      · (intro wq hSw; (try dsimp only at hSw); go_simp; try with_reducible rfl)
      try simp only [Act.put, ly1, ly2, ly3]
      refine wpAnyH_ready (rs := [1]) (by kernel_rfl) (by simp) ?_
      refine AllReadyH.cons (o := { dst := some 23, op := Op.call { callee := Callee.value (Operand.func 22), args := #[Operand.tmp 22], argTypes := #[39] }, type := 31, pos := "exact.go:3577", after := #[{ on := 0, ground := Ground.data }], guard := none }) rfl (fun K hK => ?_) AllReadyH.nil
      go_simp
      refine (ton_any a1 d1 ws.drew HD.out.1 (HV.out _ HS0.out.1).1).mono ?_
      rintro e w1 ⟨b1, rfl, o1, c1⟩
      have H2 : Hid (Y2 w w1 a1 a2 d1 d2 ∧ NV w1 b1 d1) := ⟨HS0.out.b c1, o1.nv⟩
      clear o1 c1
      go_wp2_with fail
      refine hK.out _ _ ?_ (fun hHeld => ?_)
      · exact ⟨H2.out.1.2.1, H2.out.1.2.2⟩
      clear hK K
      try simp only [Act.put, ly1, ly2, ly3]
      refine wpAnyH_ready (rs := [3]) (by kernel_rfl) (by simp) ?_
      refine AllReadyH.cons (o := { dst := some 25, op := Op.call { callee := Callee.value (Operand.func 22), args := #[Operand.tmp 24], argTypes := #[39] }, type := 31, pos := "exact.go:3577", after := #[{ on := 2, ground := Ground.data }, { on := 1, ground := Ground.chain }], guard := none }) rfl (fun K hK => ?_) AllReadyH.nil
      go_simp
      refine (ton_any a2 d2 w1 HD.out.2 (HV.out _ H2.out.1.1).2.1).mono ?_
      rintro e w2 ⟨b2, rfl, o1, c1⟩
      have H3 : Hid (Y2 w w2 a1 a2 d1 d2 ∧ NV w2 b1 d1 ∧ NV w2 b2 d2) := ⟨H2.out.1.b c1, H2.out.2.below c1, o1.nv⟩
      clear o1 c1 H2
      go_wp2_with fail
      refine hK.out _ _ ?_ (fun hHeld => ?_)
      · exact ⟨H3.out.1.2.1, H3.out.1.2.2⟩
      clear hK K
      try simp only [Act.put, ly1, ly2, ly3]
      refine wpAnyH_ready (rs := [5]) (by kernel_rfl) (by simp) ?_
      refine AllReadyH.cons (o := { dst := some 27, op := Op.call { callee := Callee.value (Operand.func 43), args := #[Operand.tmp 23, Operand.tmp 25, Operand.tmp 26], argTypes := #[31, 31, 4] }, type := 4, pos := "exact.go:3577", after := #[{ on := 1, ground := Ground.data }, { on := 3, ground := Ground.data }, { on := 4, ground := Ground.data }, { on := 3, ground := Ground.chain }], guard := none }) rfl (fun K hK => ?_) AllReadyH.nil
      go_simp
      refine (hS.out w2 b1 b2 H3.out.2.1 H3.out.2.2).mono ?_
      rintro e wc ⟨rfl, c1⟩
      have H4 : Hid (Y2 w wc a1 a2 d1 d2) := H3.out.1.b c1
      clear c1 H3 hS
      go_wp2_with fail
      refine hK.out _ _ ?_ (fun hHeld => ?_)
      · exact ⟨H4.out.2.1, H4.out.2.2⟩
      clear hK K
      try simp only [Act.put, ly1, ly2, ly3]
      refine wpAnyH_take (i := 6) (oi := { dst := some 8, op := Op.assign (Operand.tmp 27), type := 4, pos := "exact.go:3577", after := #[{ on := 5, ground := Ground.data }, { on := 5, ground := Ground.chain }, { on := 0, ground := Ground.phase }, { on := 1, ground := Ground.phase }, { on := 2, ground := Ground.phase }, { on := 3, ground := Ground.phase }, { on := 4, ground := Ground.phase }, { on := 5, ground := Ground.phase }], guard := none }) (v := ?_) rfl (by kernel_rfl) (by kernel_rfl) (by kernel_rfl) (fun _ _ _ h => h) (Or.inl ⟨by rfl, ?_⟩) (by assumption) ?_
      rotate_left 1
      · (intro wq hSw; (try dsimp only at hSw); go_simp; try with_reducible rfl)
      try simp only [Act.put, ly1, ly2, ly3]
      refine wpAnyH_done (by kernel_rfl) ?_ _
      clear HS0 H1
      have H3 := hide H4.out
      clear H4
      as_aux_lemma =>
        go_wp2_with (refine ld_nodel rfl _ rfl w.heap.size rfl H3.out.2.1 ?_)
        refine (ton_any a1 d1 wc HD.out.1 (HV.out _ H3.out.1).1).mono ?_
        rintro e w3 ⟨b3, rfl, o1, c1⟩
        obtain ⟨W3, hW⟩ : ∃ W, W = w3.alloc (.cells (nds b3 d1) 31) := ⟨_, rfl⟩
        have H4 : Hid (Y2 w W3 a1 a2 d1 d2 ∧ GN W3 w3.heap.size wc.heap.size b3 d1 d1) := by rw [hW]; exact ⟨(H3.out.b c1).b (bal1 w3 _), GN.new o1⟩
        clear o1 c1 H3
        as_aux_lemma =>
          unfold nds at hW
          unfold nv nds
          go_upto_region 10 with fail
          rw [← hW]
          clear hW
          generalize w3.heap.size = X3 at *
          generalize wc.heap.size = B3 at *
          go_wp2_with (refine ld_nodel rfl _ rfl (w.heap.size + 1) rfl H4.out.1.2.2 ?_)
          refine (ton_any a2 d2 W3 HD.out.2 (HV.out _ H4.out.1.1).2.1).mono ?_
          rintro e w4 ⟨b4, rfl, o1, c1⟩
          obtain ⟨W4, hW⟩ : ∃ W, W = w4.alloc (.cells (nds b4 d2) 31) := ⟨_, rfl⟩
          have H5 : Hid (Y2 w W4 a1 a2 d1 d2 ∧ GN W4 X3 B3 b3 d1 d1 ∧ GN W4 w4.heap.size W3.heap.size b4 d2 d2) := by rw [hW]; exact ⟨(H4.out.1.b c1).b (bal1 w4 _), (H4.out.2.b c1).b (bal1 w4 _), GN.new o1⟩
          clear o1 c1 H4
          as_aux_lemma =>
            unfold nds at hW
            unfold nv nds
            go_upto_region 11 with fail
            rw [← hW]
            clear hW
            generalize w4.heap.size = X4 at *
            generalize W3.heap.size = B4 at *
            go_wp2_with (first | (refine ld_node rfl _ rfl X3 rfl H5.out.2.1.1 ?_) | (refine ld_node rfl _ rfl X4 rfl H5.out.2.2.1 ?_))
            refine (hI.out W4 b3 b4 (HV.out _ H5.out.1.1).2.2 H5.out.2.1.2.nv H5.out.2.2.2.nv).mono ?_
            rintro e w7 ⟨rfl, c7⟩
            have XB : ∀ {V V' : World}, (Y2 w V a1 a2 d1 d2 ∧ GN V X3 B3 b3 d1 d1 ∧ GN V X4 B4 b4 d2 d2) → Below V.heap.size V V' → (Y2 w V' a1 a2 d1 d2 ∧ GN V' X3 B3 b3 d1 d1 ∧ GN V' X4 B4 b4 d2 d2) := fun h hb => ⟨h.1.b hb, h.2.1.b hb, h.2.2.b hb⟩
            have H7 := hide (XB H5.out c7)
            clear c7 H5 hI
            as_aux_lemma =>
              go_wp2_with fail
              have HA := hide (XB H7.out (kdrew w7))
              clear H7
              have HS0 : Hid (NB w7.drew X3 31 b3 d1 ∧ NB w7.drew w.heap.size 39 a1 d1) := ⟨HA.out.2.1.1, HA.out.1.2.1⟩
              refine wp_region_held_drew (S := (fun w' => NB w' X3 31 b3 d1 ∧ NB w' w.heap.size 39 a1 d1)) (by kernel_rfl) ?_ (fun hHeld => ?_)
              · exact ⟨HS0.out.1, HS0.out.2⟩
              refine wpAnyH_take (i := 0) (oi := { dst := some 39, op := Op.load 31 (Operand.tmp 9), type := 31, pos := "exact.go:3584", after := #[], guard := none }) (v := nv b3 d1) rfl (by kernel_rfl) (by kernel_rfl) (by kernel_rfl) (fun _ _ _ h => h) (yieldsIf_load_mid (by rfl) _ _ rfl X3 0 rfl (nds b3 d1).toList _ (fun wq hSw => range_of hSw.1 rfl) Tryz.underlying31 rfl (by kernel_rfl)) (by assumption) ?_
              try simp only [Act.put, ly1, ly2, ly3]
              refine wpAnyH_take (i := 1) (oi := { dst := some 40, op := Op.load 39 (Operand.tmp 3), type := 39, pos := "exact.go:3584", after := #[], guard := none }) (v := nv a1 d1) rfl (by kernel_rfl) (by kernel_rfl) (by kernel_rfl) (fun _ _ _ h => h) (yieldsIf_load_mid (by rfl) _ _ rfl w.heap.size 0 rfl (nds a1 d1).toList _ (fun wq hSw => range_of hSw.2 rfl) Tryz.underlying39 rfl (by kernel_rfl)) (by assumption) ?_
              try simp only [Act.put, ly1, ly2, ly3]
              refine wpAnyH_ready (rs := [2]) (by kernel_rfl) (by simp) ?_
              refine AllReadyH.cons (o := { dst := some 41, op := Op.call { callee := Callee.value (Operand.func 22), args := #[Operand.tmp 40], argTypes := #[39] }, type := 31, pos := "exact.go:3584", after := #[{ on := 1, ground := Ground.data }], guard := none }) rfl (fun K hK => ?_) AllReadyH.nil
              go_simp
              refine (ton_any a1 d1 w7.drew HD.out.1 (HV.out _ HA.out.1.1).1).mono ?_
              rintro e y1 ⟨bb, rfl, o1, c1⟩
              have H1 := hide (And.intro (XB HA.out c1) o1.nv)
              have HK : Hid (NB y1 X3 31 b3 d1 ∧ NB y1 w.heap.size 39 a1 d1) := ⟨H1.out.1.2.1.1, H1.out.1.1.2.1⟩
              clear o1 c1
              go_wp2_with fail
              refine hK.out _ _ ?_ (fun hHeld => ?_)
              · exact HK.out
              clear hK K
              try simp only [Act.put, ly1, ly2, ly3]
              refine wpAnyH_ready (rs := [3]) (by kernel_rfl) (by simp) ?_
              refine AllReadyH.cons (o := { dst := some 42, op := Op.call { callee := Callee.value (Operand.func 17), args := #[Operand.tmp 39, Operand.tmp 41], argTypes := #[31, 31] }, type := 4, pos := "exact.go:3584", after := #[{ on := 0, ground := Ground.data }, { on := 2, ground := Ground.data }, { on := 2, ground := Ground.chain }], guard := none }) rfl (fun K hK => ?_) AllReadyH.nil
              go_simp
              clear HK
              refine (eqn_yes b3 bb d1 y1 HD.out.1 H1.out.1.2.1.2.nv H1.out.2).mono ?_
              rintro e w8 ⟨rfl, c1⟩
              have H2 := hide (XB H1.out.1 c1)
              have HK : Hid (NB w8 X3 31 b3 d1 ∧ NB w8 w.heap.size 39 a1 d1) := ⟨H2.out.2.1.1, H2.out.1.2.1⟩
              clear c1 H1
              go_wp2_with fail
              refine hK.out _ _ ?_ (fun hHeld => ?_)
              · exact HK.out
              clear hK K
              try simp only [Act.put, ly1, ly2, ly3]
              refine wpAnyH_take (i := 4) (oi := { dst := some 43, op := Op.unOp UnOp.not 4 (Operand.tmp 42), type := 4, pos := "exact.go:3584", after := #[{ on := 3, ground := Ground.data }], guard := none }) (v := ?_) rfl (by kernel_rfl) (by kernel_rfl) (by kernel_rfl) (fun _ _ _ h => h) (Or.inl ⟨by rfl, ?_⟩) (by assumption) ?_
              rotate_left 1
              · (intro wq hSw; (try dsimp only at hSw); go_simp; try with_reducible rfl)
              try simp only [Act.put, ly1, ly2, ly3]
              refine wpAnyH_done (by kernel_rfl) ?_ _
              clear HA HK HS0
              have HA := hide H2.out
              clear H2
              as_aux_lemma =>
                go_wp2_with fail
                have HA := hide (XB HA.out (kdrew w8))
                have HS0 : Hid (NB w8.drew X4 31 b4 d2 ∧ NB w8.drew (w.heap.size + 1) 39 a2 d2) := ⟨HA.out.2.2.1, HA.out.1.2.2⟩
                refine wp_region_held_drew (S := (fun w' => NB w' X4 31 b4 d2 ∧ NB w' (w.heap.size + 1) 39 a2 d2)) (by kernel_rfl) ?_ (fun hHeld => ?_)
                · exact ⟨HS0.out.1, HS0.out.2⟩
                refine wpAnyH_take (i := 0) (oi := { dst := some 44, op := Op.load 31 (Operand.tmp 10), type := 31, pos := "exact.go:3587", after := #[], guard := none }) (v := nv b4 d2) rfl (by kernel_rfl) (by kernel_rfl) (by kernel_rfl) (fun _ _ _ h => h) (yieldsIf_load_mid (by rfl) _ _ rfl X4 0 rfl (nds b4 d2).toList _ (fun wq hSw => range_of hSw.1 rfl) Tryz.underlying31 rfl (by kernel_rfl)) (by assumption) ?_
                try simp only [Act.put, ly1, ly2, ly3]
                refine wpAnyH_take (i := 1) (oi := { dst := some 45, op := Op.load 39 (Operand.tmp 4), type := 39, pos := "exact.go:3587", after := #[], guard := none }) (v := nv a2 d2) rfl (by kernel_rfl) (by kernel_rfl) (by kernel_rfl) (fun _ _ _ h => h) (yieldsIf_load_mid (by rfl) _ _ rfl (w.heap.size + 1) 0 rfl (nds a2 d2).toList _ (fun wq hSw => range_of hSw.2 rfl) Tryz.underlying39 rfl (by kernel_rfl)) (by assumption) ?_
                try simp only [Act.put, ly1, ly2, ly3]
                refine wpAnyH_ready (rs := [2]) (by kernel_rfl) (by simp) ?_
                refine AllReadyH.cons (o := { dst := some 46, op := Op.call { callee := Callee.value (Operand.func 22), args := #[Operand.tmp 45], argTypes := #[39] }, type := 31, pos := "exact.go:3587", after := #[{ on := 1, ground := Ground.data }], guard := none }) rfl (fun K hK => ?_) AllReadyH.nil
                go_simp
                refine (ton_any a2 d2 w8.drew HD.out.2 (HV.out _ HA.out.1.1).2.1).mono ?_
                rintro e y1 ⟨bb, rfl, o1, c1⟩
                have H1 := hide (And.intro (XB HA.out c1) o1.nv)
                have HK : Hid (NB y1 X4 31 b4 d2 ∧ NB y1 (w.heap.size + 1) 39 a2 d2) := ⟨H1.out.1.2.2.1, H1.out.1.1.2.2⟩
                clear o1 c1
                go_wp2_with fail
                refine hK.out _ _ ?_ (fun hHeld => ?_)
                · exact HK.out
                clear hK K
                try simp only [Act.put, ly1, ly2, ly3]
                refine wpAnyH_ready (rs := [3]) (by kernel_rfl) (by simp) ?_
                refine AllReadyH.cons (o := { dst := some 47, op := Op.call { callee := Callee.value (Operand.func 17), args := #[Operand.tmp 44, Operand.tmp 46], argTypes := #[31, 31] }, type := 4, pos := "exact.go:3587", after := #[{ on := 0, ground := Ground.data }, { on := 2, ground := Ground.data }, { on := 2, ground := Ground.chain }], guard := none }) rfl (fun K hK => ?_) AllReadyH.nil
                go_simp
                clear HK
                refine (eqn_yes b4 bb d2 y1 HD.out.2 H1.out.1.2.2.2.nv H1.out.2).mono ?_
                rintro e w9 ⟨rfl, c1⟩
                have H2 := hide (XB H1.out.1 c1)
                have HK : Hid (NB w9 X4 31 b4 d2 ∧ NB w9 (w.heap.size + 1) 39 a2 d2) := ⟨H2.out.2.2.1, H2.out.1.2.2⟩
                clear c1 H1
                go_wp2_with fail
                refine hK.out _ _ ?_ (fun hHeld => ?_)
                · exact HK.out
                clear hK K
                try simp only [Act.put, ly1, ly2, ly3]
                refine wpAnyH_take (i := 4) (oi := { dst := some 48, op := Op.unOp UnOp.not 4 (Operand.tmp 47), type := 4, pos := "exact.go:3587", after := #[{ on := 3, ground := Ground.data }], guard := none }) (v := ?_) rfl (by kernel_rfl) (by kernel_rfl) (by kernel_rfl) (fun _ _ _ h => h) (Or.inl ⟨by rfl, ?_⟩) (by assumption) ?_
                rotate_left 1
                · (intro wq hSw; (try dsimp only at hSw); go_simp; try with_reducible rfl)
                try simp only [Act.put, ly1, ly2, ly3]
                refine wpAnyH_done (by kernel_rfl) ?_ _
                clear HA HK HS0
                have HA := hide H2.out
                clear H2
                go_wp2
                go_ret
                exact ⟨rfl, HA.out.1.1⟩

end Go.Proofs.YtkndnndildnbpaaGreatDoor.fnExactMayLead

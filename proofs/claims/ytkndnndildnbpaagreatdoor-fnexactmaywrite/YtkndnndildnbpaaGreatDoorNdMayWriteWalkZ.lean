/- The walk of a law: what its body does at any argument. -/
import Derived.WalkKit
import Derived.ProofKit
import Derived.OpenShut
import Derived.ShutString
import Derived.ChangeOld
import Derived.Below
import Derived.Test.YtkndnndildnbpaaGreatDoorHe
import Derived.Test.YtkndnndildnbpaaGreatDoorHf

namespace Go.Proofs.YtkndnndildnbpaaGreatDoor.fnExactMayWrite
open Go.ChangeShapes Go.WideShapes Go.ChangeAt Go.RowKit
set_option linter.unusedVariables false

set_option maxHeartbeats 100000000 in
set_option maxRecDepth 100000 in
theorem walk (a : Na) (d : Nd) (w : World) (hg : ErrT w) (hv : NV w a d) (hw : NBw d) :
    Calls Tryz.prog 14 #[nv a d] w fun e w' => e = .returned (.bool true) ∧ Below w.heap.size w w' := by
  obtain ⟨W0, hW0⟩ : ∃ W0, W0 = w.alloc (.cells (nds a d) 39) := ⟨_, rfl⟩
  have HA : Hid (Y0 w W0 a d) := by rw [hW0]; exact ⟨bal1 _ _, NB.new _ _ _ _⟩
  have HV : Hid (∀ V, Below w.heap.size w V → NV V a d ∧ ErrT V) := fun V hb => ⟨hv.below hb, hg.below hb⟩
  have HW : Hid (NBw d) := hw
  clear hg hv hw
  unfold nv
  unfold nds at hW0 ⊢
  go_enter Tryz.func14, Tryz.ntmps14
  go_upto_region 1 with fail
  rw [← hW0]
  clear hW0
  generalize Value.agg #[.int .i64 d.id, .bool d.up, .bool d.pr, .slice a.im d.im.length a.imc, .slice a.go d.g.length a.gc, .slice a.bo d.n a.bc, .bool d.fi, .bool d.ol, .bool d.he, .int .i64 d.la, .slice a.aA d.A.length a.cA, .slice a.aB d.C.length a.cB, .slice a.co d.co.length a.coc, .slice a.so d.m a.sc, .slice a.cp d.cp.length a.cpc, .slice a.wt d.wt.length a.wtc] = vn at *
  go_wp2_with (refine ld_nodel rfl _ rfl w.heap.size rfl HA.out.2 ?_)
  refine (szn_any a d 1048576 W0 HW.out (by omega) (by omega) (HV.out _ HA.out.1).1).mono ?_
  rintro e ws ⟨hs, bs⟩
  have H1 := hide (HA.out.b bs)
  clear bs HA HW
  rcases hs with ⟨hle, rfl⟩ | rfl
  case inr =>
    go_wp2
    go_ret
    exact ⟨rfl, H1.out.1⟩
  have hkd : ¬ (1048576 : Int) - ntot d < 0 := by omega
  have HD := hide (nbd_of hle)
  generalize hT0 : ntot d = t0 at hkd hle ⊢
  clear hT0 hle
  have hS : Hid (∀ (V : World) (b : Na), NV V b d → Calls Tryz.prog 49 #[nv b d] V fun e w' => e = .returned (.bool (dcd Classical.propDecidable (MwC d))) ∧ Below V.heap.size V w') := fun V b h1 => (maywrite_s b d V HD.out h1).mono fun e w' h => tells_dcd h
  have hI : Hid (∀ (V : World) (b : Na), ErrT V → NV V b d → Calls Tryz.prog 50 #[nv b d] V fun e w' => e = .returned (.bool (dcd Classical.propDecidable (MwC d))) ∧ Below V.heap.size V w') := fun V b hg h1 => (maywrite_i b d V hg HD.out h1).mono fun e w' h => tells_dcd h
  generalize (dcd Classical.propDecidable (MwC d)) = qq at *
  have hq1 : (qq != qq) = false := by cases qq <;> rfl
  have hq2 : (qq == qq) = true := by cases qq <;> rfl
  as_aux_lemma =>
    go_wp2_with (refine ld_nodel rfl _ rfl w.heap.size rfl H1.out.2 ?_)
    clear hkd
    refine (ton_any a d ws HD.out (HV.out _ H1.out.1).1).mono ?_
    rintro e w1 ⟨b1, rfl, o1, c1⟩
    have H2 : Hid (Y0 w w1 a d ∧ NV w1 b1 d) := ⟨H1.out.b c1, o1.nv⟩
    clear o1 c1 H1
    go_wp2_with fail
    refine (hS.out w1 b1 H2.out.2).mono ?_
    rintro e wc ⟨rfl, c2⟩
    have H3 : Hid (Y0 w wc a d) := H2.out.1.b c2
    clear c2 H2 hS
    as_aux_lemma =>
      go_wp2_with (refine ld_nodel rfl _ rfl w.heap.size rfl H3.out.2 ?_)
      refine (ton_any a d wc HD.out (HV.out _ H3.out.1).1).mono ?_
      rintro e w3 ⟨b3, rfl, o1, c1⟩
      obtain ⟨W3, hW⟩ : ∃ W, W = w3.alloc (.cells (nds b3 d) 31) := ⟨_, rfl⟩
      have H4 : Hid (Y0 w W3 a d ∧ GN W3 w3.heap.size wc.heap.size b3 d d) := by rw [hW]; exact ⟨(H3.out.b c1).b (bal1 w3 _), GN.new o1⟩
      clear o1 c1 H3
      as_aux_lemma =>
        unfold nds at hW
        unfold nv nds
        go_upto_region 7 with fail
        rw [← hW]
        clear hW
        generalize w3.heap.size = X3 at *
        generalize wc.heap.size = B3 at *
        go_wp2_with (refine ld_node rfl _ rfl X3 rfl H4.out.2.1 ?_)
        refine (hI.out W3 b3 (HV.out _ H4.out.1.1).2 H4.out.2.2.nv).mono ?_
        rintro e w7 ⟨rfl, c7⟩
        have XB : ∀ {V V' : World}, (Y0 w V a d ∧ GN V X3 B3 b3 d d) → Below V.heap.size V V' → (Y0 w V' a d ∧ GN V' X3 B3 b3 d d) := fun h hb => ⟨h.1.b hb, h.2.b hb⟩
        have H7 := hide (XB H4.out c7)
        clear c7 H4 hI
        as_aux_lemma =>
          go_wp2_with fail
          have HA := hide (XB H7.out (kdrew w7))
          clear H7
          have HS0 : Hid (NB w7.drew X3 31 b3 d ∧ NB w7.drew w.heap.size 39 a d) := ⟨HA.out.2.1, HA.out.1.2⟩
          refine wp_region_held_drew (S := (fun w' => NB w' X3 31 b3 d ∧ NB w' w.heap.size 39 a d)) (by kernel_rfl) ?_ (fun hHeld => ?_)
          · exact ⟨HS0.out.1, HS0.out.2⟩
          refine wpAnyH_take (i := 0) (oi := { dst := some 22, op := Op.load 31 (Operand.tmp 5), type := 31, pos := "exact.go:3707", after := #[], guard := none }) (v := nv b3 d) rfl (by kernel_rfl) (by kernel_rfl) (by kernel_rfl) (fun _ _ _ h => h) (yieldsIf_load_mid (by rfl) _ _ rfl X3 0 rfl (nds b3 d).toList _ (fun wq hSw => range_of hSw.1 rfl) Tryz.underlying31 rfl (by kernel_rfl)) (by assumption) ?_
          try simp only [Act.put, ly1, ly2, ly3]
          refine wpAnyH_take (i := 1) (oi := { dst := some 23, op := Op.load 39 (Operand.tmp 1), type := 39, pos := "exact.go:3707", after := #[], guard := none }) (v := nv a d) rfl (by kernel_rfl) (by kernel_rfl) (by kernel_rfl) (fun _ _ _ h => h) (yieldsIf_load_mid (by rfl) _ _ rfl w.heap.size 0 rfl (nds a d).toList _ (fun wq hSw => range_of hSw.2 rfl) Tryz.underlying39 rfl (by kernel_rfl)) (by assumption) ?_
          try simp only [Act.put, ly1, ly2, ly3]
          refine wpAnyH_ready (rs := [2]) (by kernel_rfl) (by simp) ?_
          refine AllReadyH.cons (o := { dst := some 24, op := Op.call { callee := Callee.value (Operand.func 22), args := #[Operand.tmp 23], argTypes := #[39] }, type := 31, pos := "exact.go:3707", after := #[{ on := 1, ground := Ground.data }], guard := none }) rfl (fun K hK => ?_) AllReadyH.nil
          go_simp
          refine (ton_any a d w7.drew HD.out (HV.out _ HA.out.1.1).1).mono ?_
          rintro e y1 ⟨bb, rfl, o1, c1⟩
          have H1 := hide (And.intro (XB HA.out c1) o1.nv)
          have HK : Hid (NB y1 X3 31 b3 d ∧ NB y1 w.heap.size 39 a d) := ⟨H1.out.1.2.1, H1.out.1.1.2⟩
          clear o1 c1
          go_wp2_with fail
          refine hK.out _ _ ?_ (fun hHeld => ?_)
          · exact HK.out
          clear hK K
          try simp only [Act.put, ly1, ly2, ly3]
          refine wpAnyH_ready (rs := [3]) (by kernel_rfl) (by simp) ?_
          refine AllReadyH.cons (o := { dst := some 25, op := Op.call { callee := Callee.value (Operand.func 17), args := #[Operand.tmp 22, Operand.tmp 24], argTypes := #[31, 31] }, type := 4, pos := "exact.go:3707", after := #[{ on := 0, ground := Ground.data }, { on := 2, ground := Ground.data }, { on := 2, ground := Ground.chain }], guard := none }) rfl (fun K hK => ?_) AllReadyH.nil
          go_simp
          clear HK
          refine (eqn_yes b3 bb d y1 HD.out H1.out.1.2.2.nv H1.out.2).mono ?_
          rintro e w8 ⟨rfl, c1⟩
          have H2 := hide (XB H1.out.1 c1)
          have HK : Hid (NB w8 X3 31 b3 d ∧ NB w8 w.heap.size 39 a d) := ⟨H2.out.2.1, H2.out.1.2⟩
          clear c1 H1
          go_wp2_with fail
          refine hK.out _ _ ?_ (fun hHeld => ?_)
          · exact HK.out
          clear hK K
          try simp only [Act.put, ly1, ly2, ly3]
          refine wpAnyH_take (i := 4) (oi := { dst := some 26, op := Op.unOp UnOp.not 4 (Operand.tmp 25), type := 4, pos := "exact.go:3707", after := #[{ on := 3, ground := Ground.data }], guard := none }) (v := ?_) rfl (by kernel_rfl) (by kernel_rfl) (by kernel_rfl) (fun _ _ _ h => h) (Or.inl ⟨by rfl, ?_⟩) (by assumption) ?_
          rotate_left 1
          · (intro wq hSw; (try dsimp only at hSw); go_simp; try with_reducible rfl)
          try simp only [Act.put, ly1, ly2, ly3]
          refine wpAnyH_done (by kernel_rfl) ?_ _
          clear HA HK HS0
          have HA := hide H2.out
          clear H2
          go_wp2
          go_ret
          exact ⟨rfl, HA.out.1.1⟩

end Go.Proofs.YtkndnndildnbpaaGreatDoor.fnExactMayWrite

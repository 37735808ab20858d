/- The walk of a law: what its body does at any argument. -/
import Derived.WalkKit
import Derived.ProofKit
import Derived.OpenShut
import Derived.ShutString
import Derived.ChangeOld
import Derived.Below
import Derived.Test.YtkndnndildnbpaaGreatDoorHe
import Derived.Test.YtkndnndildnbpaaGreatDoorHp

namespace Go.Proofs.YtkndnndildnbpaaGreatDoor.fnExactNodeNew
open Go.ChangeShapes Go.WideShapes Go.ChangeAt Go.RowKit
set_option linter.unusedVariables false

set_option maxHeartbeats 100000000 in
set_option maxRecDepth 100000 in
theorem walk (y : Int) (w : World) (hg : ErrT w) (hy : -9223372036854775808 ≤ y ∧ y ≤ 9223372036854775807) :
    Calls Tryz.prog 3 #[.int .i64 y] w fun e w' => e = .returned (.bool true) ∧ Below w.heap.size w w' := by
  have HY := hide hy
  have HE : Hid (∀ V, Below w.heap.size w V → ErrT V) := fun V hb => hg.below hb
  have HTT : Hid (ntot (nwr Classical.propDecidable y) ≤ 1048576) := ntot_nwr y
  have HDD : Hid (NBd (nwr Classical.propDecidable y)) := nbd_of HTT.out
  have hS : Hid (∀ (V : World), Calls Tryz.prog 15 #[.int .i64 y] V fun e w' => ∃ c, e = .returned (nv c (nwr Classical.propDecidable y)) ∧ ON w' V.heap.size w'.heap.size c (nwr Classical.propDecidable y) ∧ Below V.heap.size V w') := fun V => nodenew_s y V HY.out
  have hI : Hid (∀ (V : World), ErrT V → Calls Tryz.prog 16 #[.int .i64 y] V fun e w' => ∃ c, e = .returned (nv c (nwr Classical.propDecidable y)) ∧ ON w' V.heap.size w'.heap.size c (nwr Classical.propDecidable y) ∧ Below V.heap.size V w') := fun V h0 => nodenew_i y V h0 HY.out
  clear hg hy
  generalize (nwr Classical.propDecidable y) = dd at *
  go_enter Tryz.func3, Tryz.ntmps3
  go_wp2_with fail
  refine (hS.out w).mono ?_
  rintro e w2 ⟨b2, rfl, o2, c2⟩
  obtain ⟨W2, hW2⟩ : ∃ W2, W2 = w2.alloc (.cells (nds b2 dd) 31) := ⟨_, rfl⟩
  have H3 : Hid (Below w.heap.size w W2 ∧ GN W2 w2.heap.size w.heap.size b2 dd dd) := by
    have bx := bal1 w2 (.cells (nds b2 dd) 31)
    rw [hW2]; exact ⟨c2.trans (bx.mono c2.size), GN.new o2⟩
  have hsz2 : W2.heap.size = w2.heap.size + 1 := by rw [hW2]; simp
  have hww : w.heap.size ≤ w2.heap.size := c2.size
  clear o2 c2 hS
  as_aux_lemma =>
    unfold nds at hW2
    unfold nv nds
    go_upto_region 2 with fail
    rw [← hW2]
    clear hW2
    generalize w2.heap.size = X2 at *
    go_wp2_with fail
    refine (hI.out W2 (HE.out _ H3.out.1)).mono ?_
    rintro e w4 ⟨b4, rfl, o4, c4⟩
    obtain ⟨W4, hW4⟩ : ∃ W4, W4 = w4.alloc (.cells (nds b4 dd) 31) := ⟨_, rfl⟩
    have H5 : Hid (Below w.heap.size w W4 ∧ GN W4 X2 w.heap.size b2 dd dd ∧ GN W4 w4.heap.size W2.heap.size b4 dd dd) := by
      have bx := bal1 w4 (.cells (nds b4 dd) 31)
      have h1 := H3.out.1.size
      rw [hW4]; exact ⟨H3.out.1.trans ((c4.trans (bx.mono c4.size)).mono h1), (H3.out.2.b c4).b bx, GN.new o4⟩
    clear o4 c4 H3
    as_aux_lemma =>
      unfold nds at hW4
      unfold nv nds
      go_upto_region 3 with fail
      rw [← hW4]
      clear hW4
      generalize w4.heap.size = X4 at *
      generalize W2.heap.size = B4 at *
      have HX : Hid (X2 < B4 ∧ w.heap.size ≤ B4) := ⟨by omega, by omega⟩
      clear hsz2 hww
      go_wp2_with (first | (refine ld_node rfl _ rfl X4 rfl H5.out.2.2.1 ?_) | (refine ld_node rfl _ rfl X2 rfl H5.out.2.1.1 ?_))
      refine (eqn_yes b4 b2 dd W4 HDD.out H5.out.2.2.2.nv H5.out.2.1.2.nv).mono ?_
      rintro e w12 ⟨rfl, c1⟩
      have H12 : Hid (Below w.heap.size w w12 ∧ GN w12 X2 w.heap.size b2 dd dd ∧ GN w12 X4 B4 b4 dd dd) := ⟨H5.out.1.trans (c1.mono H5.out.1.size), H5.out.2.1.b c1, H5.out.2.2.b c1⟩
      clear c1 H5
      as_aux_lemma =>
        go_wp2_with (refine ld_node rfl _ rfl X4 rfl H12.out.2.2.1 ?_)
        refine (markn_any b4 dd B4 X4 1 w12 HTT.out (by omega) (by omega) H12.out.2.2.2).mono ?_
        rintro e w13 ⟨rfl, n13, m1⟩
        have HG : Hid (Below w.heap.size w w13 ∧ GN w13 X2 w.heap.size b2 dd dd ∧ GN w13 X4 B4 b4 dd (mkN dd 1)) := ⟨H12.out.1.trans (m1.1.mono HX.out.2), H12.out.2.1.onb m1 (.inl HX.out.1), H12.out.2.2.mk m1 n13⟩
        clear m1 n13 H12
        have hc1 := kncnt_nn dd
        have hc3 : ncnt dd ≤ 1048576 := Int.le_trans (kncnt_le dd) HTT.out
        have hc2 : ¬ 1 + ncnt dd < 0 := by omega
        have hheld := hide (heldn_any b4 dd 1 w13 HTT.out (by omega) (by omega) HG.out.2.2.2.nv)
        have hheld2 : Hid (∀ V, NV V b4 (mkN dd 1) → Calls Tryz.prog 19 #[nv b4 dd, .int .i64 1] V fun e w' => e = .returned (.int .i64 (1 + ncnt dd)) ∧ Below V.heap.size V w') := fun V hv => heldn_any b4 dd 1 V HTT.out (by omega) (by omega) hv
        generalize ncnt dd = n2 at *
        as_aux_lemma =>
          go_wp2_with (refine ld_node rfl _ rfl X4 rfl HG.out.2.2.1 ?_)
          refine hheld.out.mono ?_
          rintro e w14 ⟨rfl, c1⟩
          have HH : Hid (Below w.heap.size w w14 ∧ GN w14 X2 w.heap.size b2 dd dd ∧ GN w14 X4 B4 b4 dd (mkN dd 1)) := ⟨HG.out.1.trans (c1.mono HG.out.1.size), HG.out.2.1.b c1, HG.out.2.2.b c1⟩
          clear c1 HG hheld
          as_aux_lemma =>
            go_wp2_with fail
            refine (hI.out w14 (HE.out _ HH.out.1)).mono ?_
            rintro e w16 ⟨b6, rfl, o6, c6⟩
            obtain ⟨W6, hW6⟩ : ∃ W6, W6 = w16.alloc (.cells (nds b6 dd) 31) := ⟨_, rfl⟩
            have HL : Hid ((Below w.heap.size w W6 ∧ GN W6 X2 w.heap.size b2 dd dd ∧ GN W6 X4 B4 b4 dd (mkN dd 1)) ∧ GN W6 w16.heap.size w14.heap.size b6 dd dd) := by
              have bx := bal1 w16 (.cells (nds b6 dd) 31)
              have h1 := HH.out.1.size
              rw [hW6]; exact ⟨⟨HH.out.1.trans ((c6.trans (bx.mono c6.size)).mono h1), (HH.out.2.1.b c6).b bx, (HH.out.2.2.b c6).b bx⟩, GN.new o6⟩
            clear o6 c6 HH hI
            as_aux_lemma =>
              unfold nds at hW6
              unfold nv nds
              go_upto_region 14 with fail
              rw [← hW6]
              clear hW6
              generalize w16.heap.size = X6 at *
              go_wp2_with (first | (refine ld_node rfl _ rfl X6 rfl HL.out.2.1 ?_) | (refine ld_node rfl _ rfl X2 rfl HL.out.1.2.1.1 ?_))
              refine (eqn_yes b6 b2 dd W6 HDD.out HL.out.2.2.nv HL.out.1.2.1.2.nv).mono ?_
              rintro e w17 ⟨rfl, c1⟩
              have HM : Hid (Below w.heap.size w w17 ∧ GN w17 X4 B4 b4 dd (mkN dd 1)) := ⟨HL.out.1.1.trans (c1.mono HL.out.1.1.size), HL.out.1.2.2.b c1⟩
              clear c1 HL
              as_aux_lemma =>
                go_wp2_with (refine ld_node rfl _ rfl X4 rfl HM.out.2.1 ?_)
                refine (hheld2.out w17 HM.out.2.2.nv).mono ?_
                rintro e w18 ⟨rfl, c1⟩
                have HZ : Hid (Below w.heap.size w w18) := HM.out.1.trans (c1.mono HM.out.1.size)
                clear c1 HM hheld2
                go_wp2
                go_ret
                exact ⟨rfl, HZ.out⟩

end Go.Proofs.YtkndnndildnbpaaGreatDoor.fnExactNodeNew

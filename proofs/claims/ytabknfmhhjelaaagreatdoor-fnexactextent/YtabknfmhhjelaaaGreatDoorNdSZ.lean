/- NodeOk of the program. -/
import Derived.Test.YtabknfmhhjelaaaGreatDoorNdRZ

namespace Go.Proofs.YtabknfmhhjelaaaGreatDoor
open Go.ChangeShapes Go.WideShapes Go.ChangeAt Go.RowKit
set_option linter.unusedVariables false
set_option linter.unusedSimpArgs false
set_option maxRecDepth 100000

set_option maxHeartbeats 8000000 in
theorem line_impl (a : Na) (d : Nd) (k : Nat) (w : World) (hk : k < 3) (hd : NBd d) (hv : NV w a d) (h1 : d.co.length = 3) (h2 : d.m = 3) (h3 : d.cp.length = 3) :
    Calls Tryz.prog 64 #[nv a d, .int .i64 k] w fun e w' => Tells w w' e (LkOk d.id d.up d.co d.cp d.S k) := by
  obtain ⟨id, up, pr, im, g, n, L, fi, ol, he, la, A, C, co, m, S, cp, wt⟩ := d
  obtain ⟨aim, imc, go, gc, bo, bc, aA, cA, aB, cB, aco, coc, aso, sc, acp, cpc, awt, wtc⟩ := a
  obtain ⟨W, hW⟩ : ∃ W, W = w.alloc (.cells (nds ⟨aim, imc, go, gc, bo, bc, aA, cA, aB, cB, aco, coc, aso, sc, acp, cpc, awt, wtc⟩ ⟨id, up, pr, im, g, n, L, fi, ol, he, la, A, C, co, m, S, cp, wt⟩) 37) := ⟨_, rfl⟩
  have HB : Hid (Below w.heap.size w W) := by rw [hW]; exact bal1 _ _
  have hN : NB W w.heap.size 37 ⟨aim, imc, go, gc, bo, bc, aA, cA, aB, cB, aco, coc, aso, sc, acp, cpc, awt, wtc⟩ ⟨id, up, pr, im, g, n, L, fi, ol, he, la, A, C, co, m, S, cp, wt⟩ := by rw [hW]; exact NB.new _ _ _ _
  obtain ⟨p0, p1, p2, p3, p4, p5, p6, p7, p8, p9, p10, p11, p12, p13, p14, p15⟩ := hN.cells
  have hv' := hv.below HB.out
  dsimp only at *
  obtain ⟨b1, o1, rfl, c1⟩ := slb_cell hv'.2.2.2.1.1 (show k < co.length by omega)
  obtain ⟨b2, o2, rfl, c2⟩ := slb_cell hv'.2.2.2.2.2.1.1 (show k < cp.length by omega)
  obtain ⟨b3, o3, ro, rc, rfl, c3, hrc, hsl⟩ := hv'.2.2.2.2.1.1 k (show k < m by omega)
  have hl : (S k).length ≤ 1048576 := hd.2.2.2.2.1.2 k (show k < m by omega)
  have hcall := hide (marksok_impl ro (S k).length rc (fun j => (S k).getD j 0) W hl hsl)
  suffices hz : ∀ P : Prop, (P ↔ LkOk id up co cp S k) → Calls _ _ _ _ fun e w' => Tells w w' e P from hz _ Iff.rfl
  intro P hP
  have HK : Hid (P ↔ KIn (fun i => (S k).getD i 0) (S k).length ∧ (0 < (S k).length → cp.getD k false = true) ∧ (cp.getD k false = true → co.getD k false = true) ∧ (co.getD k false = true → up = true ∧ (k : Int) ≠ id)) := (show _ ↔ _ from hP)
  clear hv hv' hd hN hP
  unfold nv
  unfold nds at hW ⊢
  dsimp only at hW ⊢
  generalize KIn (fun i => (S k).getD i 0) (S k).length = KK at *
  generalize (S k).length = l at *
  generalize co.getD k false = c at *
  generalize cp.getD k false = p at *
  generalize hlc : co.length = lc at *
  generalize hlp : cp.length = lp at *
  clear hlc hlp hsl hrc
  subst h1 h2 h3
  rw [hW] at c1 c2 c3
  by_cases hid : (k : Int) = id
  · have he1 : ((k : Int) == id) = true := by simpa using hid
    have he2 : ((k : Int) != id) = false := by simpa using hid
    by_cases hg : (0 < l → p = true) ∧ (p = true → c = true) ∧ ¬ c = true
    · have HQ : Hid (P ↔ KK) := (show _ ↔ _ from by rw [HK.out]; exact ⟨fun h => h.1, fun h => ⟨h, hg.1, hg.2.1, fun hc => absurd hc hg.2.2⟩⟩)
      have hc : c = false := by cases c with | false => rfl | true => exact absurd rfl hg.2.2
      subst hc
      have hp : p = false := by cases p with | false => rfl | true => exact absurd (hg.2.1 rfl) (by simp)
      subst hp
      obtain rfl : l = 0 := by rcases Nat.eq_zero_or_pos l with h | h; exact h; exact absurd (hg.1 h) (by simp)
      clear hg HK hid
      cases up
      all_goals
        go_enter Tryz.func64, Tryz.ntmps64
        go_wp2_with fail
        rw [← hW]
        clear hW
        refine hcall.out.mono ?_
        rintro e w1 ⟨⟨b, rfl, hb⟩, q1, rfl⟩
        have HBq : Hid (Below w.heap.size w (W.drewN q1)) := Below.drawn HB.out q1
        have HQb : Hid (P ↔ b = true) := (show _ ↔ _ from HQ.out.trans hb.symm)
        clear hb HQ hcall
        cases b with
        | true =>
          have HY := hide (HQb.out.2 rfl)
          clear HQb
          go_wp2
          go_ret
          exact ⟨.inl ⟨HY.out, rfl⟩, HBq.out⟩
        | false =>
          have HY : Hid (¬ P) := fun h => absurd (HQb.out.1 h) (by simp)
          clear HQb
          go_wp2
          go_ret
          exact ⟨.inr ⟨HY.out, rfl⟩, HBq.out⟩
    · have HY : Hid (¬ P) := fun h => hg ⟨(HK.out.1 h).2.1, (HK.out.1 h).2.2.1, fun hc => ((HK.out.1 h).2.2.2 hc).2 hid⟩
      clear HK hcall hid
      rcases Nat.eq_zero_or_pos l with hl0 | hl0
      · subst hl0
        cases p <;> cases c <;> cases up
        all_goals first | (exfalso; revert hg; simp; done) | skip
        all_goals clear hg
        all_goals
          go_enter Tryz.func64, Tryz.ntmps64
          go_wp2_with fail
          rw [← hW]
          go_ret
          exact ⟨.inr ⟨HY.out, rfl⟩, HB.out⟩
      · have hl1 : ((l : Int) == 0) = false := by simp; omega
        cases p <;> cases c <;> cases up
        all_goals first | (exfalso; revert hg; simp [hl0]; done) | skip
        all_goals clear hg
        all_goals
          go_enter Tryz.func64, Tryz.ntmps64
          go_wp2_with fail
          rw [← hW]
          go_ret
          exact ⟨.inr ⟨HY.out, rfl⟩, HB.out⟩
  · have he1 : ((k : Int) == id) = false := by simpa using hid
    have he2 : ((k : Int) != id) = true := by simpa using hid
    by_cases hg : (0 < l → p = true) ∧ (p = true → c = true) ∧ (c = true → up = true)
    · have HQ : Hid (P ↔ KK) := (show _ ↔ _ from by rw [HK.out]; exact ⟨fun h => h.1, fun h => ⟨h, hg.1, hg.2.1, fun hc => ⟨hg.2.2 hc, hid⟩⟩⟩)
      clear HK hid
      rcases Nat.eq_zero_or_pos l with hl0 | hl0
      · subst hl0
        cases p <;> cases c <;> cases up
        all_goals first | (exfalso; revert hg; simp; done) | skip
        all_goals clear hg
        all_goals
          go_enter Tryz.func64, Tryz.ntmps64
          go_wp2_with fail
          rw [← hW]
          clear hW
          refine hcall.out.mono ?_
          rintro e w1 ⟨⟨b, rfl, hb⟩, q1, rfl⟩
          have HBq : Hid (Below w.heap.size w (W.drewN q1)) := Below.drawn HB.out q1
          have HQb : Hid (P ↔ b = true) := (show _ ↔ _ from HQ.out.trans hb.symm)
          clear hb HQ hcall
          cases b with
          | true =>
            have HY := hide (HQb.out.2 rfl)
            clear HQb
            go_wp2
            go_ret
            exact ⟨.inl ⟨HY.out, rfl⟩, HBq.out⟩
          | false =>
            have HY : Hid (¬ P) := fun h => absurd (HQb.out.1 h) (by simp)
            clear HQb
            go_wp2
            go_ret
            exact ⟨.inr ⟨HY.out, rfl⟩, HBq.out⟩
      · have hl1 : ((l : Int) == 0) = false := by simp; omega
        cases p <;> cases c <;> cases up
        all_goals first | (exfalso; revert hg; simp [hl0]; done) | skip
        all_goals clear hg
        all_goals
          go_enter Tryz.func64, Tryz.ntmps64
          go_wp2_with fail
          rw [← hW]
          clear hW
          refine hcall.out.mono ?_
          rintro e w1 ⟨⟨b, rfl, hb⟩, q1, rfl⟩
          have HBq : Hid (Below w.heap.size w (W.drewN q1)) := Below.drawn HB.out q1
          have HQb : Hid (P ↔ b = true) := (show _ ↔ _ from HQ.out.trans hb.symm)
          clear hb HQ hcall
          cases b with
          | true =>
            have HY := hide (HQb.out.2 rfl)
            clear HQb
            go_wp2
            go_ret
            exact ⟨.inl ⟨HY.out, rfl⟩, HBq.out⟩
          | false =>
            have HY : Hid (¬ P) := fun h => absurd (HQb.out.1 h) (by simp)
            clear HQb
            go_wp2
            go_ret
            exact ⟨.inr ⟨HY.out, rfl⟩, HBq.out⟩
    · have HY : Hid (¬ P) := fun h => hg ⟨(HK.out.1 h).2.1, (HK.out.1 h).2.2.1, fun hc => ((HK.out.1 h).2.2.2 hc).1⟩
      clear HK hcall hid
      rcases Nat.eq_zero_or_pos l with hl0 | hl0
      · subst hl0
        cases p <;> cases c <;> cases up
        all_goals first | (exfalso; revert hg; simp; done) | skip
        all_goals clear hg
        all_goals
          go_enter Tryz.func64, Tryz.ntmps64
          go_wp2_with fail
          rw [← hW]
          go_ret
          exact ⟨.inr ⟨HY.out, rfl⟩, HB.out⟩
      · have hl1 : ((l : Int) == 0) = false := by simp; omega
        cases p <;> cases c <;> cases up
        all_goals first | (exfalso; revert hg; simp [hl0]; done) | skip
        all_goals clear hg
        all_goals
          go_enter Tryz.func64, Tryz.ntmps64
          go_wp2_with fail
          rw [← hW]
          go_ret
          exact ⟨.inr ⟨HY.out, rfl⟩, HB.out⟩

set_option maxHeartbeats 4000000 in
theorem lines_impl (a : Na) (d : Nd) (w : World) (hd : NBd d) (hv : NV w a d) :
    Calls Tryz.prog 47 #[nv a d] w fun e w' => Tells w w' e (LnOk d.id d.up d.co d.cp d.m d.S) := by
  obtain ⟨W, hW⟩ : ∃ W, W = w.alloc (.cells (nds a d) 37) := ⟨_, rfl⟩
  have H0 : Hid (Below w.heap.size w W ∧ NB W w.heap.size 37 a d) := by rw [hW]; exact ⟨bal1 _ _, NB.new _ _ _ _⟩
  have HV : Hid (∀ V, Below w.heap.size w V → NV V a d) := fun V hb => hv.below hb
  have HD := hide hd
  obtain ⟨p0, p1, p2, p3, p4, p5, p6, p7, p8, p9, p10, p11, p12, p13, p14, p15⟩ := H0.out.2.cells
  have HP0 : Hid (LnOk d.id d.up d.co d.cp d.m d.S ↔ d.co.length = 3 ∧ d.m = 3 ∧ d.cp.length = 3 ∧ ∀ k, k < 3 → LkOk d.id d.up d.co d.cp d.S k) := (show _ ↔ _ from Iff.rfl)
  clear hv hd
  generalize LnOk d.id d.up d.co d.cp d.m d.S = P at *
  have HP : Hid (P → d.co.length = 3 ∧ d.m = 3 ∧ d.cp.length = 3 ∧ ∀ k, k < 3 → LkOk d.id d.up d.co d.cp d.S k) := fun h => HP0.out.1 h
  by_cases h1 : d.co.length = 3
  case neg =>
    have hno : Hid (¬ P) := fun h => h1 (HP.out h).1
    have hd1 : ((d.co.length : Int) == 3) = false := by simp; omega
    have hd2 : ((d.co.length : Int) != 3) = true := by simp; omega
    clear h1 HP HP0 HV
    unfold nv
    unfold nds at hW ⊢
    go_enter Tryz.func47, Tryz.ntmps47
    go_wp2_with fail
    rw [← hW]
    go_ret
    exact ⟨.inr ⟨hno.out, rfl⟩, H0.out.1⟩
  have H1 := hide h1
  by_cases h2 : d.m = 3
  case neg =>
    have hno : Hid (¬ P) := fun h => h2 (HP.out h).2.1
    have hd1 : ((d.m : Int) == 3) = false := by simp; omega
    have hd2 : ((d.m : Int) != 3) = true := by simp; omega
    clear h2 HP HP0 HV
    unfold nv
    unfold nds at hW ⊢
    rw [h1] at hW ⊢ p12
    clear h1
    go_enter Tryz.func47, Tryz.ntmps47
    go_wp2_with fail
    rw [← hW]
    go_ret
    exact ⟨.inr ⟨hno.out, rfl⟩, H0.out.1⟩
  have H2 := hide h2
  by_cases h3 : d.cp.length = 3
  case neg =>
    have hno : Hid (¬ P) := fun h => h3 (HP.out h).2.2.1
    have hd1 : ((d.cp.length : Int) == 3) = false := by simp; omega
    have hd2 : ((d.cp.length : Int) != 3) = true := by simp; omega
    clear h3 HP HP0 HV
    unfold nv
    unfold nds at hW ⊢
    rw [h1, h2] at hW ⊢
    rw [h1] at p12
    rw [h2] at p13
    clear h1 h2
    go_enter Tryz.func47, Tryz.ntmps47
    go_wp2_with fail
    rw [← hW]
    go_ret
    exact ⟨.inr ⟨hno.out, rfl⟩, H0.out.1⟩
  have HPy : Hid ((∀ k, k < 3 → LkOk d.id d.up d.co d.cp d.S k) → P) := fun h => HP0.out.2 ⟨h1, h2, h3, h⟩
  have HPn : Hid (P → ∀ k, k < 3 → LkOk d.id d.up d.co d.cp d.S k) := fun h => (HP.out h).2.2.2
  have HC : Hid (∀ k V, k < 3 → Below w.heap.size w V → Calls Tryz.prog 64 #[nv a d, .int .i64 (k : Nat)] V fun e w' => Tells V w' e (LkOk d.id d.up d.co d.cp d.S k)) := fun k V hk hb => line_impl a d k V hk HD.out (HV.out V hb) h1 h2 h3
  have HE : Hid (nv a d = .agg #[.int .i64 d.id, .bool d.up, .bool d.pr, .slice a.im d.im.length a.imc, .slice a.go d.g.length a.gc, .slice a.bo d.n a.bc, .bool d.fi, .bool d.ol, .bool d.he, .int .i64 d.la, .slice a.aA d.A.length a.cA, .slice a.aB d.C.length a.cB, .slice a.co 3 a.coc, .slice a.so 3 a.sc, .slice a.cp 3 a.cpc, .slice a.wt d.wt.length a.wtc]) := by show _ = _; unfold nv nds; rw [h1, h2, h3]
  clear HP HP0 HV
  rw [HE.out]
  rw [show (nds a d) = _ from rfl] at hW
  unfold nds at hW
  rw [h1, h2, h3] at hW
  rw [h1] at p12
  rw [h2] at p13
  rw [h3] at p14
  clear h1 h2 h3
  go_enter Tryz.func47, Tryz.ntmps47
  go_wp2_with fail
  rw [← hW]
  clear hW p0 p1 p2 p3 p4 p5 p6 p7 p8 p9 p10 p11 p12 p13 p14 p15
  go_loopw [3, 20] (fun _ i wr => ∃ k : Nat, k ≤ 3 ∧ i = .int .i64 k ∧ Hid ((∀ j, j < k → LkOk d.id d.up d.co d.cp d.S j) ∧ Below w.heap.size w wr ∧ NB wr w.heap.size 37 a d)) (fun _ i _ => 3 - (intOf i).toNat)
  case atStart => exact ⟨0, by omega, rfl, (fun j hj => absurd hj (by omega)), H0.out⟩
  case round =>
    obtain ⟨k, hk, rfl, HI⟩ := hrel
    by_cases hlt : k < 3
    · obtain ⟨p0, p1, p2, p3, p4, p5, p6, p7, p8, p9, p10, p11, p12, p13, p14, p15⟩ := HI.out.2.2.cells
      rw [H1.out] at p12
      rw [H2.out] at p13
      have hcall := hide (HC.out k wr hlt HI.out.2.1)
      rw [HE.out] at hcall
      have e14 : d.cp.length = 3 := by
        have h := HE.out
        unfold nv nds at h
        simp only [Value.agg.injEq] at h
        have h2 := congrArg (fun x : Array Value => x[14]?) h
        simpa using h2
      rw [e14] at p14
      clear e14
      go_wp2_with fail
      refine hcall.out.mono ?_
      rintro e w1 ⟨h, b1⟩
      have HN : Hid (Below w.heap.size w w1 ∧ NB w1 w.heap.size 37 a d) := ⟨HI.out.2.1.trans (b1.mono HI.out.2.1.size), HI.out.2.2.b b1⟩
      clear b1 hcall p0 p1 p2 p3 p4 p5 p6 p7 p8 p9 p10 p11 p12 p13 p14 p15
      rcases h with ⟨hy, rfl⟩ | ⟨hy, rfl⟩
      · have HR : Hid (∀ j, j < k + 1 → LkOk d.id d.up d.co d.cp d.S j) := fun j hj => by
          by_cases e : j = k
          · subst e; exact hy
          · exact HI.out.1 j (by omega)
        clear hy HI
        go_wp2
        go_roundw
        case rel => exact ⟨k + 1, by omega, by go_num, HR.out, HN.out⟩
        case measure => simp [intOf]; omega
      · have HX : Hid (¬ P) := fun h => hy (HPn.out h k hlt)
        clear hy HI
        go_wp2
        go_ret
        exact ⟨.inr ⟨HX.out, rfl⟩, HN.out.1⟩
    · obtain rfl : k = 3 := by omega
      go_wp2
      go_ret
      exact ⟨.inl ⟨HPy.out HI.out.1, rfl⟩, HI.out.2.1⟩
end Go.Proofs.YtabknfmhhjelaaaGreatDoor

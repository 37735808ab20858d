/- A node as the laws hand it on: sized, held against another. -/
import Derived.Test.YtkndnndildnbpaaGreatDoorGm

namespace Go.Proofs.YtkndnndildnbpaaGreatDoor
open Go.ChangeShapes Go.WideShapes Go.ChangeAt Go.RowKit
set_option linter.unusedVariables false
set_option linter.unusedSimpArgs false
set_option maxRecDepth 100000

/-- What came in is no longer than can be. -/
def NBw (d : Nd) : Prop := d.im.length ≤ 9223372036854775807 ∧ (d.g.length ≤ 9223372036854775807 ∧ d.n ≤ 9223372036854775807 ∧ ∀ i, i < d.n → (d.L i).length ≤ 9223372036854775807) ∧ (d.A.length ≤ 9223372036854775807 ∧ d.C.length ≤ 9223372036854775807) ∧ d.co.length ≤ 9223372036854775807 ∧ (d.m ≤ 9223372036854775807 ∧ ∀ i, i < d.m → (d.S i).length ≤ 9223372036854775807) ∧ d.cp.length ≤ 9223372036854775807 ∧ d.wt.length ≤ 9223372036854775807

set_option maxHeartbeats 4000000 in
theorem szn_any (a : Na) (d : Nd) (x : Int) (w : World) (hw : NBw d) (h0 : 0 ≤ x) (h1 : x ≤ 1048576) (hv : NV w a d) :
    Calls Tryz.prog 20 #[nv a d, .int .i64 x] w fun e w' => Sz (ntot d) x e ∧ Below w.heap.size w w' := by
  obtain ⟨W, hW⟩ : ∃ W, W = w.alloc (.cells (nds a d) 39) := ⟨_, rfl⟩
  have H0 : Hid (Below w.heap.size w W ∧ NB W w.heap.size 39 a d) := by rw [hW]; exact ⟨bal1 _ _, NB.new _ _ _ _⟩
  have HV : Hid (∀ V, Below w.heap.size w V → NV V a d) := fun V hb => hv.below hb
  have HL := hide hw
  obtain ⟨p0, p1, p2, p3, p4, p5, p6, p7, p8, p9, p10, p11, p12, p13, p14, p15⟩ := H0.out.2.cells
  clear hv hw
  unfold nv
  unfold nds at hW ⊢
  go_enter Tryz.func20, Tryz.ntmps20
  go_wp2_with fail
  rw [← hW]
  clear hW
  refine (szis_any a.im d.im.length a.imc (x) W HL.out.1 (by omega) (by omega)).mono ?_
  rintro e w' ⟨h, hw⟩
  rw [hw]
  clear hw
  rcases h with ⟨hle0, rfl⟩ | rfl
  case inr =>
    go_wp2
    go_ret
    exact ⟨Sz.no, H0.out.1⟩
  obtain ⟨y0, hy0⟩ : ∃ y0, y0 = x - (d.im.length : Int) := ⟨_, rfl⟩
  rw [← hy0]
  have hd0 : ¬ y0 < 0 := by omega
  have HY0 := hide hy0
  have hz0 : 0 ≤ y0 ∧ y0 ≤ 1048576 := by omega
  obtain ⟨hza0, hzb0⟩ := hz0
  clear hy0 hle0
  go_wp2_with fail
  refine (szm_any a.go a.bo a.gc a.bc d.g d.n d.L d.fi d.ol d.he d.la (y0) W HL.out.2.1.1 HL.out.2.1.2.1 HL.out.2.1.2.2 (by omega) (by omega) (HV.out _ H0.out.1).2.1).mono ?_
  rintro e w1 ⟨h, b⟩
  have H2 : Hid (Below w.heap.size w w1 ∧ NB w1 w.heap.size 39 a d) := ⟨H0.out.1.trans (b.mono H0.out.1.size), H0.out.2.b b⟩
  obtain ⟨p0, p1, p2, p3, p4, p5, p6, p7, p8, p9, p10, p11, p12, p13, p14, p15⟩ := H2.out.2.cells
  clear b H0
  rcases h with ⟨hle1, rfl⟩ | rfl
  case inr =>
    go_wp2
    go_ret
    exact ⟨Sz.no, H2.out.1⟩
  obtain ⟨y1, hy1⟩ : ∃ y1, y1 = y0 - ((d.g.length : Int) + ((d.n : Int) + (psum d.L d.n : Int))) := ⟨_, rfl⟩
  rw [← hy1]
  have hd1 : ¬ y1 < 0 := by omega
  have HY1 := hide hy1
  have hz1 : 0 ≤ y1 ∧ y1 ≤ 1048576 := by omega
  obtain ⟨hza1, hzb1⟩ := hz1
  clear hy1 hle1
  go_wp2_with fail
  refine (szs_any a.aA a.aB d.A.length a.cA d.C.length a.cB (y1) w1 HL.out.2.2.1.1 HL.out.2.2.1.2 (by omega) (by omega)).mono ?_
  rintro e w2 ⟨h, b⟩
  have H3 : Hid (Below w.heap.size w w2 ∧ NB w2 w.heap.size 39 a d) := ⟨H2.out.1.trans (b.mono H2.out.1.size), H2.out.2.b b⟩
  obtain ⟨p0, p1, p2, p3, p4, p5, p6, p7, p8, p9, p10, p11, p12, p13, p14, p15⟩ := H3.out.2.cells
  clear b H2
  rcases h with ⟨hle2, rfl⟩ | rfl
  case inr =>
    go_wp2
    go_ret
    exact ⟨Sz.no, H3.out.1⟩
  obtain ⟨y2, hy2⟩ : ∃ y2, y2 = y1 - ((d.A.length : Int) + (d.C.length : Int)) := ⟨_, rfl⟩
  rw [← hy2]
  have hd2 : ¬ y2 < 0 := by omega
  have HY2 := hide hy2
  have hz2 : 0 ≤ y2 ∧ y2 ≤ 1048576 := by omega
  obtain ⟨hza2, hzb2⟩ := hz2
  clear hy2 hle2
  go_wp2_with fail
  refine (szbs_any a.co d.co.length a.coc (y2) w2 HL.out.2.2.2.1 (by omega) (by omega)).mono ?_
  rintro e w' ⟨h, hw⟩
  rw [hw]
  clear hw
  rcases h with ⟨hle3, rfl⟩ | rfl
  case inr =>
    go_wp2
    go_ret
    exact ⟨Sz.no, H3.out.1⟩
  obtain ⟨y3, hy3⟩ : ∃ y3, y3 = y2 - (d.co.length : Int) := ⟨_, rfl⟩
  rw [← hy3]
  have hd3 : ¬ y3 < 0 := by omega
  have HY3 := hide hy3
  have hz3 : 0 ≤ y3 ∧ y3 ≤ 1048576 := by omega
  obtain ⟨hza3, hzb3⟩ := hz3
  clear hy3 hle3
  go_wp2_with fail
  refine (szss_any a.so d.m a.sc d.S (y3) w2 HL.out.2.2.2.2.1.1 HL.out.2.2.2.2.1.2 (by omega) (by omega) (HV.out _ H3.out.1).2.2.2.2.1.1).mono ?_
  rintro e w' ⟨h, hw⟩
  rw [hw]
  clear hw
  rcases h with ⟨hle4, rfl⟩ | rfl
  case inr =>
    go_wp2
    go_ret
    exact ⟨Sz.no, H3.out.1⟩
  obtain ⟨y4, hy4⟩ : ∃ y4, y4 = y3 - ((d.m : Int) + (psum d.S d.m : Int)) := ⟨_, rfl⟩
  rw [← hy4]
  have hd4 : ¬ y4 < 0 := by omega
  have HY4 := hide hy4
  have hz4 : 0 ≤ y4 ∧ y4 ≤ 1048576 := by omega
  obtain ⟨hza4, hzb4⟩ := hz4
  clear hy4 hle4
  go_wp2_with fail
  refine (szbs_any a.cp d.cp.length a.cpc (y4) w2 HL.out.2.2.2.2.2.1 (by omega) (by omega)).mono ?_
  rintro e w' ⟨h, hw⟩
  rw [hw]
  clear hw
  rcases h with ⟨hle5, rfl⟩ | rfl
  case inr =>
    go_wp2
    go_ret
    exact ⟨Sz.no, H3.out.1⟩
  obtain ⟨y5, hy5⟩ : ∃ y5, y5 = y4 - (d.cp.length : Int) := ⟨_, rfl⟩
  rw [← hy5]
  have hd5 : ¬ y5 < 0 := by omega
  have HY5 := hide hy5
  have hz5 : 0 ≤ y5 ∧ y5 ≤ 1048576 := by omega
  obtain ⟨hza5, hzb5⟩ := hz5
  clear hy5 hle5
  go_wp2_with fail
  refine (szis_any a.wt d.wt.length a.wtc (y5) w2 HL.out.2.2.2.2.2.2 (by omega) (by omega)).mono ?_
  rintro e w' ⟨h, hw⟩
  rw [hw]
  clear hw
  rcases h with ⟨hle6, rfl⟩ | rfl
  case inr =>
    go_wp2
    go_ret
    exact ⟨Sz.no, H3.out.1⟩
  obtain ⟨y6, hy6⟩ : ∃ y6, y6 = y5 - (d.wt.length : Int) := ⟨_, rfl⟩
  rw [← hy6]
  have hd6 : ¬ y6 < 0 := by omega
  have HY6 := hide hy6
  have hz6 : 0 ≤ y6 ∧ y6 ≤ 1048576 := by omega
  obtain ⟨hza6, hzb6⟩ := hz6
  clear hy6 hle6
  go_wp2
  go_ret
  refine ⟨Sz.yes ?_ ?_, H3.out.1⟩
  · unfold ntot
    have a0 := HY0.out
    have a1 := HY1.out
    have a2 := HY2.out
    have a3 := HY3.out
    have a4 := HY4.out
    have a5 := HY5.out
    have a6 := HY6.out
    omega
  · unfold ntot
    have a0 := HY0.out
    have a1 := HY1.out
    have a2 := HY2.out
    have a3 := HY3.out
    have a4 := HY4.out
    have a5 := HY5.out
    have a6 := HY6.out
    omega

set_option maxHeartbeats 4000000 in
theorem eqn_yes (a b : Na) (d : Nd) (w : World) (hd : NBd d) (hA : NV w a d) (hB : NV w b d) :
    Calls Tryz.prog 17 #[nv a d, nv b d] w fun e w' => e = .returned (.bool true) ∧ Below w.heap.size w w' := by
  obtain ⟨W, hW⟩ : ∃ W, W = (w.alloc (.cells (nds a d) 31)).alloc (.cells (nds b d) 31) := ⟨_, rfl⟩
  have H0 : Hid (Below w.heap.size w W ∧ NB W w.heap.size 31 a d ∧ NB W (w.heap.size + 1) 31 b d) := by
    rw [hW]
    have h2 := NB.new (w.alloc (.cells (nds a d) 31)) 31 b d
    rw [alsz] at h2
    exact ⟨(bal1 _ _).alloc (by simp) _, (NB.new w _ _ _).b (bal1 _ _), h2⟩
  have HV : Hid (∀ V, Below w.heap.size w V → NV V a d ∧ NV V b d) := fun V hb => ⟨hA.below hb, hB.below hb⟩
  have HD := hide hd
  obtain ⟨p0, p1, p2, p3, p4, p5, p6, p7, p8, p9, p10, p11, p12, p13, p14, p15⟩ := H0.out.2.1.cells
  obtain ⟨q0, q1, q2, q3, q4, q5, q6, q7, q8, q9, q10, q11, q12, q13, q14, q15⟩ := H0.out.2.2.cells
  clear hA hB hd
  unfold nv
  unfold nds at hW ⊢
  go_enter Tryz.func17, Tryz.ntmps17
  go_wp2_with fail
  rw [← hW]
  clear hW
  refine (ieq_yes a.im b.im d.im.length a.imc b.imc (fun i => d.im.getD i 0) (fun i => d.im.getD i 0) W HD.out.1 (HV.out _ H0.out.1).1.1.1 (HV.out _ H0.out.1).2.1.1 (fun _ _ => rfl)).mono ?_
  rintro e w0 ⟨rfl, q, hq⟩
  have b0 : Below W.heap.size W w0 := by rw [hq]; exact Below.drawn (Below.refl _ _) q
  clear hq q
  have H1 : Hid (Below w.heap.size w w0 ∧ NB w0 w.heap.size 31 a d ∧ NB w0 (w.heap.size + 1) 31 b d) := ⟨H0.out.1.trans (b0.mono H0.out.1.size), H0.out.2.1.b b0, H0.out.2.2.b b0⟩
  clear b0 H0 p0 p1 p2 p3 p4 p5 p6 p7 p8 p9 p10 p11 p12 p13 p14 p15 q0 q1 q2 q3 q4 q5 q6 q7 q8 q9 q10 q11 q12 q13 q14 q15
  obtain ⟨p0, p1, p2, p3, p4, p5, p6, p7, p8, p9, p10, p11, p12, p13, p14, p15⟩ := H1.out.2.1.cells
  obtain ⟨q0, q1, q2, q3, q4, q5, q6, q7, q8, q9, q10, q11, q12, q13, q14, q15⟩ := H1.out.2.2.cells
  go_wp2_with fail
  refine (eqm_yes a.go a.bo b.go b.bo a.gc a.bc b.gc b.bc d.g d.n d.L d.fi d.ol d.he d.la w0 HD.out.2.1 (HV.out _ H1.out.1).1.2.1 (HV.out _ H1.out.1).2.2.1).mono ?_
  rintro e w1 ⟨rfl, b1⟩
  have H2 : Hid (Below w.heap.size w w1 ∧ NB w1 w.heap.size 31 a d ∧ NB w1 (w.heap.size + 1) 31 b d) := ⟨H1.out.1.trans (b1.mono H1.out.1.size), H1.out.2.1.b b1, H1.out.2.2.b b1⟩
  clear b1 H1 p0 p1 p2 p3 p4 p5 p6 p7 p8 p9 p10 p11 p12 p13 p14 p15 q0 q1 q2 q3 q4 q5 q6 q7 q8 q9 q10 q11 q12 q13 q14 q15
  obtain ⟨p0, p1, p2, p3, p4, p5, p6, p7, p8, p9, p10, p11, p12, p13, p14, p15⟩ := H2.out.2.1.cells
  obtain ⟨q0, q1, q2, q3, q4, q5, q6, q7, q8, q9, q10, q11, q12, q13, q14, q15⟩ := H2.out.2.2.cells
  go_wp2_with fail
  refine (eqs_yes a.aA a.aB b.aA b.aB a.cA a.cB b.cA b.cB d.A d.C w1 ((HV.out _ H2.out.1).1.vA HD.out) ((HV.out _ H2.out.1).1.vC HD.out) ((HV.out _ H2.out.1).2.vA HD.out) ((HV.out _ H2.out.1).2.vC HD.out)).mono ?_
  rintro e w2 ⟨rfl, b2⟩
  have H3 : Hid (Below w.heap.size w w2 ∧ NB w2 w.heap.size 31 a d ∧ NB w2 (w.heap.size + 1) 31 b d) := ⟨H2.out.1.trans (b2.mono H2.out.1.size), H2.out.2.1.b b2, H2.out.2.2.b b2⟩
  clear b2 H2 p0 p1 p2 p3 p4 p5 p6 p7 p8 p9 p10 p11 p12 p13 p14 p15 q0 q1 q2 q3 q4 q5 q6 q7 q8 q9 q10 q11 q12 q13 q14 q15
  obtain ⟨p0, p1, p2, p3, p4, p5, p6, p7, p8, p9, p10, p11, p12, p13, p14, p15⟩ := H3.out.2.1.cells
  obtain ⟨q0, q1, q2, q3, q4, q5, q6, q7, q8, q9, q10, q11, q12, q13, q14, q15⟩ := H3.out.2.2.cells
  go_wp2_with fail
  refine (eqbs_yes a.co b.co d.co.length a.coc b.coc (fun i => d.co.getD i false) (fun i => d.co.getD i false) w2 HD.out.2.2.2.1 (HV.out _ H3.out.1).1.2.2.2.1.1 (HV.out _ H3.out.1).2.2.2.2.1.1 (fun _ _ => rfl)).mono ?_
  rintro e w3 ⟨rfl, q, hq⟩
  have b3 : Below w2.heap.size w2 w3 := by rw [hq]; exact Below.drawn (Below.refl _ _) q
  clear hq q
  have H4 : Hid (Below w.heap.size w w3 ∧ NB w3 w.heap.size 31 a d ∧ NB w3 (w.heap.size + 1) 31 b d) := ⟨H3.out.1.trans (b3.mono H3.out.1.size), H3.out.2.1.b b3, H3.out.2.2.b b3⟩
  clear b3 H3 p0 p1 p2 p3 p4 p5 p6 p7 p8 p9 p10 p11 p12 p13 p14 p15 q0 q1 q2 q3 q4 q5 q6 q7 q8 q9 q10 q11 q12 q13 q14 q15
  obtain ⟨p0, p1, p2, p3, p4, p5, p6, p7, p8, p9, p10, p11, p12, p13, p14, p15⟩ := H4.out.2.1.cells
  obtain ⟨q0, q1, q2, q3, q4, q5, q6, q7, q8, q9, q10, q11, q12, q13, q14, q15⟩ := H4.out.2.2.cells
  go_wp2_with fail
  refine (eqss_yes a.so b.so d.m a.sc b.sc d.S w3 HD.out.2.2.2.2.1.1 HD.out.2.2.2.2.1.2 (HV.out _ H4.out.1).1.2.2.2.2.1.1 (HV.out _ H4.out.1).2.2.2.2.2.1.1).mono ?_
  rintro e w4 ⟨rfl, q, hq⟩
  have b4 : Below w3.heap.size w3 w4 := by rw [hq]; exact Below.drawn (Below.refl _ _) q
  clear hq q
  have H5 : Hid (Below w.heap.size w w4 ∧ NB w4 w.heap.size 31 a d ∧ NB w4 (w.heap.size + 1) 31 b d) := ⟨H4.out.1.trans (b4.mono H4.out.1.size), H4.out.2.1.b b4, H4.out.2.2.b b4⟩
  clear b4 H4 p0 p1 p2 p3 p4 p5 p6 p7 p8 p9 p10 p11 p12 p13 p14 p15 q0 q1 q2 q3 q4 q5 q6 q7 q8 q9 q10 q11 q12 q13 q14 q15
  obtain ⟨p0, p1, p2, p3, p4, p5, p6, p7, p8, p9, p10, p11, p12, p13, p14, p15⟩ := H5.out.2.1.cells
  obtain ⟨q0, q1, q2, q3, q4, q5, q6, q7, q8, q9, q10, q11, q12, q13, q14, q15⟩ := H5.out.2.2.cells
  go_wp2_with fail
  refine (eqbs_yes a.cp b.cp d.cp.length a.cpc b.cpc (fun i => d.cp.getD i false) (fun i => d.cp.getD i false) w4 HD.out.2.2.2.2.2.1 (HV.out _ H5.out.1).1.2.2.2.2.2.1.1 (HV.out _ H5.out.1).2.2.2.2.2.2.1.1 (fun _ _ => rfl)).mono ?_
  rintro e w5 ⟨rfl, q, hq⟩
  have b5 : Below w4.heap.size w4 w5 := by rw [hq]; exact Below.drawn (Below.refl _ _) q
  clear hq q
  have H6 : Hid (Below w.heap.size w w5 ∧ NB w5 w.heap.size 31 a d ∧ NB w5 (w.heap.size + 1) 31 b d) := ⟨H5.out.1.trans (b5.mono H5.out.1.size), H5.out.2.1.b b5, H5.out.2.2.b b5⟩
  clear b5 H5 p0 p1 p2 p3 p4 p5 p6 p7 p8 p9 p10 p11 p12 p13 p14 p15 q0 q1 q2 q3 q4 q5 q6 q7 q8 q9 q10 q11 q12 q13 q14 q15
  obtain ⟨p0, p1, p2, p3, p4, p5, p6, p7, p8, p9, p10, p11, p12, p13, p14, p15⟩ := H6.out.2.1.cells
  obtain ⟨q0, q1, q2, q3, q4, q5, q6, q7, q8, q9, q10, q11, q12, q13, q14, q15⟩ := H6.out.2.2.cells
  go_wp2_with fail
  refine (ieq_yes a.wt b.wt d.wt.length a.wtc b.wtc (fun i => d.wt.getD i 0) (fun i => d.wt.getD i 0) w5 HD.out.2.2.2.2.2.2 (HV.out _ H6.out.1).1.2.2.2.2.2.2.1 (HV.out _ H6.out.1).2.2.2.2.2.2.2.1 (fun _ _ => rfl)).mono ?_
  rintro e w6 ⟨rfl, q, hq⟩
  have b6 : Below w5.heap.size w5 w6 := by rw [hq]; exact Below.drawn (Below.refl _ _) q
  clear hq q
  have H7 : Hid (Below w.heap.size w w6 ∧ NB w6 w.heap.size 31 a d ∧ NB w6 (w.heap.size + 1) 31 b d) := ⟨H6.out.1.trans (b6.mono H6.out.1.size), H6.out.2.1.b b6, H6.out.2.2.b b6⟩
  clear b6 H6 p0 p1 p2 p3 p4 p5 p6 p7 p8 p9 p10 p11 p12 p13 p14 p15 q0 q1 q2 q3 q4 q5 q6 q7 q8 q9 q10 q11 q12 q13 q14 q15
  obtain ⟨p0, p1, p2, p3, p4, p5, p6, p7, p8, p9, p10, p11, p12, p13, p14, p15⟩ := H7.out.2.1.cells
  obtain ⟨q0, q1, q2, q3, q4, q5, q6, q7, q8, q9, q10, q11, q12, q13, q14, q15⟩ := H7.out.2.2.cells
  go_wp2
  go_ret
  exact ⟨rfl, H7.out.1⟩
end Go.Proofs.YtkndnndildnbpaaGreatDoor

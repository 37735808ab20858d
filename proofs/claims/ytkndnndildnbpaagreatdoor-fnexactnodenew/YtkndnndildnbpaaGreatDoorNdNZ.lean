/- NodeOk of the program, whole. -/
import Derived.Test.YtkndnndildnbpaaGreatDoorGc

namespace Go.Proofs.YtkndnndildnbpaaGreatDoor
open Go.ChangeShapes Go.WideShapes Go.ChangeAt Go.RowKit
set_option linter.unusedVariables false
set_option linter.unusedSimpArgs false
set_option maxRecDepth 100000

set_option maxHeartbeats 8000000 in
theorem node_impl (a : Na) (d : Nd) (w : World) (hg : ErrT w) (hd : NBd d) (hv : NV w a d) :
    Calls Tryz.prog 87 #[nv a d] w fun e w' => Tells w w' e (NOk d) := by
  obtain ⟨W, hW⟩ : ∃ W, W = w.alloc (.cells (nds a d) 31) := ⟨_, rfl⟩
  have H0 : Hid (Below w.heap.size w W ∧ NB W w.heap.size 31 a d) := by rw [hW]; exact ⟨bal1 _ _, NB.new _ _ _ _⟩
  have HV : Hid (∀ V, Below w.heap.size w V → NV V a d ∧ ErrT V) := fun V hb => ⟨hv.below hb, hg.below hb⟩
  have HD := hide hd
  have HP : Hid (NOk d ↔ (0 ≤ d.id ∧ d.id ≤ 2) ∧ IOk (fun i => d.im.getD i 0) d.im.length ∧ KpM d.A d.C d.g d.n d.L d.fi d.ol d.he d.la ∧ LnOk d.id d.up d.co d.cp d.m d.S ∧ ((0 < d.wt.length → d.up = true) ∧ WIn (fun i => d.wt.getD i 0) d.wt.length) ∧ PrOk d.id d.up d.pr) := (show _ ↔ _ from ⟨fun h => ⟨h.1, h.2.1, h.2.2.2.2.2.2.2, h.2.2.2.1, ⟨h.2.2.2.2.2.1, h.2.2.2.2.2.2.1⟩, h.2.2.2.2.1⟩, fun h => ⟨h.1, h.2.1, h.2.2.1.ok, h.2.2.2.1, h.2.2.2.2.2, h.2.2.2.2.1.1, h.2.2.2.2.1.2, h.2.2.1⟩⟩)
  obtain ⟨p0, p1, p2, p3, p4, p5, p6, p7, p8, p9, p10, p11, p12, p13, p14, p15⟩ := H0.out.2.cells
  clear hv hd hg
  generalize NOk d = P at *
  have hnn := hide (nonode_any d.id W)
  unfold nv
  unfold nds at hW ⊢
  by_cases hid : 0 ≤ d.id ∧ d.id ≤ 2
  case neg =>
    have hno : decide (d.id < 0 ∨ 3 ≤ d.id) = true := by simp; omega
    have HN : Hid (¬ P) := fun h => hid (HP.out.1 h).1
    clear hid
    rw [hno] at hnn
    clear hno
    go_enter Tryz.func87, Tryz.ntmps87
    go_wp2_with fail
    rw [← hW]
    clear hW
    refine hnn.out.mono ?_
    rintro e w1 ⟨rfl, hw⟩
    rw [hw]
    clear hw w1 hnn
    go_wp2
    go_ret
    exact ⟨.inr ⟨HN.out, rfl⟩, H0.out.1⟩
  have hyes : decide (d.id < 0 ∨ 3 ≤ d.id) = false := by simp; omega
  rw [hyes] at hnn
  clear hyes
  have HId := hide hid
  clear hid
  go_enter Tryz.func87, Tryz.ntmps87
  go_wp2_with fail
  rw [← hW]
  clear hW
  refine hnn.out.mono ?_
  rintro e w1 ⟨rfl, hw⟩
  rw [hw]
  clear hw w1 hnn
  go_wp2_with fail
  refine (imageok_impl a.im d.im.length a.imc (fun i => d.im.getD i 0) W HD.out.1 (HV.out _ H0.out.1).1.1.1).mono ?_
  rintro e w1 ⟨⟨b, rfl, hb⟩, hw⟩
  rw [hw]
  clear hw w1
  have HB1 : Hid (b = true ↔ IOk (fun i => d.im.getD i 0) d.im.length) := (show _ ↔ _ from hb)
  clear hb
  cases b with
  | false =>
    have HN : Hid (¬ P) := fun h => absurd (HB1.out.2 (HP.out.1 h).2.1) (by simp)
    clear HB1
    go_wp2
    go_ret
    exact ⟨.inr ⟨HN.out, rfl⟩, H0.out.1⟩
  | true =>
  have HI : Hid (IOk (fun i => d.im.getD i 0) d.im.length) := HB1.out.1 rfl
  clear HB1
  go_wp2_with fail
  refine (kept_impl a d W (HV.out _ H0.out.1).2 HD.out (HV.out _ H0.out.1).1).mono ?_
  rintro e w1 ⟨h, b1⟩
  have H1 : Hid (Below w.heap.size w w1 ∧ NB w1 w.heap.size 31 a d) := ⟨H0.out.1.trans (b1.mono H0.out.1.size), H0.out.2.b b1⟩
  clear b1 H0 p0 p1 p2 p3 p4 p5 p6 p7 p8 p9 p10 p11 p12 p13 p14 p15
  obtain ⟨p0, p1, p2, p3, p4, p5, p6, p7, p8, p9, p10, p11, p12, p13, p14, p15⟩ := H1.out.2.cells
  rcases h with ⟨hm, rfl⟩ | ⟨hm, rfl⟩
  case inr =>
    have HN : Hid (¬ P) := fun h => hm (HP.out.1 h).2.2.1
    clear hm
    go_wp2
    go_ret
    exact ⟨.inr ⟨HN.out, rfl⟩, H1.out.1⟩
  have HK := hide hm
  clear hm
  go_wp2_with fail
  refine (lines_impl a d w1 HD.out (HV.out _ H1.out.1).1).mono ?_
  rintro e w2 ⟨h, b1⟩
  have H2 : Hid (Below w.heap.size w w2 ∧ NB w2 w.heap.size 31 a d) := ⟨H1.out.1.trans (b1.mono H1.out.1.size), H1.out.2.b b1⟩
  clear b1 H1 p0 p1 p2 p3 p4 p5 p6 p7 p8 p9 p10 p11 p12 p13 p14 p15
  obtain ⟨p0, p1, p2, p3, p4, p5, p6, p7, p8, p9, p10, p11, p12, p13, p14, p15⟩ := H2.out.2.cells
  rcases h with ⟨hm, rfl⟩ | ⟨hm, rfl⟩
  case inr =>
    have HN : Hid (¬ P) := fun h => hm (HP.out.1 h).2.2.2.1
    clear hm
    go_wp2
    go_ret
    exact ⟨.inr ⟨HN.out, rfl⟩, H2.out.1⟩
  have HL := hide hm
  clear hm
  go_wp2_with fail
  refine (wait_impl a d w2 HD.out (HV.out _ H2.out.1).1).mono ?_
  rintro e w3 ⟨h, b1⟩
  have H3 : Hid (Below w.heap.size w w3 ∧ NB w3 w.heap.size 31 a d) := ⟨H2.out.1.trans (b1.mono H2.out.1.size), H2.out.2.b b1⟩
  clear b1 H2 p0 p1 p2 p3 p4 p5 p6 p7 p8 p9 p10 p11 p12 p13 p14 p15
  obtain ⟨p0, p1, p2, p3, p4, p5, p6, p7, p8, p9, p10, p11, p12, p13, p14, p15⟩ := H3.out.2.cells
  rcases h with ⟨hm, rfl⟩ | ⟨hm, rfl⟩
  case inr =>
    have HN : Hid (¬ P) := fun h => hm (HP.out.1 h).2.2.2.2.1
    clear hm
    go_wp2
    go_ret
    exact ⟨.inr ⟨HN.out, rfl⟩, H3.out.1⟩
  have HWt := hide hm
  clear hm
  go_wp2_with fail
  refine (prime_impl a d w3 HId.out).mono ?_
  rintro e w4 ⟨h, b1⟩
  have H4 := hide (H3.out.1.trans (b1.mono H3.out.1.size))
  clear b1 H3 p0 p1 p2 p3 p4 p5 p6 p7 p8 p9 p10 p11 p12 p13 p14 p15
  rcases h with ⟨hm, rfl⟩ | ⟨hm, rfl⟩
  · have HY : Hid P := HP.out.2 ⟨HId.out, HI.out, HK.out, HL.out, HWt.out, hm⟩
    clear hm
    go_wp2
    go_ret
    exact ⟨.inl ⟨HY.out, rfl⟩, H4.out⟩
  · have HN : Hid (¬ P) := fun h => hm (HP.out.1 h).2.2.2.2.2
    clear hm
    go_wp2
    go_ret
    exact ⟨.inr ⟨HN.out, rfl⟩, H4.out⟩
end Go.Proofs.YtkndnndildnbpaaGreatDoor

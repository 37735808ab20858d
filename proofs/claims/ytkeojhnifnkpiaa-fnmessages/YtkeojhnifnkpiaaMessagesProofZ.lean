/- A message is read back as it was. -/
import Derived.Test.YtkeojhnifnkpiaaRows
import Derived.WalkKit
import Derived.ProofKit
import Derived.OpenShut
import Derived.ShutString
import Derived.Test.YtkeojhnifnkpiaaMz3Z
import Derived.ChangeOld
import Derived.Below

namespace Go.Proofs.Ytkeojhnifnkpiaa.fnMessages
open Go.ChangeShapes Go.WideShapes Go.ChangeAt Go.RowKit
open Go.ChangeMaps (open_string shut_string)
set_option linter.unusedVariables false

theorem own : ownKnob Try.prog.godebug = none := by kernel_rfl
theorem laidOut : laidOutB Try.prog = true := by kernel_rfl

/-- WHAT THE WALK IS TOLD OF A SLICE OF INTEGERS THAT CAME IN: it is nil; or it leads to a row of 'cap' cells, the numbers 'zs' (the first 'len' are its elements, the rest its spare room), each fitting its kind. -/
def IsRow (k : IntKind) (w : World) (a : Option Addr) (len cap : Nat) (zs : List Int) : Prop :=
  (a = none ∧ len = 0 ∧ cap = 0 ∧ zs = []) ∨
  ∃ x, a = some x ∧ len ≤ cap ∧ cap ≤ maxLen ∧ zs.length = cap ∧ (∀ i, i < zs.length → w.cell? (x.add i) = some (.int k (zs.getD i 0))) ∧ ∀ n ∈ zs, (Lit.int k n).wf = true

set_option maxHeartbeats 4000000 in
set_option maxRecDepth 100000 in
theorem walk (a0 : Option Addr) (len0 cap0 : Nat) (z0 : List Int) (w : World) (w0 : IsRow .u8 w a0 len0 cap0 z0) :
    Calls Try.prog 4 #[.slice a0 len0 cap0] w fun e w' => e = .returned (.bool true) ∧ Below w.heap.size w w' := by
  obtain ⟨f, hs, hf0⟩ := view w0
  have hf := view_u8 hf0
  clear w0 hf0
  by_cases hn : len0 ≤ 1048576
  · have HF := hide hf
    have HS := hide hs
    clear hs hf
    go_enter Try.func4, Try.ntmps4
    go_wp2_with fail
    refine (big_no a0 len0 cap0 _ hn).mono ?_
    rintro e w9 ⟨rfl, hw9⟩
    rw [hw9]
    clear hw9
    go_wp2_with fail
    refine (draw_mby a0 len0 cap0 f _ hn HS.out HF.out).mono ?_
    rintro e w1 ⟨⟨m, mo, mc, rfl, hml, hmo⟩, b1⟩
    obtain ⟨_, _, e1, ⟨_, hmc, _⟩, hmo'⟩ := Own.of_owns hmo
    cases e1
    have H1 : Hid (ZB w (w1.alloc (.cells #[.int .i64 m.k, .int .i64 m.c, .int .i64 m.v, .int .i64 m.h, .slice mo m.g.length mc] 40)) ∧ VM (w1.alloc (.cells #[.int .i64 m.k, .int .i64 m.c, .int .i64 m.v, .int .i64 m.h, .slice mo m.g.length mc] 40)) w1.heap.size m mo mc) := ⟨(b1.trans ((zal1 w1 (.cells #[.int .i64 m.k, .int .i64 m.c, .int .i64 m.v, .int .i64 m.h, .slice mo m.g.length mc] 40)).mono b1.size)), ⟨MB.new w1 _ _ _ _ _ _ _ _, hmc, hmo'.sl.below (zal1 _ _)⟩⟩
    clear b1 hmo hmo' hmc
    go_wp2_with fail
    generalize w1.alloc (.cells #[.int .i64 m.k, .int .i64 m.c, .int .i64 m.v, .int .i64 m.h, .slice mo m.g.length mc] 40) = W1 at *
    generalize w1.heap.size = X1 at *
    refine (mby_impl (m := m) mo mc W1 (by omega) H1.out.2.2.1 H1.out.2.2.2).mono ?_
    rintro e w2 ⟨v2, rfl, ho2, b2⟩
    obtain ⟨bo, bc, rfl, hbc, hvb⟩ := vb_of (W := W1) ho2
    have H2 : Hid (ZB w w2 ∧ VM w2 X1 m mo mc ∧ VB w2 bo (mby m)) := ⟨H1.out.1.st b2, H1.out.2.st b2, hvb⟩
    have hmbl := mby_len m
    clear ho2 b2 hvb H1
    go_wp2_with fail
    refine (draw_mof a0 len0 cap0 f _ hn (HS.out.below H2.out.1) HF.out).mono ?_
    rintro e w3 ⟨v3, X, K, rfl, hXl, hXb, ho3, hK0, hK1, b3⟩
    obtain ⟨xo, xc, rfl, hxc, hvx⟩ := vb_of (W := w2) ho3
    have H3 : Hid (ZB w w3 ∧ VM w3 X1 m mo mc ∧ VB w3 bo (mby m) ∧ VB w3 xo X) := ⟨H2.out.1.st b3, H2.out.2.1.st b3, H2.out.2.2.st b3, hvx⟩
    have HXB := hide hXb
    clear ho3 b3 hvx H2 hXb
    obtain ⟨r, nx, ok, hrl, hokB0, hokC0, hnx1, hnx2, hms0, hmi0⟩ := mof_both X K (by omega) (by omega) (by omega) HXB.out
    have hms := hide hms0
    have hmi := hide hmi0
    have HOB := hide hokB0
    clear hms0 hmi0 hokB0 hokC0 hnx1 hnx2
    go_wp2_with fail
    refine (hmi.out w3 xo xc hxc H3.out.2.2.2).mono ?_
    rintro e w4 ⟨ro, rc, rfl, hrc, hrs, b4⟩
    have H4 : Hid (ZB w (w4.alloc (.cells #[.int .i64 r.k, .int .i64 r.c, .int .i64 r.v, .int .i64 r.h, .slice ro r.g.length rc] 40)) ∧ VM (w4.alloc (.cells #[.int .i64 r.k, .int .i64 r.c, .int .i64 r.v, .int .i64 r.h, .slice ro r.g.length rc] 40)) X1 m mo mc ∧ VB (w4.alloc (.cells #[.int .i64 r.k, .int .i64 r.c, .int .i64 r.v, .int .i64 r.h, .slice ro r.g.length rc] 40)) bo (mby m) ∧ VB (w4.alloc (.cells #[.int .i64 r.k, .int .i64 r.c, .int .i64 r.v, .int .i64 r.h, .slice ro r.g.length rc] 40)) xo X ∧ VM (w4.alloc (.cells #[.int .i64 r.k, .int .i64 r.c, .int .i64 r.v, .int .i64 r.h, .slice ro r.g.length rc] 40)) w4.heap.size r ro rc) := ⟨H3.out.1.st (b4.trans ((zal1 w4 (.cells #[.int .i64 r.k, .int .i64 r.c, .int .i64 r.v, .int .i64 r.h, .slice ro r.g.length rc] 40)).mono b4.size)), H3.out.2.1.st (b4.trans ((zal1 w4 (.cells #[.int .i64 r.k, .int .i64 r.c, .int .i64 r.v, .int .i64 r.h, .slice ro r.g.length rc] 40)).mono b4.size)), H3.out.2.2.1.st (b4.trans ((zal1 w4 (.cells #[.int .i64 r.k, .int .i64 r.c, .int .i64 r.v, .int .i64 r.h, .slice ro r.g.length rc] 40)).mono b4.size)), H3.out.2.2.2.st (b4.trans ((zal1 w4 (.cells #[.int .i64 r.k, .int .i64 r.c, .int .i64 r.v, .int .i64 r.h, .slice ro r.g.length rc] 40)).mono b4.size)), ⟨MB.new w4 _ _ _ _ _ _ _ _, hrc, hrs.below (zal1 _ _)⟩⟩
    clear b4 hrs hrc H3
    go_wp2_with fail
    generalize w4.alloc (.cells #[.int .i64 r.k, .int .i64 r.c, .int .i64 r.v, .int .i64 r.h, .slice ro r.g.length rc] 40) = W4 at *
    generalize w4.heap.size = X4 at *
    refine (hms.out W4 xo xc hxc H4.out.2.2.2.1).mono ?_
    rintro e w5 ⟨ro5, rc5, rfl, hrc5, hrs5, b5⟩
    have H5 : Hid (ZB w (w5.alloc (.cells #[.int .i64 r.k, .int .i64 r.c, .int .i64 r.v, .int .i64 r.h, .slice ro5 r.g.length rc5] 40)) ∧ VM (w5.alloc (.cells #[.int .i64 r.k, .int .i64 r.c, .int .i64 r.v, .int .i64 r.h, .slice ro5 r.g.length rc5] 40)) X1 m mo mc ∧ VB (w5.alloc (.cells #[.int .i64 r.k, .int .i64 r.c, .int .i64 r.v, .int .i64 r.h, .slice ro5 r.g.length rc5] 40)) bo (mby m) ∧ VB (w5.alloc (.cells #[.int .i64 r.k, .int .i64 r.c, .int .i64 r.v, .int .i64 r.h, .slice ro5 r.g.length rc5] 40)) xo X ∧ VM (w5.alloc (.cells #[.int .i64 r.k, .int .i64 r.c, .int .i64 r.v, .int .i64 r.h, .slice ro5 r.g.length rc5] 40)) X4 r ro rc) := ⟨H4.out.1.st (b5.trans ((zal1 w5 (.cells #[.int .i64 r.k, .int .i64 r.c, .int .i64 r.v, .int .i64 r.h, .slice ro5 r.g.length rc5] 40)).mono b5.size)), H4.out.2.1.st (b5.trans ((zal1 w5 (.cells #[.int .i64 r.k, .int .i64 r.c, .int .i64 r.v, .int .i64 r.h, .slice ro5 r.g.length rc5] 40)).mono b5.size)), H4.out.2.2.1.st (b5.trans ((zal1 w5 (.cells #[.int .i64 r.k, .int .i64 r.c, .int .i64 r.v, .int .i64 r.h, .slice ro5 r.g.length rc5] 40)).mono b5.size)), H4.out.2.2.2.1.st (b5.trans ((zal1 w5 (.cells #[.int .i64 r.k, .int .i64 r.c, .int .i64 r.v, .int .i64 r.h, .slice ro5 r.g.length rc5] 40)).mono b5.size)), H4.out.2.2.2.2.st (b5.trans ((zal1 w5 (.cells #[.int .i64 r.k, .int .i64 r.c, .int .i64 r.v, .int .i64 r.h, .slice ro5 r.g.length rc5] 40)).mono b5.size))⟩
    clear b5 hrs5 hrc5 H4
    go_wp2_with fail
    generalize w5.alloc (.cells #[.int .i64 r.k, .int .i64 r.c, .int .i64 r.v, .int .i64 r.h, .slice ro5 r.g.length rc5] 40) = W5 at *
    generalize w5.heap.size = X5 at *
    refine (draw_mok a0 len0 cap0 f _ hn (HS.out.below H5.out.1) HF.out).mono ?_
    rintro e w6 ⟨⟨q, qo, qc, rfl, hql, hqo⟩, b6⟩
    obtain ⟨_, _, e1, ⟨_, hqc, _⟩, hqo'⟩ := Own.of_owns hqo
    cases e1
    have H6 : Hid (ZB w (w6.alloc (.cells #[.int .i64 q.k, .int .i64 q.c, .int .i64 q.v, .int .i64 q.h, .slice qo q.g.length qc] 40)) ∧ VM (w6.alloc (.cells #[.int .i64 q.k, .int .i64 q.c, .int .i64 q.v, .int .i64 q.h, .slice qo q.g.length qc] 40)) X1 m mo mc ∧ VB (w6.alloc (.cells #[.int .i64 q.k, .int .i64 q.c, .int .i64 q.v, .int .i64 q.h, .slice qo q.g.length qc] 40)) bo (mby m) ∧ VB (w6.alloc (.cells #[.int .i64 q.k, .int .i64 q.c, .int .i64 q.v, .int .i64 q.h, .slice qo q.g.length qc] 40)) xo X ∧ VM (w6.alloc (.cells #[.int .i64 q.k, .int .i64 q.c, .int .i64 q.v, .int .i64 q.h, .slice qo q.g.length qc] 40)) X4 r ro rc ∧ VM (w6.alloc (.cells #[.int .i64 q.k, .int .i64 q.c, .int .i64 q.v, .int .i64 q.h, .slice qo q.g.length qc] 40)) w6.heap.size q qo qc) := ⟨H5.out.1.st (b6.trans ((zal1 w6 (.cells #[.int .i64 q.k, .int .i64 q.c, .int .i64 q.v, .int .i64 q.h, .slice qo q.g.length qc] 40)).mono b6.size)), H5.out.2.1.st (b6.trans ((zal1 w6 (.cells #[.int .i64 q.k, .int .i64 q.c, .int .i64 q.v, .int .i64 q.h, .slice qo q.g.length qc] 40)).mono b6.size)), H5.out.2.2.1.st (b6.trans ((zal1 w6 (.cells #[.int .i64 q.k, .int .i64 q.c, .int .i64 q.v, .int .i64 q.h, .slice qo q.g.length qc] 40)).mono b6.size)), H5.out.2.2.2.1.st (b6.trans ((zal1 w6 (.cells #[.int .i64 q.k, .int .i64 q.c, .int .i64 q.v, .int .i64 q.h, .slice qo q.g.length qc] 40)).mono b6.size)), H5.out.2.2.2.2.st (b6.trans ((zal1 w6 (.cells #[.int .i64 q.k, .int .i64 q.c, .int .i64 q.v, .int .i64 q.h, .slice qo q.g.length qc] 40)).mono b6.size)), ⟨MB.new w6 _ _ _ _ _ _ _ _, hqc, hqo'.sl.below (zal1 _ _)⟩⟩
    clear b6 hqo hqo' hqc H5
    go_wp2_with fail
    generalize w6.alloc (.cells #[.int .i64 q.k, .int .i64 q.c, .int .i64 q.v, .int .i64 q.h, .slice qo q.g.length qc] 40) = W6 at *
    generalize w6.heap.size = X6 at *
    refine (draw_pack a0 len0 cap0 f _ hn (HS.out.below H6.out.1) HF.out).mono ?_
    rintro e w7 ⟨v7, k, M, R7, rfl, hk7, hUL, hMl, b7⟩
    obtain ⟨lo, lc, rfl, hlc, _⟩ := hUL.form
    have hml7 := hUL.msl rfl
    have H7 : Hid (ZB w w7 ∧ VM w7 X1 m mo mc ∧ VB w7 bo (mby m) ∧ VB w7 xo X ∧ VM w7 X4 r ro rc ∧ VM w7 X6 q qo qc ∧ ML w7 lo k M) := ⟨H6.out.1.st b7, H6.out.2.1.st b7, H6.out.2.2.1.st b7, H6.out.2.2.2.1.st b7, H6.out.2.2.2.2.1.st b7, H6.out.2.2.2.2.2.st b7, hml7⟩
    have HML := hide hMl
    clear b7 hml7 H6 hUL hMl
    go_wp2_with fail
    refine (pack_impl lo k lc M w7 (by omega) (fun i hi => by have := HML.out i hi; omega) H7.out.2.2.2.2.2.2).mono ?_
    rintro e w8 ⟨v8, rfl, ho8, b8⟩
    obtain ⟨po, pc, rfl, hpc, hvp⟩ := vb_of (W := w7) ho8
    have H8 : Hid (ZB w w8 ∧ VM w8 X1 m mo mc ∧ VB w8 bo (mby m) ∧ VB w8 xo X ∧ VM w8 X4 r ro rc ∧ VM w8 X6 q qo qc ∧ ML w8 lo k M ∧ VB w8 po (pck M k)) := ⟨H7.out.1.st b8, H7.out.2.1.st b8, H7.out.2.2.1.st b8, H7.out.2.2.2.1.st b8, H7.out.2.2.2.2.1.st b8, H7.out.2.2.2.2.2.1.st b8, H7.out.2.2.2.2.2.2.st b8, hvp⟩
    clear ho8 b8 hvp H7
    go_wp2_with fail
    refine (draw_unp a0 len0 cap0 f _ hn (HS.out.below H8.out.1) HF.out).mono ?_
    rintro e w10 ⟨v10, Y, rfl, hYl, hYb, ho10, b10⟩
    obtain ⟨yo, yc, rfl, hyc, hvy⟩ := vb_of (W := w8) ho10
    have H10 : Hid (ZB w w10 ∧ VM w10 X1 m mo mc ∧ VB w10 bo (mby m) ∧ VB w10 xo X ∧ VM w10 X4 r ro rc ∧ VM w10 X6 q qo qc ∧ ML w10 lo k M ∧ VB w10 po (pck M k) ∧ VB w10 yo Y) := ⟨H8.out.1.st b10, H8.out.2.1.st b10, H8.out.2.2.1.st b10, H8.out.2.2.2.1.st b10, H8.out.2.2.2.2.1.st b10, H8.out.2.2.2.2.2.1.st b10, H8.out.2.2.2.2.2.2.1.st b10, H8.out.2.2.2.2.2.2.2.st b10, hvy⟩
    have HYB := hide hYb
    clear ho10 b10 hvy H8 hYb
    obtain ⟨U, ku, fine, hku, hUl0, hfB0, hfC0, hus0, hui0⟩ := unp_both Y (by omega) HYB.out
    have hus := hide hus0
    have hui := hide hui0
    have HFB := hide hfB0
    have HUl := hide hUl0
    clear hus0 hui0 hfB0 hfC0 hUl0
    go_wp2_with fail
    refine (hui.out w10 yo yc H10.out.2.2.2.2.2.2.2.2).mono ?_
    rintro e w11 ⟨uo, uc, rfl, hmu, b11⟩
    have H11 : Hid (ZB w w11 ∧ VM w11 X1 m mo mc ∧ VB w11 bo (mby m) ∧ VB w11 xo X ∧ VM w11 X4 r ro rc ∧ VM w11 X6 q qo qc ∧ ML w11 lo k M ∧ VB w11 po (pck M k) ∧ VB w11 yo Y ∧ ML w11 uo ku U) := ⟨H10.out.1.st b11, H10.out.2.1.st b11, H10.out.2.2.1.st b11, H10.out.2.2.2.1.st b11, H10.out.2.2.2.2.1.st b11, H10.out.2.2.2.2.2.1.st b11, H10.out.2.2.2.2.2.2.1.st b11, H10.out.2.2.2.2.2.2.2.1.st b11, H10.out.2.2.2.2.2.2.2.2.st b11, hmu⟩
    clear b11 hmu H10
    go_wp2_with fail
    refine (hus.out w11 yo yc H11.out.2.2.2.2.2.2.2.2.1).mono ?_
    rintro e w12 ⟨vo, vc, rfl, hmv, b12⟩
    have H12 : Hid (ZB w w12 ∧ VM w12 X1 m mo mc ∧ VB w12 bo (mby m) ∧ VB w12 xo X ∧ VM w12 X4 r ro rc ∧ VM w12 X6 q qo qc ∧ ML w12 lo k M ∧ VB w12 po (pck M k) ∧ VB w12 yo Y ∧ ML w12 uo ku U) := ⟨H11.out.1.st b12, H11.out.2.1.st b12, H11.out.2.2.1.st b12, H11.out.2.2.2.1.st b12, H11.out.2.2.2.2.1.st b12, H11.out.2.2.2.2.2.1.st b12, H11.out.2.2.2.2.2.2.1.st b12, H11.out.2.2.2.2.2.2.2.1.st b12, H11.out.2.2.2.2.2.2.2.2.1.st b12, H11.out.2.2.2.2.2.2.2.2.2.st b12⟩
    clear b12 hmv H11 hus hui hms
    go_wp2_with fail
    obtain ⟨tB, htB⟩ : ∃ tB, tB = bstr (mby m) := ⟨_, rfl⟩
    obtain ⟨tP, htP⟩ : ∃ tP, tP = bstr (pck M k) := ⟨_, rfl⟩
    have HS14 : Hid (∀ W, (ZB w W ∧ VM W X1 m mo mc ∧ VB W bo (mby m) ∧ VB W xo X ∧ VM W X4 r ro rc ∧ VM W X6 q qo qc ∧ ML W lo k M ∧ VB W po (pck M k) ∧ VB W yo Y ∧ ML W uo ku U) → (W.cell? ⟨X1, 0, none⟩ = some (.int .i64 m.k) ∧ W.cell? ⟨X1, 1, none⟩ = some (.int .i64 m.c) ∧ W.cell? ⟨X1, 2, none⟩ = some (.int .i64 m.v) ∧ W.cell? ⟨X1, 3, none⟩ = some (.int .i64 m.h) ∧ W.cell? ⟨X1, 4, none⟩ = some (.slice mo m.g.length mc)) ∧ (W.cell? ⟨X6, 0, none⟩ = some (.int .i64 q.k) ∧ W.cell? ⟨X6, 1, none⟩ = some (.int .i64 q.c) ∧ W.cell? ⟨X6, 2, none⟩ = some (.int .i64 q.v) ∧ W.cell? ⟨X6, 3, none⟩ = some (.int .i64 q.h) ∧ W.cell? ⟨X6, 4, none⟩ = some (.slice qo q.g.length qc)) ∧ (convert 22 9 (.slice bo (mby m).length bc)).run Try.prog W = .ok (.string tB) W ∧ (convert 22 9 (.slice po (pck M k).length pc)).run Try.prog W = .ok (.string tP) W) := fun W h => ⟨h.2.1.1.cells, h.2.2.2.2.2.1.1.cells, by rw [htB]; exact VB.conv h.2.2.1 (mby_byte m), by rw [htP]; exact VB.conv h.2.2.2.2.2.2.2.1 (pck_byte M k)⟩
    have H12d : Hid (ZB w w12.drew ∧ VM w12.drew X1 m mo mc ∧ VB w12.drew bo (mby m) ∧ VB w12.drew xo X ∧ VM w12.drew X4 r ro rc ∧ VM w12.drew X6 q qo qc ∧ ML w12.drew lo k M ∧ VB w12.drew po (pck M k) ∧ VB w12.drew yo Y ∧ ML w12.drew uo ku U) := ⟨H12.out.1.st (Below.drawn (Below.refl w12.heap.size w12) 1), H12.out.2.1.st (Below.drawn (Below.refl w12.heap.size w12) 1), H12.out.2.2.1.st (Below.drawn (Below.refl w12.heap.size w12) 1), H12.out.2.2.2.1.st (Below.drawn (Below.refl w12.heap.size w12) 1), H12.out.2.2.2.2.1.st (Below.drawn (Below.refl w12.heap.size w12) 1), H12.out.2.2.2.2.2.1.st (Below.drawn (Below.refl w12.heap.size w12) 1), H12.out.2.2.2.2.2.2.1.st (Below.drawn (Below.refl w12.heap.size w12) 1), H12.out.2.2.2.2.2.2.2.1.st (Below.drawn (Below.refl w12.heap.size w12) 1), H12.out.2.2.2.2.2.2.2.2.1.st (Below.drawn (Below.refl w12.heap.size w12) 1), H12.out.2.2.2.2.2.2.2.2.2.st (Below.drawn (Below.refl w12.heap.size w12) 1)⟩
    have HSB : Hid (∀ W, (ZB w W ∧ VM W X1 m mo mc ∧ VB W bo (mby m) ∧ VB W xo X ∧ VM W X4 r ro rc ∧ VM W X6 q qo qc ∧ ML W lo k M ∧ VB W po (pck M k) ∧ VB W yo Y ∧ ML W uo ku U) → Calls Try.prog 36 #[.agg #[.int .i64 m.k, .int .i64 m.c, .int .i64 m.v, .int .i64 m.h, .slice mo m.g.length mc]] W fun e w' => ∃ ao3 c3, e = .returned (.slice ao3 (mby m).length c3) ∧ (convert 22 9 (.slice ao3 (mby m).length c3)).run Try.prog w' = .ok (.string tB) w' ∧ (ZB w w' ∧ VM w' X1 m mo mc ∧ VB w' bo (mby m) ∧ VB w' xo X ∧ VM w' X4 r ro rc ∧ VM w' X6 q qo qc ∧ ML w' lo k M ∧ VB w' po (pck M k) ∧ VB w' yo Y ∧ ML w' uo ku U)) := fun W h => (mby_spec (m := m) mo mc W (by omega) h.2.1.2.1 h.2.1.2.2).mono fun e w' => by
      rintro ⟨v, rfl, ho, hb⟩
      obtain ⟨ao3, c3, rfl, _, hv⟩ := vb_of (W := W) ho
      exact ⟨ao3, c3, rfl, by rw [htB]; exact VB.conv hv (mby_byte m), ⟨h.1.st hb, h.2.1.st hb, h.2.2.1.st hb, h.2.2.2.1.st hb, h.2.2.2.2.1.st hb, h.2.2.2.2.2.1.st hb, h.2.2.2.2.2.2.1.st hb, h.2.2.2.2.2.2.2.1.st hb, h.2.2.2.2.2.2.2.2.1.st hb, h.2.2.2.2.2.2.2.2.2.st hb⟩⟩
    have HSP : Hid (∀ W, (ZB w W ∧ VM W X1 m mo mc ∧ VB W bo (mby m) ∧ VB W xo X ∧ VM W X4 r ro rc ∧ VM W X6 q qo qc ∧ ML W lo k M ∧ VB W po (pck M k) ∧ VB W yo Y ∧ ML W uo ku U) → Calls Try.prog 39 #[.slice lo k lc] W fun e w' => ∃ ao3 c3, e = .returned (.slice ao3 (pck M k).length c3) ∧ (convert 22 9 (.slice ao3 (pck M k).length c3)).run Try.prog w' = .ok (.string tP) w' ∧ (ZB w w' ∧ VM w' X1 m mo mc ∧ VB w' bo (mby m) ∧ VB w' xo X ∧ VM w' X4 r ro rc ∧ VM w' X6 q qo qc ∧ ML w' lo k M ∧ VB w' po (pck M k) ∧ VB w' yo Y ∧ ML w' uo ku U)) := fun W h => (pack_spec lo k lc M W (by omega) (fun i hi => by have := HML.out i hi; omega) h.2.2.2.2.2.2.1).mono fun e w' => by
      rintro ⟨v, rfl, ho, hb⟩
      obtain ⟨ao3, c3, rfl, _, hv⟩ := vb_of (W := W) ho
      exact ⟨ao3, c3, rfl, by rw [htP]; exact VB.conv hv (pck_byte M k), ⟨h.1.st hb, h.2.1.st hb, h.2.2.1.st hb, h.2.2.2.1.st hb, h.2.2.2.2.1.st hb, h.2.2.2.2.2.1.st hb, h.2.2.2.2.2.2.1.st hb, h.2.2.2.2.2.2.2.1.st hb, h.2.2.2.2.2.2.2.2.1.st hb, h.2.2.2.2.2.2.2.2.2.st hb⟩⟩
    obtain ⟨bq, hbq⟩ : ∃ b : Bool, TellsB b (MOk q.k q.c q.v q.h (fun i => q.g.getD i 0) q.g.length) := tellsB _
    have HQI : Hid (∀ W, (ZB w W ∧ VM W X1 m mo mc ∧ VB W bo (mby m) ∧ VB W xo X ∧ VM W X4 r ro rc ∧ VM W X6 q qo qc ∧ ML W lo k M ∧ VB W po (pck M k) ∧ VB W yo Y ∧ ML W uo ku U) → Calls Try.prog 37 #[.agg #[.int .i64 q.k, .int .i64 q.c, .int .i64 q.v, .int .i64 q.h, .slice qo q.g.length qc]] W fun e w' => e = .returned (.bool bq) ∧ (ZB w w' ∧ VM w' X1 m mo mc ∧ VB w' bo (mby m) ∧ VB w' xo X ∧ VM w' X4 r ro rc ∧ VM w' X6 q qo qc ∧ ML w' lo k M ∧ VB w' po (pck M k) ∧ VB w' yo Y ∧ ML w' uo ku U)) := fun W h => (msgok_impl qo q.g.length qc _ q.k q.c q.v q.h W (by omega) h.2.2.2.2.2.1.2.1 h.2.2.2.2.2.1.2.2).mono fun e w' => by
      rintro ⟨h1, hb⟩
      refine ⟨?_, ⟨h.1.st hb, h.2.1.st hb, h.2.2.1.st hb, h.2.2.2.1.st hb, h.2.2.2.2.1.st hb, h.2.2.2.2.2.1.st hb, h.2.2.2.2.2.2.1.st hb, h.2.2.2.2.2.2.2.1.st hb, h.2.2.2.2.2.2.2.2.1.st hb, h.2.2.2.2.2.2.2.2.2.st hb⟩⟩
      rcases h1 with ⟨h1, rfl⟩ | ⟨h1, rfl⟩
      · rw [hbq.2 h1]
      · cases bq with
        | true => exact absurd (hbq.1 rfl) h1
        | false => rfl
    have HQS : Hid (∀ W, (ZB w W ∧ VM W X1 m mo mc ∧ VB W bo (mby m) ∧ VB W xo X ∧ VM W X4 r ro rc ∧ VM W X6 q qo qc ∧ ML W lo k M ∧ VB W po (pck M k) ∧ VB W yo Y ∧ ML W uo ku U) → Calls Try.prog 38 #[.agg #[.int .i64 q.k, .int .i64 q.c, .int .i64 q.v, .int .i64 q.h, .slice qo q.g.length qc]] W fun e w' => e = .returned (.bool bq) ∧ (ZB w w' ∧ VM w' X1 m mo mc ∧ VB w' bo (mby m) ∧ VB w' xo X ∧ VM w' X4 r ro rc ∧ VM w' X6 q qo qc ∧ ML w' lo k M ∧ VB w' po (pck M k) ∧ VB w' yo Y ∧ ML w' uo ku U)) := fun W h => (msgok_spec qo q.g.length qc _ q.k q.c q.v q.h W (by omega) h.2.2.2.2.2.1.2.1 h.2.2.2.2.2.1.2.2).mono fun e w' => by
      rintro ⟨h1, hb⟩
      refine ⟨?_, ⟨h.1.st hb, h.2.1.st hb, h.2.2.1.st hb, h.2.2.2.1.st hb, h.2.2.2.2.1.st hb, h.2.2.2.2.2.1.st hb, h.2.2.2.2.2.2.1.st hb, h.2.2.2.2.2.2.2.1.st hb, h.2.2.2.2.2.2.2.2.1.st hb, h.2.2.2.2.2.2.2.2.2.st hb⟩⟩
      rcases h1 with ⟨h1, rfl⟩ | ⟨h1, rfl⟩
      · rw [hbq.2 h1]
      · cases bq with
        | true => exact absurd (hbq.1 rfl) h1
        | false => rfl
    have hS0 := HS14.out _ H12d.out
    clear htB htP hbq H12
    refine wp_region_held_drew (S := (fun w' => (w'.cell? ⟨X1, 0, none⟩ = some (.int .i64 m.k) ∧ w'.cell? ⟨X1, 1, none⟩ = some (.int .i64 m.c) ∧ w'.cell? ⟨X1, 2, none⟩ = some (.int .i64 m.v) ∧ w'.cell? ⟨X1, 3, none⟩ = some (.int .i64 m.h) ∧ w'.cell? ⟨X1, 4, none⟩ = some (.slice mo m.g.length mc)) ∧ (w'.cell? ⟨X6, 0, none⟩ = some (.int .i64 q.k) ∧ w'.cell? ⟨X6, 1, none⟩ = some (.int .i64 q.c) ∧ w'.cell? ⟨X6, 2, none⟩ = some (.int .i64 q.v) ∧ w'.cell? ⟨X6, 3, none⟩ = some (.int .i64 q.h) ∧ w'.cell? ⟨X6, 4, none⟩ = some (.slice qo q.g.length qc)) ∧ (convert 22 9 (.slice bo (mby m).length bc)).run Try.prog w' = .ok (.string tB) w' ∧ (convert 22 9 (.slice po (pck M k).length pc)).run Try.prog w' = .ok (.string tP) w')) (by kernel_rfl) ?_ (fun hHeld => ?_)
    · exact hS0
    refine wpAnyH_take (i := 0) (oi := { dst := some 75, op := Op.move (Operand.tmp 4), type := 22, pos := "laws.go:355", after := #[], guard := none }) (v := ?_) rfl (by kernel_rfl) (by kernel_rfl) (by kernel_rfl) (fun _ _ _ h => h) (Or.inl ⟨by rfl, ?_⟩) (by assumption) ?_
    rotate_left 1
    · (intro wq hSw; (try dsimp only at hSw); go_simp; try with_reducible rfl)
    try simp only [Act.put, List.setIfInBounds_toArray, List.set_cons_zero, List.set_cons_succ]
    refine wpAnyH_take (i := 1) (oi := { dst := some 76, op := Op.convert 22 9 (Operand.tmp 75), type := 9, pos := "laws.go:355", after := #[{ on := 0, ground := Ground.data }], guard := none }) (v := ?_) rfl (by kernel_rfl) (by kernel_rfl) (by kernel_rfl) (fun _ _ _ h => h) (Or.inl ⟨by rfl, ?_⟩) (by assumption) ?_
    rotate_left 1
    · (intro wq hSw; (try dsimp only at hSw); go_simp; try with_reducible rfl)
    try simp only [Act.put, List.setIfInBounds_toArray, List.set_cons_zero, List.set_cons_succ]
    refine wpAnyH_take (i := 2) (oi := { dst := some 77, op := Op.load 40 (Operand.tmp 3), type := 40, pos := "laws.go:355", after := #[], guard := none }) (v := ?_) rfl (by kernel_rfl) (by kernel_rfl) (by kernel_rfl) (fun _ _ _ h => h) (Or.inl ⟨by rfl, ?_⟩) (by assumption) ?_
    rotate_left 1
    · (intro wq hSw; (try dsimp only at hSw); go_simp; try with_reducible rfl)
    try simp only [Act.put, List.setIfInBounds_toArray, List.set_cons_zero, List.set_cons_succ]
    refine wpAnyH_ready (rs := [3]) (by kernel_rfl) (by simp) ?_
    refine AllReadyH.cons (o := { dst := some 78, op := Op.call { callee := Callee.value (Operand.func 36), args := #[Operand.tmp 77], argTypes := #[40] }, type := 22, pos := "laws.go:355", after := #[{ on := 2, ground := Ground.data }], guard := none }) rfl (fun K hK => ?_) AllReadyH.nil
    go_simp
    refine (HSB.out _ H12d.out).mono ?_
    rintro e w13 ⟨ao3, c3, rfl, hc3, hst⟩
    have H13 := hide hst
    have hk13 := HS14.out _ hst
    clear hst
    go_wp2_with fail
    refine hK.out _ _ ?_ (fun hHeld => ?_)
    · exact hk13
    clear hK K
    try simp only [Act.put, List.setIfInBounds_toArray, List.set_cons_zero, List.set_cons_succ]
    refine wpAnyH_ready (rs := [4]) (by kernel_rfl) (by simp) ?_
    refine AllReadyH.cons (o := { dst := some 79, op := Op.convert 22 9 (Operand.tmp 78), type := 9, pos := "laws.go:355", after := #[{ on := 3, ground := Ground.data }], guard := none }) rfl (fun K hK => ?_) AllReadyH.nil
    go_simp
    refine hK.out _ _ ?_ (fun hHeld => ?_)
    · exact hk13
    clear hK K
    try simp only [Act.put, List.setIfInBounds_toArray, List.set_cons_zero, List.set_cons_succ]
    refine wpAnyH_take (i := 5) (oi := { dst := some 80, op := Op.binOp BinOp.neq 9 (Operand.tmp 76) (Operand.tmp 79) 9, type := 4, pos := "laws.go:355", after := #[{ on := 1, ground := Ground.data }, { on := 4, ground := Ground.data }], guard := none }) (v := ?_) rfl (by kernel_rfl) (by kernel_rfl) (by kernel_rfl) (fun _ _ _ h => h) (Or.inl ⟨by rfl, ?_⟩) (by assumption) ?_
    rotate_left 1
    · (intro wq hSw; (try dsimp only at hSw); go_simp; try with_reducible rfl)
    try simp only [Act.put, List.setIfInBounds_toArray, List.set_cons_zero, List.set_cons_succ]
    refine wpAnyH_take (i := 6) (oi := { dst := some 81, op := Op.move (Operand.tmp 80), type := 4, pos := "laws.go:355", after := #[{ on := 5, ground := Ground.data }, { on := 3, ground := Ground.chain }], guard := none }) (v := ?_) rfl (by kernel_rfl) (by kernel_rfl) (by kernel_rfl) (fun _ _ _ h => h) (Or.inl ⟨by rfl, ?_⟩) (by assumption) ?_
    rotate_left 1
    · (intro wq hSw; (try dsimp only at hSw); go_simp; try with_reducible rfl)
    try simp only [Act.put, List.setIfInBounds_toArray, List.set_cons_zero, List.set_cons_succ]
    refine wpAnyH_take (i := 7) (oi := { dst := some 82, op := Op.move (Operand.tmp 9), type := 4, pos := "laws.go:355", after := #[{ on := 6, ground := Ground.guard }], guard := some (6, false) }) (v := ?_) rfl (by kernel_rfl) (by kernel_rfl) (by kernel_rfl) (fun _ _ _ h => h) (Or.inl ⟨by rfl, ?_⟩) (by assumption) ?_
    rotate_left 1
    · (intro wq hSw; (try dsimp only at hSw); go_simp; try with_reducible rfl)
    try simp only [Act.put, List.setIfInBounds_toArray, List.set_cons_zero, List.set_cons_succ]
    refine wpAnyH_take (i := 8) (oi := { dst := some 83, op := Op.move (Operand.tmp 12), type := 4, pos := "laws.go:355", after := #[{ on := 6, ground := Ground.guard }], guard := some (6, false) }) (v := ?_) rfl (by kernel_rfl) (by kernel_rfl) (by kernel_rfl) (fun _ _ _ h => h) (Or.inl ⟨by rfl, ?_⟩) (by assumption) ?_
    rotate_left 1
    · (intro wq hSw; (try dsimp only at hSw); go_simp; try with_reducible rfl)
    try simp only [Act.put, List.setIfInBounds_toArray, List.set_cons_zero, List.set_cons_succ]
    refine wpAnyH_take (i := 9) (oi := { dst := some 84, op := Op.binOp BinOp.neq 4 (Operand.tmp 82) (Operand.tmp 83) 4, type := 4, pos := "laws.go:355", after := #[{ on := 7, ground := Ground.data }, { on := 8, ground := Ground.data }, { on := 6, ground := Ground.guard }], guard := some (6, false) }) (v := ?_) rfl (by kernel_rfl) (by kernel_rfl) (by kernel_rfl) (fun _ _ _ h => h) (Or.inl ⟨by rfl, ?_⟩) (by assumption) ?_
    rotate_left 1
    · (intro wq hSw; (try dsimp only at hSw); go_simp; try with_reducible rfl)
    try simp only [Act.put, List.setIfInBounds_toArray, List.set_cons_zero, List.set_cons_succ]
    refine wpAnyH_take (i := 10) (oi := { dst := some 85, op := Op.pick (Operand.tmp 81) (Operand.const (Value.bool true)) (Operand.tmp 84), type := 4, pos := "laws.go:355", after := #[{ on := 6, ground := Ground.data }, { on := 9, ground := Ground.data }], guard := none }) (v := ?_) rfl (by kernel_rfl) (by kernel_rfl) (by kernel_rfl) (fun _ _ _ h => h) (Or.inl ⟨by rfl, ?_⟩) (by assumption) ?_
    rotate_left 1
    · (intro wq hSw; (try dsimp only at hSw); go_simp; try with_reducible rfl)
    try simp only [Act.put, List.setIfInBounds_toArray, List.set_cons_zero, List.set_cons_succ]
    refine wpAnyH_take (i := 11) (oi := { dst := some 86, op := Op.move (Operand.tmp 85), type := 4, pos := "laws.go:355", after := #[{ on := 10, ground := Ground.data }, { on := 6, ground := Ground.chain }], guard := none }) (v := ?_) rfl (by kernel_rfl) (by kernel_rfl) (by kernel_rfl) (fun _ _ _ h => h) (Or.inl ⟨by rfl, ?_⟩) (by assumption) ?_
    rotate_left 1
    · (intro wq hSw; (try dsimp only at hSw); go_simp; try with_reducible rfl)
    try simp only [Act.put, List.setIfInBounds_toArray, List.set_cons_zero, List.set_cons_succ]
    refine wpAnyH_take (i := 12) (oi := { dst := some 87, op := Op.move (Operand.tmp 8), type := 3, pos := "laws.go:355", after := #[{ on := 11, ground := Ground.guard }], guard := some (11, false) }) (v := ?_) rfl (by kernel_rfl) (by kernel_rfl) (by kernel_rfl) (fun _ _ _ h => h) (Or.inl ⟨by rfl, ?_⟩) (by assumption) ?_
    rotate_left 1
    · (intro wq hSw; (try dsimp only at hSw); go_simp; try with_reducible rfl)
    try simp only [Act.put, List.setIfInBounds_toArray, List.set_cons_zero, List.set_cons_succ]
    refine wpAnyH_take (i := 13) (oi := { dst := some 88, op := Op.move (Operand.tmp 11), type := 3, pos := "laws.go:355", after := #[{ on := 11, ground := Ground.guard }], guard := some (11, false) }) (v := ?_) rfl (by kernel_rfl) (by kernel_rfl) (by kernel_rfl) (fun _ _ _ h => h) (Or.inl ⟨by rfl, ?_⟩) (by assumption) ?_
    rotate_left 1
    · (intro wq hSw; (try dsimp only at hSw); go_simp; try with_reducible rfl)
    try simp only [Act.put, List.setIfInBounds_toArray, List.set_cons_zero, List.set_cons_succ]
    refine wpAnyH_take (i := 14) (oi := { dst := some 89, op := Op.binOp BinOp.neq 3 (Operand.tmp 87) (Operand.tmp 88) 3, type := 4, pos := "laws.go:355", after := #[{ on := 12, ground := Ground.data }, { on := 13, ground := Ground.data }, { on := 11, ground := Ground.guard }], guard := some (11, false) }) (v := ?_) rfl (by kernel_rfl) (by kernel_rfl) (by kernel_rfl) (fun _ _ _ h => h) (Or.inl ⟨by rfl, ?_⟩) (by assumption) ?_
    rotate_left 1
    · (intro wq hSw; (try dsimp only at hSw); go_simp; try with_reducible rfl)
    try simp only [Act.put, List.setIfInBounds_toArray, List.set_cons_zero, List.set_cons_succ]
    refine wpAnyH_take (i := 15) (oi := { dst := some 90, op := Op.pick (Operand.tmp 86) (Operand.const (Value.bool true)) (Operand.tmp 89), type := 4, pos := "laws.go:355", after := #[{ on := 11, ground := Ground.data }, { on := 14, ground := Ground.data }], guard := none }) (v := ?_) rfl (by kernel_rfl) (by kernel_rfl) (by kernel_rfl) (fun _ _ _ h => h) (Or.inl ⟨by rfl, ?_⟩) (by assumption) ?_
    rotate_left 1
    · (intro wq hSw; (try dsimp only at hSw); go_simp; try with_reducible rfl)
    try simp only [Act.put, List.setIfInBounds_toArray, List.set_cons_zero, List.set_cons_succ]
    refine wpAnyH_take (i := 16) (oi := { dst := some 91, op := Op.move (Operand.tmp 90), type := 4, pos := "laws.go:355", after := #[{ on := 15, ground := Ground.data }, { on := 11, ground := Ground.chain }], guard := none }) (v := ?_) rfl (by kernel_rfl) (by kernel_rfl) (by kernel_rfl) (fun _ _ _ h => h) (Or.inl ⟨by rfl, ?_⟩) (by assumption) ?_
    rotate_left 1
    · (intro wq hSw; (try dsimp only at hSw); go_simp; try with_reducible rfl)
    try simp only [Act.put, List.setIfInBounds_toArray, List.set_cons_zero, List.set_cons_succ]
    refine wpAnyH_take (i := 17) (oi := { dst := some 92, op := Op.load 40 (Operand.tmp 13), type := 40, pos := "laws.go:355", after := #[{ on := 16, ground := Ground.guard }], guard := some (16, false) }) (v := ?_) rfl (by kernel_rfl) (by kernel_rfl) (by kernel_rfl) (fun _ _ _ h => h) (Or.inl ⟨by rfl, ?_⟩) (by assumption) ?_
    rotate_left 1
    · (intro wq hSw; (try dsimp only at hSw); go_simp; try with_reducible rfl)
    try simp only [Act.put, List.setIfInBounds_toArray, List.set_cons_zero, List.set_cons_succ]
    refine wpAnyH_take (i := 19) (oi := { dst := some 94, op := Op.load 40 (Operand.tmp 13), type := 40, pos := "laws.go:355", after := #[{ on := 16, ground := Ground.guard }], guard := some (16, false) }) (v := ?_) rfl (by kernel_rfl) (by kernel_rfl) (by kernel_rfl) (fun _ _ _ h => h) (Or.inl ⟨by rfl, ?_⟩) (by assumption) ?_
    rotate_left 1
    · (intro wq hSw; (try dsimp only at hSw); go_simp; try with_reducible rfl)
    try simp only [Act.put, List.setIfInBounds_toArray, List.set_cons_zero, List.set_cons_succ]
    refine wpAnyH_ready (rs := [18]) (by kernel_rfl) (by simp) ?_
    refine AllReadyH.cons (o := { dst := some 93, op := Op.call { callee := Callee.value (Operand.func 37), args := #[Operand.tmp 92], argTypes := #[40] }, type := 4, pos := "laws.go:355", after := #[{ on := 17, ground := Ground.data }, { on := 16, ground := Ground.chain }, { on := 16, ground := Ground.guard }], guard := some (16, false) }) rfl (fun K hK => ?_) AllReadyH.nil
    go_simp
    refine (HQI.out _ H13.out).mono ?_
    rintro e w14 ⟨rfl, hst⟩
    have H14 := hide hst
    have hk14 := HS14.out _ hst
    clear hst
    go_wp2_with fail
    refine hK.out _ _ ?_ (fun hHeld => ?_)
    · exact hk14
    clear hK K
    try simp only [Act.put, List.setIfInBounds_toArray, List.set_cons_zero, List.set_cons_succ]
    refine wpAnyH_ready (rs := [20]) (by kernel_rfl) (by simp) ?_
    refine AllReadyH.cons (o := { dst := some 95, op := Op.call { callee := Callee.value (Operand.func 38), args := #[Operand.tmp 94], argTypes := #[40] }, type := 4, pos := "laws.go:355", after := #[{ on := 19, ground := Ground.data }, { on := 18, ground := Ground.chain }, { on := 16, ground := Ground.guard }], guard := some (16, false) }) rfl (fun K hK => ?_) AllReadyH.nil
    go_simp
    refine (HQS.out _ H14.out).mono ?_
    rintro e w15 ⟨rfl, hst⟩
    have H15 := hide hst
    have hk15 := HS14.out _ hst
    clear hst
    go_wp2_with fail
    refine hK.out _ _ ?_ (fun hHeld => ?_)
    · exact hk15
    clear hK K
    try simp only [Act.put, List.setIfInBounds_toArray, List.set_cons_zero, List.set_cons_succ]
    refine wpAnyH_take (i := 21) (oi := { dst := some 96, op := Op.binOp BinOp.neq 4 (Operand.tmp 93) (Operand.tmp 95) 4, type := 4, pos := "laws.go:355", after := #[{ on := 18, ground := Ground.data }, { on := 20, ground := Ground.data }, { on := 16, ground := Ground.guard }], guard := some (16, false) }) (v := .bool false) rfl (by kernel_rfl) (by kernel_rfl) (by kernel_rfl) (fun _ _ _ h => h) (Or.inl ⟨by rfl, ?_⟩) (by assumption) ?_
    · (intro wq hSw; cases bq <;> go_simp)
    try simp only [Act.put, List.setIfInBounds_toArray, List.set_cons_zero, List.set_cons_succ]
    refine wpAnyH_take (i := 22) (oi := { dst := some 97, op := Op.pick (Operand.tmp 91) (Operand.const (Value.bool true)) (Operand.tmp 96), type := 4, pos := "laws.go:355", after := #[{ on := 16, ground := Ground.data }, { on := 21, ground := Ground.data }], guard := none }) (v := ?_) rfl (by kernel_rfl) (by kernel_rfl) (by kernel_rfl) (fun _ _ _ h => h) (Or.inl ⟨by rfl, ?_⟩) (by assumption) ?_
    rotate_left 1
    · (intro wq hSw; (try dsimp only at hSw); go_simp; try with_reducible rfl)
    try simp only [Act.put, List.setIfInBounds_toArray, List.set_cons_zero, List.set_cons_succ]
    refine wpAnyH_take (i := 23) (oi := { dst := some 98, op := Op.move (Operand.tmp 97), type := 4, pos := "laws.go:355", after := #[{ on := 22, ground := Ground.data }, { on := 20, ground := Ground.chain }], guard := none }) (v := ?_) rfl (by kernel_rfl) (by kernel_rfl) (by kernel_rfl) (fun _ _ _ h => h) (Or.inl ⟨by rfl, ?_⟩) (by assumption) ?_
    rotate_left 1
    · (intro wq hSw; (try dsimp only at hSw); go_simp; try with_reducible rfl)
    try simp only [Act.put, List.setIfInBounds_toArray, List.set_cons_zero, List.set_cons_succ]
    refine wpAnyH_take (i := 24) (oi := { dst := some 99, op := Op.move (Operand.tmp 15), type := 22, pos := "laws.go:355", after := #[{ on := 23, ground := Ground.guard }], guard := some (23, false) }) (v := ?_) rfl (by kernel_rfl) (by kernel_rfl) (by kernel_rfl) (fun _ _ _ h => h) (Or.inl ⟨by rfl, ?_⟩) (by assumption) ?_
    rotate_left 1
    · (intro wq hSw; (try dsimp only at hSw); go_simp; try with_reducible rfl)
    try simp only [Act.put, List.setIfInBounds_toArray, List.set_cons_zero, List.set_cons_succ]
    refine wpAnyH_take (i := 25) (oi := { dst := some 100, op := Op.convert 22 9 (Operand.tmp 99), type := 9, pos := "laws.go:355", after := #[{ on := 24, ground := Ground.data }, { on := 23, ground := Ground.guard }], guard := some (23, false) }) (v := ?_) rfl (by kernel_rfl) (by kernel_rfl) (by kernel_rfl) (fun _ _ _ h => h) (Or.inl ⟨by rfl, ?_⟩) (by assumption) ?_
    rotate_left 1
    · (intro wq hSw; (try dsimp only at hSw); go_simp; try with_reducible rfl)
    try simp only [Act.put, List.setIfInBounds_toArray, List.set_cons_zero, List.set_cons_succ]
    refine wpAnyH_take (i := 26) (oi := { dst := some 101, op := Op.move (Operand.tmp 14), type := 47, pos := "laws.go:355", after := #[{ on := 23, ground := Ground.guard }], guard := some (23, false) }) (v := ?_) rfl (by kernel_rfl) (by kernel_rfl) (by kernel_rfl) (fun _ _ _ h => h) (Or.inl ⟨by rfl, ?_⟩) (by assumption) ?_
    rotate_left 1
    · (intro wq hSw; (try dsimp only at hSw); go_simp; try with_reducible rfl)
    try simp only [Act.put, List.setIfInBounds_toArray, List.set_cons_zero, List.set_cons_succ]
    refine wpAnyH_ready (rs := [27]) (by kernel_rfl) (by simp) ?_
    refine AllReadyH.cons (o := { dst := some 102, op := Op.call { callee := Callee.value (Operand.func 39), args := #[Operand.tmp 101], argTypes := #[47] }, type := 22, pos := "laws.go:355", after := #[{ on := 26, ground := Ground.data }, { on := 23, ground := Ground.chain }, { on := 23, ground := Ground.guard }], guard := some (23, false) }) rfl (fun K hK => ?_) AllReadyH.nil
    go_simp
    refine (HSP.out _ H15.out).mono ?_
    rintro e w16 ⟨ao4, c4, rfl, hc4, hst⟩
    have H16 := hide hst
    have hk16 := HS14.out _ hst
    clear hst
    go_wp2_with fail
    refine hK.out _ _ ?_ (fun hHeld => ?_)
    · exact hk16
    clear hK K
    try simp only [Act.put, List.setIfInBounds_toArray, List.set_cons_zero, List.set_cons_succ]
    refine wpAnyH_ready (rs := [28]) (by kernel_rfl) (by simp) ?_
    refine AllReadyH.cons (o := { dst := some 103, op := Op.convert 22 9 (Operand.tmp 102), type := 9, pos := "laws.go:355", after := #[{ on := 27, ground := Ground.data }, { on := 23, ground := Ground.guard }], guard := some (23, false) }) rfl (fun K hK => ?_) AllReadyH.nil
    go_simp
    refine hK.out _ _ ?_ (fun hHeld => ?_)
    · exact hk16
    clear hK K
    try simp only [Act.put, List.setIfInBounds_toArray, List.set_cons_zero, List.set_cons_succ]
    refine wpAnyH_take (i := 29) (oi := { dst := some 104, op := Op.binOp BinOp.neq 9 (Operand.tmp 100) (Operand.tmp 103) 9, type := 4, pos := "laws.go:355", after := #[{ on := 25, ground := Ground.data }, { on := 28, ground := Ground.data }, { on := 23, ground := Ground.guard }], guard := some (23, false) }) (v := ?_) rfl (by kernel_rfl) (by kernel_rfl) (by kernel_rfl) (fun _ _ _ h => h) (Or.inl ⟨by rfl, ?_⟩) (by assumption) ?_
    rotate_left 1
    · (intro wq hSw; (try dsimp only at hSw); go_simp; try with_reducible rfl)
    try simp only [Act.put, List.setIfInBounds_toArray, List.set_cons_zero, List.set_cons_succ]
    refine wpAnyH_take (i := 30) (oi := { dst := some 105, op := Op.pick (Operand.tmp 98) (Operand.const (Value.bool true)) (Operand.tmp 104), type := 4, pos := "laws.go:355", after := #[{ on := 23, ground := Ground.data }, { on := 29, ground := Ground.data }], guard := none }) (v := ?_) rfl (by kernel_rfl) (by kernel_rfl) (by kernel_rfl) (fun _ _ _ h => h) (Or.inl ⟨by rfl, ?_⟩) (by assumption) ?_
    rotate_left 1
    · (intro wq hSw; (try dsimp only at hSw); go_simp; try with_reducible rfl)
    try simp only [Act.put, List.setIfInBounds_toArray, List.set_cons_zero, List.set_cons_succ]
    refine wpAnyH_take (i := 31) (oi := { dst := some 106, op := Op.move (Operand.tmp 105), type := 4, pos := "laws.go:355", after := #[{ on := 30, ground := Ground.data }, { on := 27, ground := Ground.chain }], guard := none }) (v := ?_) rfl (by kernel_rfl) (by kernel_rfl) (by kernel_rfl) (fun _ _ _ h => h) (Or.inl ⟨by rfl, ?_⟩) (by assumption) ?_
    rotate_left 1
    · (intro wq hSw; (try dsimp only at hSw); go_simp; try with_reducible rfl)
    try simp only [Act.put, List.setIfInBounds_toArray, List.set_cons_zero, List.set_cons_succ]
    refine wpAnyH_take (i := 32) (oi := { dst := some 107, op := Op.move (Operand.tmp 18), type := 4, pos := "laws.go:355", after := #[{ on := 31, ground := Ground.guard }], guard := some (31, false) }) (v := ?_) rfl (by kernel_rfl) (by kernel_rfl) (by kernel_rfl) (fun _ _ _ h => h) (Or.inl ⟨by rfl, ?_⟩) (by assumption) ?_
    rotate_left 1
    · (intro wq hSw; (try dsimp only at hSw); go_simp; try with_reducible rfl)
    try simp only [Act.put, List.setIfInBounds_toArray, List.set_cons_zero, List.set_cons_succ]
    refine wpAnyH_take (i := 33) (oi := { dst := some 108, op := Op.move (Operand.tmp 20), type := 4, pos := "laws.go:355", after := #[{ on := 31, ground := Ground.guard }], guard := some (31, false) }) (v := ?_) rfl (by kernel_rfl) (by kernel_rfl) (by kernel_rfl) (fun _ _ _ h => h) (Or.inl ⟨by rfl, ?_⟩) (by assumption) ?_
    rotate_left 1
    · (intro wq hSw; (try dsimp only at hSw); go_simp; try with_reducible rfl)
    try simp only [Act.put, List.setIfInBounds_toArray, List.set_cons_zero, List.set_cons_succ]
    refine wpAnyH_take (i := 34) (oi := { dst := some 109, op := Op.binOp BinOp.neq 4 (Operand.tmp 107) (Operand.tmp 108) 4, type := 4, pos := "laws.go:355", after := #[{ on := 32, ground := Ground.data }, { on := 33, ground := Ground.data }, { on := 31, ground := Ground.guard }], guard := some (31, false) }) (v := ?_) rfl (by kernel_rfl) (by kernel_rfl) (by kernel_rfl) (fun _ _ _ h => h) (Or.inl ⟨by rfl, ?_⟩) (by assumption) ?_
    rotate_left 1
    · (intro wq hSw; (try dsimp only at hSw); go_simp; try with_reducible rfl)
    try simp only [Act.put, List.setIfInBounds_toArray, List.set_cons_zero, List.set_cons_succ]
    refine wpAnyH_take (i := 35) (oi := { dst := some 110, op := Op.pick (Operand.tmp 106) (Operand.const (Value.bool true)) (Operand.tmp 109), type := 4, pos := "laws.go:355", after := #[{ on := 31, ground := Ground.data }, { on := 34, ground := Ground.data }], guard := none }) (v := ?_) rfl (by kernel_rfl) (by kernel_rfl) (by kernel_rfl) (fun _ _ _ h => h) (Or.inl ⟨by rfl, ?_⟩) (by assumption) ?_
    rotate_left 1
    · (intro wq hSw; (try dsimp only at hSw); go_simp; try with_reducible rfl)
    try simp only [Act.put, List.setIfInBounds_toArray, List.set_cons_zero, List.set_cons_succ]
    refine wpAnyH_take (i := 36) (oi := { dst := some 111, op := Op.move (Operand.tmp 110), type := 4, pos := "laws.go:355", after := #[{ on := 35, ground := Ground.data }, { on := 31, ground := Ground.chain }], guard := none }) (v := ?_) rfl (by kernel_rfl) (by kernel_rfl) (by kernel_rfl) (fun _ _ _ h => h) (Or.inl ⟨by rfl, ?_⟩) (by assumption) ?_
    rotate_left 1
    · (intro wq hSw; (try dsimp only at hSw); go_simp; try with_reducible rfl)
    try simp only [Act.put, List.setIfInBounds_toArray, List.set_cons_zero, List.set_cons_succ]
    refine wpAnyH_take (i := 37) (oi := { dst := some 112, op := Op.move (Operand.tmp 17), type := 47, pos := "laws.go:355", after := #[{ on := 36, ground := Ground.guard }], guard := some (36, false) }) (v := ?_) rfl (by kernel_rfl) (by kernel_rfl) (by kernel_rfl) (fun _ _ _ h => h) (Or.inl ⟨by rfl, ?_⟩) (by assumption) ?_
    rotate_left 1
    · (intro wq hSw; (try dsimp only at hSw); go_simp; try with_reducible rfl)
    try simp only [Act.put, List.setIfInBounds_toArray, List.set_cons_zero, List.set_cons_succ]
    refine wpAnyH_take (i := 38) (oi := { dst := some 113, op := Op.call { callee := Callee.builtin Builtin.len, args := #[Operand.tmp 112], argTypes := #[47] }, type := 3, pos := "laws.go:355", after := #[{ on := 37, ground := Ground.data }, { on := 36, ground := Ground.guard }], guard := some (36, false) }) (v := ?_) rfl (by kernel_rfl) (by kernel_rfl) (by kernel_rfl) (fun _ _ _ h => h) (Or.inl ⟨by rfl, ?_⟩) (by assumption) ?_
    rotate_left 1
    · (intro wq hSw; (try dsimp only at hSw); go_simp; try with_reducible rfl)
    try simp only [Act.put, List.setIfInBounds_toArray, List.set_cons_zero, List.set_cons_succ]
    refine wpAnyH_take (i := 39) (oi := { dst := some 114, op := Op.move (Operand.tmp 19), type := 47, pos := "laws.go:355", after := #[{ on := 36, ground := Ground.guard }], guard := some (36, false) }) (v := ?_) rfl (by kernel_rfl) (by kernel_rfl) (by kernel_rfl) (fun _ _ _ h => h) (Or.inl ⟨by rfl, ?_⟩) (by assumption) ?_
    rotate_left 1
    · (intro wq hSw; (try dsimp only at hSw); go_simp; try with_reducible rfl)
    try simp only [Act.put, List.setIfInBounds_toArray, List.set_cons_zero, List.set_cons_succ]
    refine wpAnyH_take (i := 40) (oi := { dst := some 115, op := Op.call { callee := Callee.builtin Builtin.len, args := #[Operand.tmp 114], argTypes := #[47] }, type := 3, pos := "laws.go:355", after := #[{ on := 39, ground := Ground.data }, { on := 36, ground := Ground.guard }], guard := some (36, false) }) (v := ?_) rfl (by kernel_rfl) (by kernel_rfl) (by kernel_rfl) (fun _ _ _ h => h) (Or.inl ⟨by rfl, ?_⟩) (by assumption) ?_
    rotate_left 1
    · (intro wq hSw; (try dsimp only at hSw); go_simp; try with_reducible rfl)
    try simp only [Act.put, List.setIfInBounds_toArray, List.set_cons_zero, List.set_cons_succ]
    refine wpAnyH_take (i := 41) (oi := { dst := some 116, op := Op.binOp BinOp.neq 3 (Operand.tmp 113) (Operand.tmp 115) 3, type := 4, pos := "laws.go:355", after := #[{ on := 38, ground := Ground.data }, { on := 40, ground := Ground.data }, { on := 36, ground := Ground.guard }], guard := some (36, false) }) (v := ?_) rfl (by kernel_rfl) (by kernel_rfl) (by kernel_rfl) (fun _ _ _ h => h) (Or.inl ⟨by rfl, ?_⟩) (by assumption) ?_
    rotate_left 1
    · (intro wq hSw; (try dsimp only at hSw); go_simp; try with_reducible rfl)
    try simp only [Act.put, List.setIfInBounds_toArray, List.set_cons_zero, List.set_cons_succ]
    refine wpAnyH_take (i := 42) (oi := { dst := some 117, op := Op.pick (Operand.tmp 111) (Operand.const (Value.bool true)) (Operand.tmp 116), type := 4, pos := "laws.go:355", after := #[{ on := 36, ground := Ground.data }, { on := 41, ground := Ground.data }], guard := none }) (v := ?_) rfl (by kernel_rfl) (by kernel_rfl) (by kernel_rfl) (fun _ _ _ h => h) (Or.inl ⟨by rfl, ?_⟩) (by assumption) ?_
    rotate_left 1
    · (intro wq hSw; (try dsimp only at hSw); go_simp; try with_reducible rfl)
    try simp only [Act.put, List.setIfInBounds_toArray, List.set_cons_zero, List.set_cons_succ]
    refine wpAnyH_done (by kernel_rfl) ?_ _
    clear hS0 hk13 hk14 hk15 hk16 H13 H14 H15 H12d HSB HSP HQI HQS HS14
    have H16 := ‹Hid (ZB w w16 ∧ VM w16 X1 m mo mc ∧ VB w16 bo (mby m) ∧ VB w16 xo X ∧ VM w16 X4 r ro rc ∧ VM w16 X6 q qo qc ∧ ML w16 lo k M ∧ VB w16 po (pck M k) ∧ VB w16 yo Y ∧ ML w16 uo ku U)›
    go_wp2_with fail
    have H17 : Hid (ZB w w16.drew ∧ VM w16.drew X1 m mo mc ∧ VB w16.drew bo (mby m) ∧ VB w16.drew xo X ∧ VM w16.drew X4 r ro rc ∧ VM w16.drew X6 q qo qc ∧ ML w16.drew lo k M ∧ VB w16.drew po (pck M k) ∧ VB w16.drew yo Y ∧ ML w16.drew uo ku U) := ⟨H16.out.1.st (Below.drawn (Below.refl w16.heap.size w16) 1), H16.out.2.1.st (Below.drawn (Below.refl w16.heap.size w16) 1), H16.out.2.2.1.st (Below.drawn (Below.refl w16.heap.size w16) 1), H16.out.2.2.2.1.st (Below.drawn (Below.refl w16.heap.size w16) 1), H16.out.2.2.2.2.1.st (Below.drawn (Below.refl w16.heap.size w16) 1), H16.out.2.2.2.2.2.1.st (Below.drawn (Below.refl w16.heap.size w16) 1), H16.out.2.2.2.2.2.2.1.st (Below.drawn (Below.refl w16.heap.size w16) 1), H16.out.2.2.2.2.2.2.2.1.st (Below.drawn (Below.refl w16.heap.size w16) 1), H16.out.2.2.2.2.2.2.2.2.1.st (Below.drawn (Below.refl w16.heap.size w16) 1), H16.out.2.2.2.2.2.2.2.2.2.st (Below.drawn (Below.refl w16.heap.size w16) 1)⟩
    clear H16
    obtain ⟨tY, htY⟩ : ∃ tY, tY = bstr Y := ⟨_, rfl⟩
    obtain ⟨tR, htR⟩ : ∃ tR, tR = bstr (mby r) := ⟨_, rfl⟩
    have HIB : Hid (∀ W, (ZB w W ∧ VM W X1 m mo mc ∧ VB W bo (mby m) ∧ VB W xo X ∧ VM W X4 r ro rc ∧ VM W X6 q qo qc ∧ ML W lo k M ∧ VB W po (pck M k) ∧ VB W yo Y ∧ ML W uo ku U) → Calls Try.prog 26 #[.agg #[.int .i64 r.k, .int .i64 r.c, .int .i64 r.v, .int .i64 r.h, .slice ro r.g.length rc]] W fun e w' => ∃ ao3 c3, e = .returned (.slice ao3 (mby r).length c3) ∧ (convert 22 9 (.slice ao3 (mby r).length c3)).run Try.prog w' = .ok (.string tR) w' ∧ (ZB w w' ∧ VM w' X1 m mo mc ∧ VB w' bo (mby m) ∧ VB w' xo X ∧ VM w' X4 r ro rc ∧ VM w' X6 q qo qc ∧ ML w' lo k M ∧ VB w' po (pck M k) ∧ VB w' yo Y ∧ ML w' uo ku U)) := fun W h => (mby_impl (m := r) ro rc W (by omega) h.2.2.2.2.1.2.1 h.2.2.2.2.1.2.2).mono fun e w' => by
        rintro ⟨v, rfl, ho, hb⟩
        obtain ⟨ao3, c3, rfl, _, hv⟩ := vb_of (W := W) ho
        exact ⟨ao3, c3, rfl, by rw [htR]; exact VB.conv hv (mby_byte r), ⟨h.1.st hb, h.2.1.st hb, h.2.2.1.st hb, h.2.2.2.1.st hb, h.2.2.2.2.1.st hb, h.2.2.2.2.2.1.st hb, h.2.2.2.2.2.2.1.st hb, h.2.2.2.2.2.2.2.1.st hb, h.2.2.2.2.2.2.2.2.1.st hb, h.2.2.2.2.2.2.2.2.2.st hb⟩⟩
    have HIP : Hid (fine = true → ∀ W, (ZB w W ∧ VM W X1 m mo mc ∧ VB W bo (mby m) ∧ VB W xo X ∧ VM W X4 r ro rc ∧ VM W X6 q qo qc ∧ ML W lo k M ∧ VB W po (pck M k) ∧ VB W yo Y ∧ ML W uo ku U) → Calls Try.prog 32 #[.slice uo ku uc] W fun e w' => ∃ ao3 c3, e = .returned (.slice ao3 Y.length c3) ∧ (convert 22 9 (.slice ao3 Y.length c3)).run Try.prog w' = .ok (.string tY) w' ∧ (ZB w w' ∧ VM w' X1 m mo mc ∧ VB w' bo (mby m) ∧ VB w' xo X ∧ VM w' X4 r ro rc ∧ VM w' X6 q qo qc ∧ ML w' lo k M ∧ VB w' po (pck M k) ∧ VB w' yo Y ∧ ML w' uo ku U)) := fun hfi W h => (pack_impl uo ku uc U W (by omega) (fun i hi => by have := HUl.out i hi; omega) h.2.2.2.2.2.2.2.2.2).mono fun e w' => by
        rintro ⟨v, rfl, ho, hb⟩
        obtain ⟨_, _, _, hpY⟩ := HFB.out hfi
        obtain ⟨ao3, c3, rfl, _, hv⟩ := vb_of (W := W) ho
        rw [hpY] at hv ⊢
        exact ⟨ao3, c3, rfl, by rw [htY]; exact VB.conv hv HYB.out, ⟨h.1.st hb, h.2.1.st hb, h.2.2.1.st hb, h.2.2.2.1.st hb, h.2.2.2.2.1.st hb, h.2.2.2.2.2.1.st hb, h.2.2.2.2.2.2.1.st hb, h.2.2.2.2.2.2.2.1.st hb, h.2.2.2.2.2.2.2.2.1.st hb, h.2.2.2.2.2.2.2.2.2.st hb⟩⟩
    have HS16 : Hid (∀ W, (ZB w W ∧ VM W X1 m mo mc ∧ VB W bo (mby m) ∧ VB W xo X ∧ VM W X4 r ro rc ∧ VM W X6 q qo qc ∧ ML W lo k M ∧ VB W po (pck M k) ∧ VB W yo Y ∧ ML W uo ku U) → (W.cell? ⟨X4, 0, none⟩ = some (.int .i64 r.k) ∧ W.cell? ⟨X4, 1, none⟩ = some (.int .i64 r.c) ∧ W.cell? ⟨X4, 2, none⟩ = some (.int .i64 r.v) ∧ W.cell? ⟨X4, 3, none⟩ = some (.int .i64 r.h) ∧ W.cell? ⟨X4, 4, none⟩ = some (.slice ro r.g.length rc)) ∧ (convert 22 9 (.slice yo Y.length yc)).run Try.prog W = .ok (.string tY) W) := fun W h => ⟨h.2.2.2.2.1.1.cells, by rw [htY]; exact VB.conv h.2.2.2.2.2.2.2.2.1 HYB.out⟩
    cases ok
    ·
      have hS1 := HS16.out _ H17.out
      have HSX := HS16
      refine wp_region_held_drew (S := (fun w' => (w'.cell? ⟨X4, 0, none⟩ = some (.int .i64 r.k) ∧ w'.cell? ⟨X4, 1, none⟩ = some (.int .i64 r.c) ∧ w'.cell? ⟨X4, 2, none⟩ = some (.int .i64 r.v) ∧ w'.cell? ⟨X4, 3, none⟩ = some (.int .i64 r.h) ∧ w'.cell? ⟨X4, 4, none⟩ = some (.slice ro r.g.length rc)) ∧ (convert 22 9 (.slice yo Y.length yc)).run Try.prog w' = .ok (.string tY) w')) (by kernel_rfl) ?_ (fun hHeld => ?_)
      · exact hS1
      refine wpAnyH_take (i := 0) (oi := { dst := some 118, op := Op.move (Operand.tmp 9), type := 4, pos := "laws.go:358", after := #[], guard := none }) (v := ?_) rfl (by kernel_rfl) (by kernel_rfl) (by kernel_rfl) (fun _ _ _ h => h) (Or.inl ⟨by rfl, ?_⟩) (by assumption) ?_
      rotate_left 1
      · (intro wq hSw; (try dsimp only at hSw); go_simp; try with_reducible rfl)
      try simp only [Act.put, List.setIfInBounds_toArray, List.set_cons_zero, List.set_cons_succ]
      refine wpAnyH_take (i := 1) (oi := { dst := some 119, op := Op.move (Operand.tmp 118), type := 4, pos := "laws.go:358", after := #[{ on := 0, ground := Ground.data }], guard := none }) (v := ?_) rfl (by kernel_rfl) (by kernel_rfl) (by kernel_rfl) (fun _ _ _ h => h) (Or.inl ⟨by rfl, ?_⟩) (by assumption) ?_
      rotate_left 1
      · (intro wq hSw; (try dsimp only at hSw); go_simp; try with_reducible rfl)
      try simp only [Act.put, List.setIfInBounds_toArray, List.set_cons_zero, List.set_cons_succ]
      refine wpAnyH_take (i := 2) (oi := { dst := some 120, op := Op.load 40 (Operand.tmp 7), type := 40, pos := "laws.go:358", after := #[{ on := 1, ground := Ground.guard }], guard := some (1, true) }) (v := undef) rfl (by kernel_rfl) (by kernel_rfl) (by kernel_rfl) (fun _ _ _ h => h) (Or.inr ⟨by rfl, rfl⟩) (by assumption) ?_
      try simp only [Act.put, List.setIfInBounds_toArray, List.set_cons_zero, List.set_cons_succ]
      refine wpAnyH_take (i := 3) (oi := { dst := some 121, op := Op.call { callee := Callee.value (Operand.func 26), args := #[Operand.tmp 120], argTypes := #[40] }, type := 22, pos := "laws.go:358", after := #[{ on := 2, ground := Ground.data }, { on := 1, ground := Ground.chain }, { on := 1, ground := Ground.guard }], guard := some (1, true) }) (v := undef) rfl (by kernel_rfl) (by kernel_rfl) (by kernel_rfl) (fun _ _ _ h => h) (Or.inr ⟨by rfl, rfl⟩) (by assumption) ?_
      try simp only [Act.put, List.setIfInBounds_toArray, List.set_cons_zero, List.set_cons_succ]
      refine wpAnyH_take (i := 4) (oi := { dst := some 122, op := Op.convert 22 9 (Operand.tmp 121), type := 9, pos := "laws.go:358", after := #[{ on := 3, ground := Ground.data }, { on := 1, ground := Ground.guard }], guard := some (1, true) }) (v := undef) rfl (by kernel_rfl) (by kernel_rfl) (by kernel_rfl) (fun _ _ _ h => h) (Or.inr ⟨by rfl, rfl⟩) (by assumption) ?_
      try simp only [Act.put, List.setIfInBounds_toArray, List.set_cons_zero, List.set_cons_succ]
      refine wpAnyH_take (i := 5) (oi := { dst := some 123, op := Op.move (Operand.tmp 5), type := 22, pos := "laws.go:358", after := #[{ on := 1, ground := Ground.guard }], guard := some (1, true) }) (v := undef) rfl (by kernel_rfl) (by kernel_rfl) (by kernel_rfl) (fun _ _ _ h => h) (Or.inr ⟨by rfl, rfl⟩) (by assumption) ?_
      try simp only [Act.put, List.setIfInBounds_toArray, List.set_cons_zero, List.set_cons_succ]
      refine wpAnyH_take (i := 6) (oi := { dst := some 124, op := Op.move (Operand.tmp 6), type := 3, pos := "laws.go:358", after := #[{ on := 1, ground := Ground.guard }], guard := some (1, true) }) (v := undef) rfl (by kernel_rfl) (by kernel_rfl) (by kernel_rfl) (fun _ _ _ h => h) (Or.inr ⟨by rfl, rfl⟩) (by assumption) ?_
      try simp only [Act.put, List.setIfInBounds_toArray, List.set_cons_zero, List.set_cons_succ]
      refine wpAnyH_take (i := 7) (oi := { dst := some 125, op := Op.move (Operand.tmp 8), type := 3, pos := "laws.go:358", after := #[{ on := 1, ground := Ground.guard }], guard := some (1, true) }) (v := undef) rfl (by kernel_rfl) (by kernel_rfl) (by kernel_rfl) (fun _ _ _ h => h) (Or.inr ⟨by rfl, rfl⟩) (by assumption) ?_
      try simp only [Act.put, List.setIfInBounds_toArray, List.set_cons_zero, List.set_cons_succ]
      refine wpAnyH_take (i := 8) (oi := { dst := some 126, op := Op.slice 22 (Operand.tmp 123) (some (Operand.tmp 124)) (some (Operand.tmp 125)) none, type := 22, pos := "laws.go:358", after := #[{ on := 5, ground := Ground.data }, { on := 6, ground := Ground.data }, { on := 7, ground := Ground.data }, { on := 1, ground := Ground.guard }], guard := some (1, true) }) (v := undef) rfl (by kernel_rfl) (by kernel_rfl) (by kernel_rfl) (fun _ _ _ h => h) (Or.inr ⟨by rfl, rfl⟩) (by assumption) ?_
      try simp only [Act.put, List.setIfInBounds_toArray, List.set_cons_zero, List.set_cons_succ]
      refine wpAnyH_take (i := 9) (oi := { dst := some 127, op := Op.convert 22 9 (Operand.tmp 126), type := 9, pos := "laws.go:358", after := #[{ on := 8, ground := Ground.data }, { on := 1, ground := Ground.guard }], guard := some (1, true) }) (v := undef) rfl (by kernel_rfl) (by kernel_rfl) (by kernel_rfl) (fun _ _ _ h => h) (Or.inr ⟨by rfl, rfl⟩) (by assumption) ?_
      try simp only [Act.put, List.setIfInBounds_toArray, List.set_cons_zero, List.set_cons_succ]
      refine wpAnyH_take (i := 10) (oi := { dst := some 128, op := Op.binOp BinOp.neq 9 (Operand.tmp 122) (Operand.tmp 127) 9, type := 4, pos := "laws.go:358", after := #[{ on := 4, ground := Ground.data }, { on := 9, ground := Ground.data }, { on := 1, ground := Ground.guard }], guard := some (1, true) }) (v := undef) rfl (by kernel_rfl) (by kernel_rfl) (by kernel_rfl) (fun _ _ _ h => h) (Or.inr ⟨by rfl, rfl⟩) (by assumption) ?_
      try simp only [Act.put, List.setIfInBounds_toArray, List.set_cons_zero, List.set_cons_succ]
      refine wpAnyH_take (i := 11) (oi := { dst := some 129, op := Op.pick (Operand.tmp 119) (Operand.tmp 128) (Operand.const (Value.bool false)), type := 4, pos := "laws.go:358", after := #[{ on := 1, ground := Ground.data }, { on := 10, ground := Ground.data }], guard := none }) (v := ?_) rfl (by kernel_rfl) (by kernel_rfl) (by kernel_rfl) (fun _ _ _ h => h) (Or.inl ⟨by rfl, ?_⟩) (by assumption) ?_
      rotate_left 1
      · (intro wq hSw; (try dsimp only at hSw); go_simp; try with_reducible rfl)
      try simp only [Act.put, List.setIfInBounds_toArray, List.set_cons_zero, List.set_cons_succ]
      refine wpAnyH_take (i := 12) (oi := { dst := some 130, op := Op.move (Operand.tmp 129), type := 4, pos := "laws.go:358", after := #[{ on := 11, ground := Ground.data }, { on := 3, ground := Ground.chain }], guard := none }) (v := ?_) rfl (by kernel_rfl) (by kernel_rfl) (by kernel_rfl) (fun _ _ _ h => h) (Or.inl ⟨by rfl, ?_⟩) (by assumption) ?_
      rotate_left 1
      · (intro wq hSw; (try dsimp only at hSw); go_simp; try with_reducible rfl)
      try simp only [Act.put, List.setIfInBounds_toArray, List.set_cons_zero, List.set_cons_succ]
      cases fine
      ·
        refine wpAnyH_take (i := 13) (oi := { dst := some 131, op := Op.move (Operand.tmp 18), type := 4, pos := "laws.go:358", after := #[{ on := 12, ground := Ground.guard }], guard := some (12, false) }) (v := ?_) rfl (by kernel_rfl) (by kernel_rfl) (by kernel_rfl) (fun _ _ _ h => h) (Or.inl ⟨by rfl, ?_⟩) (by assumption) ?_
        rotate_left 1
        · (intro wq hSw; (try dsimp only at hSw); go_simp; try with_reducible rfl)
        try simp only [Act.put, List.setIfInBounds_toArray, List.set_cons_zero, List.set_cons_succ]
        refine wpAnyH_take (i := 14) (oi := { dst := some 132, op := Op.move (Operand.tmp 131), type := 4, pos := "laws.go:358", after := #[{ on := 13, ground := Ground.data }, { on := 12, ground := Ground.chain }, { on := 12, ground := Ground.guard }], guard := some (12, false) }) (v := ?_) rfl (by kernel_rfl) (by kernel_rfl) (by kernel_rfl) (fun _ _ _ h => h) (Or.inl ⟨by rfl, ?_⟩) (by assumption) ?_
        rotate_left 1
        · (intro wq hSw; (try dsimp only at hSw); go_simp; try with_reducible rfl)
        try simp only [Act.put, List.setIfInBounds_toArray, List.set_cons_zero, List.set_cons_succ]
        refine wpAnyH_take (i := 15) (oi := { dst := some 133, op := Op.move (Operand.tmp 17), type := 47, pos := "laws.go:358", after := #[{ on := 14, ground := Ground.guard }], guard := some (14, true) }) (v := undef) rfl (by kernel_rfl) (by kernel_rfl) (by kernel_rfl) (fun _ _ _ h => h) (Or.inr ⟨by rfl, rfl⟩) (by assumption) ?_
        try simp only [Act.put, List.setIfInBounds_toArray, List.set_cons_zero, List.set_cons_succ]
        refine wpAnyH_take (i := 16) (oi := { dst := some 134, op := Op.call { callee := Callee.value (Operand.func 32), args := #[Operand.tmp 133], argTypes := #[47] }, type := 22, pos := "laws.go:358", after := #[{ on := 15, ground := Ground.data }, { on := 14, ground := Ground.chain }, { on := 14, ground := Ground.guard }], guard := some (14, true) }) (v := undef) rfl (by kernel_rfl) (by kernel_rfl) (by kernel_rfl) (fun _ _ _ h => h) (Or.inr ⟨by rfl, rfl⟩) (by assumption) ?_
        try simp only [Act.put, List.setIfInBounds_toArray, List.set_cons_zero, List.set_cons_succ]
        refine wpAnyH_take (i := 17) (oi := { dst := some 135, op := Op.convert 22 9 (Operand.tmp 134), type := 9, pos := "laws.go:358", after := #[{ on := 16, ground := Ground.data }, { on := 14, ground := Ground.guard }], guard := some (14, true) }) (v := undef) rfl (by kernel_rfl) (by kernel_rfl) (by kernel_rfl) (fun _ _ _ h => h) (Or.inr ⟨by rfl, rfl⟩) (by assumption) ?_
        try simp only [Act.put, List.setIfInBounds_toArray, List.set_cons_zero, List.set_cons_succ]
        refine wpAnyH_take (i := 18) (oi := { dst := some 136, op := Op.move (Operand.tmp 16), type := 22, pos := "laws.go:358", after := #[{ on := 14, ground := Ground.guard }], guard := some (14, true) }) (v := undef) rfl (by kernel_rfl) (by kernel_rfl) (by kernel_rfl) (fun _ _ _ h => h) (Or.inr ⟨by rfl, rfl⟩) (by assumption) ?_
        try simp only [Act.put, List.setIfInBounds_toArray, List.set_cons_zero, List.set_cons_succ]
        refine wpAnyH_take (i := 19) (oi := { dst := some 137, op := Op.convert 22 9 (Operand.tmp 136), type := 9, pos := "laws.go:358", after := #[{ on := 18, ground := Ground.data }, { on := 14, ground := Ground.guard }], guard := some (14, true) }) (v := undef) rfl (by kernel_rfl) (by kernel_rfl) (by kernel_rfl) (fun _ _ _ h => h) (Or.inr ⟨by rfl, rfl⟩) (by assumption) ?_
        try simp only [Act.put, List.setIfInBounds_toArray, List.set_cons_zero, List.set_cons_succ]
        refine wpAnyH_take (i := 20) (oi := { dst := some 138, op := Op.binOp BinOp.neq 9 (Operand.tmp 135) (Operand.tmp 137) 9, type := 4, pos := "laws.go:358", after := #[{ on := 17, ground := Ground.data }, { on := 19, ground := Ground.data }, { on := 14, ground := Ground.guard }], guard := some (14, true) }) (v := undef) rfl (by kernel_rfl) (by kernel_rfl) (by kernel_rfl) (fun _ _ _ h => h) (Or.inr ⟨by rfl, rfl⟩) (by assumption) ?_
        try simp only [Act.put, List.setIfInBounds_toArray, List.set_cons_zero, List.set_cons_succ]
        refine wpAnyH_take (i := 21) (oi := { dst := some 139, op := Op.pick (Operand.tmp 132) (Operand.tmp 138) (Operand.const (Value.bool false)), type := 4, pos := "laws.go:358", after := #[{ on := 14, ground := Ground.data }, { on := 20, ground := Ground.data }, { on := 12, ground := Ground.guard }], guard := some (12, false) }) (v := ?_) rfl (by kernel_rfl) (by kernel_rfl) (by kernel_rfl) (fun _ _ _ h => h) (Or.inl ⟨by rfl, ?_⟩) (by assumption) ?_
        rotate_left 1
        · (intro wq hSw; (try dsimp only at hSw); go_simp; try with_reducible rfl)
        try simp only [Act.put, List.setIfInBounds_toArray, List.set_cons_zero, List.set_cons_succ]
        refine wpAnyH_take (i := 22) (oi := { dst := some 140, op := Op.pick (Operand.tmp 130) (Operand.const (Value.bool true)) (Operand.tmp 139), type := 4, pos := "laws.go:358", after := #[{ on := 12, ground := Ground.data }, { on := 21, ground := Ground.data }], guard := none }) (v := ?_) rfl (by kernel_rfl) (by kernel_rfl) (by kernel_rfl) (fun _ _ _ h => h) (Or.inl ⟨by rfl, ?_⟩) (by assumption) ?_
        rotate_left 1
        · (intro wq hSw; (try dsimp only at hSw); go_simp; try with_reducible rfl)
        try simp only [Act.put, List.setIfInBounds_toArray, List.set_cons_zero, List.set_cons_succ]
        refine wpAnyH_done (by kernel_rfl) ?_ _
        have HT := H17
        clear H17
        generalize w16.drew = w19 at *
        clear HIB HIP HS16 HSX
        go_wp2_with fail
        go_loopw [21, 22] (fun al i wr => ∃ (j : Nat) (ba : Bool), j ≤ k ∧ i = .int .i64 j ∧ al = .bool ba ∧ Hid (ba = true → ∀ t, t < j → MgOk (M t)) ∧ Hid (ZB w wr ∧ VM wr X1 m mo mc ∧ VB wr bo (mby m) ∧ VB wr xo X ∧ VM wr X4 r ro rc ∧ VM wr X6 q qo qc ∧ ML wr lo k M ∧ VB wr po (pck M k) ∧ VB wr yo Y ∧ ML wr uo ku U)) (fun _ i _ => k - (intOf i).toNat)
        case atStart => exact ⟨0, true, by omega, rfl, rfl, fun _ t ht => absurd ht (by omega), HT.out⟩
        case round =>
          obtain ⟨j, ba, hj, rfl, rfl, HA, HI⟩ := hrel
          clear HT
          by_cases hlt : j < k
          · cases ba
            · go_wp2_with fail
              go_roundw
              case rel => exact ⟨j + 1, false, by omega, by go_num, rfl, (fun h => by cases h), HI.out⟩
              case measure => simp [intOf]; omega
            · obtain ⟨b, off, hlo, ro', rc', hrc', hsl', c0, c1, c2, c3, c4⟩ := HI.out.2.2.2.2.2.2.1 j hlt
              subst hlo
              have hgl := HML.out j hlt
              obtain ⟨mm, hmm⟩ : ∃ mm, mm = M j := ⟨_, rfl⟩
              rw [← hmm] at hgl hrc' hsl' c0 c1 c2 c3 c4
              have HMM := hide hmm
              have HSL := hide hsl'
              clear hmm hsl'
              go_wp2_with fail
              refine (msgok_impl ro' mm.g.length rc' _ mm.k mm.c mm.v mm.h wr (by omega) hrc' HSL.out).mono ?_
              rintro e w20 ht
              obtain ⟨bz, rfl, hbz, hb20⟩ := mg_tells (m := mm) ht
              have HI2 : Hid (ZB w w20 ∧ VM w20 X1 m mo mc ∧ VB w20 bo (mby m) ∧ VB w20 xo X ∧ VM w20 X4 r ro rc ∧ VM w20 X6 q qo qc ∧ ML w20 (some ⟨b, off, none⟩) k M ∧ VB w20 po (pck M k) ∧ VB w20 yo Y ∧ ML w20 uo ku U) := ⟨HI.out.1.st hb20, HI.out.2.1.st hb20, HI.out.2.2.1.st hb20, HI.out.2.2.2.1.st hb20, HI.out.2.2.2.2.1.st hb20, HI.out.2.2.2.2.2.1.st hb20, HI.out.2.2.2.2.2.2.1.st hb20, HI.out.2.2.2.2.2.2.2.1.st hb20, HI.out.2.2.2.2.2.2.2.2.1.st hb20, HI.out.2.2.2.2.2.2.2.2.2.st hb20⟩
              have HBZ := hide hbz
              clear ht hb20 hbz HI c0 c1 c2 c3 c4 HSL
              go_wp2_with fail
              go_roundw
              case rel =>
                refine ⟨j + 1, bz, by omega, by go_num, rfl, fun h t ht => ?_, HI2.out⟩
                by_cases e : t = j
                · rw [e, ← HMM.out]; exact HBZ.out.1 h
                · exact HA.out (by simp) t (by omega)
              case measure => simp [intOf]; omega
          · obtain rfl : j = k := by omega
            cases ba
            · clear HA
              have H29 : Hid (ZB w wr ∧ VM wr X1 m mo mc ∧ VB wr bo (mby m)) := ⟨HI.out.1, HI.out.2.1, HI.out.2.2.1⟩
              clear HI
              obtain ⟨e0, e1, e2, e3, e4⟩ := H29.out.2.1.1.cells
              go_wp2_with fail
              refine (msgok_impl mo m.g.length mc _ m.k m.c m.v m.h wr (by omega) H29.out.2.1.2.1 H29.out.2.1.2.2).mono ?_
              rintro e w30 ht
              obtain ⟨bz, rfl, hbz, hb30⟩ := mg_tells (m := m) ht
              have H30 : Hid (ZB w w30 ∧ VM w30 X1 m mo mc ∧ VB w30 bo (mby m)) := ⟨H29.out.1.st hb30, H29.out.2.1.st hb30, H29.out.2.2.st hb30⟩
              have HBM := hide hbz
              clear ht hb30 hbz H29 e0 e1 e2 e3 e4
              cases bz
              · have h0 : (mby m).length = 0 := mby_no (fun h => by have := HBM.out.2 h; cases this)
                go_wp2_with fail
                go_ret
                exact ⟨rfl, H30.out.1⟩
              · have hok : MgOk m := HBM.out.1 rfl
                have hpos : 0 < (mby m).length := mb_pos hok
                have hbk := hide (mof_back m hok w30 bo bc hbc H30.out.2.2)
                have HOK := hide hok
                clear hok HBM
                go_wp2_with fail
                refine hbk.out.mono ?_
                rintro e w31 ⟨r2o, r2c, rfl, hr2c, hr2s, b31⟩
                have H31 : Hid (ZB w (w31.alloc (.cells #[.int .i64 m.k, .int .i64 m.c, .int .i64 m.v, .int .i64 m.h, .slice r2o m.g.length r2c] 40)) ∧ VM (w31.alloc (.cells #[.int .i64 m.k, .int .i64 m.c, .int .i64 m.v, .int .i64 m.h, .slice r2o m.g.length r2c] 40)) X1 m mo mc ∧ VB (w31.alloc (.cells #[.int .i64 m.k, .int .i64 m.c, .int .i64 m.v, .int .i64 m.h, .slice r2o m.g.length r2c] 40)) bo (mby m) ∧ VM (w31.alloc (.cells #[.int .i64 m.k, .int .i64 m.c, .int .i64 m.v, .int .i64 m.h, .slice r2o m.g.length r2c] 40)) w31.heap.size m r2o r2c) := ⟨H30.out.1.st (b31.trans ((zal1 w31 (.cells #[.int .i64 m.k, .int .i64 m.c, .int .i64 m.v, .int .i64 m.h, .slice r2o m.g.length r2c] 40)).mono b31.size)), H30.out.2.1.st (b31.trans ((zal1 w31 (.cells #[.int .i64 m.k, .int .i64 m.c, .int .i64 m.v, .int .i64 m.h, .slice r2o m.g.length r2c] 40)).mono b31.size)), H30.out.2.2.st (b31.trans ((zal1 w31 (.cells #[.int .i64 m.k, .int .i64 m.c, .int .i64 m.v, .int .i64 m.h, .slice r2o m.g.length r2c] 40)).mono b31.size)), ⟨MB.new w31 _ _ _ _ _ _ _ _, hr2c, hr2s.below (zal1 _ _)⟩⟩
                clear hbk b31 hr2s hr2c H30
                go_wp2_with fail
                generalize w31.alloc (.cells #[.int .i64 m.k, .int .i64 m.c, .int .i64 m.v, .int .i64 m.h, .slice r2o m.g.length r2c] 40) = W31 at *
                generalize w31.heap.size = X31 at *
                refine (mof_short m HOK.out W31 bo bc hbc H31.out.2.2.1).mono ?_
                rintro e w32 ⟨rfl, b32⟩
                have H32 : Hid (ZB w w32 ∧ VM w32 X1 m mo mc ∧ VM w32 X31 m r2o r2c) := ⟨H31.out.1.st b32, H31.out.2.1.st b32, H31.out.2.2.2.st b32⟩
                clear b32 H31
                obtain ⟨e0, e1, e2, e3, e4⟩ := H32.out.2.1.1.cells
                obtain ⟨d0, d1, d2, d3, d4⟩ := H32.out.2.2.1.cells
                have l1 := H32.out.2.1.1.lt
                have l2 := H32.out.2.2.1.lt
                go_wp2_with fail
                refine (smsg_yes m r2o mo r2c mc _ (by omega) (H32.out.2.2.2.2.below (zal1 w32 (.cells #[.int .i64 0, .int .i64 0, .int .i64 0, .int .i64 0, .slice none 0 0] 40))) (H32.out.2.1.2.2.below (zal1 w32 (.cells #[.int .i64 0, .int .i64 0, .int .i64 0, .int .i64 0, .slice none 0 0] 40)))).mono ?_
                rintro e w33 ⟨rfl, b33⟩
                go_wp2_with fail
                go_ret
                exact ⟨rfl, (H32.out.1.st (zal1 w32 (.cells #[.int .i64 0, .int .i64 0, .int .i64 0, .int .i64 0, .slice none 0 0] 40))).st b33⟩
            · have hun := hide (unp_back M j (by omega) (HA.out rfl) wr po pc (by have := pck_le M j; omega) HI.out.2.2.2.2.2.2.2.1)
              go_wp2_with fail
              refine hun.out.mono ?_
              rintro e w21 ⟨zo, zc, rfl, hmz, b21⟩
              have HJ : Hid ((ZB w w21 ∧ VM w21 X1 m mo mc ∧ VB w21 bo (mby m) ∧ VB w21 xo X ∧ VM w21 X4 r ro rc ∧ VM w21 X6 q qo qc ∧ ML w21 lo j M ∧ VB w21 po (pck M j) ∧ VB w21 yo Y ∧ ML w21 uo ku U) ∧ ML w21 zo j M) := ⟨⟨HI.out.1.st b21, HI.out.2.1.st b21, HI.out.2.2.1.st b21, HI.out.2.2.2.1.st b21, HI.out.2.2.2.2.1.st b21, HI.out.2.2.2.2.2.1.st b21, HI.out.2.2.2.2.2.2.1.st b21, HI.out.2.2.2.2.2.2.2.1.st b21, HI.out.2.2.2.2.2.2.2.2.1.st b21, HI.out.2.2.2.2.2.2.2.2.2.st b21⟩, hmz⟩
              clear hun hmz b21 HI HA
              go_wp2_with fail
              go_loopw [25] (fun i wr => ∃ t : Nat, t ≤ j ∧ i = .int .i64 t ∧ Hid ((ZB w wr ∧ VM wr X1 m mo mc ∧ VB wr bo (mby m) ∧ VB wr xo X ∧ VM wr X4 r ro rc ∧ VM wr X6 q qo qc ∧ ML wr lo j M ∧ VB wr po (pck M j) ∧ VB wr yo Y ∧ ML wr uo ku U) ∧ ML wr zo j M)) (fun i _ => j - (intOf i).toNat)
              case atStart => exact ⟨0, by omega, rfl, HJ.out⟩
              case round =>
                obtain ⟨t, htj, rfl, HI⟩ := hrel
                clear HJ
                by_cases hlt : t < j
                · have H29 : Hid ((ZB w wr.drew ∧ VM wr.drew X1 m mo mc ∧ VB wr.drew bo (mby m) ∧ VB wr.drew xo X ∧ VM wr.drew X4 r ro rc ∧ VM wr.drew X6 q qo qc ∧ ML wr.drew lo j M ∧ VB wr.drew po (pck M j) ∧ VB wr.drew yo Y ∧ ML wr.drew uo ku U) ∧ ML wr.drew zo j M) := ⟨⟨HI.out.1.1.st (Below.drawn (Below.refl wr.heap.size wr) 1), HI.out.1.2.1.st (Below.drawn (Below.refl wr.heap.size wr) 1), HI.out.1.2.2.1.st (Below.drawn (Below.refl wr.heap.size wr) 1), HI.out.1.2.2.2.1.st (Below.drawn (Below.refl wr.heap.size wr) 1), HI.out.1.2.2.2.2.1.st (Below.drawn (Below.refl wr.heap.size wr) 1), HI.out.1.2.2.2.2.2.1.st (Below.drawn (Below.refl wr.heap.size wr) 1), HI.out.1.2.2.2.2.2.2.1.st (Below.drawn (Below.refl wr.heap.size wr) 1), HI.out.1.2.2.2.2.2.2.2.1.st (Below.drawn (Below.refl wr.heap.size wr) 1), HI.out.1.2.2.2.2.2.2.2.2.1.st (Below.drawn (Below.refl wr.heap.size wr) 1), HI.out.1.2.2.2.2.2.2.2.2.2.st (Below.drawn (Below.refl wr.heap.size wr) 1)⟩, HI.out.2.st (Below.drawn (Below.refl wr.heap.size wr) 1)⟩
                  clear HI
                  obtain ⟨b, off, hlo, ro', rc', hrc', hsl', c⟩ := H29.out.1.2.2.2.2.2.2.1 t hlt
                  obtain ⟨b', off', hzo, so', sc', hsc', hsl2, d⟩ := H29.out.2 t hlt
                  have hgl := HML.out t hlt
                  generalize M t = mm at hrc' hsl' c hsc' hsl2 d hgl
                  have HC := hide c
                  have HD := hide d
                  have hA := hide hsl'
                  have hB := hide hsl2
                  clear c d hsl' hsl2
                  subst hlo
                  subst hzo
                  go_wp2_with fail
                  have hS3 : (wr.drew.cell? ⟨b, off + t * 5, none⟩ = some (.int .i64 mm.k) ∧ wr.drew.cell? ⟨b, off + t * 5 + 1, none⟩ = some (.int .i64 mm.c) ∧ wr.drew.cell? ⟨b, off + t * 5 + 2, none⟩ = some (.int .i64 mm.v) ∧ wr.drew.cell? ⟨b, off + t * 5 + 3, none⟩ = some (.int .i64 mm.h) ∧ wr.drew.cell? ⟨b, off + t * 5 + 4, none⟩ = some (.slice ro' mm.g.length rc')) ∧ (wr.drew.cell? ⟨b', off' + t * 5, none⟩ = some (.int .i64 mm.k) ∧ wr.drew.cell? ⟨b', off' + t * 5 + 1, none⟩ = some (.int .i64 mm.c) ∧ wr.drew.cell? ⟨b', off' + t * 5 + 2, none⟩ = some (.int .i64 mm.v) ∧ wr.drew.cell? ⟨b', off' + t * 5 + 3, none⟩ = some (.int .i64 mm.h) ∧ wr.drew.cell? ⟨b', off' + t * 5 + 4, none⟩ = some (.slice so' mm.g.length sc')) := ⟨HC.out, HD.out⟩
                  refine wp_region_held_drew (S := (fun w' => (w'.cell? ⟨b, off + t * 5, none⟩ = some (.int .i64 mm.k) ∧ w'.cell? ⟨b, off + t * 5 + 1, none⟩ = some (.int .i64 mm.c) ∧ w'.cell? ⟨b, off + t * 5 + 2, none⟩ = some (.int .i64 mm.v) ∧ w'.cell? ⟨b, off + t * 5 + 3, none⟩ = some (.int .i64 mm.h) ∧ w'.cell? ⟨b, off + t * 5 + 4, none⟩ = some (.slice ro' mm.g.length rc')) ∧ (w'.cell? ⟨b', off' + t * 5, none⟩ = some (.int .i64 mm.k) ∧ w'.cell? ⟨b', off' + t * 5 + 1, none⟩ = some (.int .i64 mm.c) ∧ w'.cell? ⟨b', off' + t * 5 + 2, none⟩ = some (.int .i64 mm.v) ∧ w'.cell? ⟨b', off' + t * 5 + 3, none⟩ = some (.int .i64 mm.h) ∧ w'.cell? ⟨b', off' + t * 5 + 4, none⟩ = some (.slice so' mm.g.length sc')))) (by kernel_rfl) ?_ (fun hHeld => ?_)
                  · exact hS3
                  refine wpAnyH_take (i := 0) (oi := { dst := some 176, op := Op.move (Operand.tmp 23), type := 47, pos := "laws.go:371", after := #[], guard := none }) (v := ?_) rfl (by kernel_rfl) (by kernel_rfl) (by kernel_rfl) (fun _ _ _ h => h) (Or.inl ⟨by rfl, ?_⟩) (by assumption) ?_
                  rotate_left 1
                  · (intro wq hSw; (try dsimp only at hSw); go_simp; try with_reducible rfl)
                  try simp only [Act.put, List.setIfInBounds_toArray, List.set_cons_zero, List.set_cons_succ]
                  refine wpAnyH_take (i := 1) (oi := { dst := some 177, op := Op.move (Operand.tmp 25), type := 3, pos := "laws.go:371", after := #[], guard := none }) (v := ?_) rfl (by kernel_rfl) (by kernel_rfl) (by kernel_rfl) (fun _ _ _ h => h) (Or.inl ⟨by rfl, ?_⟩) (by assumption) ?_
                  rotate_left 1
                  · (intro wq hSw; (try dsimp only at hSw); go_simp; try with_reducible rfl)
                  try simp only [Act.put, List.setIfInBounds_toArray, List.set_cons_zero, List.set_cons_succ]
                  refine wpAnyH_take (i := 2) (oi := { dst := some 178, op := Op.indexAddr 47 (Operand.tmp 176) (Operand.tmp 177), type := 0, pos := "laws.go:371", after := #[{ on := 0, ground := Ground.data }, { on := 1, ground := Ground.data }], guard := none }) (v := ?_) rfl (by kernel_rfl) (by kernel_rfl) (by kernel_rfl) (fun _ _ _ h => h) (Or.inl ⟨by rfl, ?_⟩) (by assumption) ?_
                  rotate_left 1
                  · (intro wq hSw; (try dsimp only at hSw); go_simp; try with_reducible rfl)
                  try simp only [Act.put, List.setIfInBounds_toArray, List.set_cons_zero, List.set_cons_succ]
                  refine wpAnyH_take (i := 3) (oi := { dst := some 179, op := Op.load 40 (Operand.tmp 178), type := 40, pos := "laws.go:371", after := #[{ on := 2, ground := Ground.data }], guard := none }) (v := ?_) rfl (by kernel_rfl) (by kernel_rfl) (by kernel_rfl) (fun _ _ _ h => h) (Or.inl ⟨by rfl, ?_⟩) (by assumption) ?_
                  rotate_left 1
                  · (intro wq hSw; (try dsimp only at hSw); go_simp; try with_reducible rfl)
                  try simp only [Act.put, List.setIfInBounds_toArray, List.set_cons_zero, List.set_cons_succ]
                  refine wpAnyH_take (i := 4) (oi := { dst := some 180, op := Op.move (Operand.tmp 14), type := 47, pos := "laws.go:371", after := #[], guard := none }) (v := ?_) rfl (by kernel_rfl) (by kernel_rfl) (by kernel_rfl) (fun _ _ _ h => h) (Or.inl ⟨by rfl, ?_⟩) (by assumption) ?_
                  rotate_left 1
                  · (intro wq hSw; (try dsimp only at hSw); go_simp; try with_reducible rfl)
                  try simp only [Act.put, List.setIfInBounds_toArray, List.set_cons_zero, List.set_cons_succ]
                  refine wpAnyH_take (i := 5) (oi := { dst := some 181, op := Op.move (Operand.tmp 25), type := 3, pos := "laws.go:371", after := #[], guard := none }) (v := ?_) rfl (by kernel_rfl) (by kernel_rfl) (by kernel_rfl) (fun _ _ _ h => h) (Or.inl ⟨by rfl, ?_⟩) (by assumption) ?_
                  rotate_left 1
                  · (intro wq hSw; (try dsimp only at hSw); go_simp; try with_reducible rfl)
                  try simp only [Act.put, List.setIfInBounds_toArray, List.set_cons_zero, List.set_cons_succ]
                  refine wpAnyH_take (i := 6) (oi := { dst := some 182, op := Op.indexAddr 47 (Operand.tmp 180) (Operand.tmp 181), type := 0, pos := "laws.go:371", after := #[{ on := 4, ground := Ground.data }, { on := 5, ground := Ground.data }], guard := none }) (v := ?_) rfl (by kernel_rfl) (by kernel_rfl) (by kernel_rfl) (fun _ _ _ h => h) (Or.inl ⟨by rfl, ?_⟩) (by assumption) ?_
                  rotate_left 1
                  · (intro wq hSw; (try dsimp only at hSw); go_simp; try with_reducible rfl)
                  try simp only [Act.put, List.setIfInBounds_toArray, List.set_cons_zero, List.set_cons_succ]
                  refine wpAnyH_take (i := 7) (oi := { dst := some 183, op := Op.load 40 (Operand.tmp 182), type := 40, pos := "laws.go:371", after := #[{ on := 6, ground := Ground.data }], guard := none }) (v := ?_) rfl (by kernel_rfl) (by kernel_rfl) (by kernel_rfl) (fun _ _ _ h => h) (Or.inl ⟨by rfl, ?_⟩) (by assumption) ?_
                  rotate_left 1
                  · (intro wq hSw; (try dsimp only at hSw); go_simp; try with_reducible rfl)
                  try simp only [Act.put, List.setIfInBounds_toArray, List.set_cons_zero, List.set_cons_succ]
                  refine wpAnyH_ready (rs := [8]) (by kernel_rfl) (by simp) ?_
                  refine AllReadyH.cons (o := { dst := some 184, op := Op.call { callee := Callee.value (Operand.func 40), args := #[Operand.tmp 179, Operand.tmp 183], argTypes := #[40, 40] }, type := 4, pos := "laws.go:371", after := #[{ on := 3, ground := Ground.data }, { on := 7, ground := Ground.data }], guard := none }) rfl (fun K hK => ?_) AllReadyH.nil
                  go_simp
                  refine (smsg_yes mm so' ro' sc' rc' _ (by omega) hB.out hA.out).mono ?_
                  rintro e w22 ⟨rfl, hb22⟩
                  have H22 := hide (And.intro (⟨H29.out.1.1.st hb22, H29.out.1.2.1.st hb22, H29.out.1.2.2.1.st hb22, H29.out.1.2.2.2.1.st hb22, H29.out.1.2.2.2.2.1.st hb22, H29.out.1.2.2.2.2.2.1.st hb22, H29.out.1.2.2.2.2.2.2.1.st hb22, H29.out.1.2.2.2.2.2.2.2.1.st hb22, H29.out.1.2.2.2.2.2.2.2.2.1.st hb22, H29.out.1.2.2.2.2.2.2.2.2.2.st hb22⟩ : ZB w w22 ∧ VM w22 X1 m mo mc ∧ VB w22 bo (mby m) ∧ VB w22 xo X ∧ VM w22 X4 r ro rc ∧ VM w22 X6 q qo qc ∧ ML w22 (some ⟨b, off, none⟩) j M ∧ VB w22 po (pck M j) ∧ VB w22 yo Y ∧ ML w22 uo ku U) (H29.out.2.st hb22))
                  have hk22 : (w22.cell? ⟨b, off + t * 5, none⟩ = some (.int .i64 mm.k) ∧ w22.cell? ⟨b, off + t * 5 + 1, none⟩ = some (.int .i64 mm.c) ∧ w22.cell? ⟨b, off + t * 5 + 2, none⟩ = some (.int .i64 mm.v) ∧ w22.cell? ⟨b, off + t * 5 + 3, none⟩ = some (.int .i64 mm.h) ∧ w22.cell? ⟨b, off + t * 5 + 4, none⟩ = some (.slice ro' mm.g.length rc')) ∧ (w22.cell? ⟨b', off' + t * 5, none⟩ = some (.int .i64 mm.k) ∧ w22.cell? ⟨b', off' + t * 5 + 1, none⟩ = some (.int .i64 mm.c) ∧ w22.cell? ⟨b', off' + t * 5 + 2, none⟩ = some (.int .i64 mm.v) ∧ w22.cell? ⟨b', off' + t * 5 + 3, none⟩ = some (.int .i64 mm.h) ∧ w22.cell? ⟨b', off' + t * 5 + 4, none⟩ = some (.slice so' mm.g.length sc')) := ⟨five_below HC.out hb22, five_below HD.out hb22⟩
                  clear hb22
                  go_wp2_with fail
                  refine hK.out _ _ ?_ (fun hHeld => ?_)
                  · exact hk22
                  clear hK K
                  try simp only [Act.put, List.setIfInBounds_toArray, List.set_cons_zero, List.set_cons_succ]
                  refine wpAnyH_take (i := 9) (oi := { dst := some 185, op := Op.unOp UnOp.not 4 (Operand.tmp 184), type := 4, pos := "laws.go:371", after := #[{ on := 8, ground := Ground.data }], guard := none }) (v := ?_) rfl (by kernel_rfl) (by kernel_rfl) (by kernel_rfl) (fun _ _ _ h => h) (Or.inl ⟨by rfl, ?_⟩) (by assumption) ?_
                  rotate_left 1
                  · (intro wq hSw; (try dsimp only at hSw); go_simp; try with_reducible rfl)
                  try simp only [Act.put, List.setIfInBounds_toArray, List.set_cons_zero, List.set_cons_succ]
                  refine wpAnyH_done (by kernel_rfl) ?_ _
                  go_wp2_with fail
                  go_roundw
                  case rel => exact ⟨t + 1, by omega, by go_num, H22.out⟩
                  case measure => simp [intOf]; omega
                · obtain rfl : t = j := by omega
                  have HI := hide HI.out.1
                  have H29 : Hid (ZB w wr ∧ VM wr X1 m mo mc ∧ VB wr bo (mby m)) := ⟨HI.out.1, HI.out.2.1, HI.out.2.2.1⟩
                  clear HI
                  obtain ⟨e0, e1, e2, e3, e4⟩ := H29.out.2.1.1.cells
                  go_wp2_with fail
                  refine (msgok_impl mo m.g.length mc _ m.k m.c m.v m.h wr (by omega) H29.out.2.1.2.1 H29.out.2.1.2.2).mono ?_
                  rintro e w30 ht
                  obtain ⟨bz, rfl, hbz, hb30⟩ := mg_tells (m := m) ht
                  have H30 : Hid (ZB w w30 ∧ VM w30 X1 m mo mc ∧ VB w30 bo (mby m)) := ⟨H29.out.1.st hb30, H29.out.2.1.st hb30, H29.out.2.2.st hb30⟩
                  have HBM := hide hbz
                  clear ht hb30 hbz H29 e0 e1 e2 e3 e4
                  cases bz
                  · have h0 : (mby m).length = 0 := mby_no (fun h => by have := HBM.out.2 h; cases this)
                    go_wp2_with fail
                    go_ret
                    exact ⟨rfl, H30.out.1⟩
                  · have hok : MgOk m := HBM.out.1 rfl
                    have hpos : 0 < (mby m).length := mb_pos hok
                    have hbk := hide (mof_back m hok w30 bo bc hbc H30.out.2.2)
                    have HOK := hide hok
                    clear hok HBM
                    go_wp2_with fail
                    refine hbk.out.mono ?_
                    rintro e w31 ⟨r2o, r2c, rfl, hr2c, hr2s, b31⟩
                    have H31 : Hid (ZB w (w31.alloc (.cells #[.int .i64 m.k, .int .i64 m.c, .int .i64 m.v, .int .i64 m.h, .slice r2o m.g.length r2c] 40)) ∧ VM (w31.alloc (.cells #[.int .i64 m.k, .int .i64 m.c, .int .i64 m.v, .int .i64 m.h, .slice r2o m.g.length r2c] 40)) X1 m mo mc ∧ VB (w31.alloc (.cells #[.int .i64 m.k, .int .i64 m.c, .int .i64 m.v, .int .i64 m.h, .slice r2o m.g.length r2c] 40)) bo (mby m) ∧ VM (w31.alloc (.cells #[.int .i64 m.k, .int .i64 m.c, .int .i64 m.v, .int .i64 m.h, .slice r2o m.g.length r2c] 40)) w31.heap.size m r2o r2c) := ⟨H30.out.1.st (b31.trans ((zal1 w31 (.cells #[.int .i64 m.k, .int .i64 m.c, .int .i64 m.v, .int .i64 m.h, .slice r2o m.g.length r2c] 40)).mono b31.size)), H30.out.2.1.st (b31.trans ((zal1 w31 (.cells #[.int .i64 m.k, .int .i64 m.c, .int .i64 m.v, .int .i64 m.h, .slice r2o m.g.length r2c] 40)).mono b31.size)), H30.out.2.2.st (b31.trans ((zal1 w31 (.cells #[.int .i64 m.k, .int .i64 m.c, .int .i64 m.v, .int .i64 m.h, .slice r2o m.g.length r2c] 40)).mono b31.size)), ⟨MB.new w31 _ _ _ _ _ _ _ _, hr2c, hr2s.below (zal1 _ _)⟩⟩
                    clear hbk b31 hr2s hr2c H30
                    go_wp2_with fail
                    generalize w31.alloc (.cells #[.int .i64 m.k, .int .i64 m.c, .int .i64 m.v, .int .i64 m.h, .slice r2o m.g.length r2c] 40) = W31 at *
                    generalize w31.heap.size = X31 at *
                    refine (mof_short m HOK.out W31 bo bc hbc H31.out.2.2.1).mono ?_
                    rintro e w32 ⟨rfl, b32⟩
                    have H32 : Hid (ZB w w32 ∧ VM w32 X1 m mo mc ∧ VM w32 X31 m r2o r2c) := ⟨H31.out.1.st b32, H31.out.2.1.st b32, H31.out.2.2.2.st b32⟩
                    clear b32 H31
                    obtain ⟨e0, e1, e2, e3, e4⟩ := H32.out.2.1.1.cells
                    obtain ⟨d0, d1, d2, d3, d4⟩ := H32.out.2.2.1.cells
                    have l1 := H32.out.2.1.1.lt
                    have l2 := H32.out.2.2.1.lt
                    go_wp2_with fail
                    refine (smsg_yes m r2o mo r2c mc _ (by omega) (H32.out.2.2.2.2.below (zal1 w32 (.cells #[.int .i64 0, .int .i64 0, .int .i64 0, .int .i64 0, .slice none 0 0] 40))) (H32.out.2.1.2.2.below (zal1 w32 (.cells #[.int .i64 0, .int .i64 0, .int .i64 0, .int .i64 0, .slice none 0 0] 40)))).mono ?_
                    rintro e w33 ⟨rfl, b33⟩
                    go_wp2_with fail
                    go_ret
                    exact ⟨rfl, (H32.out.1.st (zal1 w32 (.cells #[.int .i64 0, .int .i64 0, .int .i64 0, .int .i64 0, .slice none 0 0] 40))).st b33⟩
      ·
        refine wpAnyH_take (i := 13) (oi := { dst := some 131, op := Op.move (Operand.tmp 18), type := 4, pos := "laws.go:358", after := #[{ on := 12, ground := Ground.guard }], guard := some (12, false) }) (v := ?_) rfl (by kernel_rfl) (by kernel_rfl) (by kernel_rfl) (fun _ _ _ h => h) (Or.inl ⟨by rfl, ?_⟩) (by assumption) ?_
        rotate_left 1
        · (intro wq hSw; (try dsimp only at hSw); go_simp; try with_reducible rfl)
        try simp only [Act.put, List.setIfInBounds_toArray, List.set_cons_zero, List.set_cons_succ]
        refine wpAnyH_take (i := 14) (oi := { dst := some 132, op := Op.move (Operand.tmp 131), type := 4, pos := "laws.go:358", after := #[{ on := 13, ground := Ground.data }, { on := 12, ground := Ground.chain }, { on := 12, ground := Ground.guard }], guard := some (12, false) }) (v := ?_) rfl (by kernel_rfl) (by kernel_rfl) (by kernel_rfl) (fun _ _ _ h => h) (Or.inl ⟨by rfl, ?_⟩) (by assumption) ?_
        rotate_left 1
        · (intro wq hSw; (try dsimp only at hSw); go_simp; try with_reducible rfl)
        try simp only [Act.put, List.setIfInBounds_toArray, List.set_cons_zero, List.set_cons_succ]
        refine wpAnyH_take (i := 15) (oi := { dst := some 133, op := Op.move (Operand.tmp 17), type := 47, pos := "laws.go:358", after := #[{ on := 14, ground := Ground.guard }], guard := some (14, true) }) (v := ?_) rfl (by kernel_rfl) (by kernel_rfl) (by kernel_rfl) (fun _ _ _ h => h) (Or.inl ⟨by rfl, ?_⟩) (by assumption) ?_
        rotate_left 1
        · (intro wq hSw; (try dsimp only at hSw); go_simp; try with_reducible rfl)
        try simp only [Act.put, List.setIfInBounds_toArray, List.set_cons_zero, List.set_cons_succ]
        refine wpAnyH_take (i := 18) (oi := { dst := some 136, op := Op.move (Operand.tmp 16), type := 22, pos := "laws.go:358", after := #[{ on := 14, ground := Ground.guard }], guard := some (14, true) }) (v := ?_) rfl (by kernel_rfl) (by kernel_rfl) (by kernel_rfl) (fun _ _ _ h => h) (Or.inl ⟨by rfl, ?_⟩) (by assumption) ?_
        rotate_left 1
        · (intro wq hSw; (try dsimp only at hSw); go_simp; try with_reducible rfl)
        try simp only [Act.put, List.setIfInBounds_toArray, List.set_cons_zero, List.set_cons_succ]
        refine wpAnyH_take (i := 19) (oi := { dst := some 137, op := Op.convert 22 9 (Operand.tmp 136), type := 9, pos := "laws.go:358", after := #[{ on := 18, ground := Ground.data }, { on := 14, ground := Ground.guard }], guard := some (14, true) }) (v := ?_) rfl (by kernel_rfl) (by kernel_rfl) (by kernel_rfl) (fun _ _ _ h => h) (Or.inl ⟨by rfl, ?_⟩) (by assumption) ?_
        rotate_left 1
        · (intro wq hSw; (try dsimp only at hSw); go_simp; try with_reducible rfl)
        try simp only [Act.put, List.setIfInBounds_toArray, List.set_cons_zero, List.set_cons_succ]
        refine wpAnyH_ready (rs := [16]) (by kernel_rfl) (by simp) ?_
        refine AllReadyH.cons (o := { dst := some 134, op := Op.call { callee := Callee.value (Operand.func 32), args := #[Operand.tmp 133], argTypes := #[47] }, type := 22, pos := "laws.go:358", after := #[{ on := 15, ground := Ground.data }, { on := 14, ground := Ground.chain }, { on := 14, ground := Ground.guard }], guard := some (14, true) }) rfl (fun K hK => ?_) AllReadyH.nil
        go_simp
        refine (HIP.out rfl _ H17.out).mono ?_
        rintro e w19 ⟨ao4, c4, rfl, hc4, hst⟩
        have HT := hide hst
        have hk19 := HSX.out _ hst
        clear hst
        go_wp2_with fail
        refine hK.out _ _ ?_ (fun hHeld => ?_)
        · exact hk19
        clear hK K
        try simp only [Act.put, List.setIfInBounds_toArray, List.set_cons_zero, List.set_cons_succ]
        refine wpAnyH_ready (rs := [17]) (by kernel_rfl) (by simp) ?_
        refine AllReadyH.cons (o := { dst := some 135, op := Op.convert 22 9 (Operand.tmp 134), type := 9, pos := "laws.go:358", after := #[{ on := 16, ground := Ground.data }, { on := 14, ground := Ground.guard }], guard := some (14, true) }) rfl (fun K hK => ?_) AllReadyH.nil
        go_simp
        refine hK.out _ _ ?_ (fun hHeld => ?_)
        · exact hk19
        clear hK K
        try simp only [Act.put, List.setIfInBounds_toArray, List.set_cons_zero, List.set_cons_succ]
        refine wpAnyH_take (i := 20) (oi := { dst := some 138, op := Op.binOp BinOp.neq 9 (Operand.tmp 135) (Operand.tmp 137) 9, type := 4, pos := "laws.go:358", after := #[{ on := 17, ground := Ground.data }, { on := 19, ground := Ground.data }, { on := 14, ground := Ground.guard }], guard := some (14, true) }) (v := ?_) rfl (by kernel_rfl) (by kernel_rfl) (by kernel_rfl) (fun _ _ _ h => h) (Or.inl ⟨by rfl, ?_⟩) (by assumption) ?_
        rotate_left 1
        · (intro wq hSw; (try dsimp only at hSw); go_simp; try with_reducible rfl)
        try simp only [Act.put, List.setIfInBounds_toArray, List.set_cons_zero, List.set_cons_succ]
        refine wpAnyH_take (i := 21) (oi := { dst := some 139, op := Op.pick (Operand.tmp 132) (Operand.tmp 138) (Operand.const (Value.bool false)), type := 4, pos := "laws.go:358", after := #[{ on := 14, ground := Ground.data }, { on := 20, ground := Ground.data }, { on := 12, ground := Ground.guard }], guard := some (12, false) }) (v := ?_) rfl (by kernel_rfl) (by kernel_rfl) (by kernel_rfl) (fun _ _ _ h => h) (Or.inl ⟨by rfl, ?_⟩) (by assumption) ?_
        rotate_left 1
        · (intro wq hSw; (try dsimp only at hSw); go_simp; try with_reducible rfl)
        try simp only [Act.put, List.setIfInBounds_toArray, List.set_cons_zero, List.set_cons_succ]
        refine wpAnyH_take (i := 22) (oi := { dst := some 140, op := Op.pick (Operand.tmp 130) (Operand.const (Value.bool true)) (Operand.tmp 139), type := 4, pos := "laws.go:358", after := #[{ on := 12, ground := Ground.data }, { on := 21, ground := Ground.data }], guard := none }) (v := ?_) rfl (by kernel_rfl) (by kernel_rfl) (by kernel_rfl) (fun _ _ _ h => h) (Or.inl ⟨by rfl, ?_⟩) (by assumption) ?_
        rotate_left 1
        · (intro wq hSw; (try dsimp only at hSw); go_simp; try with_reducible rfl)
        try simp only [Act.put, List.setIfInBounds_toArray, List.set_cons_zero, List.set_cons_succ]
        refine wpAnyH_done (by kernel_rfl) ?_ _
        clear HIB HIP HS16 HSX
        go_wp2_with fail
        go_loopw [21, 22] (fun al i wr => ∃ (j : Nat) (ba : Bool), j ≤ k ∧ i = .int .i64 j ∧ al = .bool ba ∧ Hid (ba = true → ∀ t, t < j → MgOk (M t)) ∧ Hid (ZB w wr ∧ VM wr X1 m mo mc ∧ VB wr bo (mby m) ∧ VB wr xo X ∧ VM wr X4 r ro rc ∧ VM wr X6 q qo qc ∧ ML wr lo k M ∧ VB wr po (pck M k) ∧ VB wr yo Y ∧ ML wr uo ku U)) (fun _ i _ => k - (intOf i).toNat)
        case atStart => exact ⟨0, true, by omega, rfl, rfl, fun _ t ht => absurd ht (by omega), HT.out⟩
        case round =>
          obtain ⟨j, ba, hj, rfl, rfl, HA, HI⟩ := hrel
          clear HT
          by_cases hlt : j < k
          · cases ba
            · go_wp2_with fail
              go_roundw
              case rel => exact ⟨j + 1, false, by omega, by go_num, rfl, (fun h => by cases h), HI.out⟩
              case measure => simp [intOf]; omega
            · obtain ⟨b, off, hlo, ro', rc', hrc', hsl', c0, c1, c2, c3, c4⟩ := HI.out.2.2.2.2.2.2.1 j hlt
              subst hlo
              have hgl := HML.out j hlt
              obtain ⟨mm, hmm⟩ : ∃ mm, mm = M j := ⟨_, rfl⟩
              rw [← hmm] at hgl hrc' hsl' c0 c1 c2 c3 c4
              have HMM := hide hmm
              have HSL := hide hsl'
              clear hmm hsl'
              go_wp2_with fail
              refine (msgok_impl ro' mm.g.length rc' _ mm.k mm.c mm.v mm.h wr (by omega) hrc' HSL.out).mono ?_
              rintro e w20 ht
              obtain ⟨bz, rfl, hbz, hb20⟩ := mg_tells (m := mm) ht
              have HI2 : Hid (ZB w w20 ∧ VM w20 X1 m mo mc ∧ VB w20 bo (mby m) ∧ VB w20 xo X ∧ VM w20 X4 r ro rc ∧ VM w20 X6 q qo qc ∧ ML w20 (some ⟨b, off, none⟩) k M ∧ VB w20 po (pck M k) ∧ VB w20 yo Y ∧ ML w20 uo ku U) := ⟨HI.out.1.st hb20, HI.out.2.1.st hb20, HI.out.2.2.1.st hb20, HI.out.2.2.2.1.st hb20, HI.out.2.2.2.2.1.st hb20, HI.out.2.2.2.2.2.1.st hb20, HI.out.2.2.2.2.2.2.1.st hb20, HI.out.2.2.2.2.2.2.2.1.st hb20, HI.out.2.2.2.2.2.2.2.2.1.st hb20, HI.out.2.2.2.2.2.2.2.2.2.st hb20⟩
              have HBZ := hide hbz
              clear ht hb20 hbz HI c0 c1 c2 c3 c4 HSL
              go_wp2_with fail
              go_roundw
              case rel =>
                refine ⟨j + 1, bz, by omega, by go_num, rfl, fun h t ht => ?_, HI2.out⟩
                by_cases e : t = j
                · rw [e, ← HMM.out]; exact HBZ.out.1 h
                · exact HA.out (by simp) t (by omega)
              case measure => simp [intOf]; omega
          · obtain rfl : j = k := by omega
            cases ba
            · clear HA
              have H29 : Hid (ZB w wr ∧ VM wr X1 m mo mc ∧ VB wr bo (mby m)) := ⟨HI.out.1, HI.out.2.1, HI.out.2.2.1⟩
              clear HI
              obtain ⟨e0, e1, e2, e3, e4⟩ := H29.out.2.1.1.cells
              go_wp2_with fail
              refine (msgok_impl mo m.g.length mc _ m.k m.c m.v m.h wr (by omega) H29.out.2.1.2.1 H29.out.2.1.2.2).mono ?_
              rintro e w30 ht
              obtain ⟨bz, rfl, hbz, hb30⟩ := mg_tells (m := m) ht
              have H30 : Hid (ZB w w30 ∧ VM w30 X1 m mo mc ∧ VB w30 bo (mby m)) := ⟨H29.out.1.st hb30, H29.out.2.1.st hb30, H29.out.2.2.st hb30⟩
              have HBM := hide hbz
              clear ht hb30 hbz H29 e0 e1 e2 e3 e4
              cases bz
              · have h0 : (mby m).length = 0 := mby_no (fun h => by have := HBM.out.2 h; cases this)
                go_wp2_with fail
                go_ret
                exact ⟨rfl, H30.out.1⟩
              · have hok : MgOk m := HBM.out.1 rfl
                have hpos : 0 < (mby m).length := mb_pos hok
                have hbk := hide (mof_back m hok w30 bo bc hbc H30.out.2.2)
                have HOK := hide hok
                clear hok HBM
                go_wp2_with fail
                refine hbk.out.mono ?_
                rintro e w31 ⟨r2o, r2c, rfl, hr2c, hr2s, b31⟩
                have H31 : Hid (ZB w (w31.alloc (.cells #[.int .i64 m.k, .int .i64 m.c, .int .i64 m.v, .int .i64 m.h, .slice r2o m.g.length r2c] 40)) ∧ VM (w31.alloc (.cells #[.int .i64 m.k, .int .i64 m.c, .int .i64 m.v, .int .i64 m.h, .slice r2o m.g.length r2c] 40)) X1 m mo mc ∧ VB (w31.alloc (.cells #[.int .i64 m.k, .int .i64 m.c, .int .i64 m.v, .int .i64 m.h, .slice r2o m.g.length r2c] 40)) bo (mby m) ∧ VM (w31.alloc (.cells #[.int .i64 m.k, .int .i64 m.c, .int .i64 m.v, .int .i64 m.h, .slice r2o m.g.length r2c] 40)) w31.heap.size m r2o r2c) := ⟨H30.out.1.st (b31.trans ((zal1 w31 (.cells #[.int .i64 m.k, .int .i64 m.c, .int .i64 m.v, .int .i64 m.h, .slice r2o m.g.length r2c] 40)).mono b31.size)), H30.out.2.1.st (b31.trans ((zal1 w31 (.cells #[.int .i64 m.k, .int .i64 m.c, .int .i64 m.v, .int .i64 m.h, .slice r2o m.g.length r2c] 40)).mono b31.size)), H30.out.2.2.st (b31.trans ((zal1 w31 (.cells #[.int .i64 m.k, .int .i64 m.c, .int .i64 m.v, .int .i64 m.h, .slice r2o m.g.length r2c] 40)).mono b31.size)), ⟨MB.new w31 _ _ _ _ _ _ _ _, hr2c, hr2s.below (zal1 _ _)⟩⟩
                clear hbk b31 hr2s hr2c H30
                go_wp2_with fail
                generalize w31.alloc (.cells #[.int .i64 m.k, .int .i64 m.c, .int .i64 m.v, .int .i64 m.h, .slice r2o m.g.length r2c] 40) = W31 at *
                generalize w31.heap.size = X31 at *
                refine (mof_short m HOK.out W31 bo bc hbc H31.out.2.2.1).mono ?_
                rintro e w32 ⟨rfl, b32⟩
                have H32 : Hid (ZB w w32 ∧ VM w32 X1 m mo mc ∧ VM w32 X31 m r2o r2c) := ⟨H31.out.1.st b32, H31.out.2.1.st b32, H31.out.2.2.2.st b32⟩
                clear b32 H31
                obtain ⟨e0, e1, e2, e3, e4⟩ := H32.out.2.1.1.cells
                obtain ⟨d0, d1, d2, d3, d4⟩ := H32.out.2.2.1.cells
                have l1 := H32.out.2.1.1.lt
                have l2 := H32.out.2.2.1.lt
                go_wp2_with fail
                refine (smsg_yes m r2o mo r2c mc _ (by omega) (H32.out.2.2.2.2.below (zal1 w32 (.cells #[.int .i64 0, .int .i64 0, .int .i64 0, .int .i64 0, .slice none 0 0] 40))) (H32.out.2.1.2.2.below (zal1 w32 (.cells #[.int .i64 0, .int .i64 0, .int .i64 0, .int .i64 0, .slice none 0 0] 40)))).mono ?_
                rintro e w33 ⟨rfl, b33⟩
                go_wp2_with fail
                go_ret
                exact ⟨rfl, (H32.out.1.st (zal1 w32 (.cells #[.int .i64 0, .int .i64 0, .int .i64 0, .int .i64 0, .slice none 0 0] 40))).st b33⟩
            · have hun := hide (unp_back M j (by omega) (HA.out rfl) wr po pc (by have := pck_le M j; omega) HI.out.2.2.2.2.2.2.2.1)
              go_wp2_with fail
              refine hun.out.mono ?_
              rintro e w21 ⟨zo, zc, rfl, hmz, b21⟩
              have HJ : Hid ((ZB w w21 ∧ VM w21 X1 m mo mc ∧ VB w21 bo (mby m) ∧ VB w21 xo X ∧ VM w21 X4 r ro rc ∧ VM w21 X6 q qo qc ∧ ML w21 lo j M ∧ VB w21 po (pck M j) ∧ VB w21 yo Y ∧ ML w21 uo ku U) ∧ ML w21 zo j M) := ⟨⟨HI.out.1.st b21, HI.out.2.1.st b21, HI.out.2.2.1.st b21, HI.out.2.2.2.1.st b21, HI.out.2.2.2.2.1.st b21, HI.out.2.2.2.2.2.1.st b21, HI.out.2.2.2.2.2.2.1.st b21, HI.out.2.2.2.2.2.2.2.1.st b21, HI.out.2.2.2.2.2.2.2.2.1.st b21, HI.out.2.2.2.2.2.2.2.2.2.st b21⟩, hmz⟩
              clear hun hmz b21 HI HA
              go_wp2_with fail
              go_loopw [25] (fun i wr => ∃ t : Nat, t ≤ j ∧ i = .int .i64 t ∧ Hid ((ZB w wr ∧ VM wr X1 m mo mc ∧ VB wr bo (mby m) ∧ VB wr xo X ∧ VM wr X4 r ro rc ∧ VM wr X6 q qo qc ∧ ML wr lo j M ∧ VB wr po (pck M j) ∧ VB wr yo Y ∧ ML wr uo ku U) ∧ ML wr zo j M)) (fun i _ => j - (intOf i).toNat)
              case atStart => exact ⟨0, by omega, rfl, HJ.out⟩
              case round =>
                obtain ⟨t, htj, rfl, HI⟩ := hrel
                clear HJ
                by_cases hlt : t < j
                · have H29 : Hid ((ZB w wr.drew ∧ VM wr.drew X1 m mo mc ∧ VB wr.drew bo (mby m) ∧ VB wr.drew xo X ∧ VM wr.drew X4 r ro rc ∧ VM wr.drew X6 q qo qc ∧ ML wr.drew lo j M ∧ VB wr.drew po (pck M j) ∧ VB wr.drew yo Y ∧ ML wr.drew uo ku U) ∧ ML wr.drew zo j M) := ⟨⟨HI.out.1.1.st (Below.drawn (Below.refl wr.heap.size wr) 1), HI.out.1.2.1.st (Below.drawn (Below.refl wr.heap.size wr) 1), HI.out.1.2.2.1.st (Below.drawn (Below.refl wr.heap.size wr) 1), HI.out.1.2.2.2.1.st (Below.drawn (Below.refl wr.heap.size wr) 1), HI.out.1.2.2.2.2.1.st (Below.drawn (Below.refl wr.heap.size wr) 1), HI.out.1.2.2.2.2.2.1.st (Below.drawn (Below.refl wr.heap.size wr) 1), HI.out.1.2.2.2.2.2.2.1.st (Below.drawn (Below.refl wr.heap.size wr) 1), HI.out.1.2.2.2.2.2.2.2.1.st (Below.drawn (Below.refl wr.heap.size wr) 1), HI.out.1.2.2.2.2.2.2.2.2.1.st (Below.drawn (Below.refl wr.heap.size wr) 1), HI.out.1.2.2.2.2.2.2.2.2.2.st (Below.drawn (Below.refl wr.heap.size wr) 1)⟩, HI.out.2.st (Below.drawn (Below.refl wr.heap.size wr) 1)⟩
                  clear HI
                  obtain ⟨b, off, hlo, ro', rc', hrc', hsl', c⟩ := H29.out.1.2.2.2.2.2.2.1 t hlt
                  obtain ⟨b', off', hzo, so', sc', hsc', hsl2, d⟩ := H29.out.2 t hlt
                  have hgl := HML.out t hlt
                  generalize M t = mm at hrc' hsl' c hsc' hsl2 d hgl
                  have HC := hide c
                  have HD := hide d
                  have hA := hide hsl'
                  have hB := hide hsl2
                  clear c d hsl' hsl2
                  subst hlo
                  subst hzo
                  go_wp2_with fail
                  have hS3 : (wr.drew.cell? ⟨b, off + t * 5, none⟩ = some (.int .i64 mm.k) ∧ wr.drew.cell? ⟨b, off + t * 5 + 1, none⟩ = some (.int .i64 mm.c) ∧ wr.drew.cell? ⟨b, off + t * 5 + 2, none⟩ = some (.int .i64 mm.v) ∧ wr.drew.cell? ⟨b, off + t * 5 + 3, none⟩ = some (.int .i64 mm.h) ∧ wr.drew.cell? ⟨b, off + t * 5 + 4, none⟩ = some (.slice ro' mm.g.length rc')) ∧ (wr.drew.cell? ⟨b', off' + t * 5, none⟩ = some (.int .i64 mm.k) ∧ wr.drew.cell? ⟨b', off' + t * 5 + 1, none⟩ = some (.int .i64 mm.c) ∧ wr.drew.cell? ⟨b', off' + t * 5 + 2, none⟩ = some (.int .i64 mm.v) ∧ wr.drew.cell? ⟨b', off' + t * 5 + 3, none⟩ = some (.int .i64 mm.h) ∧ wr.drew.cell? ⟨b', off' + t * 5 + 4, none⟩ = some (.slice so' mm.g.length sc')) := ⟨HC.out, HD.out⟩
                  refine wp_region_held_drew (S := (fun w' => (w'.cell? ⟨b, off + t * 5, none⟩ = some (.int .i64 mm.k) ∧ w'.cell? ⟨b, off + t * 5 + 1, none⟩ = some (.int .i64 mm.c) ∧ w'.cell? ⟨b, off + t * 5 + 2, none⟩ = some (.int .i64 mm.v) ∧ w'.cell? ⟨b, off + t * 5 + 3, none⟩ = some (.int .i64 mm.h) ∧ w'.cell? ⟨b, off + t * 5 + 4, none⟩ = some (.slice ro' mm.g.length rc')) ∧ (w'.cell? ⟨b', off' + t * 5, none⟩ = some (.int .i64 mm.k) ∧ w'.cell? ⟨b', off' + t * 5 + 1, none⟩ = some (.int .i64 mm.c) ∧ w'.cell? ⟨b', off' + t * 5 + 2, none⟩ = some (.int .i64 mm.v) ∧ w'.cell? ⟨b', off' + t * 5 + 3, none⟩ = some (.int .i64 mm.h) ∧ w'.cell? ⟨b', off' + t * 5 + 4, none⟩ = some (.slice so' mm.g.length sc')))) (by kernel_rfl) ?_ (fun hHeld => ?_)
                  · exact hS3
                  refine wpAnyH_take (i := 0) (oi := { dst := some 176, op := Op.move (Operand.tmp 23), type := 47, pos := "laws.go:371", after := #[], guard := none }) (v := ?_) rfl (by kernel_rfl) (by kernel_rfl) (by kernel_rfl) (fun _ _ _ h => h) (Or.inl ⟨by rfl, ?_⟩) (by assumption) ?_
                  rotate_left 1
                  · (intro wq hSw; (try dsimp only at hSw); go_simp; try with_reducible rfl)
                  try simp only [Act.put, List.setIfInBounds_toArray, List.set_cons_zero, List.set_cons_succ]
                  refine wpAnyH_take (i := 1) (oi := { dst := some 177, op := Op.move (Operand.tmp 25), type := 3, pos := "laws.go:371", after := #[], guard := none }) (v := ?_) rfl (by kernel_rfl) (by kernel_rfl) (by kernel_rfl) (fun _ _ _ h => h) (Or.inl ⟨by rfl, ?_⟩) (by assumption) ?_
                  rotate_left 1
                  · (intro wq hSw; (try dsimp only at hSw); go_simp; try with_reducible rfl)
                  try simp only [Act.put, List.setIfInBounds_toArray, List.set_cons_zero, List.set_cons_succ]
                  refine wpAnyH_take (i := 2) (oi := { dst := some 178, op := Op.indexAddr 47 (Operand.tmp 176) (Operand.tmp 177), type := 0, pos := "laws.go:371", after := #[{ on := 0, ground := Ground.data }, { on := 1, ground := Ground.data }], guard := none }) (v := ?_) rfl (by kernel_rfl) (by kernel_rfl) (by kernel_rfl) (fun _ _ _ h => h) (Or.inl ⟨by rfl, ?_⟩) (by assumption) ?_
                  rotate_left 1
                  · (intro wq hSw; (try dsimp only at hSw); go_simp; try with_reducible rfl)
                  try simp only [Act.put, List.setIfInBounds_toArray, List.set_cons_zero, List.set_cons_succ]
                  refine wpAnyH_take (i := 3) (oi := { dst := some 179, op := Op.load 40 (Operand.tmp 178), type := 40, pos := "laws.go:371", after := #[{ on := 2, ground := Ground.data }], guard := none }) (v := ?_) rfl (by kernel_rfl) (by kernel_rfl) (by kernel_rfl) (fun _ _ _ h => h) (Or.inl ⟨by rfl, ?_⟩) (by assumption) ?_
                  rotate_left 1
                  · (intro wq hSw; (try dsimp only at hSw); go_simp; try with_reducible rfl)
                  try simp only [Act.put, List.setIfInBounds_toArray, List.set_cons_zero, List.set_cons_succ]
                  refine wpAnyH_take (i := 4) (oi := { dst := some 180, op := Op.move (Operand.tmp 14), type := 47, pos := "laws.go:371", after := #[], guard := none }) (v := ?_) rfl (by kernel_rfl) (by kernel_rfl) (by kernel_rfl) (fun _ _ _ h => h) (Or.inl ⟨by rfl, ?_⟩) (by assumption) ?_
                  rotate_left 1
                  · (intro wq hSw; (try dsimp only at hSw); go_simp; try with_reducible rfl)
                  try simp only [Act.put, List.setIfInBounds_toArray, List.set_cons_zero, List.set_cons_succ]
                  refine wpAnyH_take (i := 5) (oi := { dst := some 181, op := Op.move (Operand.tmp 25), type := 3, pos := "laws.go:371", after := #[], guard := none }) (v := ?_) rfl (by kernel_rfl) (by kernel_rfl) (by kernel_rfl) (fun _ _ _ h => h) (Or.inl ⟨by rfl, ?_⟩) (by assumption) ?_
                  rotate_left 1
                  · (intro wq hSw; (try dsimp only at hSw); go_simp; try with_reducible rfl)
                  try simp only [Act.put, List.setIfInBounds_toArray, List.set_cons_zero, List.set_cons_succ]
                  refine wpAnyH_take (i := 6) (oi := { dst := some 182, op := Op.indexAddr 47 (Operand.tmp 180) (Operand.tmp 181), type := 0, pos := "laws.go:371", after := #[{ on := 4, ground := Ground.data }, { on := 5, ground := Ground.data }], guard := none }) (v := ?_) rfl (by kernel_rfl) (by kernel_rfl) (by kernel_rfl) (fun _ _ _ h => h) (Or.inl ⟨by rfl, ?_⟩) (by assumption) ?_
                  rotate_left 1
                  · (intro wq hSw; (try dsimp only at hSw); go_simp; try with_reducible rfl)
                  try simp only [Act.put, List.setIfInBounds_toArray, List.set_cons_zero, List.set_cons_succ]
                  refine wpAnyH_take (i := 7) (oi := { dst := some 183, op := Op.load 40 (Operand.tmp 182), type := 40, pos := "laws.go:371", after := #[{ on := 6, ground := Ground.data }], guard := none }) (v := ?_) rfl (by kernel_rfl) (by kernel_rfl) (by kernel_rfl) (fun _ _ _ h => h) (Or.inl ⟨by rfl, ?_⟩) (by assumption) ?_
                  rotate_left 1
                  · (intro wq hSw; (try dsimp only at hSw); go_simp; try with_reducible rfl)
                  try simp only [Act.put, List.setIfInBounds_toArray, List.set_cons_zero, List.set_cons_succ]
                  refine wpAnyH_ready (rs := [8]) (by kernel_rfl) (by simp) ?_
                  refine AllReadyH.cons (o := { dst := some 184, op := Op.call { callee := Callee.value (Operand.func 40), args := #[Operand.tmp 179, Operand.tmp 183], argTypes := #[40, 40] }, type := 4, pos := "laws.go:371", after := #[{ on := 3, ground := Ground.data }, { on := 7, ground := Ground.data }], guard := none }) rfl (fun K hK => ?_) AllReadyH.nil
                  go_simp
                  refine (smsg_yes mm so' ro' sc' rc' _ (by omega) hB.out hA.out).mono ?_
                  rintro e w22 ⟨rfl, hb22⟩
                  have H22 := hide (And.intro (⟨H29.out.1.1.st hb22, H29.out.1.2.1.st hb22, H29.out.1.2.2.1.st hb22, H29.out.1.2.2.2.1.st hb22, H29.out.1.2.2.2.2.1.st hb22, H29.out.1.2.2.2.2.2.1.st hb22, H29.out.1.2.2.2.2.2.2.1.st hb22, H29.out.1.2.2.2.2.2.2.2.1.st hb22, H29.out.1.2.2.2.2.2.2.2.2.1.st hb22, H29.out.1.2.2.2.2.2.2.2.2.2.st hb22⟩ : ZB w w22 ∧ VM w22 X1 m mo mc ∧ VB w22 bo (mby m) ∧ VB w22 xo X ∧ VM w22 X4 r ro rc ∧ VM w22 X6 q qo qc ∧ ML w22 (some ⟨b, off, none⟩) j M ∧ VB w22 po (pck M j) ∧ VB w22 yo Y ∧ ML w22 uo ku U) (H29.out.2.st hb22))
                  have hk22 : (w22.cell? ⟨b, off + t * 5, none⟩ = some (.int .i64 mm.k) ∧ w22.cell? ⟨b, off + t * 5 + 1, none⟩ = some (.int .i64 mm.c) ∧ w22.cell? ⟨b, off + t * 5 + 2, none⟩ = some (.int .i64 mm.v) ∧ w22.cell? ⟨b, off + t * 5 + 3, none⟩ = some (.int .i64 mm.h) ∧ w22.cell? ⟨b, off + t * 5 + 4, none⟩ = some (.slice ro' mm.g.length rc')) ∧ (w22.cell? ⟨b', off' + t * 5, none⟩ = some (.int .i64 mm.k) ∧ w22.cell? ⟨b', off' + t * 5 + 1, none⟩ = some (.int .i64 mm.c) ∧ w22.cell? ⟨b', off' + t * 5 + 2, none⟩ = some (.int .i64 mm.v) ∧ w22.cell? ⟨b', off' + t * 5 + 3, none⟩ = some (.int .i64 mm.h) ∧ w22.cell? ⟨b', off' + t * 5 + 4, none⟩ = some (.slice so' mm.g.length sc')) := ⟨five_below HC.out hb22, five_below HD.out hb22⟩
                  clear hb22
                  go_wp2_with fail
                  refine hK.out _ _ ?_ (fun hHeld => ?_)
                  · exact hk22
                  clear hK K
                  try simp only [Act.put, List.setIfInBounds_toArray, List.set_cons_zero, List.set_cons_succ]
                  refine wpAnyH_take (i := 9) (oi := { dst := some 185, op := Op.unOp UnOp.not 4 (Operand.tmp 184), type := 4, pos := "laws.go:371", after := #[{ on := 8, ground := Ground.data }], guard := none }) (v := ?_) rfl (by kernel_rfl) (by kernel_rfl) (by kernel_rfl) (fun _ _ _ h => h) (Or.inl ⟨by rfl, ?_⟩) (by assumption) ?_
                  rotate_left 1
                  · (intro wq hSw; (try dsimp only at hSw); go_simp; try with_reducible rfl)
                  try simp only [Act.put, List.setIfInBounds_toArray, List.set_cons_zero, List.set_cons_succ]
                  refine wpAnyH_done (by kernel_rfl) ?_ _
                  go_wp2_with fail
                  go_roundw
                  case rel => exact ⟨t + 1, by omega, by go_num, H22.out⟩
                  case measure => simp [intOf]; omega
                · obtain rfl : t = j := by omega
                  have HI := hide HI.out.1
                  have H29 : Hid (ZB w wr ∧ VM wr X1 m mo mc ∧ VB wr bo (mby m)) := ⟨HI.out.1, HI.out.2.1, HI.out.2.2.1⟩
                  clear HI
                  obtain ⟨e0, e1, e2, e3, e4⟩ := H29.out.2.1.1.cells
                  go_wp2_with fail
                  refine (msgok_impl mo m.g.length mc _ m.k m.c m.v m.h wr (by omega) H29.out.2.1.2.1 H29.out.2.1.2.2).mono ?_
                  rintro e w30 ht
                  obtain ⟨bz, rfl, hbz, hb30⟩ := mg_tells (m := m) ht
                  have H30 : Hid (ZB w w30 ∧ VM w30 X1 m mo mc ∧ VB w30 bo (mby m)) := ⟨H29.out.1.st hb30, H29.out.2.1.st hb30, H29.out.2.2.st hb30⟩
                  have HBM := hide hbz
                  clear ht hb30 hbz H29 e0 e1 e2 e3 e4
                  cases bz
                  · have h0 : (mby m).length = 0 := mby_no (fun h => by have := HBM.out.2 h; cases this)
                    go_wp2_with fail
                    go_ret
                    exact ⟨rfl, H30.out.1⟩
                  · have hok : MgOk m := HBM.out.1 rfl
                    have hpos : 0 < (mby m).length := mb_pos hok
                    have hbk := hide (mof_back m hok w30 bo bc hbc H30.out.2.2)
                    have HOK := hide hok
                    clear hok HBM
                    go_wp2_with fail
                    refine hbk.out.mono ?_
                    rintro e w31 ⟨r2o, r2c, rfl, hr2c, hr2s, b31⟩
                    have H31 : Hid (ZB w (w31.alloc (.cells #[.int .i64 m.k, .int .i64 m.c, .int .i64 m.v, .int .i64 m.h, .slice r2o m.g.length r2c] 40)) ∧ VM (w31.alloc (.cells #[.int .i64 m.k, .int .i64 m.c, .int .i64 m.v, .int .i64 m.h, .slice r2o m.g.length r2c] 40)) X1 m mo mc ∧ VB (w31.alloc (.cells #[.int .i64 m.k, .int .i64 m.c, .int .i64 m.v, .int .i64 m.h, .slice r2o m.g.length r2c] 40)) bo (mby m) ∧ VM (w31.alloc (.cells #[.int .i64 m.k, .int .i64 m.c, .int .i64 m.v, .int .i64 m.h, .slice r2o m.g.length r2c] 40)) w31.heap.size m r2o r2c) := ⟨H30.out.1.st (b31.trans ((zal1 w31 (.cells #[.int .i64 m.k, .int .i64 m.c, .int .i64 m.v, .int .i64 m.h, .slice r2o m.g.length r2c] 40)).mono b31.size)), H30.out.2.1.st (b31.trans ((zal1 w31 (.cells #[.int .i64 m.k, .int .i64 m.c, .int .i64 m.v, .int .i64 m.h, .slice r2o m.g.length r2c] 40)).mono b31.size)), H30.out.2.2.st (b31.trans ((zal1 w31 (.cells #[.int .i64 m.k, .int .i64 m.c, .int .i64 m.v, .int .i64 m.h, .slice r2o m.g.length r2c] 40)).mono b31.size)), ⟨MB.new w31 _ _ _ _ _ _ _ _, hr2c, hr2s.below (zal1 _ _)⟩⟩
                    clear hbk b31 hr2s hr2c H30
                    go_wp2_with fail
                    generalize w31.alloc (.cells #[.int .i64 m.k, .int .i64 m.c, .int .i64 m.v, .int .i64 m.h, .slice r2o m.g.length r2c] 40) = W31 at *
                    generalize w31.heap.size = X31 at *
                    refine (mof_short m HOK.out W31 bo bc hbc H31.out.2.2.1).mono ?_
                    rintro e w32 ⟨rfl, b32⟩
                    have H32 : Hid (ZB w w32 ∧ VM w32 X1 m mo mc ∧ VM w32 X31 m r2o r2c) := ⟨H31.out.1.st b32, H31.out.2.1.st b32, H31.out.2.2.2.st b32⟩
                    clear b32 H31
                    obtain ⟨e0, e1, e2, e3, e4⟩ := H32.out.2.1.1.cells
                    obtain ⟨d0, d1, d2, d3, d4⟩ := H32.out.2.2.1.cells
                    have l1 := H32.out.2.1.1.lt
                    have l2 := H32.out.2.2.1.lt
                    go_wp2_with fail
                    refine (smsg_yes m r2o mo r2c mc _ (by omega) (H32.out.2.2.2.2.below (zal1 w32 (.cells #[.int .i64 0, .int .i64 0, .int .i64 0, .int .i64 0, .slice none 0 0] 40))) (H32.out.2.1.2.2.below (zal1 w32 (.cells #[.int .i64 0, .int .i64 0, .int .i64 0, .int .i64 0, .slice none 0 0] 40)))).mono ?_
                    rintro e w33 ⟨rfl, b33⟩
                    go_wp2_with fail
                    go_ret
                    exact ⟨rfl, (H32.out.1.st (zal1 w32 (.cells #[.int .i64 0, .int .i64 0, .int .i64 0, .int .i64 0, .slice none 0 0] 40))).st b33⟩
    ·
      obtain ⟨hbg, hnx⟩ := HOB.out rfl
      have hcut := bg_bytes hbg
      have hK0' := hbg.1
      obtain ⟨kk, rfl⟩ : ∃ kk : Nat, K = (kk : Int) := ⟨K.toNat, by omega⟩
      rw [show ((kk : Int)).toNat = kk by omega] at hcut
      subst hnx
      have hkl := hcut.2
      have HCUT := hide hcut.1
      clear hcut hbg hK0 hK1 hK0'
      obtain ⟨co, hco⟩ : ∃ co, co = (if xc = kk then xo else Option.map (fun x => x.add kk) xo) := ⟨_, rfl⟩
      have HCO := hide hco
      clear hco
      have HSX : Hid (∀ W, (ZB w W ∧ VM W X1 m mo mc ∧ VB W bo (mby m) ∧ VB W xo X ∧ VM W X4 r ro rc ∧ VM W X6 q qo qc ∧ ML W lo k M ∧ VB W po (pck M k) ∧ VB W yo Y ∧ ML W uo ku U) → (W.cell? ⟨X4, 0, none⟩ = some (.int .i64 r.k) ∧ W.cell? ⟨X4, 1, none⟩ = some (.int .i64 r.c) ∧ W.cell? ⟨X4, 2, none⟩ = some (.int .i64 r.v) ∧ W.cell? ⟨X4, 3, none⟩ = some (.int .i64 r.h) ∧ W.cell? ⟨X4, 4, none⟩ = some (.slice ro r.g.length rc)) ∧ (convert 22 9 (.slice yo Y.length yc)).run Try.prog W = .ok (.string tY) W ∧ (convert 22 9 (.slice co (mby r).length (xc - kk))).run Try.prog W = .ok (.string tR) W) := fun W h => ⟨(HS16.out W h).1, (HS16.out W h).2, by rw [htR, HCO.out]; exact VB.conv (VB.cut h.2.2.2.1 hxc hkl HCUT.out) (mby_byte r)⟩
      have hS1 := HSX.out _ H17.out
      refine wp_region_held_drew (S := (fun w' => (w'.cell? ⟨X4, 0, none⟩ = some (.int .i64 r.k) ∧ w'.cell? ⟨X4, 1, none⟩ = some (.int .i64 r.c) ∧ w'.cell? ⟨X4, 2, none⟩ = some (.int .i64 r.v) ∧ w'.cell? ⟨X4, 3, none⟩ = some (.int .i64 r.h) ∧ w'.cell? ⟨X4, 4, none⟩ = some (.slice ro r.g.length rc)) ∧ (convert 22 9 (.slice yo Y.length yc)).run Try.prog w' = .ok (.string tY) w' ∧ (convert 22 9 (.slice co (mby r).length (xc - kk))).run Try.prog w' = .ok (.string tR) w')) (by kernel_rfl) ?_ (fun hHeld => ?_)
      · exact hS1
      refine wpAnyH_take (i := 0) (oi := { dst := some 118, op := Op.move (Operand.tmp 9), type := 4, pos := "laws.go:358", after := #[], guard := none }) (v := ?_) rfl (by kernel_rfl) (by kernel_rfl) (by kernel_rfl) (fun _ _ _ h => h) (Or.inl ⟨by rfl, ?_⟩) (by assumption) ?_
      rotate_left 1
      · (intro wq hSw; (try dsimp only at hSw); go_simp; try with_reducible rfl)
      try simp only [Act.put, List.setIfInBounds_toArray, List.set_cons_zero, List.set_cons_succ]
      refine wpAnyH_take (i := 1) (oi := { dst := some 119, op := Op.move (Operand.tmp 118), type := 4, pos := "laws.go:358", after := #[{ on := 0, ground := Ground.data }], guard := none }) (v := ?_) rfl (by kernel_rfl) (by kernel_rfl) (by kernel_rfl) (fun _ _ _ h => h) (Or.inl ⟨by rfl, ?_⟩) (by assumption) ?_
      rotate_left 1
      · (intro wq hSw; (try dsimp only at hSw); go_simp; try with_reducible rfl)
      try simp only [Act.put, List.setIfInBounds_toArray, List.set_cons_zero, List.set_cons_succ]
      refine wpAnyH_take (i := 2) (oi := { dst := some 120, op := Op.load 40 (Operand.tmp 7), type := 40, pos := "laws.go:358", after := #[{ on := 1, ground := Ground.guard }], guard := some (1, true) }) (v := ?_) rfl (by kernel_rfl) (by kernel_rfl) (by kernel_rfl) (fun _ _ _ h => h) (Or.inl ⟨by rfl, ?_⟩) (by assumption) ?_
      rotate_left 1
      · (intro wq hSw; (try dsimp only at hSw); go_simp; try with_reducible rfl)
      try simp only [Act.put, List.setIfInBounds_toArray, List.set_cons_zero, List.set_cons_succ]
      refine wpAnyH_take (i := 5) (oi := { dst := some 123, op := Op.move (Operand.tmp 5), type := 22, pos := "laws.go:358", after := #[{ on := 1, ground := Ground.guard }], guard := some (1, true) }) (v := ?_) rfl (by kernel_rfl) (by kernel_rfl) (by kernel_rfl) (fun _ _ _ h => h) (Or.inl ⟨by rfl, ?_⟩) (by assumption) ?_
      rotate_left 1
      · (intro wq hSw; (try dsimp only at hSw); go_simp; try with_reducible rfl)
      try simp only [Act.put, List.setIfInBounds_toArray, List.set_cons_zero, List.set_cons_succ]
      refine wpAnyH_take (i := 6) (oi := { dst := some 124, op := Op.move (Operand.tmp 6), type := 3, pos := "laws.go:358", after := #[{ on := 1, ground := Ground.guard }], guard := some (1, true) }) (v := ?_) rfl (by kernel_rfl) (by kernel_rfl) (by kernel_rfl) (fun _ _ _ h => h) (Or.inl ⟨by rfl, ?_⟩) (by assumption) ?_
      rotate_left 1
      · (intro wq hSw; (try dsimp only at hSw); go_simp; try with_reducible rfl)
      try simp only [Act.put, List.setIfInBounds_toArray, List.set_cons_zero, List.set_cons_succ]
      refine wpAnyH_take (i := 7) (oi := { dst := some 125, op := Op.move (Operand.tmp 8), type := 3, pos := "laws.go:358", after := #[{ on := 1, ground := Ground.guard }], guard := some (1, true) }) (v := ?_) rfl (by kernel_rfl) (by kernel_rfl) (by kernel_rfl) (fun _ _ _ h => h) (Or.inl ⟨by rfl, ?_⟩) (by assumption) ?_
      rotate_left 1
      · (intro wq hSw; (try dsimp only at hSw); go_simp; try with_reducible rfl)
      try simp only [Act.put, List.setIfInBounds_toArray, List.set_cons_zero, List.set_cons_succ]
      refine wpAnyH_take (i := 8) (oi := { dst := some 126, op := Op.slice 22 (Operand.tmp 123) (some (Operand.tmp 124)) (some (Operand.tmp 125)) none, type := 22, pos := "laws.go:358", after := #[{ on := 5, ground := Ground.data }, { on := 6, ground := Ground.data }, { on := 7, ground := Ground.data }, { on := 1, ground := Ground.guard }], guard := some (1, true) }) (v := .slice co (mby r).length (xc - kk)) rfl (by kernel_rfl) (by kernel_rfl) (by kernel_rfl) (fun _ _ _ h => h) (Or.inl ⟨by rfl, ?_⟩) (by assumption) ?_
      · (intro wq hSw; (try dsimp only at hSw); go_simp; rw [if_pos (by omega), if_pos (by omega), show ((kk : Int) + ((mby r).length : Nat)).toNat - kk = (mby r).length by omega, ← HCO.out])
      try simp only [Act.put, List.setIfInBounds_toArray, List.set_cons_zero, List.set_cons_succ]
      refine wpAnyH_take (i := 9) (oi := { dst := some 127, op := Op.convert 22 9 (Operand.tmp 126), type := 9, pos := "laws.go:358", after := #[{ on := 8, ground := Ground.data }, { on := 1, ground := Ground.guard }], guard := some (1, true) }) (v := ?_) rfl (by kernel_rfl) (by kernel_rfl) (by kernel_rfl) (fun _ _ _ h => h) (Or.inl ⟨by rfl, ?_⟩) (by assumption) ?_
      rotate_left 1
      · (intro wq hSw; (try dsimp only at hSw); go_simp; try with_reducible rfl)
      try simp only [Act.put, List.setIfInBounds_toArray, List.set_cons_zero, List.set_cons_succ]
      refine wpAnyH_ready (rs := [3]) (by kernel_rfl) (by simp) ?_
      refine AllReadyH.cons (o := { dst := some 121, op := Op.call { callee := Callee.value (Operand.func 26), args := #[Operand.tmp 120], argTypes := #[40] }, type := 22, pos := "laws.go:358", after := #[{ on := 2, ground := Ground.data }, { on := 1, ground := Ground.chain }, { on := 1, ground := Ground.guard }], guard := some (1, true) }) rfl (fun K hK => ?_) AllReadyH.nil
      go_simp
      refine (HIB.out _ H17.out).mono ?_
      rintro e w18 ⟨ao3, c3, rfl, hc3, hst⟩
      have H18 := hide hst
      have hk18 := HSX.out _ hst
      clear hst
      go_wp2_with fail
      refine hK.out _ _ ?_ (fun hHeld => ?_)
      · exact hk18
      clear hK K
      try simp only [Act.put, List.setIfInBounds_toArray, List.set_cons_zero, List.set_cons_succ]
      refine wpAnyH_ready (rs := [4]) (by kernel_rfl) (by simp) ?_
      refine AllReadyH.cons (o := { dst := some 122, op := Op.convert 22 9 (Operand.tmp 121), type := 9, pos := "laws.go:358", after := #[{ on := 3, ground := Ground.data }, { on := 1, ground := Ground.guard }], guard := some (1, true) }) rfl (fun K hK => ?_) AllReadyH.nil
      go_simp
      refine hK.out _ _ ?_ (fun hHeld => ?_)
      · exact hk18
      clear hK K
      try simp only [Act.put, List.setIfInBounds_toArray, List.set_cons_zero, List.set_cons_succ]
      refine wpAnyH_take (i := 10) (oi := { dst := some 128, op := Op.binOp BinOp.neq 9 (Operand.tmp 122) (Operand.tmp 127) 9, type := 4, pos := "laws.go:358", after := #[{ on := 4, ground := Ground.data }, { on := 9, ground := Ground.data }, { on := 1, ground := Ground.guard }], guard := some (1, true) }) (v := ?_) rfl (by kernel_rfl) (by kernel_rfl) (by kernel_rfl) (fun _ _ _ h => h) (Or.inl ⟨by rfl, ?_⟩) (by assumption) ?_
      rotate_left 1
      · (intro wq hSw; (try dsimp only at hSw); go_simp; try with_reducible rfl)
      try simp only [Act.put, List.setIfInBounds_toArray, List.set_cons_zero, List.set_cons_succ]
      refine wpAnyH_take (i := 11) (oi := { dst := some 129, op := Op.pick (Operand.tmp 119) (Operand.tmp 128) (Operand.const (Value.bool false)), type := 4, pos := "laws.go:358", after := #[{ on := 1, ground := Ground.data }, { on := 10, ground := Ground.data }], guard := none }) (v := ?_) rfl (by kernel_rfl) (by kernel_rfl) (by kernel_rfl) (fun _ _ _ h => h) (Or.inl ⟨by rfl, ?_⟩) (by assumption) ?_
      rotate_left 1
      · (intro wq hSw; (try dsimp only at hSw); go_simp; try with_reducible rfl)
      try simp only [Act.put, List.setIfInBounds_toArray, List.set_cons_zero, List.set_cons_succ]
      refine wpAnyH_take (i := 12) (oi := { dst := some 130, op := Op.move (Operand.tmp 129), type := 4, pos := "laws.go:358", after := #[{ on := 11, ground := Ground.data }, { on := 3, ground := Ground.chain }], guard := none }) (v := ?_) rfl (by kernel_rfl) (by kernel_rfl) (by kernel_rfl) (fun _ _ _ h => h) (Or.inl ⟨by rfl, ?_⟩) (by assumption) ?_
      rotate_left 1
      · (intro wq hSw; (try dsimp only at hSw); go_simp; try with_reducible rfl)
      try simp only [Act.put, List.setIfInBounds_toArray, List.set_cons_zero, List.set_cons_succ]
      cases fine
      ·
        refine wpAnyH_take (i := 13) (oi := { dst := some 131, op := Op.move (Operand.tmp 18), type := 4, pos := "laws.go:358", after := #[{ on := 12, ground := Ground.guard }], guard := some (12, false) }) (v := ?_) rfl (by kernel_rfl) (by kernel_rfl) (by kernel_rfl) (fun _ _ _ h => h) (Or.inl ⟨by rfl, ?_⟩) (by assumption) ?_
        rotate_left 1
        · (intro wq hSw; (try dsimp only at hSw); go_simp; try with_reducible rfl)
        try simp only [Act.put, List.setIfInBounds_toArray, List.set_cons_zero, List.set_cons_succ]
        refine wpAnyH_take (i := 14) (oi := { dst := some 132, op := Op.move (Operand.tmp 131), type := 4, pos := "laws.go:358", after := #[{ on := 13, ground := Ground.data }, { on := 12, ground := Ground.chain }, { on := 12, ground := Ground.guard }], guard := some (12, false) }) (v := ?_) rfl (by kernel_rfl) (by kernel_rfl) (by kernel_rfl) (fun _ _ _ h => h) (Or.inl ⟨by rfl, ?_⟩) (by assumption) ?_
        rotate_left 1
        · (intro wq hSw; (try dsimp only at hSw); go_simp; try with_reducible rfl)
        try simp only [Act.put, List.setIfInBounds_toArray, List.set_cons_zero, List.set_cons_succ]
        refine wpAnyH_take (i := 15) (oi := { dst := some 133, op := Op.move (Operand.tmp 17), type := 47, pos := "laws.go:358", after := #[{ on := 14, ground := Ground.guard }], guard := some (14, true) }) (v := undef) rfl (by kernel_rfl) (by kernel_rfl) (by kernel_rfl) (fun _ _ _ h => h) (Or.inr ⟨by rfl, rfl⟩) (by assumption) ?_
        try simp only [Act.put, List.setIfInBounds_toArray, List.set_cons_zero, List.set_cons_succ]
        refine wpAnyH_take (i := 16) (oi := { dst := some 134, op := Op.call { callee := Callee.value (Operand.func 32), args := #[Operand.tmp 133], argTypes := #[47] }, type := 22, pos := "laws.go:358", after := #[{ on := 15, ground := Ground.data }, { on := 14, ground := Ground.chain }, { on := 14, ground := Ground.guard }], guard := some (14, true) }) (v := undef) rfl (by kernel_rfl) (by kernel_rfl) (by kernel_rfl) (fun _ _ _ h => h) (Or.inr ⟨by rfl, rfl⟩) (by assumption) ?_
        try simp only [Act.put, List.setIfInBounds_toArray, List.set_cons_zero, List.set_cons_succ]
        refine wpAnyH_take (i := 17) (oi := { dst := some 135, op := Op.convert 22 9 (Operand.tmp 134), type := 9, pos := "laws.go:358", after := #[{ on := 16, ground := Ground.data }, { on := 14, ground := Ground.guard }], guard := some (14, true) }) (v := undef) rfl (by kernel_rfl) (by kernel_rfl) (by kernel_rfl) (fun _ _ _ h => h) (Or.inr ⟨by rfl, rfl⟩) (by assumption) ?_
        try simp only [Act.put, List.setIfInBounds_toArray, List.set_cons_zero, List.set_cons_succ]
        refine wpAnyH_take (i := 18) (oi := { dst := some 136, op := Op.move (Operand.tmp 16), type := 22, pos := "laws.go:358", after := #[{ on := 14, ground := Ground.guard }], guard := some (14, true) }) (v := undef) rfl (by kernel_rfl) (by kernel_rfl) (by kernel_rfl) (fun _ _ _ h => h) (Or.inr ⟨by rfl, rfl⟩) (by assumption) ?_
        try simp only [Act.put, List.setIfInBounds_toArray, List.set_cons_zero, List.set_cons_succ]
        refine wpAnyH_take (i := 19) (oi := { dst := some 137, op := Op.convert 22 9 (Operand.tmp 136), type := 9, pos := "laws.go:358", after := #[{ on := 18, ground := Ground.data }, { on := 14, ground := Ground.guard }], guard := some (14, true) }) (v := undef) rfl (by kernel_rfl) (by kernel_rfl) (by kernel_rfl) (fun _ _ _ h => h) (Or.inr ⟨by rfl, rfl⟩) (by assumption) ?_
        try simp only [Act.put, List.setIfInBounds_toArray, List.set_cons_zero, List.set_cons_succ]
        refine wpAnyH_take (i := 20) (oi := { dst := some 138, op := Op.binOp BinOp.neq 9 (Operand.tmp 135) (Operand.tmp 137) 9, type := 4, pos := "laws.go:358", after := #[{ on := 17, ground := Ground.data }, { on := 19, ground := Ground.data }, { on := 14, ground := Ground.guard }], guard := some (14, true) }) (v := undef) rfl (by kernel_rfl) (by kernel_rfl) (by kernel_rfl) (fun _ _ _ h => h) (Or.inr ⟨by rfl, rfl⟩) (by assumption) ?_
        try simp only [Act.put, List.setIfInBounds_toArray, List.set_cons_zero, List.set_cons_succ]
        refine wpAnyH_take (i := 21) (oi := { dst := some 139, op := Op.pick (Operand.tmp 132) (Operand.tmp 138) (Operand.const (Value.bool false)), type := 4, pos := "laws.go:358", after := #[{ on := 14, ground := Ground.data }, { on := 20, ground := Ground.data }, { on := 12, ground := Ground.guard }], guard := some (12, false) }) (v := ?_) rfl (by kernel_rfl) (by kernel_rfl) (by kernel_rfl) (fun _ _ _ h => h) (Or.inl ⟨by rfl, ?_⟩) (by assumption) ?_
        rotate_left 1
        · (intro wq hSw; (try dsimp only at hSw); go_simp; try with_reducible rfl)
        try simp only [Act.put, List.setIfInBounds_toArray, List.set_cons_zero, List.set_cons_succ]
        refine wpAnyH_take (i := 22) (oi := { dst := some 140, op := Op.pick (Operand.tmp 130) (Operand.const (Value.bool true)) (Operand.tmp 139), type := 4, pos := "laws.go:358", after := #[{ on := 12, ground := Ground.data }, { on := 21, ground := Ground.data }], guard := none }) (v := ?_) rfl (by kernel_rfl) (by kernel_rfl) (by kernel_rfl) (fun _ _ _ h => h) (Or.inl ⟨by rfl, ?_⟩) (by assumption) ?_
        rotate_left 1
        · (intro wq hSw; (try dsimp only at hSw); go_simp; try with_reducible rfl)
        try simp only [Act.put, List.setIfInBounds_toArray, List.set_cons_zero, List.set_cons_succ]
        refine wpAnyH_done (by kernel_rfl) ?_ _
        have HT := H18
        clear H18
        generalize w18 = w19 at *
        clear HIB HIP HS16 HSX
        go_wp2_with fail
        go_loopw [21, 22] (fun al i wr => ∃ (j : Nat) (ba : Bool), j ≤ k ∧ i = .int .i64 j ∧ al = .bool ba ∧ Hid (ba = true → ∀ t, t < j → MgOk (M t)) ∧ Hid (ZB w wr ∧ VM wr X1 m mo mc ∧ VB wr bo (mby m) ∧ VB wr xo X ∧ VM wr X4 r ro rc ∧ VM wr X6 q qo qc ∧ ML wr lo k M ∧ VB wr po (pck M k) ∧ VB wr yo Y ∧ ML wr uo ku U)) (fun _ i _ => k - (intOf i).toNat)
        case atStart => exact ⟨0, true, by omega, rfl, rfl, fun _ t ht => absurd ht (by omega), HT.out⟩
        case round =>
          obtain ⟨j, ba, hj, rfl, rfl, HA, HI⟩ := hrel
          clear HT
          by_cases hlt : j < k
          · cases ba
            · go_wp2_with fail
              go_roundw
              case rel => exact ⟨j + 1, false, by omega, by go_num, rfl, (fun h => by cases h), HI.out⟩
              case measure => simp [intOf]; omega
            · obtain ⟨b, off, hlo, ro', rc', hrc', hsl', c0, c1, c2, c3, c4⟩ := HI.out.2.2.2.2.2.2.1 j hlt
              subst hlo
              have hgl := HML.out j hlt
              obtain ⟨mm, hmm⟩ : ∃ mm, mm = M j := ⟨_, rfl⟩
              rw [← hmm] at hgl hrc' hsl' c0 c1 c2 c3 c4
              have HMM := hide hmm
              have HSL := hide hsl'
              clear hmm hsl'
              go_wp2_with fail
              refine (msgok_impl ro' mm.g.length rc' _ mm.k mm.c mm.v mm.h wr (by omega) hrc' HSL.out).mono ?_
              rintro e w20 ht
              obtain ⟨bz, rfl, hbz, hb20⟩ := mg_tells (m := mm) ht
              have HI2 : Hid (ZB w w20 ∧ VM w20 X1 m mo mc ∧ VB w20 bo (mby m) ∧ VB w20 xo X ∧ VM w20 X4 r ro rc ∧ VM w20 X6 q qo qc ∧ ML w20 (some ⟨b, off, none⟩) k M ∧ VB w20 po (pck M k) ∧ VB w20 yo Y ∧ ML w20 uo ku U) := ⟨HI.out.1.st hb20, HI.out.2.1.st hb20, HI.out.2.2.1.st hb20, HI.out.2.2.2.1.st hb20, HI.out.2.2.2.2.1.st hb20, HI.out.2.2.2.2.2.1.st hb20, HI.out.2.2.2.2.2.2.1.st hb20, HI.out.2.2.2.2.2.2.2.1.st hb20, HI.out.2.2.2.2.2.2.2.2.1.st hb20, HI.out.2.2.2.2.2.2.2.2.2.st hb20⟩
              have HBZ := hide hbz
              clear ht hb20 hbz HI c0 c1 c2 c3 c4 HSL
              go_wp2_with fail
              go_roundw
              case rel =>
                refine ⟨j + 1, bz, by omega, by go_num, rfl, fun h t ht => ?_, HI2.out⟩
                by_cases e : t = j
                · rw [e, ← HMM.out]; exact HBZ.out.1 h
                · exact HA.out (by simp) t (by omega)
              case measure => simp [intOf]; omega
          · obtain rfl : j = k := by omega
            cases ba
            · clear HA
              have H29 : Hid (ZB w wr ∧ VM wr X1 m mo mc ∧ VB wr bo (mby m)) := ⟨HI.out.1, HI.out.2.1, HI.out.2.2.1⟩
              clear HI
              obtain ⟨e0, e1, e2, e3, e4⟩ := H29.out.2.1.1.cells
              go_wp2_with fail
              refine (msgok_impl mo m.g.length mc _ m.k m.c m.v m.h wr (by omega) H29.out.2.1.2.1 H29.out.2.1.2.2).mono ?_
              rintro e w30 ht
              obtain ⟨bz, rfl, hbz, hb30⟩ := mg_tells (m := m) ht
              have H30 : Hid (ZB w w30 ∧ VM w30 X1 m mo mc ∧ VB w30 bo (mby m)) := ⟨H29.out.1.st hb30, H29.out.2.1.st hb30, H29.out.2.2.st hb30⟩
              have HBM := hide hbz
              clear ht hb30 hbz H29 e0 e1 e2 e3 e4
              cases bz
              · have h0 : (mby m).length = 0 := mby_no (fun h => by have := HBM.out.2 h; cases this)
                go_wp2_with fail
                go_ret
                exact ⟨rfl, H30.out.1⟩
              · have hok : MgOk m := HBM.out.1 rfl
                have hpos : 0 < (mby m).length := mb_pos hok
                have hbk := hide (mof_back m hok w30 bo bc hbc H30.out.2.2)
                have HOK := hide hok
                clear hok HBM
                go_wp2_with fail
                refine hbk.out.mono ?_
                rintro e w31 ⟨r2o, r2c, rfl, hr2c, hr2s, b31⟩
                have H31 : Hid (ZB w (w31.alloc (.cells #[.int .i64 m.k, .int .i64 m.c, .int .i64 m.v, .int .i64 m.h, .slice r2o m.g.length r2c] 40)) ∧ VM (w31.alloc (.cells #[.int .i64 m.k, .int .i64 m.c, .int .i64 m.v, .int .i64 m.h, .slice r2o m.g.length r2c] 40)) X1 m mo mc ∧ VB (w31.alloc (.cells #[.int .i64 m.k, .int .i64 m.c, .int .i64 m.v, .int .i64 m.h, .slice r2o m.g.length r2c] 40)) bo (mby m) ∧ VM (w31.alloc (.cells #[.int .i64 m.k, .int .i64 m.c, .int .i64 m.v, .int .i64 m.h, .slice r2o m.g.length r2c] 40)) w31.heap.size m r2o r2c) := ⟨H30.out.1.st (b31.trans ((zal1 w31 (.cells #[.int .i64 m.k, .int .i64 m.c, .int .i64 m.v, .int .i64 m.h, .slice r2o m.g.length r2c] 40)).mono b31.size)), H30.out.2.1.st (b31.trans ((zal1 w31 (.cells #[.int .i64 m.k, .int .i64 m.c, .int .i64 m.v, .int .i64 m.h, .slice r2o m.g.length r2c] 40)).mono b31.size)), H30.out.2.2.st (b31.trans ((zal1 w31 (.cells #[.int .i64 m.k, .int .i64 m.c, .int .i64 m.v, .int .i64 m.h, .slice r2o m.g.length r2c] 40)).mono b31.size)), ⟨MB.new w31 _ _ _ _ _ _ _ _, hr2c, hr2s.below (zal1 _ _)⟩⟩
                clear hbk b31 hr2s hr2c H30
                go_wp2_with fail
                generalize w31.alloc (.cells #[.int .i64 m.k, .int .i64 m.c, .int .i64 m.v, .int .i64 m.h, .slice r2o m.g.length r2c] 40) = W31 at *
                generalize w31.heap.size = X31 at *
                refine (mof_short m HOK.out W31 bo bc hbc H31.out.2.2.1).mono ?_
                rintro e w32 ⟨rfl, b32⟩
                have H32 : Hid (ZB w w32 ∧ VM w32 X1 m mo mc ∧ VM w32 X31 m r2o r2c) := ⟨H31.out.1.st b32, H31.out.2.1.st b32, H31.out.2.2.2.st b32⟩
                clear b32 H31
                obtain ⟨e0, e1, e2, e3, e4⟩ := H32.out.2.1.1.cells
                obtain ⟨d0, d1, d2, d3, d4⟩ := H32.out.2.2.1.cells
                have l1 := H32.out.2.1.1.lt
                have l2 := H32.out.2.2.1.lt
                go_wp2_with fail
                refine (smsg_yes m r2o mo r2c mc _ (by omega) (H32.out.2.2.2.2.below (zal1 w32 (.cells #[.int .i64 0, .int .i64 0, .int .i64 0, .int .i64 0, .slice none 0 0] 40))) (H32.out.2.1.2.2.below (zal1 w32 (.cells #[.int .i64 0, .int .i64 0, .int .i64 0, .int .i64 0, .slice none 0 0] 40)))).mono ?_
                rintro e w33 ⟨rfl, b33⟩
                go_wp2_with fail
                go_ret
                exact ⟨rfl, (H32.out.1.st (zal1 w32 (.cells #[.int .i64 0, .int .i64 0, .int .i64 0, .int .i64 0, .slice none 0 0] 40))).st b33⟩
            · have hun := hide (unp_back M j (by omega) (HA.out rfl) wr po pc (by have := pck_le M j; omega) HI.out.2.2.2.2.2.2.2.1)
              go_wp2_with fail
              refine hun.out.mono ?_
              rintro e w21 ⟨zo, zc, rfl, hmz, b21⟩
              have HJ : Hid ((ZB w w21 ∧ VM w21 X1 m mo mc ∧ VB w21 bo (mby m) ∧ VB w21 xo X ∧ VM w21 X4 r ro rc ∧ VM w21 X6 q qo qc ∧ ML w21 lo j M ∧ VB w21 po (pck M j) ∧ VB w21 yo Y ∧ ML w21 uo ku U) ∧ ML w21 zo j M) := ⟨⟨HI.out.1.st b21, HI.out.2.1.st b21, HI.out.2.2.1.st b21, HI.out.2.2.2.1.st b21, HI.out.2.2.2.2.1.st b21, HI.out.2.2.2.2.2.1.st b21, HI.out.2.2.2.2.2.2.1.st b21, HI.out.2.2.2.2.2.2.2.1.st b21, HI.out.2.2.2.2.2.2.2.2.1.st b21, HI.out.2.2.2.2.2.2.2.2.2.st b21⟩, hmz⟩
              clear hun hmz b21 HI HA
              go_wp2_with fail
              go_loopw [25] (fun i wr => ∃ t : Nat, t ≤ j ∧ i = .int .i64 t ∧ Hid ((ZB w wr ∧ VM wr X1 m mo mc ∧ VB wr bo (mby m) ∧ VB wr xo X ∧ VM wr X4 r ro rc ∧ VM wr X6 q qo qc ∧ ML wr lo j M ∧ VB wr po (pck M j) ∧ VB wr yo Y ∧ ML wr uo ku U) ∧ ML wr zo j M)) (fun i _ => j - (intOf i).toNat)
              case atStart => exact ⟨0, by omega, rfl, HJ.out⟩
              case round =>
                obtain ⟨t, htj, rfl, HI⟩ := hrel
                clear HJ
                by_cases hlt : t < j
                · have H29 : Hid ((ZB w wr.drew ∧ VM wr.drew X1 m mo mc ∧ VB wr.drew bo (mby m) ∧ VB wr.drew xo X ∧ VM wr.drew X4 r ro rc ∧ VM wr.drew X6 q qo qc ∧ ML wr.drew lo j M ∧ VB wr.drew po (pck M j) ∧ VB wr.drew yo Y ∧ ML wr.drew uo ku U) ∧ ML wr.drew zo j M) := ⟨⟨HI.out.1.1.st (Below.drawn (Below.refl wr.heap.size wr) 1), HI.out.1.2.1.st (Below.drawn (Below.refl wr.heap.size wr) 1), HI.out.1.2.2.1.st (Below.drawn (Below.refl wr.heap.size wr) 1), HI.out.1.2.2.2.1.st (Below.drawn (Below.refl wr.heap.size wr) 1), HI.out.1.2.2.2.2.1.st (Below.drawn (Below.refl wr.heap.size wr) 1), HI.out.1.2.2.2.2.2.1.st (Below.drawn (Below.refl wr.heap.size wr) 1), HI.out.1.2.2.2.2.2.2.1.st (Below.drawn (Below.refl wr.heap.size wr) 1), HI.out.1.2.2.2.2.2.2.2.1.st (Below.drawn (Below.refl wr.heap.size wr) 1), HI.out.1.2.2.2.2.2.2.2.2.1.st (Below.drawn (Below.refl wr.heap.size wr) 1), HI.out.1.2.2.2.2.2.2.2.2.2.st (Below.drawn (Below.refl wr.heap.size wr) 1)⟩, HI.out.2.st (Below.drawn (Below.refl wr.heap.size wr) 1)⟩
                  clear HI
                  obtain ⟨b, off, hlo, ro', rc', hrc', hsl', c⟩ := H29.out.1.2.2.2.2.2.2.1 t hlt
                  obtain ⟨b', off', hzo, so', sc', hsc', hsl2, d⟩ := H29.out.2 t hlt
                  have hgl := HML.out t hlt
                  generalize M t = mm at hrc' hsl' c hsc' hsl2 d hgl
                  have HC := hide c
                  have HD := hide d
                  have hA := hide hsl'
                  have hB := hide hsl2
                  clear c d hsl' hsl2
                  subst hlo
                  subst hzo
                  go_wp2_with fail
                  have hS3 : (wr.drew.cell? ⟨b, off + t * 5, none⟩ = some (.int .i64 mm.k) ∧ wr.drew.cell? ⟨b, off + t * 5 + 1, none⟩ = some (.int .i64 mm.c) ∧ wr.drew.cell? ⟨b, off + t * 5 + 2, none⟩ = some (.int .i64 mm.v) ∧ wr.drew.cell? ⟨b, off + t * 5 + 3, none⟩ = some (.int .i64 mm.h) ∧ wr.drew.cell? ⟨b, off + t * 5 + 4, none⟩ = some (.slice ro' mm.g.length rc')) ∧ (wr.drew.cell? ⟨b', off' + t * 5, none⟩ = some (.int .i64 mm.k) ∧ wr.drew.cell? ⟨b', off' + t * 5 + 1, none⟩ = some (.int .i64 mm.c) ∧ wr.drew.cell? ⟨b', off' + t * 5 + 2, none⟩ = some (.int .i64 mm.v) ∧ wr.drew.cell? ⟨b', off' + t * 5 + 3, none⟩ = some (.int .i64 mm.h) ∧ wr.drew.cell? ⟨b', off' + t * 5 + 4, none⟩ = some (.slice so' mm.g.length sc')) := ⟨HC.out, HD.out⟩
                  refine wp_region_held_drew (S := (fun w' => (w'.cell? ⟨b, off + t * 5, none⟩ = some (.int .i64 mm.k) ∧ w'.cell? ⟨b, off + t * 5 + 1, none⟩ = some (.int .i64 mm.c) ∧ w'.cell? ⟨b, off + t * 5 + 2, none⟩ = some (.int .i64 mm.v) ∧ w'.cell? ⟨b, off + t * 5 + 3, none⟩ = some (.int .i64 mm.h) ∧ w'.cell? ⟨b, off + t * 5 + 4, none⟩ = some (.slice ro' mm.g.length rc')) ∧ (w'.cell? ⟨b', off' + t * 5, none⟩ = some (.int .i64 mm.k) ∧ w'.cell? ⟨b', off' + t * 5 + 1, none⟩ = some (.int .i64 mm.c) ∧ w'.cell? ⟨b', off' + t * 5 + 2, none⟩ = some (.int .i64 mm.v) ∧ w'.cell? ⟨b', off' + t * 5 + 3, none⟩ = some (.int .i64 mm.h) ∧ w'.cell? ⟨b', off' + t * 5 + 4, none⟩ = some (.slice so' mm.g.length sc')))) (by kernel_rfl) ?_ (fun hHeld => ?_)
                  · exact hS3
                  refine wpAnyH_take (i := 0) (oi := { dst := some 176, op := Op.move (Operand.tmp 23), type := 47, pos := "laws.go:371", after := #[], guard := none }) (v := ?_) rfl (by kernel_rfl) (by kernel_rfl) (by kernel_rfl) (fun _ _ _ h => h) (Or.inl ⟨by rfl, ?_⟩) (by assumption) ?_
                  rotate_left 1
                  · (intro wq hSw; (try dsimp only at hSw); go_simp; try with_reducible rfl)
                  try simp only [Act.put, List.setIfInBounds_toArray, List.set_cons_zero, List.set_cons_succ]
                  refine wpAnyH_take (i := 1) (oi := { dst := some 177, op := Op.move (Operand.tmp 25), type := 3, pos := "laws.go:371", after := #[], guard := none }) (v := ?_) rfl (by kernel_rfl) (by kernel_rfl) (by kernel_rfl) (fun _ _ _ h => h) (Or.inl ⟨by rfl, ?_⟩) (by assumption) ?_
                  rotate_left 1
                  · (intro wq hSw; (try dsimp only at hSw); go_simp; try with_reducible rfl)
                  try simp only [Act.put, List.setIfInBounds_toArray, List.set_cons_zero, List.set_cons_succ]
                  refine wpAnyH_take (i := 2) (oi := { dst := some 178, op := Op.indexAddr 47 (Operand.tmp 176) (Operand.tmp 177), type := 0, pos := "laws.go:371", after := #[{ on := 0, ground := Ground.data }, { on := 1, ground := Ground.data }], guard := none }) (v := ?_) rfl (by kernel_rfl) (by kernel_rfl) (by kernel_rfl) (fun _ _ _ h => h) (Or.inl ⟨by rfl, ?_⟩) (by assumption) ?_
                  rotate_left 1
                  · (intro wq hSw; (try dsimp only at hSw); go_simp; try with_reducible rfl)
                  try simp only [Act.put, List.setIfInBounds_toArray, List.set_cons_zero, List.set_cons_succ]
                  refine wpAnyH_take (i := 3) (oi := { dst := some 179, op := Op.load 40 (Operand.tmp 178), type := 40, pos := "laws.go:371", after := #[{ on := 2, ground := Ground.data }], guard := none }) (v := ?_) rfl (by kernel_rfl) (by kernel_rfl) (by kernel_rfl) (fun _ _ _ h => h) (Or.inl ⟨by rfl, ?_⟩) (by assumption) ?_
                  rotate_left 1
                  · (intro wq hSw; (try dsimp only at hSw); go_simp; try with_reducible rfl)
                  try simp only [Act.put, List.setIfInBounds_toArray, List.set_cons_zero, List.set_cons_succ]
                  refine wpAnyH_take (i := 4) (oi := { dst := some 180, op := Op.move (Operand.tmp 14), type := 47, pos := "laws.go:371", after := #[], guard := none }) (v := ?_) rfl (by kernel_rfl) (by kernel_rfl) (by kernel_rfl) (fun _ _ _ h => h) (Or.inl ⟨by rfl, ?_⟩) (by assumption) ?_
                  rotate_left 1
                  · (intro wq hSw; (try dsimp only at hSw); go_simp; try with_reducible rfl)
                  try simp only [Act.put, List.setIfInBounds_toArray, List.set_cons_zero, List.set_cons_succ]
                  refine wpAnyH_take (i := 5) (oi := { dst := some 181, op := Op.move (Operand.tmp 25), type := 3, pos := "laws.go:371", after := #[], guard := none }) (v := ?_) rfl (by kernel_rfl) (by kernel_rfl) (by kernel_rfl) (fun _ _ _ h => h) (Or.inl ⟨by rfl, ?_⟩) (by assumption) ?_
                  rotate_left 1
                  · (intro wq hSw; (try dsimp only at hSw); go_simp; try with_reducible rfl)
                  try simp only [Act.put, List.setIfInBounds_toArray, List.set_cons_zero, List.set_cons_succ]
                  refine wpAnyH_take (i := 6) (oi := { dst := some 182, op := Op.indexAddr 47 (Operand.tmp 180) (Operand.tmp 181), type := 0, pos := "laws.go:371", after := #[{ on := 4, ground := Ground.data }, { on := 5, ground := Ground.data }], guard := none }) (v := ?_) rfl (by kernel_rfl) (by kernel_rfl) (by kernel_rfl) (fun _ _ _ h => h) (Or.inl ⟨by rfl, ?_⟩) (by assumption) ?_
                  rotate_left 1
                  · (intro wq hSw; (try dsimp only at hSw); go_simp; try with_reducible rfl)
                  try simp only [Act.put, List.setIfInBounds_toArray, List.set_cons_zero, List.set_cons_succ]
                  refine wpAnyH_take (i := 7) (oi := { dst := some 183, op := Op.load 40 (Operand.tmp 182), type := 40, pos := "laws.go:371", after := #[{ on := 6, ground := Ground.data }], guard := none }) (v := ?_) rfl (by kernel_rfl) (by kernel_rfl) (by kernel_rfl) (fun _ _ _ h => h) (Or.inl ⟨by rfl, ?_⟩) (by assumption) ?_
                  rotate_left 1
                  · (intro wq hSw; (try dsimp only at hSw); go_simp; try with_reducible rfl)
                  try simp only [Act.put, List.setIfInBounds_toArray, List.set_cons_zero, List.set_cons_succ]
                  refine wpAnyH_ready (rs := [8]) (by kernel_rfl) (by simp) ?_
                  refine AllReadyH.cons (o := { dst := some 184, op := Op.call { callee := Callee.value (Operand.func 40), args := #[Operand.tmp 179, Operand.tmp 183], argTypes := #[40, 40] }, type := 4, pos := "laws.go:371", after := #[{ on := 3, ground := Ground.data }, { on := 7, ground := Ground.data }], guard := none }) rfl (fun K hK => ?_) AllReadyH.nil
                  go_simp
                  refine (smsg_yes mm so' ro' sc' rc' _ (by omega) hB.out hA.out).mono ?_
                  rintro e w22 ⟨rfl, hb22⟩
                  have H22 := hide (And.intro (⟨H29.out.1.1.st hb22, H29.out.1.2.1.st hb22, H29.out.1.2.2.1.st hb22, H29.out.1.2.2.2.1.st hb22, H29.out.1.2.2.2.2.1.st hb22, H29.out.1.2.2.2.2.2.1.st hb22, H29.out.1.2.2.2.2.2.2.1.st hb22, H29.out.1.2.2.2.2.2.2.2.1.st hb22, H29.out.1.2.2.2.2.2.2.2.2.1.st hb22, H29.out.1.2.2.2.2.2.2.2.2.2.st hb22⟩ : ZB w w22 ∧ VM w22 X1 m mo mc ∧ VB w22 bo (mby m) ∧ VB w22 xo X ∧ VM w22 X4 r ro rc ∧ VM w22 X6 q qo qc ∧ ML w22 (some ⟨b, off, none⟩) j M ∧ VB w22 po (pck M j) ∧ VB w22 yo Y ∧ ML w22 uo ku U) (H29.out.2.st hb22))
                  have hk22 : (w22.cell? ⟨b, off + t * 5, none⟩ = some (.int .i64 mm.k) ∧ w22.cell? ⟨b, off + t * 5 + 1, none⟩ = some (.int .i64 mm.c) ∧ w22.cell? ⟨b, off + t * 5 + 2, none⟩ = some (.int .i64 mm.v) ∧ w22.cell? ⟨b, off + t * 5 + 3, none⟩ = some (.int .i64 mm.h) ∧ w22.cell? ⟨b, off + t * 5 + 4, none⟩ = some (.slice ro' mm.g.length rc')) ∧ (w22.cell? ⟨b', off' + t * 5, none⟩ = some (.int .i64 mm.k) ∧ w22.cell? ⟨b', off' + t * 5 + 1, none⟩ = some (.int .i64 mm.c) ∧ w22.cell? ⟨b', off' + t * 5 + 2, none⟩ = some (.int .i64 mm.v) ∧ w22.cell? ⟨b', off' + t * 5 + 3, none⟩ = some (.int .i64 mm.h) ∧ w22.cell? ⟨b', off' + t * 5 + 4, none⟩ = some (.slice so' mm.g.length sc')) := ⟨five_below HC.out hb22, five_below HD.out hb22⟩
                  clear hb22
                  go_wp2_with fail
                  refine hK.out _ _ ?_ (fun hHeld => ?_)
                  · exact hk22
                  clear hK K
                  try simp only [Act.put, List.setIfInBounds_toArray, List.set_cons_zero, List.set_cons_succ]
                  refine wpAnyH_take (i := 9) (oi := { dst := some 185, op := Op.unOp UnOp.not 4 (Operand.tmp 184), type := 4, pos := "laws.go:371", after := #[{ on := 8, ground := Ground.data }], guard := none }) (v := ?_) rfl (by kernel_rfl) (by kernel_rfl) (by kernel_rfl) (fun _ _ _ h => h) (Or.inl ⟨by rfl, ?_⟩) (by assumption) ?_
                  rotate_left 1
                  · (intro wq hSw; (try dsimp only at hSw); go_simp; try with_reducible rfl)
                  try simp only [Act.put, List.setIfInBounds_toArray, List.set_cons_zero, List.set_cons_succ]
                  refine wpAnyH_done (by kernel_rfl) ?_ _
                  go_wp2_with fail
                  go_roundw
                  case rel => exact ⟨t + 1, by omega, by go_num, H22.out⟩
                  case measure => simp [intOf]; omega
                · obtain rfl : t = j := by omega
                  have HI := hide HI.out.1
                  have H29 : Hid (ZB w wr ∧ VM wr X1 m mo mc ∧ VB wr bo (mby m)) := ⟨HI.out.1, HI.out.2.1, HI.out.2.2.1⟩
                  clear HI
                  obtain ⟨e0, e1, e2, e3, e4⟩ := H29.out.2.1.1.cells
                  go_wp2_with fail
                  refine (msgok_impl mo m.g.length mc _ m.k m.c m.v m.h wr (by omega) H29.out.2.1.2.1 H29.out.2.1.2.2).mono ?_
                  rintro e w30 ht
                  obtain ⟨bz, rfl, hbz, hb30⟩ := mg_tells (m := m) ht
                  have H30 : Hid (ZB w w30 ∧ VM w30 X1 m mo mc ∧ VB w30 bo (mby m)) := ⟨H29.out.1.st hb30, H29.out.2.1.st hb30, H29.out.2.2.st hb30⟩
                  have HBM := hide hbz
                  clear ht hb30 hbz H29 e0 e1 e2 e3 e4
                  cases bz
                  · have h0 : (mby m).length = 0 := mby_no (fun h => by have := HBM.out.2 h; cases this)
                    go_wp2_with fail
                    go_ret
                    exact ⟨rfl, H30.out.1⟩
                  · have hok : MgOk m := HBM.out.1 rfl
                    have hpos : 0 < (mby m).length := mb_pos hok
                    have hbk := hide (mof_back m hok w30 bo bc hbc H30.out.2.2)
                    have HOK := hide hok
                    clear hok HBM
                    go_wp2_with fail
                    refine hbk.out.mono ?_
                    rintro e w31 ⟨r2o, r2c, rfl, hr2c, hr2s, b31⟩
                    have H31 : Hid (ZB w (w31.alloc (.cells #[.int .i64 m.k, .int .i64 m.c, .int .i64 m.v, .int .i64 m.h, .slice r2o m.g.length r2c] 40)) ∧ VM (w31.alloc (.cells #[.int .i64 m.k, .int .i64 m.c, .int .i64 m.v, .int .i64 m.h, .slice r2o m.g.length r2c] 40)) X1 m mo mc ∧ VB (w31.alloc (.cells #[.int .i64 m.k, .int .i64 m.c, .int .i64 m.v, .int .i64 m.h, .slice r2o m.g.length r2c] 40)) bo (mby m) ∧ VM (w31.alloc (.cells #[.int .i64 m.k, .int .i64 m.c, .int .i64 m.v, .int .i64 m.h, .slice r2o m.g.length r2c] 40)) w31.heap.size m r2o r2c) := ⟨H30.out.1.st (b31.trans ((zal1 w31 (.cells #[.int .i64 m.k, .int .i64 m.c, .int .i64 m.v, .int .i64 m.h, .slice r2o m.g.length r2c] 40)).mono b31.size)), H30.out.2.1.st (b31.trans ((zal1 w31 (.cells #[.int .i64 m.k, .int .i64 m.c, .int .i64 m.v, .int .i64 m.h, .slice r2o m.g.length r2c] 40)).mono b31.size)), H30.out.2.2.st (b31.trans ((zal1 w31 (.cells #[.int .i64 m.k, .int .i64 m.c, .int .i64 m.v, .int .i64 m.h, .slice r2o m.g.length r2c] 40)).mono b31.size)), ⟨MB.new w31 _ _ _ _ _ _ _ _, hr2c, hr2s.below (zal1 _ _)⟩⟩
                    clear hbk b31 hr2s hr2c H30
                    go_wp2_with fail
                    generalize w31.alloc (.cells #[.int .i64 m.k, .int .i64 m.c, .int .i64 m.v, .int .i64 m.h, .slice r2o m.g.length r2c] 40) = W31 at *
                    generalize w31.heap.size = X31 at *
                    refine (mof_short m HOK.out W31 bo bc hbc H31.out.2.2.1).mono ?_
                    rintro e w32 ⟨rfl, b32⟩
                    have H32 : Hid (ZB w w32 ∧ VM w32 X1 m mo mc ∧ VM w32 X31 m r2o r2c) := ⟨H31.out.1.st b32, H31.out.2.1.st b32, H31.out.2.2.2.st b32⟩
                    clear b32 H31
                    obtain ⟨e0, e1, e2, e3, e4⟩ := H32.out.2.1.1.cells
                    obtain ⟨d0, d1, d2, d3, d4⟩ := H32.out.2.2.1.cells
                    have l1 := H32.out.2.1.1.lt
                    have l2 := H32.out.2.2.1.lt
                    go_wp2_with fail
                    refine (smsg_yes m r2o mo r2c mc _ (by omega) (H32.out.2.2.2.2.below (zal1 w32 (.cells #[.int .i64 0, .int .i64 0, .int .i64 0, .int .i64 0, .slice none 0 0] 40))) (H32.out.2.1.2.2.below (zal1 w32 (.cells #[.int .i64 0, .int .i64 0, .int .i64 0, .int .i64 0, .slice none 0 0] 40)))).mono ?_
                    rintro e w33 ⟨rfl, b33⟩
                    go_wp2_with fail
                    go_ret
                    exact ⟨rfl, (H32.out.1.st (zal1 w32 (.cells #[.int .i64 0, .int .i64 0, .int .i64 0, .int .i64 0, .slice none 0 0] 40))).st b33⟩
      ·
        refine wpAnyH_take (i := 13) (oi := { dst := some 131, op := Op.move (Operand.tmp 18), type := 4, pos := "laws.go:358", after := #[{ on := 12, ground := Ground.guard }], guard := some (12, false) }) (v := ?_) rfl (by kernel_rfl) (by kernel_rfl) (by kernel_rfl) (fun _ _ _ h => h) (Or.inl ⟨by rfl, ?_⟩) (by assumption) ?_
        rotate_left 1
        · (intro wq hSw; (try dsimp only at hSw); go_simp; try with_reducible rfl)
        try simp only [Act.put, List.setIfInBounds_toArray, List.set_cons_zero, List.set_cons_succ]
        refine wpAnyH_take (i := 14) (oi := { dst := some 132, op := Op.move (Operand.tmp 131), type := 4, pos := "laws.go:358", after := #[{ on := 13, ground := Ground.data }, { on := 12, ground := Ground.chain }, { on := 12, ground := Ground.guard }], guard := some (12, false) }) (v := ?_) rfl (by kernel_rfl) (by kernel_rfl) (by kernel_rfl) (fun _ _ _ h => h) (Or.inl ⟨by rfl, ?_⟩) (by assumption) ?_
        rotate_left 1
        · (intro wq hSw; (try dsimp only at hSw); go_simp; try with_reducible rfl)
        try simp only [Act.put, List.setIfInBounds_toArray, List.set_cons_zero, List.set_cons_succ]
        refine wpAnyH_take (i := 15) (oi := { dst := some 133, op := Op.move (Operand.tmp 17), type := 47, pos := "laws.go:358", after := #[{ on := 14, ground := Ground.guard }], guard := some (14, true) }) (v := ?_) rfl (by kernel_rfl) (by kernel_rfl) (by kernel_rfl) (fun _ _ _ h => h) (Or.inl ⟨by rfl, ?_⟩) (by assumption) ?_
        rotate_left 1
        · (intro wq hSw; (try dsimp only at hSw); go_simp; try with_reducible rfl)
        try simp only [Act.put, List.setIfInBounds_toArray, List.set_cons_zero, List.set_cons_succ]
        refine wpAnyH_take (i := 18) (oi := { dst := some 136, op := Op.move (Operand.tmp 16), type := 22, pos := "laws.go:358", after := #[{ on := 14, ground := Ground.guard }], guard := some (14, true) }) (v := ?_) rfl (by kernel_rfl) (by kernel_rfl) (by kernel_rfl) (fun _ _ _ h => h) (Or.inl ⟨by rfl, ?_⟩) (by assumption) ?_
        rotate_left 1
        · (intro wq hSw; (try dsimp only at hSw); go_simp; try with_reducible rfl)
        try simp only [Act.put, List.setIfInBounds_toArray, List.set_cons_zero, List.set_cons_succ]
        refine wpAnyH_take (i := 19) (oi := { dst := some 137, op := Op.convert 22 9 (Operand.tmp 136), type := 9, pos := "laws.go:358", after := #[{ on := 18, ground := Ground.data }, { on := 14, ground := Ground.guard }], guard := some (14, true) }) (v := ?_) rfl (by kernel_rfl) (by kernel_rfl) (by kernel_rfl) (fun _ _ _ h => h) (Or.inl ⟨by rfl, ?_⟩) (by assumption) ?_
        rotate_left 1
        · (intro wq hSw; (try dsimp only at hSw); go_simp; try with_reducible rfl)
        try simp only [Act.put, List.setIfInBounds_toArray, List.set_cons_zero, List.set_cons_succ]
        refine wpAnyH_ready (rs := [16]) (by kernel_rfl) (by simp) ?_
        refine AllReadyH.cons (o := { dst := some 134, op := Op.call { callee := Callee.value (Operand.func 32), args := #[Operand.tmp 133], argTypes := #[47] }, type := 22, pos := "laws.go:358", after := #[{ on := 15, ground := Ground.data }, { on := 14, ground := Ground.chain }, { on := 14, ground := Ground.guard }], guard := some (14, true) }) rfl (fun K hK => ?_) AllReadyH.nil
        go_simp
        refine (HIP.out rfl _ H18.out).mono ?_
        rintro e w19 ⟨ao4, c4, rfl, hc4, hst⟩
        have HT := hide hst
        have hk19 := HSX.out _ hst
        clear hst
        go_wp2_with fail
        refine hK.out _ _ ?_ (fun hHeld => ?_)
        · exact hk19
        clear hK K
        try simp only [Act.put, List.setIfInBounds_toArray, List.set_cons_zero, List.set_cons_succ]
        refine wpAnyH_ready (rs := [17]) (by kernel_rfl) (by simp) ?_
        refine AllReadyH.cons (o := { dst := some 135, op := Op.convert 22 9 (Operand.tmp 134), type := 9, pos := "laws.go:358", after := #[{ on := 16, ground := Ground.data }, { on := 14, ground := Ground.guard }], guard := some (14, true) }) rfl (fun K hK => ?_) AllReadyH.nil
        go_simp
        refine hK.out _ _ ?_ (fun hHeld => ?_)
        · exact hk19
        clear hK K
        try simp only [Act.put, List.setIfInBounds_toArray, List.set_cons_zero, List.set_cons_succ]
        refine wpAnyH_take (i := 20) (oi := { dst := some 138, op := Op.binOp BinOp.neq 9 (Operand.tmp 135) (Operand.tmp 137) 9, type := 4, pos := "laws.go:358", after := #[{ on := 17, ground := Ground.data }, { on := 19, ground := Ground.data }, { on := 14, ground := Ground.guard }], guard := some (14, true) }) (v := ?_) rfl (by kernel_rfl) (by kernel_rfl) (by kernel_rfl) (fun _ _ _ h => h) (Or.inl ⟨by rfl, ?_⟩) (by assumption) ?_
        rotate_left 1
        · (intro wq hSw; (try dsimp only at hSw); go_simp; try with_reducible rfl)
        try simp only [Act.put, List.setIfInBounds_toArray, List.set_cons_zero, List.set_cons_succ]
        refine wpAnyH_take (i := 21) (oi := { dst := some 139, op := Op.pick (Operand.tmp 132) (Operand.tmp 138) (Operand.const (Value.bool false)), type := 4, pos := "laws.go:358", after := #[{ on := 14, ground := Ground.data }, { on := 20, ground := Ground.data }, { on := 12, ground := Ground.guard }], guard := some (12, false) }) (v := ?_) rfl (by kernel_rfl) (by kernel_rfl) (by kernel_rfl) (fun _ _ _ h => h) (Or.inl ⟨by rfl, ?_⟩) (by assumption) ?_
        rotate_left 1
        · (intro wq hSw; (try dsimp only at hSw); go_simp; try with_reducible rfl)
        try simp only [Act.put, List.setIfInBounds_toArray, List.set_cons_zero, List.set_cons_succ]
        refine wpAnyH_take (i := 22) (oi := { dst := some 140, op := Op.pick (Operand.tmp 130) (Operand.const (Value.bool true)) (Operand.tmp 139), type := 4, pos := "laws.go:358", after := #[{ on := 12, ground := Ground.data }, { on := 21, ground := Ground.data }], guard := none }) (v := ?_) rfl (by kernel_rfl) (by kernel_rfl) (by kernel_rfl) (fun _ _ _ h => h) (Or.inl ⟨by rfl, ?_⟩) (by assumption) ?_
        rotate_left 1
        · (intro wq hSw; (try dsimp only at hSw); go_simp; try with_reducible rfl)
        try simp only [Act.put, List.setIfInBounds_toArray, List.set_cons_zero, List.set_cons_succ]
        refine wpAnyH_done (by kernel_rfl) ?_ _
        clear HIB HIP HS16 HSX
        go_wp2_with fail
        go_loopw [21, 22] (fun al i wr => ∃ (j : Nat) (ba : Bool), j ≤ k ∧ i = .int .i64 j ∧ al = .bool ba ∧ Hid (ba = true → ∀ t, t < j → MgOk (M t)) ∧ Hid (ZB w wr ∧ VM wr X1 m mo mc ∧ VB wr bo (mby m) ∧ VB wr xo X ∧ VM wr X4 r ro rc ∧ VM wr X6 q qo qc ∧ ML wr lo k M ∧ VB wr po (pck M k) ∧ VB wr yo Y ∧ ML wr uo ku U)) (fun _ i _ => k - (intOf i).toNat)
        case atStart => exact ⟨0, true, by omega, rfl, rfl, fun _ t ht => absurd ht (by omega), HT.out⟩
        case round =>
          obtain ⟨j, ba, hj, rfl, rfl, HA, HI⟩ := hrel
          clear HT
          by_cases hlt : j < k
          · cases ba
            · go_wp2_with fail
              go_roundw
              case rel => exact ⟨j + 1, false, by omega, by go_num, rfl, (fun h => by cases h), HI.out⟩
              case measure => simp [intOf]; omega
            · obtain ⟨b, off, hlo, ro', rc', hrc', hsl', c0, c1, c2, c3, c4⟩ := HI.out.2.2.2.2.2.2.1 j hlt
              subst hlo
              have hgl := HML.out j hlt
              obtain ⟨mm, hmm⟩ : ∃ mm, mm = M j := ⟨_, rfl⟩
              rw [← hmm] at hgl hrc' hsl' c0 c1 c2 c3 c4
              have HMM := hide hmm
              have HSL := hide hsl'
              clear hmm hsl'
              go_wp2_with fail
              refine (msgok_impl ro' mm.g.length rc' _ mm.k mm.c mm.v mm.h wr (by omega) hrc' HSL.out).mono ?_
              rintro e w20 ht
              obtain ⟨bz, rfl, hbz, hb20⟩ := mg_tells (m := mm) ht
              have HI2 : Hid (ZB w w20 ∧ VM w20 X1 m mo mc ∧ VB w20 bo (mby m) ∧ VB w20 xo X ∧ VM w20 X4 r ro rc ∧ VM w20 X6 q qo qc ∧ ML w20 (some ⟨b, off, none⟩) k M ∧ VB w20 po (pck M k) ∧ VB w20 yo Y ∧ ML w20 uo ku U) := ⟨HI.out.1.st hb20, HI.out.2.1.st hb20, HI.out.2.2.1.st hb20, HI.out.2.2.2.1.st hb20, HI.out.2.2.2.2.1.st hb20, HI.out.2.2.2.2.2.1.st hb20, HI.out.2.2.2.2.2.2.1.st hb20, HI.out.2.2.2.2.2.2.2.1.st hb20, HI.out.2.2.2.2.2.2.2.2.1.st hb20, HI.out.2.2.2.2.2.2.2.2.2.st hb20⟩
              have HBZ := hide hbz
              clear ht hb20 hbz HI c0 c1 c2 c3 c4 HSL
              go_wp2_with fail
              go_roundw
              case rel =>
                refine ⟨j + 1, bz, by omega, by go_num, rfl, fun h t ht => ?_, HI2.out⟩
                by_cases e : t = j
                · rw [e, ← HMM.out]; exact HBZ.out.1 h
                · exact HA.out (by simp) t (by omega)
              case measure => simp [intOf]; omega
          · obtain rfl : j = k := by omega
            cases ba
            · clear HA
              have H29 : Hid (ZB w wr ∧ VM wr X1 m mo mc ∧ VB wr bo (mby m)) := ⟨HI.out.1, HI.out.2.1, HI.out.2.2.1⟩
              clear HI
              obtain ⟨e0, e1, e2, e3, e4⟩ := H29.out.2.1.1.cells
              go_wp2_with fail
              refine (msgok_impl mo m.g.length mc _ m.k m.c m.v m.h wr (by omega) H29.out.2.1.2.1 H29.out.2.1.2.2).mono ?_
              rintro e w30 ht
              obtain ⟨bz, rfl, hbz, hb30⟩ := mg_tells (m := m) ht
              have H30 : Hid (ZB w w30 ∧ VM w30 X1 m mo mc ∧ VB w30 bo (mby m)) := ⟨H29.out.1.st hb30, H29.out.2.1.st hb30, H29.out.2.2.st hb30⟩
              have HBM := hide hbz
              clear ht hb30 hbz H29 e0 e1 e2 e3 e4
              cases bz
              · have h0 : (mby m).length = 0 := mby_no (fun h => by have := HBM.out.2 h; cases this)
                go_wp2_with fail
                go_ret
                exact ⟨rfl, H30.out.1⟩
              · have hok : MgOk m := HBM.out.1 rfl
                have hpos : 0 < (mby m).length := mb_pos hok
                have hbk := hide (mof_back m hok w30 bo bc hbc H30.out.2.2)
                have HOK := hide hok
                clear hok HBM
                go_wp2_with fail
                refine hbk.out.mono ?_
                rintro e w31 ⟨r2o, r2c, rfl, hr2c, hr2s, b31⟩
                have H31 : Hid (ZB w (w31.alloc (.cells #[.int .i64 m.k, .int .i64 m.c, .int .i64 m.v, .int .i64 m.h, .slice r2o m.g.length r2c] 40)) ∧ VM (w31.alloc (.cells #[.int .i64 m.k, .int .i64 m.c, .int .i64 m.v, .int .i64 m.h, .slice r2o m.g.length r2c] 40)) X1 m mo mc ∧ VB (w31.alloc (.cells #[.int .i64 m.k, .int .i64 m.c, .int .i64 m.v, .int .i64 m.h, .slice r2o m.g.length r2c] 40)) bo (mby m) ∧ VM (w31.alloc (.cells #[.int .i64 m.k, .int .i64 m.c, .int .i64 m.v, .int .i64 m.h, .slice r2o m.g.length r2c] 40)) w31.heap.size m r2o r2c) := ⟨H30.out.1.st (b31.trans ((zal1 w31 (.cells #[.int .i64 m.k, .int .i64 m.c, .int .i64 m.v, .int .i64 m.h, .slice r2o m.g.length r2c] 40)).mono b31.size)), H30.out.2.1.st (b31.trans ((zal1 w31 (.cells #[.int .i64 m.k, .int .i64 m.c, .int .i64 m.v, .int .i64 m.h, .slice r2o m.g.length r2c] 40)).mono b31.size)), H30.out.2.2.st (b31.trans ((zal1 w31 (.cells #[.int .i64 m.k, .int .i64 m.c, .int .i64 m.v, .int .i64 m.h, .slice r2o m.g.length r2c] 40)).mono b31.size)), ⟨MB.new w31 _ _ _ _ _ _ _ _, hr2c, hr2s.below (zal1 _ _)⟩⟩
                clear hbk b31 hr2s hr2c H30
                go_wp2_with fail
                generalize w31.alloc (.cells #[.int .i64 m.k, .int .i64 m.c, .int .i64 m.v, .int .i64 m.h, .slice r2o m.g.length r2c] 40) = W31 at *
                generalize w31.heap.size = X31 at *
                refine (mof_short m HOK.out W31 bo bc hbc H31.out.2.2.1).mono ?_
                rintro e w32 ⟨rfl, b32⟩
                have H32 : Hid (ZB w w32 ∧ VM w32 X1 m mo mc ∧ VM w32 X31 m r2o r2c) := ⟨H31.out.1.st b32, H31.out.2.1.st b32, H31.out.2.2.2.st b32⟩
                clear b32 H31
                obtain ⟨e0, e1, e2, e3, e4⟩ := H32.out.2.1.1.cells
                obtain ⟨d0, d1, d2, d3, d4⟩ := H32.out.2.2.1.cells
                have l1 := H32.out.2.1.1.lt
                have l2 := H32.out.2.2.1.lt
                go_wp2_with fail
                refine (smsg_yes m r2o mo r2c mc _ (by omega) (H32.out.2.2.2.2.below (zal1 w32 (.cells #[.int .i64 0, .int .i64 0, .int .i64 0, .int .i64 0, .slice none 0 0] 40))) (H32.out.2.1.2.2.below (zal1 w32 (.cells #[.int .i64 0, .int .i64 0, .int .i64 0, .int .i64 0, .slice none 0 0] 40)))).mono ?_
                rintro e w33 ⟨rfl, b33⟩
                go_wp2_with fail
                go_ret
                exact ⟨rfl, (H32.out.1.st (zal1 w32 (.cells #[.int .i64 0, .int .i64 0, .int .i64 0, .int .i64 0, .slice none 0 0] 40))).st b33⟩
            · have hun := hide (unp_back M j (by omega) (HA.out rfl) wr po pc (by have := pck_le M j; omega) HI.out.2.2.2.2.2.2.2.1)
              go_wp2_with fail
              refine hun.out.mono ?_
              rintro e w21 ⟨zo, zc, rfl, hmz, b21⟩
              have HJ : Hid ((ZB w w21 ∧ VM w21 X1 m mo mc ∧ VB w21 bo (mby m) ∧ VB w21 xo X ∧ VM w21 X4 r ro rc ∧ VM w21 X6 q qo qc ∧ ML w21 lo j M ∧ VB w21 po (pck M j) ∧ VB w21 yo Y ∧ ML w21 uo ku U) ∧ ML w21 zo j M) := ⟨⟨HI.out.1.st b21, HI.out.2.1.st b21, HI.out.2.2.1.st b21, HI.out.2.2.2.1.st b21, HI.out.2.2.2.2.1.st b21, HI.out.2.2.2.2.2.1.st b21, HI.out.2.2.2.2.2.2.1.st b21, HI.out.2.2.2.2.2.2.2.1.st b21, HI.out.2.2.2.2.2.2.2.2.1.st b21, HI.out.2.2.2.2.2.2.2.2.2.st b21⟩, hmz⟩
              clear hun hmz b21 HI HA
              go_wp2_with fail
              go_loopw [25] (fun i wr => ∃ t : Nat, t ≤ j ∧ i = .int .i64 t ∧ Hid ((ZB w wr ∧ VM wr X1 m mo mc ∧ VB wr bo (mby m) ∧ VB wr xo X ∧ VM wr X4 r ro rc ∧ VM wr X6 q qo qc ∧ ML wr lo j M ∧ VB wr po (pck M j) ∧ VB wr yo Y ∧ ML wr uo ku U) ∧ ML wr zo j M)) (fun i _ => j - (intOf i).toNat)
              case atStart => exact ⟨0, by omega, rfl, HJ.out⟩
              case round =>
                obtain ⟨t, htj, rfl, HI⟩ := hrel
                clear HJ
                by_cases hlt : t < j
                · have H29 : Hid ((ZB w wr.drew ∧ VM wr.drew X1 m mo mc ∧ VB wr.drew bo (mby m) ∧ VB wr.drew xo X ∧ VM wr.drew X4 r ro rc ∧ VM wr.drew X6 q qo qc ∧ ML wr.drew lo j M ∧ VB wr.drew po (pck M j) ∧ VB wr.drew yo Y ∧ ML wr.drew uo ku U) ∧ ML wr.drew zo j M) := ⟨⟨HI.out.1.1.st (Below.drawn (Below.refl wr.heap.size wr) 1), HI.out.1.2.1.st (Below.drawn (Below.refl wr.heap.size wr) 1), HI.out.1.2.2.1.st (Below.drawn (Below.refl wr.heap.size wr) 1), HI.out.1.2.2.2.1.st (Below.drawn (Below.refl wr.heap.size wr) 1), HI.out.1.2.2.2.2.1.st (Below.drawn (Below.refl wr.heap.size wr) 1), HI.out.1.2.2.2.2.2.1.st (Below.drawn (Below.refl wr.heap.size wr) 1), HI.out.1.2.2.2.2.2.2.1.st (Below.drawn (Below.refl wr.heap.size wr) 1), HI.out.1.2.2.2.2.2.2.2.1.st (Below.drawn (Below.refl wr.heap.size wr) 1), HI.out.1.2.2.2.2.2.2.2.2.1.st (Below.drawn (Below.refl wr.heap.size wr) 1), HI.out.1.2.2.2.2.2.2.2.2.2.st (Below.drawn (Below.refl wr.heap.size wr) 1)⟩, HI.out.2.st (Below.drawn (Below.refl wr.heap.size wr) 1)⟩
                  clear HI
                  obtain ⟨b, off, hlo, ro', rc', hrc', hsl', c⟩ := H29.out.1.2.2.2.2.2.2.1 t hlt
                  obtain ⟨b', off', hzo, so', sc', hsc', hsl2, d⟩ := H29.out.2 t hlt
                  have hgl := HML.out t hlt
                  generalize M t = mm at hrc' hsl' c hsc' hsl2 d hgl
                  have HC := hide c
                  have HD := hide d
                  have hA := hide hsl'
                  have hB := hide hsl2
                  clear c d hsl' hsl2
                  subst hlo
                  subst hzo
                  go_wp2_with fail
                  have hS3 : (wr.drew.cell? ⟨b, off + t * 5, none⟩ = some (.int .i64 mm.k) ∧ wr.drew.cell? ⟨b, off + t * 5 + 1, none⟩ = some (.int .i64 mm.c) ∧ wr.drew.cell? ⟨b, off + t * 5 + 2, none⟩ = some (.int .i64 mm.v) ∧ wr.drew.cell? ⟨b, off + t * 5 + 3, none⟩ = some (.int .i64 mm.h) ∧ wr.drew.cell? ⟨b, off + t * 5 + 4, none⟩ = some (.slice ro' mm.g.length rc')) ∧ (wr.drew.cell? ⟨b', off' + t * 5, none⟩ = some (.int .i64 mm.k) ∧ wr.drew.cell? ⟨b', off' + t * 5 + 1, none⟩ = some (.int .i64 mm.c) ∧ wr.drew.cell? ⟨b', off' + t * 5 + 2, none⟩ = some (.int .i64 mm.v) ∧ wr.drew.cell? ⟨b', off' + t * 5 + 3, none⟩ = some (.int .i64 mm.h) ∧ wr.drew.cell? ⟨b', off' + t * 5 + 4, none⟩ = some (.slice so' mm.g.length sc')) := ⟨HC.out, HD.out⟩
                  refine wp_region_held_drew (S := (fun w' => (w'.cell? ⟨b, off + t * 5, none⟩ = some (.int .i64 mm.k) ∧ w'.cell? ⟨b, off + t * 5 + 1, none⟩ = some (.int .i64 mm.c) ∧ w'.cell? ⟨b, off + t * 5 + 2, none⟩ = some (.int .i64 mm.v) ∧ w'.cell? ⟨b, off + t * 5 + 3, none⟩ = some (.int .i64 mm.h) ∧ w'.cell? ⟨b, off + t * 5 + 4, none⟩ = some (.slice ro' mm.g.length rc')) ∧ (w'.cell? ⟨b', off' + t * 5, none⟩ = some (.int .i64 mm.k) ∧ w'.cell? ⟨b', off' + t * 5 + 1, none⟩ = some (.int .i64 mm.c) ∧ w'.cell? ⟨b', off' + t * 5 + 2, none⟩ = some (.int .i64 mm.v) ∧ w'.cell? ⟨b', off' + t * 5 + 3, none⟩ = some (.int .i64 mm.h) ∧ w'.cell? ⟨b', off' + t * 5 + 4, none⟩ = some (.slice so' mm.g.length sc')))) (by kernel_rfl) ?_ (fun hHeld => ?_)
                  · exact hS3
                  refine wpAnyH_take (i := 0) (oi := { dst := some 176, op := Op.move (Operand.tmp 23), type := 47, pos := "laws.go:371", after := #[], guard := none }) (v := ?_) rfl (by kernel_rfl) (by kernel_rfl) (by kernel_rfl) (fun _ _ _ h => h) (Or.inl ⟨by rfl, ?_⟩) (by assumption) ?_
                  rotate_left 1
                  · (intro wq hSw; (try dsimp only at hSw); go_simp; try with_reducible rfl)
                  try simp only [Act.put, List.setIfInBounds_toArray, List.set_cons_zero, List.set_cons_succ]
                  refine wpAnyH_take (i := 1) (oi := { dst := some 177, op := Op.move (Operand.tmp 25), type := 3, pos := "laws.go:371", after := #[], guard := none }) (v := ?_) rfl (by kernel_rfl) (by kernel_rfl) (by kernel_rfl) (fun _ _ _ h => h) (Or.inl ⟨by rfl, ?_⟩) (by assumption) ?_
                  rotate_left 1
                  · (intro wq hSw; (try dsimp only at hSw); go_simp; try with_reducible rfl)
                  try simp only [Act.put, List.setIfInBounds_toArray, List.set_cons_zero, List.set_cons_succ]
                  refine wpAnyH_take (i := 2) (oi := { dst := some 178, op := Op.indexAddr 47 (Operand.tmp 176) (Operand.tmp 177), type := 0, pos := "laws.go:371", after := #[{ on := 0, ground := Ground.data }, { on := 1, ground := Ground.data }], guard := none }) (v := ?_) rfl (by kernel_rfl) (by kernel_rfl) (by kernel_rfl) (fun _ _ _ h => h) (Or.inl ⟨by rfl, ?_⟩) (by assumption) ?_
                  rotate_left 1
                  · (intro wq hSw; (try dsimp only at hSw); go_simp; try with_reducible rfl)
                  try simp only [Act.put, List.setIfInBounds_toArray, List.set_cons_zero, List.set_cons_succ]
                  refine wpAnyH_take (i := 3) (oi := { dst := some 179, op := Op.load 40 (Operand.tmp 178), type := 40, pos := "laws.go:371", after := #[{ on := 2, ground := Ground.data }], guard := none }) (v := ?_) rfl (by kernel_rfl) (by kernel_rfl) (by kernel_rfl) (fun _ _ _ h => h) (Or.inl ⟨by rfl, ?_⟩) (by assumption) ?_
                  rotate_left 1
                  · (intro wq hSw; (try dsimp only at hSw); go_simp; try with_reducible rfl)
                  try simp only [Act.put, List.setIfInBounds_toArray, List.set_cons_zero, List.set_cons_succ]
                  refine wpAnyH_take (i := 4) (oi := { dst := some 180, op := Op.move (Operand.tmp 14), type := 47, pos := "laws.go:371", after := #[], guard := none }) (v := ?_) rfl (by kernel_rfl) (by kernel_rfl) (by kernel_rfl) (fun _ _ _ h => h) (Or.inl ⟨by rfl, ?_⟩) (by assumption) ?_
                  rotate_left 1
                  · (intro wq hSw; (try dsimp only at hSw); go_simp; try with_reducible rfl)
                  try simp only [Act.put, List.setIfInBounds_toArray, List.set_cons_zero, List.set_cons_succ]
                  refine wpAnyH_take (i := 5) (oi := { dst := some 181, op := Op.move (Operand.tmp 25), type := 3, pos := "laws.go:371", after := #[], guard := none }) (v := ?_) rfl (by kernel_rfl) (by kernel_rfl) (by kernel_rfl) (fun _ _ _ h => h) (Or.inl ⟨by rfl, ?_⟩) (by assumption) ?_
                  rotate_left 1
                  · (intro wq hSw; (try dsimp only at hSw); go_simp; try with_reducible rfl)
                  try simp only [Act.put, List.setIfInBounds_toArray, List.set_cons_zero, List.set_cons_succ]
                  refine wpAnyH_take (i := 6) (oi := { dst := some 182, op := Op.indexAddr 47 (Operand.tmp 180) (Operand.tmp 181), type := 0, pos := "laws.go:371", after := #[{ on := 4, ground := Ground.data }, { on := 5, ground := Ground.data }], guard := none }) (v := ?_) rfl (by kernel_rfl) (by kernel_rfl) (by kernel_rfl) (fun _ _ _ h => h) (Or.inl ⟨by rfl, ?_⟩) (by assumption) ?_
                  rotate_left 1
                  · (intro wq hSw; (try dsimp only at hSw); go_simp; try with_reducible rfl)
                  try simp only [Act.put, List.setIfInBounds_toArray, List.set_cons_zero, List.set_cons_succ]
                  refine wpAnyH_take (i := 7) (oi := { dst := some 183, op := Op.load 40 (Operand.tmp 182), type := 40, pos := "laws.go:371", after := #[{ on := 6, ground := Ground.data }], guard := none }) (v := ?_) rfl (by kernel_rfl) (by kernel_rfl) (by kernel_rfl) (fun _ _ _ h => h) (Or.inl ⟨by rfl, ?_⟩) (by assumption) ?_
                  rotate_left 1
                  · (intro wq hSw; (try dsimp only at hSw); go_simp; try with_reducible rfl)
                  try simp only [Act.put, List.setIfInBounds_toArray, List.set_cons_zero, List.set_cons_succ]
                  refine wpAnyH_ready (rs := [8]) (by kernel_rfl) (by simp) ?_
                  refine AllReadyH.cons (o := { dst := some 184, op := Op.call { callee := Callee.value (Operand.func 40), args := #[Operand.tmp 179, Operand.tmp 183], argTypes := #[40, 40] }, type := 4, pos := "laws.go:371", after := #[{ on := 3, ground := Ground.data }, { on := 7, ground := Ground.data }], guard := none }) rfl (fun K hK => ?_) AllReadyH.nil
                  go_simp
                  refine (smsg_yes mm so' ro' sc' rc' _ (by omega) hB.out hA.out).mono ?_
                  rintro e w22 ⟨rfl, hb22⟩
                  have H22 := hide (And.intro (⟨H29.out.1.1.st hb22, H29.out.1.2.1.st hb22, H29.out.1.2.2.1.st hb22, H29.out.1.2.2.2.1.st hb22, H29.out.1.2.2.2.2.1.st hb22, H29.out.1.2.2.2.2.2.1.st hb22, H29.out.1.2.2.2.2.2.2.1.st hb22, H29.out.1.2.2.2.2.2.2.2.1.st hb22, H29.out.1.2.2.2.2.2.2.2.2.1.st hb22, H29.out.1.2.2.2.2.2.2.2.2.2.st hb22⟩ : ZB w w22 ∧ VM w22 X1 m mo mc ∧ VB w22 bo (mby m) ∧ VB w22 xo X ∧ VM w22 X4 r ro rc ∧ VM w22 X6 q qo qc ∧ ML w22 (some ⟨b, off, none⟩) j M ∧ VB w22 po (pck M j) ∧ VB w22 yo Y ∧ ML w22 uo ku U) (H29.out.2.st hb22))
                  have hk22 : (w22.cell? ⟨b, off + t * 5, none⟩ = some (.int .i64 mm.k) ∧ w22.cell? ⟨b, off + t * 5 + 1, none⟩ = some (.int .i64 mm.c) ∧ w22.cell? ⟨b, off + t * 5 + 2, none⟩ = some (.int .i64 mm.v) ∧ w22.cell? ⟨b, off + t * 5 + 3, none⟩ = some (.int .i64 mm.h) ∧ w22.cell? ⟨b, off + t * 5 + 4, none⟩ = some (.slice ro' mm.g.length rc')) ∧ (w22.cell? ⟨b', off' + t * 5, none⟩ = some (.int .i64 mm.k) ∧ w22.cell? ⟨b', off' + t * 5 + 1, none⟩ = some (.int .i64 mm.c) ∧ w22.cell? ⟨b', off' + t * 5 + 2, none⟩ = some (.int .i64 mm.v) ∧ w22.cell? ⟨b', off' + t * 5 + 3, none⟩ = some (.int .i64 mm.h) ∧ w22.cell? ⟨b', off' + t * 5 + 4, none⟩ = some (.slice so' mm.g.length sc')) := ⟨five_below HC.out hb22, five_below HD.out hb22⟩
                  clear hb22
                  go_wp2_with fail
                  refine hK.out _ _ ?_ (fun hHeld => ?_)
                  · exact hk22
                  clear hK K
                  try simp only [Act.put, List.setIfInBounds_toArray, List.set_cons_zero, List.set_cons_succ]
                  refine wpAnyH_take (i := 9) (oi := { dst := some 185, op := Op.unOp UnOp.not 4 (Operand.tmp 184), type := 4, pos := "laws.go:371", after := #[{ on := 8, ground := Ground.data }], guard := none }) (v := ?_) rfl (by kernel_rfl) (by kernel_rfl) (by kernel_rfl) (fun _ _ _ h => h) (Or.inl ⟨by rfl, ?_⟩) (by assumption) ?_
                  rotate_left 1
                  · (intro wq hSw; (try dsimp only at hSw); go_simp; try with_reducible rfl)
                  try simp only [Act.put, List.setIfInBounds_toArray, List.set_cons_zero, List.set_cons_succ]
                  refine wpAnyH_done (by kernel_rfl) ?_ _
                  go_wp2_with fail
                  go_roundw
                  case rel => exact ⟨t + 1, by omega, by go_num, H22.out⟩
                  case measure => simp [intOf]; omega
                · obtain rfl : t = j := by omega
                  have HI := hide HI.out.1
                  have H29 : Hid (ZB w wr ∧ VM wr X1 m mo mc ∧ VB wr bo (mby m)) := ⟨HI.out.1, HI.out.2.1, HI.out.2.2.1⟩
                  clear HI
                  obtain ⟨e0, e1, e2, e3, e4⟩ := H29.out.2.1.1.cells
                  go_wp2_with fail
                  refine (msgok_impl mo m.g.length mc _ m.k m.c m.v m.h wr (by omega) H29.out.2.1.2.1 H29.out.2.1.2.2).mono ?_
                  rintro e w30 ht
                  obtain ⟨bz, rfl, hbz, hb30⟩ := mg_tells (m := m) ht
                  have H30 : Hid (ZB w w30 ∧ VM w30 X1 m mo mc ∧ VB w30 bo (mby m)) := ⟨H29.out.1.st hb30, H29.out.2.1.st hb30, H29.out.2.2.st hb30⟩
                  have HBM := hide hbz
                  clear ht hb30 hbz H29 e0 e1 e2 e3 e4
                  cases bz
                  · have h0 : (mby m).length = 0 := mby_no (fun h => by have := HBM.out.2 h; cases this)
                    go_wp2_with fail
                    go_ret
                    exact ⟨rfl, H30.out.1⟩
                  · have hok : MgOk m := HBM.out.1 rfl
                    have hpos : 0 < (mby m).length := mb_pos hok
                    have hbk := hide (mof_back m hok w30 bo bc hbc H30.out.2.2)
                    have HOK := hide hok
                    clear hok HBM
                    go_wp2_with fail
                    refine hbk.out.mono ?_
                    rintro e w31 ⟨r2o, r2c, rfl, hr2c, hr2s, b31⟩
                    have H31 : Hid (ZB w (w31.alloc (.cells #[.int .i64 m.k, .int .i64 m.c, .int .i64 m.v, .int .i64 m.h, .slice r2o m.g.length r2c] 40)) ∧ VM (w31.alloc (.cells #[.int .i64 m.k, .int .i64 m.c, .int .i64 m.v, .int .i64 m.h, .slice r2o m.g.length r2c] 40)) X1 m mo mc ∧ VB (w31.alloc (.cells #[.int .i64 m.k, .int .i64 m.c, .int .i64 m.v, .int .i64 m.h, .slice r2o m.g.length r2c] 40)) bo (mby m) ∧ VM (w31.alloc (.cells #[.int .i64 m.k, .int .i64 m.c, .int .i64 m.v, .int .i64 m.h, .slice r2o m.g.length r2c] 40)) w31.heap.size m r2o r2c) := ⟨H30.out.1.st (b31.trans ((zal1 w31 (.cells #[.int .i64 m.k, .int .i64 m.c, .int .i64 m.v, .int .i64 m.h, .slice r2o m.g.length r2c] 40)).mono b31.size)), H30.out.2.1.st (b31.trans ((zal1 w31 (.cells #[.int .i64 m.k, .int .i64 m.c, .int .i64 m.v, .int .i64 m.h, .slice r2o m.g.length r2c] 40)).mono b31.size)), H30.out.2.2.st (b31.trans ((zal1 w31 (.cells #[.int .i64 m.k, .int .i64 m.c, .int .i64 m.v, .int .i64 m.h, .slice r2o m.g.length r2c] 40)).mono b31.size)), ⟨MB.new w31 _ _ _ _ _ _ _ _, hr2c, hr2s.below (zal1 _ _)⟩⟩
                    clear hbk b31 hr2s hr2c H30
                    go_wp2_with fail
                    generalize w31.alloc (.cells #[.int .i64 m.k, .int .i64 m.c, .int .i64 m.v, .int .i64 m.h, .slice r2o m.g.length r2c] 40) = W31 at *
                    generalize w31.heap.size = X31 at *
                    refine (mof_short m HOK.out W31 bo bc hbc H31.out.2.2.1).mono ?_
                    rintro e w32 ⟨rfl, b32⟩
                    have H32 : Hid (ZB w w32 ∧ VM w32 X1 m mo mc ∧ VM w32 X31 m r2o r2c) := ⟨H31.out.1.st b32, H31.out.2.1.st b32, H31.out.2.2.2.st b32⟩
                    clear b32 H31
                    obtain ⟨e0, e1, e2, e3, e4⟩ := H32.out.2.1.1.cells
                    obtain ⟨d0, d1, d2, d3, d4⟩ := H32.out.2.2.1.cells
                    have l1 := H32.out.2.1.1.lt
                    have l2 := H32.out.2.2.1.lt
                    go_wp2_with fail
                    refine (smsg_yes m r2o mo r2c mc _ (by omega) (H32.out.2.2.2.2.below (zal1 w32 (.cells #[.int .i64 0, .int .i64 0, .int .i64 0, .int .i64 0, .slice none 0 0] 40))) (H32.out.2.1.2.2.below (zal1 w32 (.cells #[.int .i64 0, .int .i64 0, .int .i64 0, .int .i64 0, .slice none 0 0] 40)))).mono ?_
                    rintro e w33 ⟨rfl, b33⟩
                    go_wp2_with fail
                    go_ret
                    exact ⟨rfl, (H32.out.1.st (zal1 w32 (.cells #[.int .i64 0, .int .i64 0, .int .i64 0, .int .i64 0, .slice none 0 0] 40))).st b33⟩
  · go_enter Try.func4, Try.ntmps4
    go_wp2_with fail
    refine (big_yes a0 len0 cap0 _ hn).mono ?_
    rintro e w9 ⟨rfl, hw9⟩
    rw [hw9]
    clear hw9
    go_wp2
    go_ret
    exact ⟨rfl, Below.refl _ _⟩

set_option maxRecDepth 100000 in
theorem lifted (os : Os) (started : os.Started) (H : Type) (enc : TypeId × Value → H) :
    ReturnsInHanded {} Try.checked os 4 .any (Rows.fnMessagesSpec.pre6 enc Try.prog Try.f4 Rows.fnMessagesRow.domain false) (Rows.fnMessagesSpec.post enc Try.prog Try.f4 false true false false) := by
  refine returnsInHanded_of_change (C := Try.checked) own started (by kernel_rfl) Try.func4
    (ChangeSpec.witness6 (enc := enc) (C := Try.checked) false ⟨#[], #[.slice none 0 0], []⟩ 8 (by kernel_rfl) (by kernel_rfl) (by kernel_rfl) (by kernel_rfl)) ?_
  intro W base args ds gs before hval0 hW hcnd _
  have hval : ∀ (j : Nat) t v, Try.f4.params[j]? = some t → args[j]? = some v → Value.okWide Try.prog W .any base t v := hval0
  have hW' := hW
  obtain ⟨p, q, hA0, hV, rfl, hfz, hnd⟩ := hW
  have hA : DataW.TrodAll enc Try.prog W 0 (fun _ => true) true Try.f4.params.toList args.toList ds p := hA0
  rw [Try.params4] at hA hval
  obtain ⟨v0, vs0, d0, ds0, p0, q0, hargs, rfl, rfl, h0, r0⟩ := trodAll_cons hA
  obtain ⟨rfl, rfl, rfl⟩ := trodAll_nil r0
  obtain rfl : args = #[v0] := by cases args; simp_all
  obtain ⟨rfl, rfl⟩ := trodVars_none hV
  obtain ⟨a0, len0, cap0, rfl⟩ := okWide_slice Try.underlying22 (hval 0 22 v0 rfl rfl)
  have k0 := h0
  have lt0 : ∀ x ∈ p0, x.block < W.heap.size := by obtain ⟨m, hm⟩ := k0; exact DataW.trod_lt m _ _ _ hm
  obtain ⟨z0, w0⟩ : ∃ zs, IsRow .u8 W a0 len0 cap0 zs := by
    obtain ⟨fuel, hf⟩ := h0
    rcases open_ints Try.underlying22 Try.underlying5 (by kernel_rfl) hf with ⟨hcs, _⟩ | ⟨x, l, c, zs, hcs, _, hl, hm, hz, _, hcell, hwz⟩
    · simp [Value.cells] at hcs
      obtain ⟨rfl, rfl, rfl⟩ := hcs
      exact ⟨[], .inl ⟨rfl, rfl, rfl, rfl⟩⟩
    · simp [Value.cells] at hcs
      obtain ⟨rfl, rfl, rfl⟩ := hcs
      exact ⟨zs, .inr ⟨_, rfl, hl, hm, by simpa using hz, hcell, hwz⟩⟩
  clear hA0 hval0
  refine (walk a0 len0 cap0 z0 W w0).mono fun e W' ⟨he, bel⟩ => ?_
  subst he
  exact ⟨_, rfl, _, _, _, [], _, [], hW', trodAll_mk1 (shut_bool Try.underlying4 _), (trodAll_cons_mk (Below.trod laidOut (by kernel_rfl) (of_decide_eq_true (by kernel_rfl)) k0 bel lt0) trodAll_mk0), rfl, bel.frame _, fun h => by cases h⟩

theorem over : Rows.fnMessagesRow.holds Try.pinned (OpenSpec.ofChange Rows.fnMessagesSpec) :=
  OpenClaim.holds_of_wide 4 Try.f4 rfl rfl rfl rfl rfl rfl rfl ⟨rfl, rfl, rfl, rfl, rfl⟩ rfl rfl rfl rfl rfl (by kernel_rfl) Try.func4 (by kernel_rfl)
    (of_decide_eq_true (by kernel_rfl)) (by unfold Func.isWrapper; first | (rw [if_pos (by decide +kernel)]; kernel_rfl) | (rw [if_neg (by decide +kernel)]; exact ⟨rfl, rfl⟩))
    (fun os started H enc _ => lifted os started H enc)

theorem proved : Rows.FnMessagesSaid := over
end Go.Proofs.Ytkeojhnifnkpiaa.fnMessages
namespace Go.Proofs.Ytkeojhnifnkpiaa
theorem fnMessages_holds : Rows.FnMessagesSaid := fnMessages.proved
end Go.Proofs.Ytkeojhnifnkpiaa

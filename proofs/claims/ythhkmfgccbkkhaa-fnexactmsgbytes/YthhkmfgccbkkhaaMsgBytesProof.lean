/- At every message MsgBytes of the program answers the bytes that MsgBytes of the model does, writes into no argument, and its answer owns its memory; there is no condition. -/
import Derived.Test.YthhkmfgccbkkhaaRows
import Derived.WalkKit
import Derived.ProofKit
import Derived.OpenShut
import Derived.ShutString
import Derived.ChangeOld
import Derived.Below
import Derived.Test.YthhkmfgccbkkhaaMsgO
import Derived.Test.YthhkmfgccbkkhaaMbyI3
import Derived.Test.YthhkmfgccbkkhaaMsgW
import Derived.Test.YthhkmfgccbkkhaaMbyS
import Derived.Test.YthhkmfgccbkkhaaByt
import Derived.Test.YthhkmfgccbkkhaaMarkB
namespace Go.Proofs.Ythhkmfgccbkkhaa.fnExactMsgBytes
open Go.ChangeShapes Go.WideShapes Go.ChangeAt Go.RowKit
set_option linter.unusedVariables false

theorem own : ownKnob Try.prog.godebug = none := by kernel_rfl
theorem laidOut : laidOutB Try.prog = true := by kernel_rfl

/-- Both functions answer the same bytes, each in memory of its own. -/
theorem both (k c v d : Int) (f : Nat → Int) (n : Nat) (hn : n ≤ 1048576) : ∃ (m : Nat) (g : Nat → Int), m ≤ 1048576 ∧
    (∀ w ao cap, n ≤ cap → SL .i64 w ao n f → Calls Try.prog 21 #[.agg #[.int .i64 k, .int .i64 c, .int .i64 v, .int .i64 d, .slice ao n cap]] w fun e w' => ∃ ro rc, e = .returned (.slice ro m rc) ∧ Own w' w.heap.size 5 ro m (fun i => .int .u8 (g i)) ∧ Below w.heap.size w w') ∧
    (∀ w ao cap, n ≤ cap → SL .i64 w ao n f → Calls Try.prog 11 #[.agg #[.int .i64 k, .int .i64 c, .int .i64 v, .int .i64 d, .slice ao n cap]] w fun e w' => ∃ ro rc, e = .returned (.slice ro m rc) ∧ Own w' w.heap.size 5 ro m (fun i => .int .u8 (g i)) ∧ Below w.heap.size w w') := by
  refine ⟨(mb k c v d f n).length, fun i => (mb k c v d f n).getD i 0, mb_len k c v d f n, fun w ao cap hc hs => ?_, fun w ao cap hc hs => ?_⟩
  · refine (msgbytes_spec ao n cap f k c v d w hn hc hs).mono fun e w' => ?_
    rintro ⟨v, rfl, ho, hb⟩
    obtain ⟨ro, rc, rfl, _, ho'⟩ := Own.of_owns ho
    exact ⟨_, _, rfl, ho', hb⟩
  · refine (msgbytes_impl ao n cap f k c v d w hn hc hs).mono fun e w' => ?_
    rintro ⟨v, rfl, ho, hb⟩
    obtain ⟨ro, rc, rfl, _, ho'⟩ := Own.of_owns ho
    exact ⟨_, _, rfl, ho', hb⟩

set_option maxRecDepth 100000 in
theorem walk (k c v d : Int) (a0 : Option Addr) (len0 cap0 : Nat) (f : Nat → Int) (w : World) (hl : len0 ≤ cap0) (hm : cap0 ≤ maxLen) (hs : SL .i64 w a0 len0 f) :
    Calls Try.prog 5 #[.agg #[.int .i64 k, .int .i64 c, .int .i64 v, .int .i64 d, .slice a0 len0 cap0]] w fun e w' => e = .returned (.bool true) ∧ Below w.heap.size w w' := by
  by_cases hn : len0 ≤ 1048576
  · obtain ⟨m, g, hm', hspec0, himpl0⟩ := both k c v d f len0 hn
    generalize hF : (fun i => Value.int .u8 (g i)) = F at hspec0 himpl0
    have HF := hide hF
    have hspec := hide hspec0
    have himpl := hide himpl0
    have HS := hide hs
    clear hs hF hspec0 himpl0
    go_enter Try.func5, Try.ntmps5
    go_wp2_with fail
    refine (sz_yes a0 len0 cap0 k c v d 1048576 _ (by omega) (by omega)).mono ?_
    rintro e w1 ⟨rfl, b1⟩
    have M1 := (MB.new w 41 k c v d a0 len0 cap0).below b1 (by simp)
    have B1 := hide (((Below.refl _ _).alloc (Nat.le_refl _) _).trans (b1.mono (by simp)) : Below w.heap.size w w1)
    have HM1 := hide M1
    have hlen : ¬ (1048576 : Int) - (len0 : Int) < 0 := by omega
    obtain ⟨m0, m1, m2, m3, m4⟩ := M1.cells
    clear b1 M1
    go_wp2_with fail
    refine (to_msg a0 len0 cap0 f k c v d _ hn (HS.out.below B1.out)).mono ?_
    rintro e w2 ⟨g2, rfl, _, r2, b2⟩
    have B2 := hide (B1.out.trans (b2.mono B1.out.size))
    have HM2 := hide (HM1.out.below b2 HM1.out.lt)
    have R2 := hide r2
    clear b2 r2 B1 HM1 m0 m1 m2 m3 m4 hlen
    go_wp2_with fail
    refine (hspec.out _ _ _ (Nat.le_refl _) (SL.row R2.out)).mono ?_
    rintro e w3 ⟨ao, cap3, rfl, o3, b3⟩
    have B3 := hide (B2.out.trans (b3.mono B2.out.size))
    have HM3 := hide (HM2.out.below b3 HM2.out.lt)
    have O3 := hide o3
    have L3 : Hid (∀ g', ao = some ⟨g', 0, none⟩ → m = 0 ∨ g' < w3.heap.size) := fun g' hg => by
      rcases o3 with o | ⟨g2, e, _, c, hc, _⟩
      · exact .inl o
      · rw [e] at hg; simp at hg; subst hg; exact .inr (Array.getElem?_eq_some_iff.1 hc).1
    clear b3 o3 R2 B2 HM2 hspec
    obtain ⟨m0, m1, m2, m3, m4⟩ := HM3.out.cells
    go_wp2_with fail
    refine (to_msg a0 len0 cap0 f k c v d _ hn (HS.out.below B3.out)).mono ?_
    rintro e w4 ⟨g4, rfl, hg4, r4, b4⟩
    have B4 := hide (B3.out.trans (b4.mono B3.out.size))
    have HM4 := hide (HM3.out.below b4 HM3.out.lt)
    have O4 := hide (O3.out.below b4)
    have R4 := hide r4
    have HG4 := hide (And.intro hg4 r4.lt)
    have HM3lt := hide HM3.out.lt
    clear b4 r4 hg4 B3 HM3 O3 m0 m1 m2 m3 m4
    go_wp2_with fail
    have X4 := MB.new w4 26 k c v d (some ⟨g4, 0, none⟩) len0 len0
    have bX : Below w4.heap.size w4 (w4.alloc (.cells #[.int .i64 k, .int .i64 c, .int .i64 v, .int .i64 d, .slice (some ⟨g4, 0, none⟩) len0 len0] 26)) := (Below.refl _ _).alloc (Nat.le_refl _) _
    refine (himpl.out _ _ _ (Nat.le_refl _) (SL.row (row_below R4.out bX R4.out.lt))).mono ?_
    rintro e w5 ⟨bo, cap5, rfl, o5, b5⟩
    have b5' := bX.trans (b5.mono bX.size)
    rw [show (w4.alloc (.cells #[.int .i64 k, .int .i64 c, .int .i64 v, .int .i64 d, .slice (some ⟨g4, 0, none⟩) len0 len0] 26)).heap.size = w4.heap.size + 1 by simp] at o5
    have H5 : Hid (MB w5 w.heap.size 41 k c v d a0 len0 cap0 ∧ MB w5 w4.heap.size 26 k c v d (some ⟨g4, 0, none⟩) len0 len0 ∧ w5.rowIs g4 3 len0 (fun i => .int .i64 (f i)) ∧ Below w.heap.size w w5 ∧ Own w5 w2.heap.size 5 ao m F ∧ Own w5 (w4.heap.size + 1) 5 bo m F) :=
      ⟨HM4.out.below b5' HM4.out.lt, X4.below b5 X4.lt, row_below R4.out b5' R4.out.lt, B4.out.trans (b5'.mono B4.out.size), O4.out.below b5', o5⟩
    clear X4 bX b5 b5' o5 HM4 R4 B4 O4
    go_wp2_with fail
    refine (eq_yes bo ao m _ _ g g _ hm' (Own.sl (HF.out ▸ H5.out.2.2.2.2.2)) (Own.sl (HF.out ▸ H5.out.2.2.2.2.1)) (fun _ _ => rfl)).mono ?_
    rintro e w5' ⟨rfl, q5, hw5⟩
    rw [hw5]
    have H5d : Hid (MB (w5.drewN q5).drew w.heap.size 41 k c v d a0 len0 cap0 ∧ MB (w5.drewN q5).drew w4.heap.size 26 k c v d (some ⟨g4, 0, none⟩) len0 len0 ∧ (w5.drewN q5).drew.rowIs g4 3 len0 (fun i => .int .i64 (f i)) ∧ Below w.heap.size w (w5.drewN q5).drew ∧ Own (w5.drewN q5).drew w2.heap.size 5 ao m F ∧ Own (w5.drewN q5).drew (w4.heap.size + 1) 5 bo m F) :=
      ⟨H5.out.1, H5.out.2.1, H5.out.2.2.1, Below.drawn (Below.drawn H5.out.2.2.2.1 q5) 1, H5.out.2.2.2.2.1, H5.out.2.2.2.2.2⟩
    clear hw5 H5
    have HWL : Hid (w.heap.size < w3.heap.size) := HM3lt.out
    have HX : Hid (g4 < w4.heap.size ∧ w3.heap.size ≤ g4) := ⟨HG4.out.2, HG4.out.1⟩
    generalize w4.heap.size = X at *
    generalize w5.drewN q5 = w5q at *
    clear HG4
    have hto := hide (to_msg a0 len0 cap0 f k c v d w5q.drew hn (HS.out.below H5d.out.2.2.2.1))
    obtain ⟨m0, m1, m2, m3, m4⟩ := (show MB w5q w.heap.size 41 k c v d a0 len0 cap0 from H5d.out.1).cells
    obtain ⟨x0, x1, x2, x3, x4⟩ := (show MB w5q X 26 k c v d (some ⟨g4, 0, none⟩) len0 len0 from H5d.out.2.1).cells
    go_wp2_with fail
    go_region_held3 (fun w' => (w'.cell? ⟨w.heap.size, 0, none⟩ = some (.int .i64 k) ∧ w'.cell? ⟨w.heap.size, 1, none⟩ = some (.int .i64 c) ∧ w'.cell? ⟨w.heap.size, 2, none⟩ = some (.int .i64 v) ∧ w'.cell? ⟨w.heap.size, 3, none⟩ = some (.int .i64 d) ∧ w'.cell? ⟨w.heap.size, 4, none⟩ = some (.slice a0 len0 cap0)) ∧ (w'.cell? ⟨X, 0, none⟩ = some (.int .i64 k) ∧ w'.cell? ⟨X, 1, none⟩ = some (.int .i64 c) ∧ w'.cell? ⟨X, 2, none⟩ = some (.int .i64 v) ∧ w'.cell? ⟨X, 3, none⟩ = some (.int .i64 d) ∧ w'.cell? ⟨X, 4, none⟩ = some (.slice (some ⟨g4, 0, none⟩) len0 len0))) (first | assumption | exact ⟨⟨m0, m1, m2, m3, m4⟩, x0, x1, x2, x3, x4⟩) (first
      | (go_at_call 27; refine hto.out.mono ?_; rintro e w6 ⟨g6, rfl, _, r6, b6⟩; have hk6 := And.intro (H5d.out.1.below b6 H5d.out.1.lt).cells (H5d.out.2.1.below b6 H5d.out.2.1.lt).cells; have H6 : Hid (MB w6 w.heap.size 41 k c v d a0 len0 cap0 ∧ MB w6 X 26 k c v d (some ⟨g4, 0, none⟩) len0 len0 ∧ w6.rowIs g4 3 len0 (fun i => .int .i64 (f i)) ∧ SL .i64 w6 (some ⟨g6, 0, none⟩) len0 f ∧ Below w.heap.size w w6 ∧ Own w6 w2.heap.size 5 ao m F ∧ Own w6 (X + 1) 5 bo m F) := ⟨H5d.out.1.below b6 H5d.out.1.lt, H5d.out.2.1.below b6 H5d.out.2.1.lt, row_below H5d.out.2.2.1 b6 H5d.out.2.2.1.lt, SL.row r6, H5d.out.2.2.2.1.trans (b6.mono H5d.out.2.2.2.1.size), H5d.out.2.2.2.2.1.below b6, H5d.out.2.2.2.2.2.below b6⟩; clear r6 b6)
      | (go_at_call 28; refine (eq_msg _ _ len0 _ _ f f k c v d _ hn (SL.row H6.out.2.2.1) H6.out.2.2.2.1 (fun _ _ => rfl)).mono ?_; rintro e w7 ⟨rfl, b7⟩; have hk7 := And.intro (H6.out.1.below b7 H6.out.1.lt).cells (H6.out.2.1.below b7 H6.out.2.1.lt).cells; have H7 : Hid (MB w7 w.heap.size 41 k c v d a0 len0 cap0 ∧ w7.rowIs g4 3 len0 (fun i => .int .i64 (f i)) ∧ Below w.heap.size w w7 ∧ Own w7 w2.heap.size 5 ao m F ∧ Own w7 (X + 1) 5 bo m F) := ⟨H6.out.1.below b7 H6.out.1.lt, row_below H6.out.2.2.1 b7 H6.out.2.2.1.lt, H6.out.2.2.2.2.1.trans (b7.mono H6.out.2.2.2.2.1.size), H6.out.2.2.2.2.2.1.below b7, H6.out.2.2.2.2.2.2.below b7⟩; clear b7))
    clear m0 m1 m2 m3 m4 x0 x1 x2 x3 x4 hto H5d H6 hk6
    go_wp2_with fail
    refine (mark_msg_row g4 len0 _ k c v d 1 _ _ hn (by decide) (by decide) H7.out.2.1).mono ?_
    rintro e w8 ⟨rfl, _, y8⟩
    have H8 : Hid (MB w8 w.heap.size 41 k c v d a0 len0 cap0 ∧ Below w.heap.size w w8 ∧ Own w8 w2.heap.size 5 ao m F ∧ Own w8 (X + 1) 5 bo m F) := by
      refine ⟨(y8.2 w.heap.size H7.out.1.lt ?_).trans H7.out.1, H7.out.2.2.1.trans (y8.1.mono ?_), ?_, y8.own H7.out.2.2.2.2 (by have := HX.out.1; omega)⟩
      · have := HX.out.2; have := HWL.out; omega
      · have := HX.out.2; have := HWL.out; omega
      · rcases (Nat.eq_zero_or_pos m) with h0 | h0
        · exact .inl h0
        · exact y8.own' H7.out.2.2.2.1 (fun g' hg => by rcases L3.out g' hg with h | h; omega; have := HX.out.2; omega)
    clear y8 H7 hk7
    go_wp2_with fail
    refine (eq_yes bo ao m _ _ g g _ hm' (Own.sl (HF.out ▸ H8.out.2.2.2)) (Own.sl (HF.out ▸ H8.out.2.2.1)) (fun _ _ => rfl)).mono ?_
    rintro e w8' ⟨rfl, q8, hw8⟩
    rw [hw8]
    clear hw8
    go_wp2_with fail
    refine (mark_any bo m cap5 (X + 1) 1 F _ hm' (by decide) (by decide) (H8.out.2.2.2.drawn q8)).mono ?_
    rintro e w9 ⟨rfl, o9, b9⟩
    have H9 : Hid (MB w9 w.heap.size 41 k c v d a0 len0 cap0 ∧ Below w.heap.size w w9 ∧ Own w9 w2.heap.size 5 ao m F ∧ Own w9 (X + 1) 5 bo m (fun j => .int .u8 ((1 + (j : Int)) % 256))) := by
      have h1 := HX.out
      have h2 := HWL.out
      refine ⟨(show MB (w8.drewN q8) _ _ _ _ _ _ _ _ _ from H8.out.1).below b9 (by omega), (Below.drawn H8.out.2.1 q8).trans (b9.mono (by omega)), ?_, o9⟩
      rcases H8.out.2.2.1 with h0 | ⟨g', ea, hB', cc, hc, hs', hF'⟩
      · exact .inl h0
      · rcases L3.out g' ea with h | h
        · exact .inl h
        · exact .inr ⟨g', ea, hB', cc, (b9.block g' (by omega)).trans hc, hs', hF'⟩
    clear b9 o9 H8
    go_wp2_with fail
    refine (held_any bo m cap5 1 _ hm' (by decide) (by decide) H9.out.2.2.2.sl).mono ?_
    rintro e w9' ⟨rfl, hw9⟩
    rw [hw9]
    clear hw9
    obtain ⟨m0, m1, m2, m3, m4⟩ := H9.out.1.cells
    go_wp2_with fail
    refine (to_msg a0 len0 cap0 f k c v d _ hn (HS.out.below H9.out.2.1)).mono ?_
    rintro e w10 ⟨g10, rfl, _, r10, b10⟩
    have R10 := hide r10
    have B10 := hide b10
    clear m0 m1 m2 m3 m4 r10 b10
    go_wp2_with fail
    refine (himpl.out _ _ _ (Nat.le_refl _) (SL.row R10.out)).mono ?_
    rintro e w11 ⟨co, cap11, rfl, o11, b11⟩
    have C11 := B10.out.trans (b11.mono B10.out.size)
    have H11 : Hid (Below w.heap.size w w11 ∧ Own w11 w2.heap.size 5 ao m F ∧ Own w11 w10.heap.size 5 co m F ∧ Own w11 (X + 1) 5 bo m (fun j => .int .u8 ((1 + (j : Int)) % 256))) := ⟨H9.out.2.1.trans (C11.mono H9.out.2.1.size), H9.out.2.2.1.below C11, o11, H9.out.2.2.2.below C11⟩
    clear C11 o11 b11 B10 R10 H9 himpl HS
    go_wp2_with fail
    refine (eq_yes co ao m _ _ g g _ hm' (Own.sl (HF.out ▸ H11.out.2.2.1)) (Own.sl (HF.out ▸ H11.out.2.1)) (fun _ _ => rfl)).mono ?_
    rintro e w12 ⟨rfl, q12, hw12⟩
    rw [hw12]
    clear hw12
    go_wp2_with fail
    refine (held_any bo m cap5 1 _ hm' (by decide) (by decide) (H11.out.2.2.2.drawn q12).sl).mono ?_
    rintro e w13 ⟨rfl, hw13⟩
    rw [hw13]
    clear hw13
    go_wp2
    go_ret
    exact ⟨rfl, Below.drawn H11.out.1 _⟩
  · go_enter Try.func5, Try.ntmps5
    go_wp2_with fail
    refine (sz_no a0 len0 cap0 k c v d 1048576 _ (by omega) (by omega) hl hm).mono ?_
    rintro e w1 ⟨rfl, b1⟩
    have B1 := hide (((Below.refl _ _).alloc (Nat.le_refl _) _).trans (b1.mono (by simp)) : Below w.heap.size w w1)
    clear b1
    go_wp2
    go_ret
    exact ⟨rfl, B1.out⟩

set_option maxRecDepth 100000 in
theorem lifted (os : Os) (started : os.Started) (H : Type) (enc : TypeId × Value → H) :
    ReturnsInHanded {} Try.checked os 5 .any (Rows.fnExactMsgBytesSpec.pre6 enc Try.prog Try.f5 Rows.fnExactMsgBytesRow.domain false) (Rows.fnExactMsgBytesSpec.post enc Try.prog Try.f5 false true false false) := by
  refine returnsInHanded_of_change (C := Try.checked) own started (by kernel_rfl) Try.func5
    (ChangeSpec.witness6 (enc := enc) (C := Try.checked) false ⟨#[], #[.agg #[.int .i64 0, .int .i64 0, .int .i64 0, .int .i64 0, .slice none 0 0]], []⟩ 8 (by kernel_rfl) (by kernel_rfl) (by kernel_rfl) (by kernel_rfl)) ?_
  intro W base args ds gs before hval0 hW hcnd _
  have hval : ∀ (j : Nat) t v, Try.f5.params[j]? = some t → args[j]? = some v → Value.okWide Try.prog W .any base t v := hval0
  have hW' := hW
  obtain ⟨p, q, hA0, hV, rfl, hfz, hnd⟩ := hW
  have hA : DataW.TrodAll enc Try.prog W 0 (fun _ => true) true Try.f5.params.toList args.toList ds p := hA0
  rw [Try.params5] at hA hval
  obtain ⟨v0, vs0, d0, ds0, p0, q0, hargs, rfl, rfl, h0, r0⟩ := trodAll_cons hA
  obtain ⟨rfl, rfl, rfl⟩ := trodAll_nil r0
  obtain rfl : args = #[v0] := by cases args; simp_all
  obtain ⟨rfl, rfl⟩ := trodVars_none hV
  have k0 := h0
  have lt0 : ∀ x ∈ p0, x.block < W.heap.size := by obtain ⟨m, hm⟩ := k0; exact DataW.trod_lt m _ _ _ hm
  obtain ⟨cs, rfl, _⟩ := okWide_struct Try.underlying41 (hval 0 41 v0 rfl rfl)
  obtain ⟨k, c, v, d, a0, len0, cap0, f, hcs, hl, hm, hs⟩ : ∃ (k c v d : Int) (a0 : Option Addr) (len0 cap0 : Nat) (f : Nat → Int), cs = #[.int .i64 k, .int .i64 c, .int .i64 v, .int .i64 d, .slice a0 len0 cap0] ∧ len0 ≤ cap0 ∧ cap0 ≤ maxLen ∧ SL .i64 W a0 len0 f := by
    obtain ⟨fuel, hf⟩ := h0
    obtain ⟨k, c, v, d, a0, len0, cap0, f, e, h1, h2, h3⟩ := open_msg hf
    refine ⟨k, c, v, d, a0, len0, cap0, f, ?_, h1, h2, h3⟩
    obtain ⟨l⟩ := cs
    simpa [Value.cells] using e
  subst hcs
  clear hA0 hval0
  refine (walk k c v d a0 len0 cap0 f W hl hm hs).mono fun e W' ⟨he, bel⟩ => ?_
  subst he
  exact ⟨_, rfl, _, _, _, [], _, [], hW', trodAll_mk1 (shut_bool Try.underlying4 _), (trodAll_cons_mk (Below.trod laidOut (by kernel_rfl) (of_decide_eq_true (by kernel_rfl)) k0 bel lt0) trodAll_mk0), rfl, bel.frame _, fun h => by cases h⟩

theorem over : Rows.fnExactMsgBytesRow.holds Try.pinned (OpenSpec.ofChange Rows.fnExactMsgBytesSpec) :=
  OpenClaim.holds_of_wide 5 Try.f5 rfl rfl rfl rfl rfl rfl rfl ⟨rfl, rfl, rfl, rfl, rfl⟩ rfl rfl rfl rfl rfl (by kernel_rfl) Try.func5 (by kernel_rfl)
    (of_decide_eq_true (by kernel_rfl)) (by unfold Func.isWrapper; first | (rw [if_pos (by decide +kernel)]; kernel_rfl) | (rw [if_neg (by decide +kernel)]; exact ⟨rfl, rfl⟩))
    (fun os started H enc _ => lifted os started H enc)

theorem proved : Rows.FnExactMsgBytesSaid := over
end Go.Proofs.Ythhkmfgccbkkhaa.fnExactMsgBytes
namespace Go.Proofs.Ythhkmfgccbkkhaa
theorem fnExactMsgBytes_holds : Rows.FnExactMsgBytesSaid := fnExactMsgBytes.proved
end Go.Proofs.Ythhkmfgccbkkhaa

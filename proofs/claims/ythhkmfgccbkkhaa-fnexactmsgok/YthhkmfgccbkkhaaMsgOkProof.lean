/- At every message MsgOk of the program tells what MsgOk of the model does, writes into no argument and keeps no memory; there is no condition. -/
import Derived.Test.YthhkmfgccbkkhaaRows
import Derived.WalkKit
import Derived.ProofKit
import Derived.OpenShut
import Derived.ShutString
import Derived.ChangeOld
import Derived.Below
import Derived.Test.YthhkmfgccbkkhaaMsgO
import Derived.Test.YthhkmfgccbkkhaaMokI5
import Derived.Test.YthhkmfgccbkkhaaMsgW
import Derived.Test.YthhkmfgccbkkhaaMbyS
namespace Go.Proofs.Ythhkmfgccbkkhaa.fnExactMsgOk
open Go.ChangeShapes Go.WideShapes Go.ChangeAt Go.RowKit
set_option linter.unusedVariables false

theorem own : ownKnob Try.prog.godebug = none := by kernel_rfl
theorem laidOut : laidOutB Try.prog = true := by kernel_rfl

set_option maxRecDepth 100000 in
theorem walk (k c v d : Int) (a0 : Option Addr) (len0 cap0 : Nat) (f : Nat → Int) (w : World) (hl : len0 ≤ cap0) (hm : cap0 ≤ maxLen) (hs : SL .i64 w a0 len0 f) :
    Calls Try.prog 4 #[.agg #[.int .i64 k, .int .i64 c, .int .i64 v, .int .i64 d, .slice a0 len0 cap0]] w fun e w' => e = .returned (.bool true) ∧ Below w.heap.size w w' := by
  by_cases hn : len0 ≤ 1048576
  · obtain ⟨b, hspec, himpl⟩ : ∃ b : Bool, Hid (∀ W ao cap, len0 ≤ cap → SL .i64 W ao len0 f → Calls Try.prog 23 #[.agg #[.int .i64 k, .int .i64 c, .int .i64 v, .int .i64 d, .slice ao len0 cap]] W fun e w' => e = .returned (.bool b) ∧ Below W.heap.size W w') ∧
        Hid (∀ W ao cap, len0 ≤ cap → SL .i64 W ao len0 f → Calls Try.prog 22 #[.agg #[.int .i64 k, .int .i64 c, .int .i64 v, .int .i64 d, .slice ao len0 cap]] W fun e w' => e = .returned (.bool b) ∧ Below W.heap.size W w') := by
      refine ⟨@decide (MOk k c v d f len0) (mokDec k c v d f len0), fun W ao cap h1 h2 => (msgok_spec ao len0 cap f k c v d W hn h1 h2).mono ?_, fun W ao cap h1 h2 => (msgok_impl ao len0 cap f k c v d W hn h1 h2).mono ?_⟩
      all_goals
        rintro e w' ⟨h, hb⟩
        rcases h with ⟨h, rfl⟩ | ⟨h, rfl⟩
        · exact ⟨by simp [h], hb⟩
        · exact ⟨by simp [h], hb⟩
    have HS := hide hs
    clear hs
    go_enter Try.func4, Try.ntmps4
    go_wp2_with fail
    refine (sz_yes a0 len0 cap0 k c v d 1048576 _ (by omega) (by omega)).mono ?_
    rintro e w1 ⟨rfl, b1⟩
    have M1 := (MB.new w 41 k c v d a0 len0 cap0).below b1 (by simp)
    have B1 := hide (((Below.refl _ _).alloc (Nat.le_refl _) _).trans (b1.mono (by simp)) : Below w.heap.size w w1)
    have HM1 := hide M1
    have hlen : ¬ (1048576 : Int) - (len0 : Int) < 0 := by omega
    obtain ⟨m0, m1, m2, m3, m4⟩ := M1.cells
    clear b1 M1
    go_wp2_with fail
    refine (to_msg a0 len0 cap0 f k c v d _ hn (HS.out.below B1.out)).mono ?_
    rintro e w2 ⟨g2, rfl, _, r2, b2⟩
    have B2 := hide (B1.out.trans (b2.mono B1.out.size))
    have HM2 := hide (HM1.out.below b2 HM1.out.lt)
    have R2 := hide r2
    clear b2 r2 B1 HM1 m0 m1 m2 m3 m4 hlen
    go_wp2_with fail
    refine (hspec.out _ _ _ (Nat.le_refl _) (SL.row R2.out)).mono ?_
    rintro e w3 ⟨rfl, b3⟩
    have B3 := hide (B2.out.trans (b3.mono B2.out.size))
    have HM3 := hide (HM2.out.below b3 HM2.out.lt)
    clear b3 R2 B2 HM2
    obtain ⟨m0, m1, m2, m3, m4⟩ := HM3.out.cells
    go_wp2_with fail
    refine (to_msg a0 len0 cap0 f k c v d _ hn (HS.out.below B3.out)).mono ?_
    rintro e w4 ⟨g4, rfl, _, r4, b4⟩
    have B4 := hide (B3.out.trans (b4.mono B3.out.size))
    have HM4 := hide (HM3.out.below b4 HM3.out.lt)
    have R4 := hide r4
    clear b4 r4 B3 HM3 m0 m1 m2 m3 m4
    go_wp2_with fail
    have X4 := MB.new w4 26 k c v d (some ⟨g4, 0, none⟩) len0 len0
    have bX : Below w4.heap.size w4 (w4.alloc (.cells #[.int .i64 k, .int .i64 c, .int .i64 v, .int .i64 d, .slice (some ⟨g4, 0, none⟩) len0 len0] 26)) := (Below.refl _ _).alloc (Nat.le_refl _) _
    refine (himpl.out _ _ _ (Nat.le_refl _) (SL.row (row_below R4.out bX R4.out.lt))).mono ?_
    rintro e w5 ⟨rfl, b5⟩
    have b5' := bX.trans (b5.mono bX.size)
    have H5 : Hid (MB w5.drew w.heap.size 41 k c v d a0 len0 cap0 ∧ MB w5.drew w4.heap.size 26 k c v d (some ⟨g4, 0, none⟩) len0 len0 ∧ w5.drew.rowIs g4 3 len0 (fun i => .int .i64 (f i)) ∧ Below w.heap.size w w5.drew) :=
      ⟨HM4.out.below (Below.drawn b5' 1) HM4.out.lt, X4.below (Below.drawn b5 1) X4.lt, row_below R4.out (Below.drawn b5' 1) R4.out.lt, Below.drawn (B4.out.trans (b5'.mono B4.out.size)) 1⟩
    generalize w4.heap.size = X at *
    clear X4 bX b5 b5' HM4 R4 B4 himpl hspec
    have hto := hide (to_msg a0 len0 cap0 f k c v d w5.drew hn (HS.out.below H5.out.2.2.2))
    obtain ⟨m0, m1, m2, m3, m4⟩ := (show MB w5 w.heap.size 41 k c v d a0 len0 cap0 from H5.out.1).cells
    obtain ⟨x0, x1, x2, x3, x4⟩ := (show MB w5 X 26 k c v d (some ⟨g4, 0, none⟩) len0 len0 from H5.out.2.1).cells
    go_wp2_with fail
    go_region_held3 (fun w' => (w'.cell? ⟨w.heap.size, 0, none⟩ = some (.int .i64 k) ∧ w'.cell? ⟨w.heap.size, 1, none⟩ = some (.int .i64 c) ∧ w'.cell? ⟨w.heap.size, 2, none⟩ = some (.int .i64 v) ∧ w'.cell? ⟨w.heap.size, 3, none⟩ = some (.int .i64 d) ∧ w'.cell? ⟨w.heap.size, 4, none⟩ = some (.slice a0 len0 cap0)) ∧ (w'.cell? ⟨X, 0, none⟩ = some (.int .i64 k) ∧ w'.cell? ⟨X, 1, none⟩ = some (.int .i64 c) ∧ w'.cell? ⟨X, 2, none⟩ = some (.int .i64 v) ∧ w'.cell? ⟨X, 3, none⟩ = some (.int .i64 d) ∧ w'.cell? ⟨X, 4, none⟩ = some (.slice (some ⟨g4, 0, none⟩) len0 len0))) (first | assumption | exact ⟨⟨m0, m1, m2, m3, m4⟩, x0, x1, x2, x3, x4⟩) (first
      | (go_at_call 27; refine hto.out.mono ?_; rintro e w6 ⟨g6, rfl, _, r6, b6⟩; have hk6 := And.intro (H5.out.1.below b6 H5.out.1.lt).cells (H5.out.2.1.below b6 H5.out.2.1.lt).cells; have H6 : Hid (MB w6 w.heap.size 41 k c v d a0 len0 cap0 ∧ MB w6 X 26 k c v d (some ⟨g4, 0, none⟩) len0 len0 ∧ SL .i64 w6 (some ⟨g4, 0, none⟩) len0 f ∧ SL .i64 w6 (some ⟨g6, 0, none⟩) len0 f ∧ Below w.heap.size w w6) := ⟨H5.out.1.below b6 H5.out.1.lt, H5.out.2.1.below b6 H5.out.2.1.lt, SL.row (row_below H5.out.2.2.1 b6 H5.out.2.2.1.lt), SL.row r6, H5.out.2.2.2.trans (b6.mono H5.out.2.2.2.size)⟩; clear r6 b6)
      | (go_at_call 28; refine (eq_msg _ _ len0 _ _ f f k c v d _ hn H6.out.2.2.1 H6.out.2.2.2.1 (fun _ _ => rfl)).mono ?_; rintro e w7 ⟨rfl, b7⟩; have hk7 := And.intro (H6.out.1.below b7 H6.out.1.lt).cells (H6.out.2.1.below b7 H6.out.2.1.lt).cells; have H7 : Hid (Below w.heap.size w w7) := H6.out.2.2.2.2.trans (b7.mono H6.out.2.2.2.2.size); clear b7))
    go_wp2
    go_ret
    exact ⟨rfl, H7.out⟩
  · go_enter Try.func4, Try.ntmps4
    go_wp2_with fail
    refine (sz_no a0 len0 cap0 k c v d 1048576 _ (by omega) (by omega) hl hm).mono ?_
    rintro e w1 ⟨rfl, b1⟩
    have B1 := hide (((Below.refl _ _).alloc (Nat.le_refl _) _).trans (b1.mono (by simp)) : Below w.heap.size w w1)
    clear b1
    go_wp2
    go_ret
    exact ⟨rfl, B1.out⟩

set_option maxRecDepth 100000 in
theorem lifted (os : Os) (started : os.Started) (H : Type) (enc : TypeId × Value → H) :
    ReturnsInHanded {} Try.checked os 4 .any (Rows.fnExactMsgOkSpec.pre6 enc Try.prog Try.f4 Rows.fnExactMsgOkRow.domain false) (Rows.fnExactMsgOkSpec.post enc Try.prog Try.f4 false true false false) := by
  refine returnsInHanded_of_change (C := Try.checked) own started (by kernel_rfl) Try.func4
    (ChangeSpec.witness6 (enc := enc) (C := Try.checked) false ⟨#[], #[.agg #[.int .i64 0, .int .i64 0, .int .i64 0, .int .i64 0, .slice none 0 0]], []⟩ 8 (by kernel_rfl) (by kernel_rfl) (by kernel_rfl) (by kernel_rfl)) ?_
  intro W base args ds gs before hval0 hW hcnd _
  have hval : ∀ (j : Nat) t v, Try.f4.params[j]? = some t → args[j]? = some v → Value.okWide Try.prog W .any base t v := hval0
  have hW' := hW
  obtain ⟨p, q, hA0, hV, rfl, hfz, hnd⟩ := hW
  have hA : DataW.TrodAll enc Try.prog W 0 (fun _ => true) true Try.f4.params.toList args.toList ds p := hA0
  rw [Try.params4] at hA hval
  obtain ⟨v0, vs0, d0, ds0, p0, q0, hargs, rfl, rfl, h0, r0⟩ := trodAll_cons hA
  obtain ⟨rfl, rfl, rfl⟩ := trodAll_nil r0
  obtain rfl : args = #[v0] := by cases args; simp_all
  obtain ⟨rfl, rfl⟩ := trodVars_none hV
  have k0 := h0
  have lt0 : ∀ x ∈ p0, x.block < W.heap.size := by obtain ⟨m, hm⟩ := k0; exact DataW.trod_lt m _ _ _ hm
  obtain ⟨cs, rfl, _⟩ := okWide_struct Try.underlying41 (hval 0 41 v0 rfl rfl)
  obtain ⟨k, c, v, d, a0, len0, cap0, f, hcs, hl, hm, hs⟩ : ∃ (k c v d : Int) (a0 : Option Addr) (len0 cap0 : Nat) (f : Nat → Int), cs = #[.int .i64 k, .int .i64 c, .int .i64 v, .int .i64 d, .slice a0 len0 cap0] ∧ len0 ≤ cap0 ∧ cap0 ≤ maxLen ∧ SL .i64 W a0 len0 f := by
    obtain ⟨fuel, hf⟩ := h0
    obtain ⟨k, c, v, d, a0, len0, cap0, f, e, h1, h2, h3⟩ := open_msg hf
    refine ⟨k, c, v, d, a0, len0, cap0, f, ?_, h1, h2, h3⟩
    obtain ⟨l⟩ := cs
    simpa [Value.cells] using e
  subst hcs
  clear hA0 hval0
  refine (walk k c v d a0 len0 cap0 f W hl hm hs).mono fun e W' ⟨he, bel⟩ => ?_
  subst he
  exact ⟨_, rfl, _, _, _, [], _, [], hW', trodAll_mk1 (shut_bool Try.underlying4 _), (trodAll_cons_mk (Below.trod laidOut (by kernel_rfl) (of_decide_eq_true (by kernel_rfl)) k0 bel lt0) trodAll_mk0), rfl, bel.frame _, fun h => by cases h⟩

theorem over : Rows.fnExactMsgOkRow.holds Try.pinned (OpenSpec.ofChange Rows.fnExactMsgOkSpec) :=
  OpenClaim.holds_of_wide 4 Try.f4 rfl rfl rfl rfl rfl rfl rfl ⟨rfl, rfl, rfl, rfl, rfl⟩ rfl rfl rfl rfl rfl (by kernel_rfl) Try.func4 (by kernel_rfl)
    (of_decide_eq_true (by kernel_rfl)) (by unfold Func.isWrapper; first | (rw [if_pos (by decide +kernel)]; kernel_rfl) | (rw [if_neg (by decide +kernel)]; exact ⟨rfl, rfl⟩))
    (fun os started H enc _ => lifted os started H enc)

theorem proved : Rows.FnExactMsgOkSaid := over
end Go.Proofs.Ythhkmfgccbkkhaa.fnExactMsgOk
namespace Go.Proofs.Ythhkmfgccbkkhaa
theorem fnExactMsgOk_holds : Rows.FnExactMsgOkSaid := fnExactMsgOk.proved
end Go.Proofs.Ythhkmfgccbkkhaa

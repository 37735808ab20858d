/- At every row of bytes Unpack of the program answers the messages that Unpack of the model does, writes into no argument, and its answer owns its memory; there is no condition. -/
import Derived.Test.YthhkmfgccbkkhaaRows
import Derived.WalkKit
import Derived.ProofKit
import Derived.OpenShut
import Derived.ShutString
import Derived.Test.YthhkmfgccbkkhaaGf
import Derived.Test.YthhkmfgccbkkhaaGa
import Derived.ChangeOld
import Derived.Below

namespace Go.Proofs.Ythhkmfgccbkkhaa.fnExactUnpack
open Go.ChangeShapes Go.WideShapes Go.ChangeAt Go.RowKit
open Go.ChangeMaps (open_string shut_string)
set_option linter.unusedVariables false

theorem own : ownKnob Try.prog.godebug = none := by kernel_rfl
theorem laidOut : laidOutB Try.prog = true := by kernel_rfl

/-- WHAT THE WALK IS TOLD OF A SLICE OF INTEGERS THAT CAME IN: it is nil; or it leads to a row of 'cap' cells, the numbers 'zs' (the first 'len' are its elements, the rest its spare room), each fitting its kind. -/
def IsRow (k : IntKind) (w : World) (a : Option Addr) (len cap : Nat) (zs : List Int) : Prop :=
  (a = none ∧ len = 0 ∧ cap = 0 ∧ zs = []) ∨
  ∃ x, a = some x ∧ len ≤ cap ∧ cap ≤ maxLen ∧ zs.length = cap ∧ (∀ i, i < zs.length → w.cell? (x.add i) = some (.int k (zs.getD i 0))) ∧ ∀ n ∈ zs, (Lit.int k n).wf = true

/-- Whatever bytes: both functions answer the same messages, each in memory of its own. -/
theorem both (f : Nat → Int) (n : Nat) (hn : n ≤ 1048576) (hf : ∀ i, i < n → 0 ≤ f i ∧ f i ≤ 255) : ∃ (b : Bool) (k : Nat) (M : Nat → Mg), k ≤ 3000 ∧ (∀ i, i < k → (M i).g.length ≤ 12) ∧
    (∀ w ao cap, SL .u8 w ao n f → Calls Try.prog 20 #[.slice ao n cap] w fun e w' => ∃ ro rc, e = .returned (.tuple #[.slice ro k rc, .bool b]) ∧ OMo w' w.heap.size w'.heap.size ro k M ∧ Below w.heap.size w w') ∧
    (∀ w ao cap, SL .u8 w ao n f → Calls Try.prog 19 #[.slice ao n cap] w fun e w' => ∃ ro rc, e = .returned (.tuple #[.slice ro k rc, .bool b]) ∧ OMo w' w.heap.size w'.heap.size ro k M ∧ Below w.heap.size w w') := by
  by_cases hU : ∃ M k, Upk (bl f n) M k
  · obtain ⟨M, k, hU⟩ := hU
    have hU' := hU
    obtain ⟨F, hF, hA, _⟩ := hU'
    have hk : k ≤ 3000 := by have := hA.1.le; have := hA.2; have := spread_le hF; omega
    refine ⟨true, k, M, hk, all_gens hA.1, fun w ao cap hs => (unpack_spec ao n cap f w hn hs hf).mono ?_, fun w ao cap hs => (unpack_impl ao n cap f w hn hs hf).mono ?_⟩
    all_goals
      rintro e w' ⟨h, hb⟩
      rcases h with ⟨M', k', ro, rc, R, hU', rfl, ho⟩ | ⟨hno, _⟩
      · obtain ⟨rfl, e⟩ := upk_one hU' hU
        exact ⟨ro, rc, rfl, OMo.of ho e, hb⟩
      · exact absurd ⟨M, k, hU⟩ hno
  · refine ⟨false, 0, fun _ => mg0, by omega, fun i hi => absurd hi (Nat.not_lt_zero _), fun w ao cap hs => (unpack_spec ao n cap f w hn hs hf).mono ?_, fun w ao cap hs => (unpack_impl ao n cap f w hn hs hf).mono ?_⟩
    all_goals
      rintro e w' ⟨h, hb⟩
      rcases h with ⟨M', k', ro, rc, R, hU', _⟩ | ⟨_, ro, rc, rfl⟩
      · exact absurd ⟨M', k', hU'⟩ hU
      · exact ⟨ro, rc, rfl, .inl rfl, hb⟩

set_option maxHeartbeats 1000000 in
set_option maxRecDepth 100000 in
theorem walk (a0 : Option Addr) (len0 cap0 : Nat) (z0 : List Int) (w : World) (w0 : IsRow .u8 w a0 len0 cap0 z0) :
    Calls Try.prog 8 #[.slice a0 len0 cap0] w fun e w' => e = .returned (.bool true) ∧ Below w.heap.size w w' := by
  obtain ⟨f, hs, hf0⟩ := view w0
  have hf := view_u8 hf0
  clear w0 hf0
  by_cases hn : len0 ≤ 1048576
  · obtain ⟨b, k, M, hk, hg12, hspec0, himpl0⟩ := both f len0 hn hf
    have hgs := gsum_bd M k hg12
    have hle : k + gsum M k ≤ 1048576 := by omega
    have HG : Hid (∀ i, i < k → (M i).g.length ≤ 1048576) := fun i hi => by have := hg12 i hi; omega
    have hspec := hide hspec0
    have himpl := hide himpl0
    have HS := hide hs
    have hbb : (b != b) = false := by cases b <;> rfl
    have hbb2 : (b == b) = true := by cases b <;> rfl
    clear hs hspec0 himpl0 hf hg12
    go_enter Try.func8, Try.ntmps8
    go_wp2_with fail
    refine (to_any a0 len0 cap0 f _ hn HS.out).mono ?_
    rintro e w1 ⟨rfl, r1, b1⟩
    have R1 := hide r1
    have B1 := hide b1
    clear r1 b1
    go_wp2_with fail
    refine (hspec.out _ _ _ (SL.row R1.out)).mono ?_
    rintro e w2 ⟨ro2, rc2, rfl, o2, b2⟩
    have B2 := hide (B1.out.trans (b2.mono B1.out.size))
    have O2 := hide o2
    have s12 : Hid (w.heap.size < w1.heap.size ∧ w1.heap.size ≤ w2.heap.size) := ⟨R1.out.lt, b2.size⟩
    clear o2 b2 R1 B1
    go_wp2_with fail
    refine (to_any a0 len0 cap0 f _ hn (HS.out.below B2.out)).mono ?_
    rintro e w3 ⟨rfl, r3, b3⟩
    have B3 := hide (B2.out.trans (b3.mono B2.out.size))
    have R3 := hide r3
    have O3 := hide (O2.out.below b3 (Nat.le_refl _))
    have s23 : Hid (w2.heap.size < w3.heap.size) := r3.lt
    clear r3 b3 O2 B2
    go_wp2_with fail
    refine (himpl.out _ _ _ (SL.row R3.out)).mono ?_
    rintro e w4 ⟨ro4, rc4, rfl, o4, b4⟩
    obtain ⟨A1, hA1⟩ : ∃ A1, A1 = w1.heap.size := ⟨_, rfl⟩
    obtain ⟨A2, hA2⟩ : ∃ A2, A2 = w2.heap.size := ⟨_, rfl⟩
    obtain ⟨A3, hA3⟩ : ∃ A3, A3 = w3.heap.size := ⟨_, rfl⟩
    obtain ⟨A4, hA4⟩ : ∃ A4, A4 = w4.heap.size := ⟨_, rfl⟩
    have hA : w.heap.size < A1 ∧ A1 ≤ A2 ∧ A2 < A3 ∧ A3 ≤ A4 := by rw [hA1, hA2, hA3, hA4]; exact ⟨s12.out.1, s12.out.2, s23.out, b4.size⟩
    have H4 : Hid (OMo w4 A1 A2 ro2 k M ∧ w4.rowIs A2 5 len0 (fun i => .int .u8 (f i)) ∧ OMo w4 A3 A4 ro4 k M ∧ Below w.heap.size w w4 ∧ A4 ≤ w4.heap.size) := by
      rw [hA1, hA2, hA3, hA4]
      exact ⟨O3.out.below b4 (Nat.le_of_lt s23.out), row_below R3.out b4 R3.out.lt, o4, B3.out.trans (b4.mono B3.out.size), Nat.le_refl _⟩
    rw [← hA2]
    clear o4 b4 O3 R3 B3 s12 s23 hA1 hA2 hA3 hA4
    go_wp2_with fail
    refine (eqs_any ro4 ro2 k _ _ M _ (by omega) HG.out H4.out.2.2.1.msl H4.out.1.msl).mono ?_
    rintro e w5 ⟨rfl, b5⟩
    have H5 : Hid (OMo w5 A1 A2 ro2 k M ∧ w5.rowIs A2 5 len0 (fun i => .int .u8 (f i)) ∧ OMo w5 A3 A4 ro4 k M ∧ Below w.heap.size w w5 ∧ A4 ≤ w5.heap.size) := ⟨H4.out.1.below b5 (by have := H4.out.2.2.2.2; omega), row_below H4.out.2.1 b5 H4.out.2.1.lt, H4.out.2.2.1.below b5 (by have := H4.out.2.2.2.2; omega), H4.out.2.2.2.1.trans (b5.mono H4.out.2.2.2.1.size), Nat.le_trans H4.out.2.2.2.2 b5.size⟩
    clear b5 H4
    go_wp2_with fail
    refine (to_any a0 len0 cap0 f _ hn (HS.out.below H5.out.2.2.2.1)).mono ?_
    rintro e w6 ⟨rfl, r6, b6⟩
    have H6 : Hid (OMo w6 A1 A2 ro2 k M ∧ w6.rowIs A2 5 len0 (fun i => .int .u8 (f i)) ∧ OMo w6 A3 A4 ro4 k M ∧ Below w.heap.size w w6 ∧ A4 ≤ w6.heap.size) := ⟨H5.out.1.below b6 (by have := H5.out.2.2.2.2; omega), row_below H5.out.2.1 b6 H5.out.2.1.lt, H5.out.2.2.1.below b6 (by have := H5.out.2.2.2.2; omega), H5.out.2.2.2.1.trans (b6.mono H5.out.2.2.2.1.size), Nat.le_trans H5.out.2.2.2.2 b6.size⟩
    have R6 := hide r6
    clear r6 b6 H5
    generalize w5.heap.size = X5 at *
    go_wp2_with fail
    refine (eq_yes _ _ len0 _ _ f f _ hn (SL.row H6.out.2.1) (SL.row R6.out) (fun _ _ => rfl)).mono ?_
    rintro e w7 ⟨rfl, q7, hw7⟩
    have H7 : Hid (OMo w7 A1 A2 ro2 k M ∧ w7.rowIs A2 5 len0 (fun i => .int .u8 (f i)) ∧ OMo w7 A3 A4 ro4 k M ∧ Below w.heap.size w w7 ∧ A4 ≤ w7.heap.size) := by rw [hw7]; exact ⟨H6.out.1.drawn q7, H6.out.2.1, H6.out.2.2.1.drawn q7, Below.drawn H6.out.2.2.2.1 q7, H6.out.2.2.2.2⟩
    clear hw7 H6 R6
    go_wp2_with fail
    refine (mark_row A2 len0 _ 1 _ _ hn (by decide) (by decide) H7.out.2.1).mono ?_
    rintro e w8 ⟨rfl, _, y8⟩
    have y8' : OnlyBT A2 (A2 + 1) w7 w8 := ⟨y8.1, y8.2.1, fun j hj => y8.2.2 j (fun e => hj (by omega))⟩
    have H8 : Hid (OMo w8 A1 A2 ro2 k M ∧ OMo w8 A3 A4 ro4 k M ∧ Below w.heap.size w w8 ∧ A4 ≤ w8.heap.size) := ⟨H7.out.1.only y8' (by omega), H7.out.2.2.1.only y8' (by omega), H7.out.2.2.2.1.trans (y8.1.mono (by omega)), by rw [y8.2.1]; exact H7.out.2.2.2.2⟩
    have hd1 : ¬ (1 : Int) + (len0 : Int) < 0 := by omega
    clear y8 y8' H7
    go_wp2_with fail
    refine (eqs_any ro4 ro2 k _ _ M _ (by omega) HG.out H8.out.2.1.msl H8.out.1.msl).mono ?_
    rintro e w9 ⟨rfl, b9⟩
    have H9 : Hid (OMo w9 A1 A2 ro2 k M ∧ OMo w9 A3 A4 ro4 k M ∧ Below w.heap.size w w9 ∧ A4 ≤ w9.heap.size) := ⟨H8.out.1.below b9 (by have := H8.out.2.2.2; omega), H8.out.2.1.below b9 (by have := H8.out.2.2.2; omega), H8.out.2.2.1.trans (b9.mono H8.out.2.2.1.size), Nat.le_trans H8.out.2.2.2 b9.size⟩
    clear b9 H8
    go_wp2_with fail
    refine (marks_o ro4 k _ A3 A4 1 M _ hle (by decide) (by decide) H9.out.2.1).mono ?_
    rintro e w10 ⟨rfl, o10, y10⟩
    have H10 : Hid (OMo w10 A1 A2 ro2 k M ∧ OMo w10 A3 A4 ro4 k (mkp M 1 k) ∧ Below w.heap.size w w10 ∧ A4 ≤ w10.heap.size) := ⟨H9.out.1.only y10 (by omega), o10, H9.out.2.2.1.trans (y10.1.mono (by omega)), by rw [y10.2.1]; exact H9.out.2.2.2⟩
    have hd2 : ¬ (1 : Int) + 4 * (k : Int) + (gsum M k : Int) < 0 := by omega
    clear o10 y10 H9
    go_wp2_with fail
    refine (helds_any ro4 k _ 1 M _ hle (by decide) (by decide) H10.out.2.1.msl).mono ?_
    rintro e w10' ⟨rfl, hw10⟩
    rw [hw10]
    clear hw10
    go_wp2_with fail
    refine (to_any a0 len0 cap0 f _ hn (HS.out.below H10.out.2.2.1)).mono ?_
    rintro e w11 ⟨rfl, r11, b11⟩
    have H11 : Hid (OMo w11 A1 A2 ro2 k M ∧ OMo w11 A3 A4 ro4 k (mkp M 1 k) ∧ Below w.heap.size w w11 ∧ A4 ≤ w11.heap.size) := ⟨H10.out.1.below b11 (by have := H10.out.2.2.2; omega), H10.out.2.1.below b11 (by have := H10.out.2.2.2; omega), H10.out.2.2.1.trans (b11.mono H10.out.2.2.1.size), Nat.le_trans H10.out.2.2.2 b11.size⟩
    have R11 := hide r11
    clear r11 b11 H10
    generalize w10.heap.size = X10 at *
    go_wp2_with fail
    refine (himpl.out _ _ _ (SL.row R11.out)).mono ?_
    rintro e w12 ⟨ro12, rc12, rfl, o12, b12⟩
    have H12 : Hid (OMo w12 A1 A2 ro2 k M ∧ OMo w12 A3 A4 ro4 k (mkp M 1 k) ∧ Below w.heap.size w w12 ∧ A4 ≤ w12.heap.size) := ⟨H11.out.1.below b12 (by have := H11.out.2.2.2; omega), H11.out.2.1.below b12 (by have := H11.out.2.2.2; omega), H11.out.2.2.1.trans (b12.mono H11.out.2.2.1.size), Nat.le_trans H11.out.2.2.2 b12.size⟩
    have O12 := hide o12
    clear o12 b12 H11 R11
    go_wp2_with fail
    refine (eqs_any ro12 ro2 k _ _ M _ (by omega) HG.out O12.out.msl H12.out.1.msl).mono ?_
    rintro e w13 ⟨rfl, b13⟩
    have H13 : Hid (OMo w13 A1 A2 ro2 k M ∧ OMo w13 A3 A4 ro4 k (mkp M 1 k) ∧ Below w.heap.size w w13 ∧ A4 ≤ w13.heap.size) := ⟨H12.out.1.below b13 (by have := H12.out.2.2.2; omega), H12.out.2.1.below b13 (by have := H12.out.2.2.2; omega), H12.out.2.2.1.trans (b13.mono H12.out.2.2.1.size), Nat.le_trans H12.out.2.2.2 b13.size⟩
    clear b13 H12 O12
    go_wp2_with fail
    refine (helds_any ro4 k _ 1 M _ hle (by decide) (by decide) H13.out.2.1.msl).mono ?_
    rintro e w13' ⟨rfl, hw13⟩
    rw [hw13]
    clear hw13
    go_wp2
    go_ret
    exact ⟨rfl, H13.out.2.2.1⟩
  · have hd : (1048576 : Int) < (len0 : Int) := by omega
    clear hs hf
    go_enter Try.func8, Try.ntmps8
    go_wp2
    go_ret
    exact ⟨rfl, Below.refl _ _⟩

set_option maxRecDepth 100000 in
theorem lifted (os : Os) (started : os.Started) (H : Type) (enc : TypeId × Value → H) :
    ReturnsInHanded {} Try.checked os 8 .any (Rows.fnExactUnpackSpec.pre6 enc Try.prog Try.f8 Rows.fnExactUnpackRow.domain false) (Rows.fnExactUnpackSpec.post enc Try.prog Try.f8 false true false false) := by
  refine returnsInHanded_of_change (C := Try.checked) own started (by kernel_rfl) Try.func8
    (ChangeSpec.witness6 (enc := enc) (C := Try.checked) false ⟨#[], #[.slice none 0 0], []⟩ 8 (by kernel_rfl) (by kernel_rfl) (by kernel_rfl) (by kernel_rfl)) ?_
  intro W base args ds gs before hval0 hW hcnd _
  have hval : ∀ (j : Nat) t v, Try.f8.params[j]? = some t → args[j]? = some v → Value.okWide Try.prog W .any base t v := hval0
  have hW' := hW
  obtain ⟨p, q, hA0, hV, rfl, hfz, hnd⟩ := hW
  have hA : DataW.TrodAll enc Try.prog W 0 (fun _ => true) true Try.f8.params.toList args.toList ds p := hA0
  rw [Try.params8] at hA hval
  obtain ⟨v0, vs0, d0, ds0, p0, q0, hargs, rfl, rfl, h0, r0⟩ := trodAll_cons hA
  obtain ⟨rfl, rfl, rfl⟩ := trodAll_nil r0
  obtain rfl : args = #[v0] := by cases args; simp_all
  obtain ⟨rfl, rfl⟩ := trodVars_none hV
  obtain ⟨a0, len0, cap0, rfl⟩ := okWide_slice Try.underlying22 (hval 0 22 v0 rfl rfl)
  have k0 := h0
  have lt0 : ∀ x ∈ p0, x.block < W.heap.size := by obtain ⟨m, hm⟩ := k0; exact DataW.trod_lt m _ _ _ hm
  obtain ⟨z0, w0⟩ : ∃ zs, IsRow .u8 W a0 len0 cap0 zs := by
    obtain ⟨fuel, hf⟩ := h0
    rcases open_ints Try.underlying22 Try.underlying5 (by kernel_rfl) hf with ⟨hcs, _⟩ | ⟨x, l, c, zs, hcs, _, hl, hm, hz, _, hcell, hwz⟩
    · simp [Value.cells] at hcs
      obtain ⟨rfl, rfl, rfl⟩ := hcs
      exact ⟨[], .inl ⟨rfl, rfl, rfl, rfl⟩⟩
    · simp [Value.cells] at hcs
      obtain ⟨rfl, rfl, rfl⟩ := hcs
      exact ⟨zs, .inr ⟨_, rfl, hl, hm, by simpa using hz, hcell, hwz⟩⟩
  clear hA0 hval0
  refine (walk a0 len0 cap0 z0 W w0).mono fun e W' ⟨he, bel⟩ => ?_
  subst he
  exact ⟨_, rfl, _, _, _, [], _, [], hW', trodAll_mk1 (shut_bool Try.underlying4 _), (trodAll_cons_mk (Below.trod laidOut (by kernel_rfl) (of_decide_eq_true (by kernel_rfl)) k0 bel lt0) trodAll_mk0), rfl, bel.frame _, fun h => by cases h⟩

theorem over : Rows.fnExactUnpackRow.holds Try.pinned (OpenSpec.ofChange Rows.fnExactUnpackSpec) :=
  OpenClaim.holds_of_wide 8 Try.f8 rfl rfl rfl rfl rfl rfl rfl ⟨rfl, rfl, rfl, rfl, rfl⟩ rfl rfl rfl rfl rfl (by kernel_rfl) Try.func8 (by kernel_rfl)
    (of_decide_eq_true (by kernel_rfl)) (by unfold Func.isWrapper; first | (rw [if_pos (by decide +kernel)]; kernel_rfl) | (rw [if_neg (by decide +kernel)]; exact ⟨rfl, rfl⟩))
    (fun os started H enc _ => lifted os started H enc)

theorem proved : Rows.FnExactUnpackSaid := over
end Go.Proofs.Ythhkmfgccbkkhaa.fnExactUnpack
namespace Go.Proofs.Ythhkmfgccbkkhaa
theorem fnExactUnpack_holds : Rows.FnExactUnpackSaid := fnExactUnpack.proved
end Go.Proofs.Ythhkmfgccbkkhaa

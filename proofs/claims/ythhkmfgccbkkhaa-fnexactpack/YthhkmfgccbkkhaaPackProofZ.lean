/- At every list of messages Pack of the program answers the bytes that Pack of the model does, writes into no argument, and its answer owns its memory; there is no condition. -/
import Derived.Test.YthhkmfgccbkkhaaRows
import Derived.WalkKit
import Derived.ProofKit
import Derived.OpenShut
import Derived.ShutString
import Derived.ChangeOld
import Derived.Below
import Derived.Test.YthhkmfgccbkkhaaGe
import Derived.Test.YthhkmfgccbkkhaaGa

namespace Go.Proofs.Ythhkmfgccbkkhaa.fnExactPack
open Go.ChangeShapes Go.WideShapes Go.ChangeAt Go.RowKit
set_option linter.unusedVariables false

theorem own : ownKnob Try.prog.godebug = none := by kernel_rfl
theorem laidOut : laidOutB Try.prog = true := by kernel_rfl

/-- Both functions answer the same bytes, each in memory of its own. -/
theorem both (M : Nat → Mg) (n : Nat) (hn : n ≤ 1048576) (hg : ∀ i, i < n → (M i).g.length ≤ 1048576) : ∃ (m : Nat) (g : Nat → Int), m ≤ 1048576 ∧
    (∀ w ao cap, MSL w ao n M → Calls Try.prog 24 #[.slice ao n cap] w fun e w' => ∃ ro rc, e = .returned (.slice ro m rc) ∧ Own w' w.heap.size 5 ro m (fun i => .int .u8 (g i)) ∧ Below w.heap.size w w') ∧
    (∀ w ao cap, MSL w ao n M → Calls Try.prog 17 #[.slice ao n cap] w fun e w' => ∃ ro rc, e = .returned (.slice ro m rc) ∧ Own w' w.heap.size 5 ro m (fun i => .int .u8 (g i)) ∧ Below w.heap.size w w') := by
  refine ⟨(pck M n).length, fun i => (pck M n).getD i 0, ?_, fun w ao cap hs => ?_, fun w ao cap hs => ?_⟩
  · unfold pck squeeze
    split
    · simp
    · next h =>
      have := squeeze_len (fun i => (frs M n).getD i 0) (frs M n).length
      unfold squeeze at this
      rw [if_neg h] at this
      omega
  · refine (pack_spec ao n cap M w hn hg hs).mono fun e w' => ?_
    rintro ⟨v, rfl, ho, hb⟩
    obtain ⟨ro, rc, rfl, _, ho'⟩ := Own.of_owns ho
    exact ⟨_, _, rfl, ho', hb⟩
  · refine (pack_impl ao n cap M w hn hg hs).mono fun e w' => ?_
    rintro ⟨v, rfl, ho, hb⟩
    obtain ⟨ro, rc, rfl, _, ho'⟩ := Own.of_owns ho
    exact ⟨_, _, rfl, ho', hb⟩

set_option maxHeartbeats 1000000 in
set_option maxRecDepth 100000 in
theorem walk (a0 : Option Addr) (len0 cap0 : Nat) (M : Nat → Mg) (w : World) (hn9 : len0 ≤ 9223372036854775807) (hs : MSL w a0 len0 M) (hg9 : ∀ i, i < len0 → (M i).g.length ≤ 9223372036854775807) :
    Calls Try.prog 7 #[.slice a0 len0 cap0] w fun e w' => e = .returned (.bool true) ∧ Below w.heap.size w w' := by
  have hsz := szs_any a0 len0 cap0 M w hs hn9 hg9
  by_cases hle : len0 + gsum M len0 ≤ 1048576
  · have hG : ∀ i, i < len0 → (M i).g.length ≤ 1048576 := fun i hi => by have := gsum_one M i len0 hi; omega
    obtain ⟨m, g, hm', hspec0, himpl0⟩ := both M len0 (by omega) hG
    have hszc : Hid (Calls Try.prog 35 #[.slice a0 len0 cap0, .int .i64 1048576] w fun e w' => e = .returned (.int .i64 (1048576 - len0 - gsum M len0)) ∧ Below w.heap.size w w') := hsz.mono fun e w' ⟨h1, h2⟩ => ⟨h1.elim (·.2) (fun x => absurd hle x.1), h2⟩
    have hd0 : ¬ (1048576 : Int) - (len0 : Int) - (gsum M len0 : Int) < 0 := by omega
    generalize hF : (fun i => Value.int .u8 (g i)) = F at hspec0 himpl0
    have HF := hide hF
    have hspec := hide hspec0
    have himpl := hide himpl0
    have HS := hide hs
    have HG := hide hG
    clear hs hF hspec0 himpl0 hsz hG hg9
    go_enter Try.func7, Try.ntmps7
    go_wp2_with fail
    refine hszc.out.mono ?_
    rintro e w1 ⟨rfl, b1⟩
    have B1 := hide b1
    clear b1 hszc
    go_wp2_with fail
    refine (tos_any a0 len0 cap0 M _ (HS.out.below B1.out) hle).mono ?_
    rintro e w2 ⟨rfl, ⟨c2, R2, o2⟩, b2⟩
    have B2 := hide (B1.out.trans (b2.mono B1.out.size))
    have O2 := hide o2
    clear o2 b2
    go_wp2_with fail
    refine (hspec.out _ _ _ O2.out.msl).mono ?_
    rintro e w3 ⟨ro3, rc3, rfl, o3, b3⟩
    have B3 := hide (B2.out.trans (b3.mono B2.out.size))
    have O3 := hide o3
    have b23 : Hid (w2.heap.size ≤ w3.heap.size) := b3.size
    clear o3 b3 O2
    go_wp2_with fail
    refine (tos_any a0 len0 cap0 M _ (HS.out.below B3.out) hle).mono ?_
    rintro e w4 ⟨rfl, ⟨c4, R4, o4⟩, b4⟩
    have B4 := hide (B3.out.trans (b4.mono B3.out.size))
    have O4 := hide (And.intro (O3.out.below b4) o4)
    clear o4
    go_wp2_with fail
    refine (himpl.out _ _ _ O4.out.2.msl).mono ?_
    rintro e w5 ⟨ro5, rc5, rfl, o5, b5⟩
    have B5 := hide (B4.out.trans (b5.mono B4.out.size))
    have O5 := hide (And.intro (O4.out.1.below b5) (And.intro (O4.out.2.below b5) o5))
    obtain ⟨A2, hA2⟩ : ∃ A2, A2 = w2.heap.size := ⟨_, rfl⟩
    obtain ⟨A3, hA3⟩ : ∃ A3, A3 = w3.heap.size := ⟨_, rfl⟩
    obtain ⟨A4, hA4⟩ : ∃ A4, A4 = w4.heap.size := ⟨_, rfl⟩
    obtain ⟨A5, hA5⟩ : ∃ A5, A5 = w5.heap.size := ⟨_, rfl⟩
    have hA : w.heap.size ≤ A2 ∧ A2 ≤ A3 ∧ A3 ≤ A4 ∧ A4 ≤ A5 := by
      have := O5.out.2.1.1
      rw [hA2, hA3, hA4, hA5]
      exact ⟨B2.out.size, b23.out, Nat.le_of_lt this.2.1, b5.size⟩
    have H5 : Hid (OwnT w5 A2 A3 5 ro3 m F ∧ OM w5 A3 A4 A3 len0 M c4 R4 ∧ OwnT w5 A4 A5 5 ro5 m F ∧ Below w.heap.size w w5 ∧ A5 ≤ w5.heap.size) := by
      rw [hA2, hA3, hA4, hA5]
      refine ⟨?_, O5.out.2.1, OwnT.of o5, B5.out, Nat.le_refl _⟩
      exact ((OwnT.of O3.out).below b4 (Nat.le_refl _)).below b5 b4.size
    rw [← hA3]
    clear o5 b5 b4 O4 O3 O5 b23 B1 B2 B3 B4 B5 hA2 hA3 hA4 hA5
    go_wp2_with fail
    refine (eq_yes ro5 ro3 m _ _ g g _ hm' (Own.sl (HF.out ▸ H5.out.2.2.1.own)) (Own.sl (HF.out ▸ H5.out.1.own)) (fun _ _ => rfl)).mono ?_
    rintro e w5' ⟨rfl, q5, hw5⟩
    have H5d : Hid (OwnT w5' A2 A3 5 ro3 m F ∧ OM w5' A3 A4 A3 len0 M c4 R4 ∧ OwnT w5' A4 A5 5 ro5 m F ∧ Below w.heap.size w w5' ∧ A5 ≤ w5'.heap.size) := by rw [hw5]; exact ⟨H5.out.1, H5.out.2.1, H5.out.2.2.1, Below.drawn H5.out.2.2.2.1 q5, H5.out.2.2.2.2⟩
    clear hw5 H5
    go_wp2_with fail
    refine (tos_any a0 len0 cap0 M _ (HS.out.below H5d.out.2.2.2.1) hle).mono ?_
    rintro e w6 ⟨rfl, ⟨c6, R6, o6⟩, b6⟩
    have H6 : Hid (OwnT w6 A2 A3 5 ro3 m F ∧ OM w6 A3 A4 A3 len0 M c4 R4 ∧ OwnT w6 A4 A5 5 ro5 m F ∧ Below w.heap.size w w6 ∧ A5 ≤ w6.heap.size) := ⟨H5d.out.1.below b6 (by have := H5d.out.2.2.2.2; omega), H5d.out.2.1.below' b6 (by have := H5d.out.2.2.2.2; omega), H5d.out.2.2.1.below b6 (by have := H5d.out.2.2.2.2; omega), H5d.out.2.2.2.1.trans (b6.mono H5d.out.2.2.2.1.size), Nat.le_trans H5d.out.2.2.2.2 b6.size⟩
    have O6 := hide o6
    generalize w5'.heap.size = X6 at *
    clear o6 b6 H5d
    go_wp2_with fail
    refine (eqs_any _ _ len0 _ _ M _ (by omega) HG.out H6.out.2.1.msl O6.out.msl).mono ?_
    rintro e w7 ⟨rfl, b7⟩
    have H7 : Hid (OwnT w7 A2 A3 5 ro3 m F ∧ OM w7 A3 A4 A3 len0 M c4 R4 ∧ OwnT w7 A4 A5 5 ro5 m F ∧ Below w.heap.size w w7 ∧ A5 ≤ w7.heap.size) := ⟨H6.out.1.below b7 (by have := H6.out.2.2.2.2; omega), H6.out.2.1.below' b7 (by have := H6.out.2.2.2.2; omega), H6.out.2.2.1.below b7 (by have := H6.out.2.2.2.2; omega), H6.out.2.2.2.1.trans (b7.mono H6.out.2.2.2.1.size), Nat.le_trans H6.out.2.2.2.2 b7.size⟩
    clear b7 H6 O6
    go_wp2_with fail
    refine (marks_any A3 len0 _ A3 A4 1 M c4 R4 _ hle (by decide) (by decide) H7.out.2.1).mono ?_
    rintro e w8 ⟨rfl, ⟨c8, o8⟩, y8⟩
    have H8 : Hid (OwnT w8 A2 A3 5 ro3 m F ∧ OM w8 A3 A4 A3 len0 (mkp M 1 len0) c8 R4 ∧ OwnT w8 A4 A5 5 ro5 m F ∧ Below w.heap.size w w8 ∧ A5 ≤ w8.heap.size) := ⟨H7.out.1.only y8 (by omega), o8, H7.out.2.2.1.only y8 (by omega), H7.out.2.2.2.1.trans (y8.1.mono (by omega)), by rw [y8.2.1]; exact H7.out.2.2.2.2⟩
    have hd1 : ¬ (1 : Int) + 4 * (len0 : Int) + (gsum M len0 : Int) < 0 := by omega
    clear y8 o8 H7
    go_wp2_with fail
    refine (eq_yes ro5 ro3 m _ _ g g _ hm' (Own.sl (HF.out ▸ H8.out.2.2.1.own)) (Own.sl (HF.out ▸ H8.out.1.own)) (fun _ _ => rfl)).mono ?_
    rintro e w8' ⟨rfl, q8, hw8⟩
    have H8d : Hid (OwnT w8' A2 A3 5 ro3 m F ∧ OM w8' A3 A4 A3 len0 (mkp M 1 len0) c8 R4 ∧ OwnT w8' A4 A5 5 ro5 m F ∧ Below w.heap.size w w8' ∧ A5 ≤ w8'.heap.size) := by rw [hw8]; exact ⟨H8.out.1, H8.out.2.1, H8.out.2.2.1, Below.drawn H8.out.2.2.2.1 q8, H8.out.2.2.2.2⟩
    clear hw8 H8
    go_wp2_with fail
    refine (mark_any ro5 m rc5 A4 1 F _ hm' (by decide) (by decide) H8d.out.2.2.1.own).mono ?_
    rintro e w9 ⟨rfl, o9, b9⟩
    have H9 : Hid (OwnT w9 A2 A3 5 ro3 m F ∧ OM w9 A3 A4 A3 len0 (mkp M 1 len0) c8 R4 ∧ OwnT w9 A4 A5 5 ro5 m (fun j => .int .u8 ((1 + (j : Int)) % 256)) ∧ Below w.heap.size w w9 ∧ A5 ≤ w9.heap.size) := ⟨H8d.out.1.below b9 (by omega), H8d.out.2.1.below' b9 (Nat.le_refl _), H8d.out.2.2.1.again o9, H8d.out.2.2.2.1.trans (b9.mono (by omega)), Nat.le_trans H8d.out.2.2.2.2 b9.size⟩
    clear b9 o9 H8d
    go_wp2_with fail
    refine (held_any ro5 m rc5 1 _ hm' (by decide) (by decide) H9.out.2.2.1.own.sl).mono ?_
    rintro e w9' ⟨rfl, hw9⟩
    rw [hw9]
    clear hw9
    have hd2 : ¬ (1 : Int) + (m : Int) < 0 := by omega
    go_wp2_with fail
    refine (tos_any a0 len0 cap0 M _ (HS.out.below H9.out.2.2.2.1) hle).mono ?_
    rintro e w10 ⟨rfl, ⟨c10, R10, o10⟩, b10⟩
    have H10 : Hid (OwnT w10 A2 A3 5 ro3 m F ∧ OM w10 A3 A4 A3 len0 (mkp M 1 len0) c8 R4 ∧ OwnT w10 A4 A5 5 ro5 m (fun j => .int .u8 ((1 + (j : Int)) % 256)) ∧ Below w.heap.size w w10 ∧ A5 ≤ w10.heap.size) := ⟨H9.out.1.below b10 (by have := H9.out.2.2.2.2; omega), H9.out.2.1.below' b10 (by have := H9.out.2.2.2.2; omega), H9.out.2.2.1.below b10 (by have := H9.out.2.2.2.2; omega), H9.out.2.2.2.1.trans (b10.mono H9.out.2.2.2.1.size), Nat.le_trans H9.out.2.2.2.2 b10.size⟩
    have O10 := hide o10
    clear o10 b10 H9
    generalize w9.heap.size = X9 at *
    go_wp2_with fail
    refine (himpl.out _ _ _ O10.out.msl).mono ?_
    rintro e w11 ⟨ro11, rc11, rfl, o11, b11⟩
    have H11 : Hid (OwnT w11 A2 A3 5 ro3 m F ∧ OM w11 A3 A4 A3 len0 (mkp M 1 len0) c8 R4 ∧ OwnT w11 A4 A5 5 ro5 m (fun j => .int .u8 ((1 + (j : Int)) % 256)) ∧ Below w.heap.size w w11 ∧ A5 ≤ w11.heap.size) := ⟨H10.out.1.below b11 (by have := H10.out.2.2.2.2; omega), H10.out.2.1.below' b11 (by have := H10.out.2.2.2.2; omega), H10.out.2.2.1.below b11 (by have := H10.out.2.2.2.2; omega), H10.out.2.2.2.1.trans (b11.mono H10.out.2.2.2.1.size), Nat.le_trans H10.out.2.2.2.2 b11.size⟩
    have O11 := hide o11
    clear o11 b11 H10 O10
    go_wp2_with fail
    refine (eq_yes ro11 ro3 m _ _ g g _ hm' (Own.sl (HF.out ▸ O11.out)) (Own.sl (HF.out ▸ H11.out.1.own)) (fun _ _ => rfl)).mono ?_
    rintro e w11' ⟨rfl, q11, hw11⟩
    have H12 : Hid (SL .u8 w11' ro5 m (fun j => (1 + (j : Int)) % 256) ∧ Below w.heap.size w w11') := by rw [hw11]; exact ⟨H11.out.2.2.1.own.sl, Below.drawn H11.out.2.2.2.1 q11⟩
    clear hw11 H11 O11
    go_wp2_with fail
    refine (held_any ro5 m rc5 1 _ hm' (by decide) (by decide) H12.out.1).mono ?_
    rintro e w12 ⟨rfl, hw12⟩
    rw [hw12]
    clear hw12
    go_wp2
    go_ret
    exact ⟨rfl, H12.out.2⟩
  · have hszc : Hid (Calls Try.prog 35 #[.slice a0 len0 cap0, .int .i64 1048576] w fun e w' => e = .returned (.int .i64 (-1)) ∧ Below w.heap.size w w') := hsz.mono fun e w' ⟨h1, h2⟩ => ⟨h1.elim (fun x => absurd x.1 hle) (·.2), h2⟩
    clear hsz hs hg9
    go_enter Try.func7, Try.ntmps7
    go_wp2_with fail
    refine hszc.out.mono ?_
    rintro e w1 ⟨rfl, b1⟩
    have B1 := hide b1
    clear b1 hszc
    go_wp2
    go_ret
    exact ⟨rfl, B1.out⟩

set_option maxRecDepth 100000 in
theorem lifted (os : Os) (started : os.Started) (H : Type) (enc : TypeId × Value → H) :
    ReturnsInHanded {} Try.checked os 7 .any (Rows.fnExactPackSpec.pre6 enc Try.prog Try.f7 Rows.fnExactPackRow.domain false) (Rows.fnExactPackSpec.post enc Try.prog Try.f7 false true false false) := by
  refine returnsInHanded_of_change (C := Try.checked) own started (by kernel_rfl) Try.func7
    (ChangeSpec.witness6 (enc := enc) (C := Try.checked) false ⟨#[], #[.slice none 0 0], []⟩ 8 (by kernel_rfl) (by kernel_rfl) (by kernel_rfl) (by kernel_rfl)) ?_
  intro W base args ds gs before hval0 hW hcnd _
  have hval : ∀ (j : Nat) t v, Try.f7.params[j]? = some t → args[j]? = some v → Value.okWide Try.prog W .any base t v := hval0
  have hW' := hW
  obtain ⟨p, q, hA0, hV, rfl, hfz, hnd⟩ := hW
  have hA : DataW.TrodAll enc Try.prog W 0 (fun _ => true) true Try.f7.params.toList args.toList ds p := hA0
  rw [Try.params7] at hA hval
  obtain ⟨v0, vs0, d0, ds0, p0, q0, hargs, rfl, rfl, h0, r0⟩ := trodAll_cons hA
  obtain ⟨rfl, rfl, rfl⟩ := trodAll_nil r0
  obtain rfl : args = #[v0] := by cases args; simp_all
  obtain ⟨rfl, rfl⟩ := trodVars_none hV
  have k0 := h0
  have lt0 : ∀ x ∈ p0, x.block < W.heap.size := by obtain ⟨m, hm⟩ := k0; exact DataW.trod_lt m _ _ _ hm
  obtain ⟨a0, len0, cap0, rfl⟩ := okWide_slice Try.underlying49 (hval 0 49 v0 rfl rfl)
  obtain ⟨M, hn9, hs, hg9⟩ : ∃ M : Nat → Mg, len0 ≤ 9223372036854775807 ∧ MSL W a0 len0 M ∧ ∀ i, i < len0 → (M i).g.length ≤ 9223372036854775807 := by
    obtain ⟨fuel, hf⟩ := h0
    obtain ⟨a, l, cp, M, e, h1, h2, h3⟩ := open_msgs hf
    simp [Value.cells] at e
    obtain ⟨rfl, rfl, rfl⟩ := e
    exact ⟨M, h1, h2, h3⟩
  clear hA0 hval0
  refine (walk a0 len0 cap0 M W hn9 hs hg9).mono fun e W' ⟨he, bel⟩ => ?_
  subst he
  exact ⟨_, rfl, _, _, _, [], _, [], hW', trodAll_mk1 (shut_bool Try.underlying4 _), (trodAll_cons_mk (Below.trod laidOut (by kernel_rfl) (of_decide_eq_true (by kernel_rfl)) k0 bel lt0) trodAll_mk0), rfl, bel.frame _, fun h => by cases h⟩

theorem over : Rows.fnExactPackRow.holds Try.pinned (OpenSpec.ofChange Rows.fnExactPackSpec) :=
  OpenClaim.holds_of_wide 7 Try.f7 rfl rfl rfl rfl rfl rfl rfl ⟨rfl, rfl, rfl, rfl, rfl⟩ rfl rfl rfl rfl rfl (by kernel_rfl) Try.func7 (by kernel_rfl)
    (of_decide_eq_true (by kernel_rfl)) (by unfold Func.isWrapper; first | (rw [if_pos (by decide +kernel)]; kernel_rfl) | (rw [if_neg (by decide +kernel)]; exact ⟨rfl, rfl⟩))
    (fun os started H enc _ => lifted os started H enc)

theorem proved : Rows.FnExactPackSaid := over
end Go.Proofs.Ythhkmfgccbkkhaa.fnExactPack
namespace Go.Proofs.Ythhkmfgccbkkhaa
theorem fnExactPack_holds : Rows.FnExactPackSaid := fnExactPack.proved
end Go.Proofs.Ythhkmfgccbkkhaa

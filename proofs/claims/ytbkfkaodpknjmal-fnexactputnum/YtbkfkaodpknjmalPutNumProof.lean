/- FnExactPutNum returns true for every int: PutNum of the program answers the bytes that PutNum of its model answers, in memory of the answer's own. -/
import Derived.Test.YtbkfkaodpknjmalRows
import Derived.WalkKit
import Derived.ProofKit
import Derived.OpenShut
import Derived.ShutString
import Derived.ChangeOld
import Derived.Below
import Derived.Test.YtbkfkaodpknjmalPut2
import Derived.Test.YtbkfkaodpknjmalOwn
namespace Go.Proofs.Ytbkfkaodpknjmal.fnExactPutNum
open Go.ChangeShapes Go.WideShapes Go.ChangeAt Go.RowKit
open Go.ChangeMaps (open_string shut_string)
set_option linter.unusedVariables false

theorem own : ownKnob Try.prog.godebug = none := by kernel_rfl

/-- Both functions answer the same bytes, each in memory of its own. -/
theorem puts (x : Int) : ∃ L : List Int, L.length ≤ 5 ∧
    (∀ w, Calls Try.prog 6 #[.int .i64 x] w fun e w' => ∃ ao cap, e = .returned (.slice ao L.length cap) ∧ Own w' w.heap.size 5 ao L.length (fun i => .int .u8 (L.getD i 0)) ∧ Below w.heap.size w w') ∧
    (∀ w, Calls Try.prog 7 #[.int .i64 x] w fun e w' => ∃ ao cap, e = .returned (.slice ao L.length cap) ∧ Own w' w.heap.size 5 ao L.length (fun i => .int .u8 (L.getD i 0)) ∧ Below w.heap.size w w') := by
  by_cases h : x < 0 ∨ 2147483647 < x
  · refine ⟨[], by simp, fun w => ?_, fun w => ?_⟩
    · refine (put_spec_no x w h).mono fun e w' => ?_
      rintro ⟨rfl, hb⟩
      exact ⟨_, _, rfl, .inl rfl, hb⟩
    · refine (put_impl_no x w h).mono fun e w' => ?_
      rintro ⟨rfl, rfl⟩
      exact ⟨_, _, rfl, .inl rfl, Below.refl _ _⟩
  · refine ⟨pb 4 x, pb_len 4 x, fun w => ?_, fun w => ?_⟩
    · refine (put_spec x w (by omega) (by omega)).mono fun e w' => ?_
      rintro ⟨v, rfl, ho, hb⟩
      obtain ⟨ao, cap, rfl, _, ho'⟩ := Own.of_owns ho
      exact ⟨_, _, rfl, ho', hb⟩
    · refine (put_impl x w (by omega) (by omega)).mono fun e w' => ?_
      rintro ⟨v, rfl, ho, hb⟩
      obtain ⟨ao, cap, rfl, _, ho'⟩ := Own.of_owns ho
      exact ⟨_, _, rfl, ho', hb⟩

theorem walk (a0 : Int) (w0 : (Lit.int .i64 a0).wf = true) (w : World) :
    Calls Try.prog 3 #[.int .i64 a0] w fun e w' => e = .returned (.bool true) ∧ Below w.heap.size w w' := by
  obtain ⟨L, hL, hspec, himpl⟩ := puts a0
  have hn : L.length ≤ 1048576 := by omega
  generalize hf : (fun i => Value.int .u8 (L.getD i 0)) = F at hspec himpl
  have Hf : Hid ((fun i => Value.int .u8 (L.getD i 0)) = F) := hf
  generalize hm : L.length = m at *
  clear hf hm w0
  go_enter Try.func3, Try.ntmps3
  go_wp2_with fail
  refine (hspec _).mono ?_
  rintro e w1 ⟨ao, cap, rfl, o1, b1⟩
  go_wp2_with fail
  refine (himpl _).mono ?_
  rintro e w2 ⟨bo, cap2, rfl, o2, b2⟩
  have o1' := o1.below b2
  go_wp2_with fail
  refine (eq_yes bo ao m _ _ (fun i => L.getD i 0) (fun i => L.getD i 0) _ hn (Own.sl (Hf.out ▸ o2)) (Own.sl (Hf.out ▸ o1')) (fun _ _ => rfl)).mono ?_
  rintro e w2' ⟨rfl, q, rfl⟩
  go_wp2_with fail
  refine (mark_any bo m cap2 w1.heap.size 1 F _ hn (by decide) (by decide) (o2.drawn q)).mono ?_
  rintro e w3 ⟨rfl, o3, b3⟩
  have c1 : Below w1.heap.size w1 w3 := (Below.drawn b2 q).trans b3
  have o1'' := o1.below c1
  go_wp2_with fail
  refine (held_any bo m cap2 1 _ hn (by decide) (by decide) o3.sl).mono ?_
  rintro e w3' ⟨rfl, rfl⟩
  go_wp2_with fail
  refine (himpl _).mono ?_
  rintro e w4 ⟨co, cap4, rfl, o4, b4⟩
  have o5 := o1''.below b4
  have o6 := o3.below b4
  go_wp2_with fail
  refine (eq_yes co ao m _ _ (fun i => L.getD i 0) (fun i => L.getD i 0) _ hn (Own.sl (Hf.out ▸ o4)) (Own.sl (Hf.out ▸ o5)) (fun _ _ => rfl)).mono ?_
  rintro e w4' ⟨rfl, q2, rfl⟩
  go_wp2_with fail
  refine (held_any bo m cap2 1 _ hn (by decide) (by decide) (o6.drawn q2).sl).mono ?_
  rintro e w5 ⟨rfl, rfl⟩
  go_wp2
  go_ret
  exact ⟨rfl, Below.drawn (b1.trans ((c1.mono b1.size).trans (b4.mono (Nat.le_trans b1.size c1.size)))) _⟩

set_option maxRecDepth 100000 in
theorem lifted (os : Os) (started : os.Started) (H : Type) (enc : TypeId × Value → H) :
    ReturnsInHanded {} Try.checked os 3 .any (Rows.fnExactPutNumSpec.pre6 enc Try.prog Try.f3 Rows.fnExactPutNumRow.domain false) (Rows.fnExactPutNumSpec.post enc Try.prog Try.f3 false true false false) := by
  refine returnsInHanded_of_change (C := Try.checked) own started (by kernel_rfl) Try.func3
    (ChangeSpec.witness6 (enc := enc) (C := Try.checked) false ⟨#[], #[.int .i64 0], []⟩ 8 (by kernel_rfl) (by kernel_rfl) (by kernel_rfl) (by kernel_rfl)) ?_
  intro W base args ds gs before hval0 hW hcnd _
  have hval : ∀ (j : Nat) t v, Try.f3.params[j]? = some t → args[j]? = some v → Value.okWide Try.prog W .any base t v := hval0
  have hW' := hW
  obtain ⟨p, q, hA0, hV, rfl, hfz, hnd⟩ := hW
  have hA : DataW.TrodAll enc Try.prog W 0 (fun _ => true) true Try.f3.params.toList args.toList ds p := hA0
  rw [Try.params3] at hA hval
  obtain ⟨v0, vs0, d0, ds0, p0, q0, hargs, rfl, rfl, h0, r0⟩ := trodAll_cons hA
  obtain ⟨rfl, rfl, rfl⟩ := trodAll_nil r0
  obtain rfl : args = #[v0] := by cases args; simp_all
  obtain ⟨rfl, rfl⟩ := trodVars_none hV
  obtain ⟨a0, rfl, rfl, rfl, w0⟩ := open_int Try.underlying3 (hval 0 3 v0 rfl rfl) h0
  clear hA0 hval0
  refine (walk a0 w0 W).mono fun e W' ⟨he, hg⟩ => ?_
  subst he
  exact ⟨_, rfl, _, _, _, [], _, [], hW', trodAll_mk1 (shut_bool Try.underlying4 _), (trodAll_cons_mk (shut_int Try.underlying3 w0) trodAll_mk0), rfl, hg.frame _, fun h => by cases h⟩

theorem over : Rows.fnExactPutNumRow.holds Try.pinned (OpenSpec.ofChange Rows.fnExactPutNumSpec) :=
  OpenClaim.holds_of_wide 3 Try.f3 rfl rfl rfl rfl rfl rfl rfl ⟨rfl, rfl, rfl, rfl, rfl⟩ rfl rfl rfl rfl rfl (by kernel_rfl) Try.func3 (by kernel_rfl)
    (of_decide_eq_true (by kernel_rfl)) (by unfold Func.isWrapper; first | (rw [if_pos (by decide +kernel)]; kernel_rfl) | (rw [if_neg (by decide +kernel)]; exact ⟨rfl, rfl⟩))
    (fun os started H enc _ => lifted os started H enc)

theorem proved : Rows.FnExactPutNumSaid :=
  over
end Go.Proofs.Ytbkfkaodpknjmal.fnExactPutNum
namespace Go.Proofs.Ytbkfkaodpknjmal
theorem fnExactPutNum_holds : Rows.FnExactPutNumSaid := fnExactPutNum.proved
end Go.Proofs.Ytbkfkaodpknjmal

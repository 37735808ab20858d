/- FnExactImageNew returns true: ImageNew of the program answers as ImageNew of its model, in memory of the answer's own. -/
import Derived.Test.YthbegalohfbibaaRows
import Derived.WalkKit
import Derived.ProofKit
import Derived.OpenShut
import Derived.ShutString
import Derived.ChangeOld
import Derived.Below
import Derived.Test.YthbegalohfbibaaInt
import Derived.Test.YthbegalohfbibaaMarkI
namespace Go.Proofs.Ythbegalohfbibaa.fnExactImageNew
open Go.ChangeShapes Go.WideShapes Go.ChangeAt Go.RowKit
open Go.ChangeMaps (open_string shut_string)
set_option linter.unusedVariables false

theorem own : ownKnob Try.prog.godebug = none := by kernel_rfl

/-- Both answer eight zeros, each in memory of its own. -/
theorem news (w : World) : (Calls Try.prog 17 #[] w fun e w' => ∃ ro rc, e = .returned (.slice ro 8 rc) ∧ Own w' w.heap.size 3 ro 8 (fun _ => .int .i64 0) ∧ Below w.heap.size w w') ∧
    (Calls Try.prog 18 #[] w fun e w' => ∃ ro rc, e = .returned (.slice ro 8 rc) ∧ Own w' w.heap.size 3 ro 8 (fun _ => .int .i64 0) ∧ Below w.heap.size w w') := by
  have hmk := run_make_row' (P := Try.prog) 24 3 (.int .i64 0) 8 Try.underlying24 Try.info3 rfl .i64 .i64 8 (by omega) (by omega)
  rw [show ((8 : Nat) : Int) = 8 from rfl] at hmk
  constructor
  · go_enter Try.func17, Try.ntmps17
    go_wp2
    go_ret
    exact ⟨_, _, rfl, Own.of_row (World.rowIs_made _ _ _ _) (Nat.le_refl _), (Below.refl _ _).alloc (Nat.le_refl _) _⟩
  · go_enter Try.func18, Try.ntmps18
    go_wp2
    go_ret
    exact ⟨_, _, rfl, Own.of_row (World.rowIs_made _ _ _ _) (Nat.le_refl _), (Below.refl _ _).alloc (Nat.le_refl _) _⟩

theorem walk  (w : World) :
    Calls Try.prog 5 #[] w fun e w' => e = .returned (.bool true) ∧ Below w.heap.size w w' := by
  go_enter Try.func5, Try.ntmps5
  go_wp2_with fail
  refine (news _).1.mono ?_
  rintro e w1 ⟨ao, cap, rfl, o1, b1⟩
  go_wp2_with fail
  refine (news _).2.mono ?_
  rintro e w2 ⟨bo, cap2, rfl, o2, b2⟩
  have o1' := o1.below b2
  go_wp2_with fail
  refine (eq_yes bo ao 8 _ _ (fun _ => 0) (fun _ => 0) _ (by decide) (Own.sl o2) (Own.sl o1') (fun _ _ => rfl)).mono ?_
  rintro e w2' ⟨rfl, q, rfl⟩
  go_wp2_with fail
  refine (mark_any bo 8 cap2 w1.heap.size 1 _ _ (by decide) (by decide) (by decide) (o2.drawn q)).mono ?_
  rintro e w3 ⟨rfl, o3, b3⟩
  have c1 : Below w1.heap.size w1 w3 := (Below.drawn b2 q).trans b3
  have o1'' := o1.below c1
  go_wp2_with fail
  refine (held_any bo 8 cap2 1 _ (by decide) (by decide) (by decide) o3.sl).mono ?_
  rintro e w3' ⟨rfl, rfl⟩
  go_wp2_with fail
  refine (news _).2.mono ?_
  rintro e w4 ⟨co, cap4, rfl, o4, b4⟩
  have o5 := o1''.below b4
  have o6 := o3.below b4
  go_wp2_with fail
  refine (eq_yes co ao 8 _ _ (fun _ => 0) (fun _ => 0) _ (by decide) (Own.sl o4) (Own.sl o5) (fun _ _ => rfl)).mono ?_
  rintro e w4' ⟨rfl, q2, rfl⟩
  go_wp2_with fail
  refine (held_any bo 8 cap2 1 _ (by decide) (by decide) (by decide) (o6.drawn q2).sl).mono ?_
  rintro e w5 ⟨rfl, rfl⟩
  go_wp2
  go_ret
  exact ⟨rfl, Below.drawn (b1.trans ((c1.mono b1.size).trans (b4.mono (Nat.le_trans b1.size c1.size)))) _⟩

set_option maxRecDepth 100000 in
theorem lifted (os : Os) (started : os.Started) (H : Type) (enc : TypeId × Value → H) :
    ReturnsInHanded {} Try.checked os 5 .any (Rows.fnExactImageNewSpec.pre6 enc Try.prog Try.f5 Rows.fnExactImageNewRow.domain false) (Rows.fnExactImageNewSpec.post enc Try.prog Try.f5 false true false false) := by
  refine returnsInHanded_of_change (C := Try.checked) own started (by kernel_rfl) Try.func5
    (ChangeSpec.witness6 (enc := enc) (C := Try.checked) false ⟨#[], #[], []⟩ 8 (by kernel_rfl) (by kernel_rfl) (by kernel_rfl) (by kernel_rfl)) ?_
  intro W base args ds gs before hval0 hW hcnd _
  have hval : ∀ (j : Nat) t v, Try.f5.params[j]? = some t → args[j]? = some v → Value.okWide Try.prog W .any base t v := hval0
  have hW' := hW
  obtain ⟨p, q, hA0, hV, rfl, hfz, hnd⟩ := hW
  have hA : DataW.TrodAll enc Try.prog W 0 (fun _ => true) true Try.f5.params.toList args.toList ds p := hA0
  rw [Try.params5] at hA hval
  obtain ⟨rfl, rfl, rfl⟩ := trodAll_none hA
  obtain ⟨rfl, rfl⟩ := trodVars_none hV
  clear hA0 hval0
  refine (walk  W).mono fun e W' ⟨he, hg⟩ => ?_
  subst he
  exact ⟨_, rfl, _, _, _, [], _, [], hW', trodAll_mk1 (shut_bool Try.underlying4 _), rfl, rfl, hg.frame _, fun h => by cases h⟩

theorem over : Rows.fnExactImageNewRow.holds Try.pinned (OpenSpec.ofChange Rows.fnExactImageNewSpec) :=
  OpenClaim.holds_of_wide 5 Try.f5 rfl rfl rfl rfl rfl rfl rfl ⟨rfl, rfl, rfl, rfl, rfl⟩ rfl rfl rfl rfl rfl (by kernel_rfl) Try.func5 (by kernel_rfl)
    (of_decide_eq_true (by kernel_rfl)) (by unfold Func.isWrapper; first | (rw [if_pos (by decide +kernel)]; kernel_rfl) | (rw [if_neg (by decide +kernel)]; exact ⟨rfl, rfl⟩))
    (fun os started H enc _ => lifted os started H enc)

theorem proved : Rows.FnExactImageNewSaid :=
  over
end Go.Proofs.Ythbegalohfbibaa.fnExactImageNew
namespace Go.Proofs.Ythbegalohfbibaa
theorem fnExactImageNew_holds : Rows.FnExactImageNewSaid := fnExactImageNew.proved
end Go.Proofs.Ythbegalohfbibaa

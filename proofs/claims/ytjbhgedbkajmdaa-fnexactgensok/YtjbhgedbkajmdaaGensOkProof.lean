/- GensOk of the program answers as the model does, at every argument. -/
import Derived.Test.YtjbhgedbkajmdaaRows
import Derived.WalkKit
import Derived.ProofKit
import Derived.OpenShut
import Derived.ShutString
import Derived.Test.YtjbhgedbkajmdaaMokI3
import Derived.Test.YtjbhgedbkajmdaaGenS
import Derived.Test.YtjbhgedbkajmdaaIntM
import Derived.ChangeOld
import Derived.Below
namespace Go.Proofs.Ytjbhgedbkajmdaa.fnExactGensOk
open Go.ChangeShapes Go.WideShapes Go.ChangeAt Go.RowKit
open Go.ChangeMaps (open_string shut_string)
set_option linter.unusedVariables false

theorem own : ownKnob Try.prog.godebug = none := by kernel_rfl
theorem laidOut : laidOutB Try.prog = true := by kernel_rfl

/-- WHAT THE WALK IS TOLD OF A SLICE OF INTEGERS THAT CAME IN: it is nil; or it leads to a row of 'cap' cells, the numbers 'zs' (the first 'len' are its elements, the rest its spare room), each fitting its kind. -/
def IsRow (k : IntKind) (w : World) (a : Option Addr) (len cap : Nat) (zs : List Int) : Prop :=
  (a = none ∧ len = 0 ∧ cap = 0 ∧ zs = []) ∨
  ∃ x, a = some x ∧ len ≤ cap ∧ cap ≤ maxLen ∧ zs.length = cap ∧ (∀ i, i < zs.length → w.cell? (x.add i) = some (.int k (zs.getD i 0))) ∧ ∀ n ∈ zs, (Lit.int k n).wf = true

theorem tell_b {e : Ending} {P : Prop} (h : (P ∧ e = .returned (.bool true)) ∨ (¬ P ∧ e = .returned (.bool false))) : ∃ b : Bool, e = .returned (.bool b) ∧ (b = true ↔ P) := by
  rcases h with ⟨h, e⟩ | ⟨h, e⟩
  · exact ⟨true, e, by simp [h]⟩
  · exact ⟨false, e, by simp [h]⟩
theorem gens_tell (ao : Option Addr) (n cap : Nat) (f : Nat → Int) (w : World) (hn : n ≤ 1048576) (hcap : n ≤ cap) (hs : SL .i64 w ao n f) :
    Calls Try.prog 32 #[.slice ao n cap] w fun e w' => (∃ b : Bool, e = .returned (.bool b) ∧ (b = true ↔ GOk f n)) ∧ ∃ q, w' = w.drewN q :=
  (gens_any ao n cap f w hn hcap hs).mono fun _ _ ⟨h1, h2⟩ => ⟨tell_b h1, h2⟩
theorem gensi_tell (ao : Option Addr) (n cap : Nat) (f : Nat → Int) (w : World) (hn : n ≤ 1048576) (hcap : n ≤ cap) (hs : SL .i64 w ao n f) :
    Calls Try.prog 31 #[.slice ao n cap] w fun e w' => (∃ b : Bool, e = .returned (.bool b) ∧ (b = true ↔ GOk f n)) ∧ ∃ q, w' = w.drewN q :=
  (gensok_impl ao n cap f w hn hcap hs).mono fun _ _ ⟨h1, h2⟩ => ⟨tell_b h1, h2⟩
theorem walk (a0 : Option Addr) (len0 cap0 : Nat) (z0 : List Int) (w : World) (w0 : IsRow .i64 w a0 len0 cap0 z0) :
    Calls Try.prog 5 #[.slice a0 len0 cap0] w fun e w' => e = .returned (.bool true) ∧ Below w.heap.size w w' := by
  obtain ⟨f, hs, _⟩ := view w0
  clear w0
  by_cases hn : len0 ≤ 1048576
  · go_enter Try.func5, Try.ntmps5
    go_wp2_with fail
    refine (ito_any a0 len0 cap0 f _ hn hs).mono ?_
    rintro e w1 ⟨rfl, r1, b1⟩
    go_wp2_with fail
    refine (gens_tell _ _ _ f _ hn (Nat.le_refl _) (SL.row r1)).mono ?_
    rintro e w1' ⟨⟨b, rfl, hb0⟩, q1, rfl⟩
    have hb : Hid (b = true ↔ GOk f len0) := hb0
    clear hb0
    go_wp2_with fail
    refine (ito_any a0 len0 cap0 f _ hn (hs.below (Below.drawn b1 q1))).mono ?_
    rintro e w2 ⟨rfl, r2, b2⟩
    go_wp2_with fail
    refine (gensi_tell _ _ _ f _ hn (Nat.le_refl _) (SL.row r2)).mono ?_
    rintro e w2' ⟨⟨c, rfl, hc⟩, q2, rfl⟩
    obtain rfl : c = b := by
      have := hb.out
      cases b <;> cases c <;> simp_all
    clear hc
    go_wp2_with fail
    refine (ito_any a0 len0 cap0 f _ hn ((hs.below (Below.drawn b1 q1)).below (Below.drawn b2 q2))).mono ?_
    rintro e w3 ⟨rfl, r3, b3⟩
    go_wp2_with fail
    refine (ieq_yes _ _ _ _ _ f f _ hn (SL.row (row_below r2 (Below.trans (Below.drawn (Below.refl _ _) q2) b3) r2.lt)) (SL.row r3) (fun _ _ => rfl)).mono ?_
    rintro e w4 ⟨rfl, q, rfl⟩
    go_wp2
    go_ret
    exact ⟨rfl, Below.drawn (((Below.drawn b1 q1).trans ((Below.drawn b2 q2).mono b1.size)).trans (b3.mono (Nat.le_trans b1.size b2.size))) _⟩
  · go_enter Try.func5, Try.ntmps5
    go_wp2
    go_ret
    exact ⟨rfl, Below.refl _ _⟩

set_option maxRecDepth 100000 in
theorem lifted (os : Os) (started : os.Started) (H : Type) (enc : TypeId × Value → H) :
    ReturnsInHanded {} Try.checked os 5 .any (Rows.fnExactGensOkSpec.pre6 enc Try.prog Try.f5 Rows.fnExactGensOkRow.domain false) (Rows.fnExactGensOkSpec.post enc Try.prog Try.f5 false true false false) := by
  refine returnsInHanded_of_change (C := Try.checked) own started (by kernel_rfl) Try.func5
    (ChangeSpec.witness6 (enc := enc) (C := Try.checked) false ⟨#[], #[.slice none 0 0], []⟩ 8 (by kernel_rfl) (by kernel_rfl) (by kernel_rfl) (by kernel_rfl)) ?_
  intro W base args ds gs before hval0 hW hcnd _
  have hval : ∀ (j : Nat) t v, Try.f5.params[j]? = some t → args[j]? = some v → Value.okWide Try.prog W .any base t v := hval0
  have hW' := hW
  obtain ⟨p, q, hA0, hV, rfl, hfz, hnd⟩ := hW
  have hA : DataW.TrodAll enc Try.prog W 0 (fun _ => true) true Try.f5.params.toList args.toList ds p := hA0
  rw [Try.params5] at hA hval
  obtain ⟨v0, vs0, d0, ds0, p0, q0, hargs, rfl, rfl, h0, r0⟩ := trodAll_cons hA
  obtain ⟨rfl, rfl, rfl⟩ := trodAll_nil r0
  obtain rfl : args = #[v0] := by cases args; simp_all
  obtain ⟨rfl, rfl⟩ := trodVars_none hV
  obtain ⟨a0, len0, cap0, rfl⟩ := okWide_slice Try.underlying24 (hval 0 24 v0 rfl rfl)
  have k0 := h0
  have lt0 : ∀ x ∈ p0, x.block < W.heap.size := by obtain ⟨m, hm⟩ := k0; exact DataW.trod_lt m _ _ _ hm
  obtain ⟨z0, w0⟩ : ∃ zs, IsRow .i64 W a0 len0 cap0 zs := by
    obtain ⟨fuel, hf⟩ := h0
    rcases open_ints Try.underlying24 Try.underlying3 (by kernel_rfl) hf with ⟨hcs, _⟩ | ⟨x, l, c, zs, hcs, _, hl, hm, hz, _, hcell, hwz⟩
    · simp [Value.cells] at hcs
      obtain ⟨rfl, rfl, rfl⟩ := hcs
      exact ⟨[], .inl ⟨rfl, rfl, rfl, rfl⟩⟩
    · simp [Value.cells] at hcs
      obtain ⟨rfl, rfl, rfl⟩ := hcs
      exact ⟨zs, .inr ⟨_, rfl, hl, hm, by simpa using hz, hcell, hwz⟩⟩
  clear hA0 hval0
  refine (walk a0 len0 cap0 z0 W w0).mono fun e W' ⟨he, bel⟩ => ?_
  subst he
  exact ⟨_, rfl, _, _, _, [], _, [], hW', trodAll_mk1 (shut_bool Try.underlying4 _), (trodAll_cons_mk (Below.trod laidOut (by kernel_rfl) (of_decide_eq_true (by kernel_rfl)) k0 bel lt0) trodAll_mk0), rfl, bel.frame _, fun h => by cases h⟩

theorem over : Rows.fnExactGensOkRow.holds Try.pinned (OpenSpec.ofChange Rows.fnExactGensOkSpec) :=
  OpenClaim.holds_of_wide 5 Try.f5 rfl rfl rfl rfl rfl rfl rfl ⟨rfl, rfl, rfl, rfl, rfl⟩ rfl rfl rfl rfl rfl (by kernel_rfl) Try.func5 (by kernel_rfl)
    (of_decide_eq_true (by kernel_rfl)) (by unfold Func.isWrapper; first | (rw [if_pos (by decide +kernel)]; kernel_rfl) | (rw [if_neg (by decide +kernel)]; exact ⟨rfl, rfl⟩))
    (fun os started H enc _ => lifted os started H enc)

theorem proved : Rows.FnExactGensOkSaid := over
end Go.Proofs.Ytjbhgedbkajmdaa.fnExactGensOk
namespace Go.Proofs.Ytjbhgedbkajmdaa
theorem fnExactGensOk_holds : Rows.FnExactGensOkSaid := fnExactGensOk.proved
end Go.Proofs.Ytjbhgedbkajmdaa

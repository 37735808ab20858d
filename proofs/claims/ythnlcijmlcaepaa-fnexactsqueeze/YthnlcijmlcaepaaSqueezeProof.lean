/- Squeeze of the program answers as Squeeze of the model, at every slice of bytes; it changes no argument, and its answer lies in memory of its own. -/
import Derived.Test.YthnlcijmlcaepaaRows
import Derived.WalkKit
import Derived.ProofKit
import Derived.OpenShut
import Derived.ShutString
import Derived.Test.YthnlcijmlcaepaaSqzI
import Derived.Test.YthnlcijmlcaepaaByt
import Derived.Test.YthnlcijmlcaepaaMarkB
import Derived.ChangeOld
import Derived.Below
namespace Go.Proofs.Ythnlcijmlcaepaa.fnExactSqueeze
open Go.ChangeShapes Go.WideShapes Go.ChangeAt Go.RowKit
open Go.ChangeMaps (open_string shut_string)
set_option linter.unusedVariables false

theorem own : ownKnob Try.prog.godebug = none := by kernel_rfl
theorem laidOut : laidOutB Try.prog = true := by kernel_rfl

/-- WHAT THE WALK IS TOLD OF A SLICE OF INTEGERS THAT CAME IN: it is nil; or it leads to a row of 'cap' cells, the numbers 'zs' (the first 'len' are its elements, the rest its spare room), each fitting its kind. -/
def IsRow (k : IntKind) (w : World) (a : Option Addr) (len cap : Nat) (zs : List Int) : Prop :=
  (a = none ∧ len = 0 ∧ cap = 0 ∧ zs = []) ∨
  ∃ x, a = some x ∧ len ≤ cap ∧ cap ≤ maxLen ∧ zs.length = cap ∧ (∀ i, i < zs.length → w.cell? (x.add i) = some (.int k (zs.getD i 0))) ∧ ∀ n ∈ zs, (Lit.int k n).wf = true

/-- Both functions answer the same bytes, each in memory of its own. -/
theorem both (f : Nat → Int) (n : Nat) (hn : n ≤ 1048576) (hf : ∀ i, i < n → 0 ≤ f i ∧ f i ≤ 255) : ∃ (m : Nat) (g : Nat → Int), m ≤ 1048576 ∧
    (∀ w ao cap, SL .u8 w ao n f → Calls Try.prog 15 #[.slice ao n cap] w fun e w' => ∃ ro rc, e = .returned (.slice ro m rc) ∧ Own w' w.heap.size 5 ro m (fun i => .int .u8 (g i)) ∧ Below w.heap.size w w') ∧
    (∀ w ao cap, SL .u8 w ao n f → Calls Try.prog 10 #[.slice ao n cap] w fun e w' => ∃ ro rc, e = .returned (.slice ro m rc) ∧ Own w' w.heap.size 5 ro m (fun i => .int .u8 (g i)) ∧ Below w.heap.size w w') := by
  have hl : (squeeze f n).length ≤ 1048576 := by
    have := squeeze_len f n
    by_cases h : 3000 < n
    · have e : squeeze f n = [] := by unfold squeeze; rw [if_pos h]
      rw [e]; simp
    · omega
  refine ⟨(squeeze f n).length, fun i => (squeeze f n).getD i 0, hl, fun w ao cap hs => ?_, fun w ao cap hs => ?_⟩
  · refine (squeeze_spec ao n cap f w hn hs hf).mono fun e w' => ?_
    rintro ⟨v, rfl, ho, _, hb⟩
    obtain ⟨ro, rc, rfl, _, ho'⟩ := Own.of_owns ho
    exact ⟨_, _, rfl, ho', hb⟩
  · refine (squeeze_impl ao n cap f w hn hs hf).mono fun e w' => ?_
    rintro ⟨v, rfl, ho, hb⟩
    obtain ⟨ro, rc, rfl, _, ho'⟩ := Own.of_owns ho
    exact ⟨_, _, rfl, ho', hb⟩

theorem walk (a0 : Option Addr) (len0 cap0 : Nat) (z0 : List Int) (w : World) (w0 : IsRow .u8 w a0 len0 cap0 z0) :
    Calls Try.prog 6 #[.slice a0 len0 cap0] w fun e w' => e = .returned (.bool true) ∧ Below w.heap.size w w' := by
  obtain ⟨f, hs, hf0⟩ := view w0
  have hf := view_u8 hf0
  clear w0 hf0
  by_cases hn : len0 ≤ 1048576
  · obtain ⟨m, g, hm, hspec0, himpl0⟩ := both f len0 hn hf
    generalize hF : (fun i => Value.int .u8 (g i)) = F at hspec0 himpl0
    have HF : Hid ((fun i => Value.int .u8 (g i)) = F) := hF
    have hspec := hide hspec0
    have himpl := hide himpl0
    clear hF hspec0 himpl0
    go_enter Try.func6, Try.ntmps6
    go_wp2_with fail
    refine (to_any a0 len0 cap0 f _ hn hs).mono ?_
    rintro e w1 ⟨rfl, r1, b1⟩
    go_wp2_with fail
    refine (hspec.out _ _ _ (SL.row r1)).mono ?_
    rintro e w2 ⟨ao, cap, rfl, o2, b2⟩
    have hs2 := (hs.below b1).below b2
    have B2 : Below w.heap.size w w2 := b1.trans (b2.mono b1.size)
    have L2 : ∀ g', ao = some ⟨g', 0, none⟩ → m = 0 ∨ g' < w2.heap.size := fun g' hg => by
      rcases o2 with o | ⟨g2, e, _, c, hc, _⟩
      · exact .inl o
      · rw [e] at hg; simp at hg; subst hg; exact .inr (Array.getElem?_eq_some_iff.1 hc).1
    clear r1 b1 b2
    go_wp2_with fail
    refine (to_any a0 len0 cap0 f _ hn hs2).mono ?_
    rintro e w3 ⟨rfl, r3, b3⟩
    go_wp2_with fail
    refine (himpl.out _ _ _ (SL.row r3)).mono ?_
    rintro e w4 ⟨bo, cap4, rfl, o4, b4⟩
    have r4 := row_below r3 b4 r3.lt
    have B4 : Below w2.heap.size w2 w4 := b3.trans (b4.mono b3.size)
    have o2' := o2.below B4
    go_wp2_with fail
    refine (eq_yes bo ao m _ _ g g _ hm (Own.sl (HF.out ▸ o4)) (Own.sl (HF.out ▸ o2')) (fun _ _ => rfl)).mono ?_
    rintro e w4' ⟨rfl, q4, rfl⟩
    have hs4 : SL .u8 (w4.drewN q4) a0 len0 f := hs2.below (Below.drawn B4 q4)
    go_wp2_with fail
    refine (to_any a0 len0 cap0 f _ hn hs4).mono ?_
    rintro e w5 ⟨rfl, r5, b5⟩
    have r5' := row_below r4 (Below.trans (Below.drawn (Below.refl _ _) q4) b5) r4.lt
    have B5 : Below w4.heap.size w4 w5 := Below.trans (Below.drawn (Below.refl _ _) q4) b5
    clear b5
    go_wp2_with fail
    refine (eq_yes _ _ _ _ _ f f _ hn (SL.row r5') (SL.row r5) (fun _ _ => rfl)).mono ?_
    rintro e w5' ⟨rfl, q5, rfl⟩
    have r6 : (w5.drewN q5).rowIs w2.heap.size 5 len0 (fun i => .int .u8 (f i)) := r5'
    go_wp2_with fail
    refine (mark_row w2.heap.size len0 _ 1 _ _ hn (by decide) (by decide) r6).mono ?_
    rintro e w6 ⟨rfl, r6', y6⟩
    have hlt : w2.heap.size < w3.heap.size := r3.lt
    have o4' : Own w6 w3.heap.size 5 bo m F := y6.own (Own.drawn (o4.below B5) q5) hlt
    have B6 : Below w2.heap.size w2 w6 := (Below.drawn (B4.trans (B5.mono B4.size)) q5).trans y6.1
    have o6 := o2.below B6
    clear r3 r4 r5 r5' r6 r6' o2' o4
    go_wp2_with fail
    refine (eq_yes bo ao m _ _ g g _ hm (Own.sl (HF.out ▸ o4')) (Own.sl (HF.out ▸ o6)) (fun _ _ => rfl)).mono ?_
    rintro e w6' ⟨rfl, q6, rfl⟩
    go_wp2_with fail
    refine (mark_any bo m cap4 w3.heap.size 1 F _ hm (by decide) (by decide) (o4'.drawn q6)).mono ?_
    rintro e w7 ⟨rfl, o7, b7⟩
    have B7 : Below w2.heap.size w2 w7 := (Below.drawn B6 q6).trans (b7.mono (Nat.le_of_lt hlt))
    go_wp2_with fail
    refine (held_any bo m cap4 1 _ hm (by decide) (by decide) o7.sl).mono ?_
    rintro e w7' ⟨rfl, rfl⟩
    go_wp2_with fail
    refine (to_any a0 len0 cap0 f _ hn (hs2.below B7)).mono ?_
    rintro e w8 ⟨rfl, r8, b8⟩
    go_wp2_with fail
    refine (himpl.out _ _ _ (SL.row r8)).mono ?_
    rintro e w9 ⟨co, cap9, rfl, o9, b9⟩
    have C9 : Below w7'.heap.size w7' w9 := b8.trans (b9.mono b8.size)
    have B9 : Below w2.heap.size w2 w9 := B7.trans (C9.mono B7.size)
    have o2'' := o2.below B9
    have o7' := o7.below C9
    go_wp2_with fail
    refine (eq_yes co ao m _ _ g g _ hm (Own.sl (HF.out ▸ o9)) (Own.sl (HF.out ▸ o2'')) (fun _ _ => rfl)).mono ?_
    rintro e w9' ⟨rfl, q9, rfl⟩
    go_wp2_with fail
    refine (held_any bo m cap4 1 _ hm (by decide) (by decide) (o7'.drawn q9).sl).mono ?_
    rintro e w10 ⟨rfl, rfl⟩
    go_wp2
    go_ret
    exact ⟨rfl, Below.drawn (B2.trans (B9.mono B2.size)) _⟩
  · go_enter Try.func6, Try.ntmps6
    go_wp2
    go_ret
    exact ⟨rfl, Below.refl _ _⟩

set_option maxRecDepth 100000 in
theorem lifted (os : Os) (started : os.Started) (H : Type) (enc : TypeId × Value → H) :
    ReturnsInHanded {} Try.checked os 6 .any (Rows.fnExactSqueezeSpec.pre6 enc Try.prog Try.f6 Rows.fnExactSqueezeRow.domain false) (Rows.fnExactSqueezeSpec.post enc Try.prog Try.f6 false true false false) := by
  refine returnsInHanded_of_change (C := Try.checked) own started (by kernel_rfl) Try.func6
    (ChangeSpec.witness6 (enc := enc) (C := Try.checked) false ⟨#[], #[.slice none 0 0], []⟩ 8 (by kernel_rfl) (by kernel_rfl) (by kernel_rfl) (by kernel_rfl)) ?_
  intro W base args ds gs before hval0 hW hcnd _
  have hval : ∀ (j : Nat) t v, Try.f6.params[j]? = some t → args[j]? = some v → Value.okWide Try.prog W .any base t v := hval0
  have hW' := hW
  obtain ⟨p, q, hA0, hV, rfl, hfz, hnd⟩ := hW
  have hA : DataW.TrodAll enc Try.prog W 0 (fun _ => true) true Try.f6.params.toList args.toList ds p := hA0
  rw [Try.params6] at hA hval
  obtain ⟨v0, vs0, d0, ds0, p0, q0, hargs, rfl, rfl, h0, r0⟩ := trodAll_cons hA
  obtain ⟨rfl, rfl, rfl⟩ := trodAll_nil r0
  obtain rfl : args = #[v0] := by cases args; simp_all
  obtain ⟨rfl, rfl⟩ := trodVars_none hV
  obtain ⟨a0, len0, cap0, rfl⟩ := okWide_slice Try.underlying22 (hval 0 22 v0 rfl rfl)
  have k0 := h0
  have lt0 : ∀ x ∈ p0, x.block < W.heap.size := by obtain ⟨m, hm⟩ := k0; exact DataW.trod_lt m _ _ _ hm
  obtain ⟨z0, w0⟩ : ∃ zs, IsRow .u8 W a0 len0 cap0 zs := by
    obtain ⟨fuel, hf⟩ := h0
    rcases open_ints Try.underlying22 Try.underlying5 (by kernel_rfl) hf with ⟨hcs, _⟩ | ⟨x, l, c, zs, hcs, _, hl, hm, hz, _, hcell, hwz⟩
    · simp [Value.cells] at hcs
      obtain ⟨rfl, rfl, rfl⟩ := hcs
      exact ⟨[], .inl ⟨rfl, rfl, rfl, rfl⟩⟩
    · simp [Value.cells] at hcs
      obtain ⟨rfl, rfl, rfl⟩ := hcs
      exact ⟨zs, .inr ⟨_, rfl, hl, hm, by simpa using hz, hcell, hwz⟩⟩
  clear hA0 hval0
  refine (walk a0 len0 cap0 z0 W w0).mono fun e W' ⟨he, bel⟩ => ?_
  subst he
  exact ⟨_, rfl, _, _, _, [], _, [], hW', trodAll_mk1 (shut_bool Try.underlying4 _), (trodAll_cons_mk (Below.trod laidOut (by kernel_rfl) (of_decide_eq_true (by kernel_rfl)) k0 bel lt0) trodAll_mk0), rfl, bel.frame _, fun h => by cases h⟩

theorem over : Rows.fnExactSqueezeRow.holds Try.pinned (OpenSpec.ofChange Rows.fnExactSqueezeSpec) :=
  OpenClaim.holds_of_wide 6 Try.f6 rfl rfl rfl rfl rfl rfl rfl ⟨rfl, rfl, rfl, rfl, rfl⟩ rfl rfl rfl rfl rfl (by kernel_rfl) Try.func6 (by kernel_rfl)
    (of_decide_eq_true (by kernel_rfl)) (by unfold Func.isWrapper; first | (rw [if_pos (by decide +kernel)]; kernel_rfl) | (rw [if_neg (by decide +kernel)]; exact ⟨rfl, rfl⟩))
    (fun os started H enc _ => lifted os started H enc)

theorem proved : Rows.FnExactSqueezeSaid := over
end Go.Proofs.Ythnlcijmlcaepaa.fnExactSqueeze
namespace Go.Proofs.Ythnlcijmlcaepaa
theorem fnExactSqueeze_holds : Rows.FnExactSqueezeSaid := fnExactSqueeze.proved
end Go.Proofs.Ythnlcijmlcaepaa

/- GenPush of the program answers as the model does, at every argument; it writes into no argument, and its answer is memory of its own. -/
import Derived.Test.YtjbhgedbkajmdaaRows
import Derived.WalkKit
import Derived.ProofKit
import Derived.OpenShut
import Derived.ShutString
import Derived.Test.YtjbhgedbkajmdaaGpP
import Derived.Test.YtjbhgedbkajmdaaGpS
import Derived.Test.YtjbhgedbkajmdaaMarkM
import Derived.ChangeOld
import Derived.Below
namespace Go.Proofs.Ytjbhgedbkajmdaa.fnExactGenPush
open Go.ChangeShapes Go.WideShapes Go.ChangeAt Go.RowKit
open Go.ChangeMaps (open_string shut_string)
set_option linter.unusedVariables false

theorem own : ownKnob Try.prog.godebug = none := by kernel_rfl
theorem laidOut : laidOutB Try.prog = true := by kernel_rfl

/-- WHAT THE WALK IS TOLD OF A SLICE OF INTEGERS THAT CAME IN: it is nil; or it leads to a row of 'cap' cells, the numbers 'zs' (the first 'len' are its elements, the rest its spare room), each fitting its kind. -/
def IsRow (k : IntKind) (w : World) (a : Option Addr) (len cap : Nat) (zs : List Int) : Prop :=
  (a = none ∧ len = 0 ∧ cap = 0 ∧ zs = []) ∨
  ∃ x, a = some x ∧ len ≤ cap ∧ cap ≤ maxLen ∧ zs.length = cap ∧ (∀ i, i < zs.length → w.cell? (x.add i) = some (.int k (zs.getD i 0))) ∧ ∀ n ∈ zs, (Lit.int k n).wf = true

/-- Both functions answer the same numbers, each in memory of its own. -/
theorem both (f : Nat → Int) (n : Nat) (hn : n ≤ 1048576) (x : Int) (hwf : ∀ i, i < n → (Lit.int .i64 (f i)).wf = true) (hx : (Lit.int .i64 x).wf = true) : ∃ (m : Nat) (g : Nat → Int), m ≤ 1048576 ∧
    (∀ w ad cap, SL .i64 w (some ad) n f → Calls Try.prog 29 #[.slice (some ad) n cap, .int .i64 x] w fun e w' => ∃ ro rc, e = .returned (.slice ro m rc) ∧ Own w' w.heap.size 3 ro m (fun i => .int .i64 (g i)) ∧ Below w.heap.size w w') ∧
    (∀ w ad cap, SL .i64 w (some ad) n f → Calls Try.prog 24 #[.slice (some ad) n cap, .int .i64 x] w fun e w' => ∃ ro rc, e = .returned (.slice ro m rc) ∧ Own w' w.heap.size 3 ro m (fun i => .int .i64 (g i)) ∧ Below w.heap.size w w') := by
  have hl : ((List.range n).map f).length = n := by simp
  have hm := gpl_len (D := Classical.propDecidable) x ((List.range n).map f)
  have own : ∀ (w w' : World) (e : Ending), (∃ v', e = .returned v' ∧ w'.ownsRow w.heap.size 3 1 v' (gpl Classical.propDecidable x ((List.range n).map f)).length ((gpl Classical.propDecidable x ((List.range n).map f)).map (.int .i64)) ∧ Below w.heap.size w w') →
      ∃ ro rc, e = .returned (.slice ro (gpl Classical.propDecidable x ((List.range n).map f)).length rc) ∧ Own w' w.heap.size 3 ro (gpl Classical.propDecidable x ((List.range n).map f)).length (fun i => .int .i64 ((gpl Classical.propDecidable x ((List.range n).map f)).getD i 0)) ∧ Below w.heap.size w w' := by
    rintro w w' e ⟨v', rfl, ho, hb⟩
    obtain ⟨ao, cap, rfl, _, hO⟩ := Own.of_owns ho
    exact ⟨ao, cap, rfl, hO, hb⟩
  have hwl : ∀ y ∈ (List.range n).map f, (Lit.int .i64 y).wf = true := by
    intro y hy
    obtain ⟨i, hi, rfl⟩ := List.mem_map.1 hy
    exact hwf i (List.mem_range.1 hi)
  refine ⟨(gpl Classical.propDecidable x ((List.range n).map f)).length, fun i => (gpl Classical.propDecidable x ((List.range n).map f)).getD i 0, ?_, ?_, ?_⟩
  · omega
  · intro w ad cap hs
    exact (genpush_x Classical.propDecidable _ _ x w (by omega) (Src.of_sl hs (fun h => by cases h))).mono fun e w' h => own w w' e h
  · intro w ad cap hs
    exact (genpush_impl Classical.propDecidable _ _ x w (by omega) (Src.of_sl hs (fun h => by cases h)) hx hwl).mono fun e w' h => own w w' e h

theorem walk (a0 : Option Addr) (len0 cap0 : Nat) (z0 : List Int) (a1 : Int) (w : World) (w0 : IsRow .i64 w a0 len0 cap0 z0) (w1 : (Lit.int .i64 a1).wf = true) :
    Calls Try.prog 6 #[.slice a0 len0 cap0, .int .i64 a1] w fun e w' => e = .returned (.bool true) ∧ Below w.heap.size w w' := by
  obtain ⟨f, hs, hwf⟩ := view w0
  clear w0
  by_cases hn : len0 ≤ 1048576
  · obtain ⟨m, g, hm, hspec0, himpl0⟩ := both f len0 hn a1 hwf w1
    generalize hF : (fun i => Value.int .i64 (g i)) = F at hspec0 himpl0
    have HF : Hid ((fun i => Value.int .i64 (g i)) = F) := hF
    have hspec := hide hspec0
    have himpl := hide himpl0
    clear hF hspec0 himpl0
    go_enter Try.func6, Try.ntmps6
    go_wp2_with fail
    refine (ito_any a0 len0 cap0 f _ hn hs).mono ?_
    rintro e w1 ⟨rfl, r1, b1⟩
    go_wp2_with fail
    refine (hspec.out _ _ _ (SL.row r1)).mono ?_
    rintro e w2 ⟨ao, cap, rfl, o2, b2⟩
    have hs2 := (hs.below b1).below b2
    have B2 : Below w.heap.size w w2 := b1.trans (b2.mono b1.size)
    have L2 : ∀ g', ao = some ⟨g', 0, none⟩ → m = 0 ∨ g' < w2.heap.size := fun g' hg => by
      rcases o2 with o | ⟨g2, e, _, c, hc, _⟩
      · exact .inl o
      · rw [e] at hg; simp at hg; subst hg; exact .inr (Array.getElem?_eq_some_iff.1 hc).1
    clear r1 b1 b2
    go_wp2_with fail
    refine (ito_any a0 len0 cap0 f _ hn hs2).mono ?_
    rintro e w3 ⟨rfl, r3, b3⟩
    go_wp2_with fail
    refine (himpl.out _ _ _ (SL.row r3)).mono ?_
    rintro e w4 ⟨bo, cap4, rfl, o4, b4⟩
    have r4 := row_below r3 b4 r3.lt
    have B4 : Below w2.heap.size w2 w4 := b3.trans (b4.mono b3.size)
    have o2' := o2.below B4
    go_wp2_with fail
    refine (ieq_yes bo ao m _ _ g g _ hm (Own.sl (HF.out ▸ o4)) (Own.sl (HF.out ▸ o2')) (fun _ _ => rfl)).mono ?_
    rintro e w4' ⟨rfl, q4, rfl⟩
    have hs4 : SL .i64 (w4.drewN q4) a0 len0 f := hs2.below (Below.drawn B4 q4)
    go_wp2_with fail
    refine (ito_any a0 len0 cap0 f _ hn hs4).mono ?_
    rintro e w5 ⟨rfl, r5, b5⟩
    have r5' := row_below r4 (Below.trans (Below.drawn (Below.refl _ _) q4) b5) r4.lt
    have B5 : Below w4.heap.size w4 w5 := Below.trans (Below.drawn (Below.refl _ _) q4) b5
    clear b5
    go_wp2_with fail
    refine (ieq_yes _ _ _ _ _ f f _ hn (SL.row r5') (SL.row r5) (fun _ _ => rfl)).mono ?_
    rintro e w5' ⟨rfl, q5, rfl⟩
    have r6 : (w5.drewN q5).rowIs w2.heap.size 3 len0 (fun i => .int .i64 (f i)) := r5'
    go_wp2_with fail
    refine (imark_row w2.heap.size len0 _ 1 _ _ hn (by decide) (by decide) r6).mono ?_
    rintro e w6 ⟨rfl, r6', y6⟩
    have hlt : w2.heap.size < w3.heap.size := r3.lt
    have o4' : Own w6 w3.heap.size 3 bo m F := y6.own (Own.drawn (o4.below B5) q5) hlt
    have B6 : Below w2.heap.size w2 w6 := (Below.drawn (B4.trans (B5.mono B4.size)) q5).trans y6.1
    have o6 := o2.below B6
    clear r3 r4 r5 r5' r6 r6' o2' o4
    go_wp2_with fail
    refine (ieq_yes bo ao m _ _ g g _ hm (Own.sl (HF.out ▸ o4')) (Own.sl (HF.out ▸ o6)) (fun _ _ => rfl)).mono ?_
    rintro e w6' ⟨rfl, q6, rfl⟩
    go_wp2_with fail
    refine (imark_any bo m cap4 w3.heap.size 1 F _ hm (by decide) (by decide) (o4'.drawn q6)).mono ?_
    rintro e w7 ⟨rfl, o7, b7⟩
    have B7 : Below w2.heap.size w2 w7 := (Below.drawn B6 q6).trans (b7.mono (Nat.le_of_lt hlt))
    go_wp2_with fail
    refine (iheld_any bo m cap4 1 _ hm (by decide) (by decide) o7.sl).mono ?_
    rintro e w7' ⟨rfl, rfl⟩
    go_wp2_with fail
    refine (ito_any a0 len0 cap0 f _ hn (hs2.below B7)).mono ?_
    rintro e w8 ⟨rfl, r8, b8⟩
    go_wp2_with fail
    refine (himpl.out _ _ _ (SL.row r8)).mono ?_
    rintro e w9 ⟨co, cap9, rfl, o9, b9⟩
    have C9 : Below w7'.heap.size w7' w9 := b8.trans (b9.mono b8.size)
    have B9 : Below w2.heap.size w2 w9 := B7.trans (C9.mono B7.size)
    have o2'' := o2.below B9
    have o7' := o7.below C9
    go_wp2_with fail
    refine (ieq_yes co ao m _ _ g g _ hm (Own.sl (HF.out ▸ o9)) (Own.sl (HF.out ▸ o2'')) (fun _ _ => rfl)).mono ?_
    rintro e w9' ⟨rfl, q9, rfl⟩
    go_wp2_with fail
    refine (iheld_any bo m cap4 1 _ hm (by decide) (by decide) (o7'.drawn q9).sl).mono ?_
    rintro e w10 ⟨rfl, rfl⟩
    go_wp2
    go_ret
    exact ⟨rfl, Below.drawn (B2.trans (B9.mono B2.size)) _⟩
  · go_enter Try.func6, Try.ntmps6
    go_wp2
    go_ret
    exact ⟨rfl, Below.refl _ _⟩

set_option maxRecDepth 100000 in
theorem lifted (os : Os) (started : os.Started) (H : Type) (enc : TypeId × Value → H) :
    ReturnsInHanded {} Try.checked os 6 .any (Rows.fnExactGenPushSpec.pre6 enc Try.prog Try.f6 Rows.fnExactGenPushRow.domain false) (Rows.fnExactGenPushSpec.post enc Try.prog Try.f6 false true false false) := by
  refine returnsInHanded_of_change (C := Try.checked) own started (by kernel_rfl) Try.func6
    (ChangeSpec.witness6 (enc := enc) (C := Try.checked) false ⟨#[], #[.slice none 0 0, .int .i64 0], []⟩ 8 (by kernel_rfl) (by kernel_rfl) (by kernel_rfl) (by kernel_rfl)) ?_
  intro W base args ds gs before hval0 hW hcnd _
  have hval : ∀ (j : Nat) t v, Try.f6.params[j]? = some t → args[j]? = some v → Value.okWide Try.prog W .any base t v := hval0
  have hW' := hW
  obtain ⟨p, q, hA0, hV, rfl, hfz, hnd⟩ := hW
  have hA : DataW.TrodAll enc Try.prog W 0 (fun _ => true) true Try.f6.params.toList args.toList ds p := hA0
  rw [Try.params6] at hA hval
  obtain ⟨v0, vs0, d0, ds0, p0, q0, hargs, rfl, rfl, h0, r0⟩ := trodAll_cons hA
  obtain ⟨v1, vs1, d1, ds1, p1, q1, rfl, rfl, rfl, h1, r1⟩ := trodAll_cons r0
  obtain ⟨rfl, rfl, rfl⟩ := trodAll_nil r1
  obtain rfl : args = #[v0, v1] := by cases args; simp_all
  obtain ⟨rfl, rfl⟩ := trodVars_none hV
  obtain ⟨a0, len0, cap0, rfl⟩ := okWide_slice Try.underlying24 (hval 0 24 v0 rfl rfl)
  have k0 := h0
  have lt0 : ∀ x ∈ p0, x.block < W.heap.size := by obtain ⟨m, hm⟩ := k0; exact DataW.trod_lt m _ _ _ hm
  obtain ⟨z0, w0⟩ : ∃ zs, IsRow .i64 W a0 len0 cap0 zs := by
    obtain ⟨fuel, hf⟩ := h0
    rcases open_ints Try.underlying24 Try.underlying3 (by kernel_rfl) hf with ⟨hcs, _⟩ | ⟨x, l, c, zs, hcs, _, hl, hm, hz, _, hcell, hwz⟩
    · simp [Value.cells] at hcs
      obtain ⟨rfl, rfl, rfl⟩ := hcs
      exact ⟨[], .inl ⟨rfl, rfl, rfl, rfl⟩⟩
    · simp [Value.cells] at hcs
      obtain ⟨rfl, rfl, rfl⟩ := hcs
      exact ⟨zs, .inr ⟨_, rfl, hl, hm, by simpa using hz, hcell, hwz⟩⟩
  obtain ⟨a1, rfl, rfl, rfl, w1⟩ := open_int Try.underlying3 (hval 1 3 v1 rfl rfl) h1
  clear hA0 hval0
  refine (walk a0 len0 cap0 z0 a1 W w0 w1).mono fun e W' ⟨he, bel⟩ => ?_
  subst he
  exact ⟨_, rfl, _, _, _, [], _, [], hW', trodAll_mk1 (shut_bool Try.underlying4 _), (trodAll_cons_mk (Below.trod laidOut (by kernel_rfl) (of_decide_eq_true (by kernel_rfl)) k0 bel lt0) (trodAll_cons_mk (shut_int Try.underlying3 w1) trodAll_mk0)), rfl, bel.frame _, fun h => by cases h⟩

theorem over : Rows.fnExactGenPushRow.holds Try.pinned (OpenSpec.ofChange Rows.fnExactGenPushSpec) :=
  OpenClaim.holds_of_wide 6 Try.f6 rfl rfl rfl rfl rfl rfl rfl ⟨rfl, rfl, rfl, rfl, rfl⟩ rfl rfl rfl rfl rfl (by kernel_rfl) Try.func6 (by kernel_rfl)
    (of_decide_eq_true (by kernel_rfl)) (by unfold Func.isWrapper; first | (rw [if_pos (by decide +kernel)]; kernel_rfl) | (rw [if_neg (by decide +kernel)]; exact ⟨rfl, rfl⟩))
    (fun os started H enc _ => lifted os started H enc)

theorem proved : Rows.FnExactGenPushSaid := over
end Go.Proofs.Ytjbhgedbkajmdaa.fnExactGenPush
namespace Go.Proofs.Ytjbhgedbkajmdaa
theorem fnExactGenPush_holds : Rows.FnExactGenPushSaid := fnExactGenPush.proved
end Go.Proofs.Ytjbhgedbkajmdaa

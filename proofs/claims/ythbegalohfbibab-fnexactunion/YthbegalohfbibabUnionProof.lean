/- FnExactUnion returns true for every two slices of ints, and both read behind the call as before it: Union of the program answers as Union of its model, in memory of the answer's own. -/
import Derived.Test.YthbegalohfbibabRows
import Derived.WalkKit
import Derived.ProofKit
import Derived.OpenShut
import Derived.ShutString
import Derived.Test.YthbegalohfbibabUnionI
import Derived.Test.YthbegalohfbibabUnionS
import Derived.Test.YthbegalohfbibabMarkI
import Derived.ChangeOld
import Derived.Below
namespace Go.Proofs.Ythbegalohfbibab.fnExactUnion
open Go.ChangeShapes Go.WideShapes Go.ChangeAt Go.RowKit
open Go.ChangeMaps (open_string shut_string)
set_option linter.unusedVariables false

theorem own : ownKnob Try.prog.godebug = none := by kernel_rfl
theorem laidOut : laidOutB Try.prog = true := by kernel_rfl

/-- WHAT THE WALK IS TOLD OF A SLICE OF INTEGERS THAT CAME IN: it is nil; or it leads to a row of 'cap' cells, the numbers 'zs' (the first 'len' are its elements, the rest its spare room), each fitting its kind. -/
def IsRow (k : IntKind) (w : World) (a : Option Addr) (len cap : Nat) (zs : List Int) : Prop :=
  (a = none ∧ len = 0 ∧ cap = 0 ∧ zs = []) ∨
  ∃ x, a = some x ∧ len ≤ cap ∧ cap ≤ maxLen ∧ zs.length = cap ∧ (∀ i, i < zs.length → w.cell? (x.add i) = some (.int k (zs.getD i 0))) ∧ ∀ n ∈ zs, (Lit.int k n).wf = true

/-- Both functions answer the same numbers, each in memory of its own. -/
theorem both (f g : Nat → Int) (n m : Nat) (hn : n ≤ 1048576) (hm : m ≤ 1048576) : ∃ (r : Nat) (h : Nat → Int), r ≤ 1048576 ∧
    (∀ w ao ca bo cb, SL .i64 w (some ao) n f → SL .i64 w (some bo) m g → Calls Try.prog 15 #[.slice (some ao) n ca, .slice (some bo) m cb] w fun e w' => ∃ ro rc, e = .returned (.slice ro r rc) ∧ Own w' w.heap.size 3 ro r (fun i => .int .i64 (h i)) ∧ Below w.heap.size w w') ∧
    (∀ w ao ca bo cb, SL .i64 w (some ao) n f → SL .i64 w (some bo) m g → Calls Try.prog 16 #[.slice (some ao) n ca, .slice (some bo) m cb] w fun e w' => ∃ ro rc, e = .returned (.slice ro r rc) ∧ Own w' w.heap.size 3 ro r (fun i => .int .i64 (h i)) ∧ Below w.heap.size w w') := by
  have e : un (cat f g n) (n + m) = un (both2 f g n) (n + m) := un_congr fun i _ => rfl
  refine ⟨(un (both2 f g n) (n + m)).length, fun i => (un (both2 f g n) (n + m)).getD i 0, by have := (un_asc (both2 f g n) (n + m)).len; omega, fun w ao ca bo cb hs ht => ?_, fun w ao ca bo cb hs ht => ?_⟩
  · refine (union_spec ao bo n m ca cb f g w hn hm hs ht).mono fun e w' => ?_
    rintro ⟨v, rfl, ho, _, hb⟩
    obtain ⟨ro, rc, rfl, _, ho'⟩ := Own.of_owns ho
    exact ⟨_, _, rfl, ho', hb⟩
  · refine (union_impl ao bo n m ca cb f g w hn hm hs ht).mono fun e' w' => ?_
    rintro ⟨v, rfl, ho, hb⟩
    rw [e] at ho
    obtain ⟨ro, rc, rfl, _, ho'⟩ := Own.of_owns ho
    exact ⟨_, _, rfl, ho', hb⟩

theorem walk (a0 : Option Addr) (len0 cap0 : Nat) (z0 : List Int) (a1 : Option Addr) (len1 cap1 : Nat) (z1 : List Int) (w : World) (w0 : IsRow .i64 w a0 len0 cap0 z0) (w1 : IsRow .i64 w a1 len1 cap1 z1) :
    Calls Try.prog 5 #[.slice a0 len0 cap0, .slice a1 len1 cap1] w fun e w' => e = .returned (.bool true) ∧ Below w.heap.size w w' := by
  obtain ⟨f, hs, _⟩ := view w0
  obtain ⟨g, ht, _⟩ := view w1
  clear w0 w1
  by_cases hn : len0 ≤ 1048576
  · by_cases hm : len1 ≤ 1048576
    · obtain ⟨m, h, hm', hspec0, himpl0⟩ := both f g len0 len1 hn hm
      generalize hF : (fun i => Value.int .i64 (h i)) = F at hspec0 himpl0
      have HF : Hid ((fun i => Value.int .i64 (h i)) = F) := hF
      have hspec := hide hspec0
      have himpl := hide himpl0
      clear hF hspec0 himpl0
      go_enter Try.func5, Try.ntmps5
      go_wp2_with fail
      refine (to_any a0 len0 cap0 f _ hn hs).mono ?_
      rintro e w1 ⟨rfl, r1, b1⟩
      go_wp2_with fail
      refine (to_any a1 len1 cap1 g _ hm (ht.below b1)).mono ?_
      rintro e w1' ⟨rfl, r1', b1'⟩
      go_wp2_with fail
      refine (hspec.out _ _ _ _ _ (SL.row (row_below r1 b1' r1.lt)) (SL.row r1')).mono ?_
      rintro e w2 ⟨ao, cap, rfl, o2, b2⟩
      have B2 : Below w.heap.size w w2 := b1.trans ((b1'.mono b1.size).trans (b2.mono (Nat.le_trans b1.size b1'.size)))
      have hs2 := hs.below B2
      have ht2 := ht.below B2
      clear r1 r1' b1 b1' b2
      go_wp2_with fail
      refine (to_any a0 len0 cap0 f _ hn hs2).mono ?_
      rintro e w3 ⟨rfl, r3, b3⟩
      go_wp2_with fail
      refine (to_any a1 len1 cap1 g _ hm (ht2.below b3)).mono ?_
      rintro e w3' ⟨rfl, r3', b3'⟩
      have r3a := row_below r3 b3' r3.lt
      have lt3 : w2.heap.size < w3.heap.size := r3.lt
      have lt3' : w3.heap.size < w3'.heap.size := r3'.lt
      go_wp2_with fail
      refine (himpl.out _ _ _ _ _ (SL.row r3a) (SL.row r3')).mono ?_
      rintro e w4 ⟨bo, cap4, rfl, o4, b4⟩
      have x4 := row_below r3a b4 (by omega)
      have y4 := row_below r3' b4 (by omega)
      have B4 : Below w2.heap.size w2 w4 := b3.trans ((b3'.mono b3.size).trans (b4.mono (Nat.le_trans b3.size b3'.size)))
      have o2' := o2.below B4
      clear r3 r3' r3a b3 b3'
      go_wp2_with fail
      refine (eq_yes bo ao m _ _ h h _ hm' (Own.sl (HF.out ▸ o4)) (Own.sl (HF.out ▸ o2')) (fun _ _ => rfl)).mono ?_
      rintro e w4' ⟨rfl, q4, rfl⟩
      go_wp2_with fail
      refine (to_any a0 len0 cap0 f _ hn (hs2.below (Below.drawn B4 q4))).mono ?_
      rintro e w5 ⟨rfl, r5, b5⟩
      have B5 : Below w4.heap.size w4 w5 := Below.trans (Below.drawn (Below.refl _ _) q4) b5
      have x5 := row_below x4 B5 x4.lt
      have y5 := row_below y4 B5 y4.lt
      clear b5
      go_wp2_with fail
      refine (eq_yes _ _ _ _ _ f f _ hn (SL.row x5) (SL.row r5) (fun _ _ => rfl)).mono ?_
      rintro e w5' ⟨rfl, q5, rfl⟩
      have C5 : Below w2.heap.size w2 (w5.drewN q5) := Below.drawn (B4.trans (B5.mono B4.size)) q5
      go_wp2_with fail
      refine (to_any a1 len1 cap1 g _ hm (ht2.below C5)).mono ?_
      rintro e w6 ⟨rfl, r6, b6⟩
      have B6 : Below w4.heap.size w4 w6 := (Below.drawn B5 q5).trans (b6.mono B5.size)
      have x6 := row_below x4 B6 x4.lt
      have y6 := row_below y4 B6 y4.lt
      clear b6
      go_wp2_with fail
      refine (eq_yes _ _ _ _ _ g g _ hm (SL.row y6) (SL.row r6) (fun _ _ => rfl)).mono ?_
      rintro e w6' ⟨rfl, q6, rfl⟩
      have x7 : (w6.drewN q6).rowIs w2.heap.size 3 len0 (fun i => .int .i64 (f i)) := x6
      have y7 : (w6.drewN q6).rowIs w3.heap.size 3 len1 (fun i => .int .i64 (g i)) := y6
      go_wp2_with fail
      refine (mark_row w2.heap.size len0 _ 1 _ _ hn (by decide) (by decide) x7).mono ?_
      rintro e w7 ⟨rfl, x7', z7⟩
      have y8 := z7.row (by omega) y7
      go_wp2_with fail
      refine (mark_row w3.heap.size len1 _ (1 + (len0 : Int)) _ _ hm (by omega) (by omega) y8).mono ?_
      rintro e w8 ⟨rfl, y8', z8⟩
      have o4' : Own w8 w3'.heap.size 3 bo m F := z8.own (z7.own (Own.drawn (o4.below B6) q6) (by omega)) (by omega)
      have B8 : Below w2.heap.size w2 w8 := ((Below.drawn (B4.trans (B6.mono B4.size)) q6).trans z7.1).trans (z8.1.mono (Nat.le_of_lt lt3))
      have o6 := o2.below B8
      clear x4 y4 x5 y5 x6 y6 x7 y7 x7' y8 y8' r5 r6 o2' o4
      have hneg : decide (1 + (len0 : Int) + (len1 : Int) < 0) = false := by simp; omega
      go_wp2_with fail
      refine (eq_yes bo ao m _ _ h h _ hm' (Own.sl (HF.out ▸ o4')) (Own.sl (HF.out ▸ o6)) (fun _ _ => rfl)).mono ?_
      rintro e w8' ⟨rfl, q8, rfl⟩
      go_wp2_with fail
      refine (mark_any bo m cap4 w3'.heap.size 1 F _ hm' (by decide) (by decide) (o4'.drawn q8)).mono ?_
      rintro e w9 ⟨rfl, o9, b9⟩
      have B9 : Below w2.heap.size w2 w9 := (Below.drawn B8 q8).trans (b9.mono (by omega))
      go_wp2_with fail
      refine (held_any bo m cap4 1 _ hm' (by decide) (by decide) o9.sl).mono ?_
      rintro e w9' ⟨rfl, rfl⟩
      go_wp2_with fail
      refine (to_any a0 len0 cap0 f _ hn (hs2.below B9)).mono ?_
      rintro e w10 ⟨rfl, r10, b10⟩
      go_wp2_with fail
      refine (to_any a1 len1 cap1 g _ hm ((ht2.below B9).below b10)).mono ?_
      rintro e w10' ⟨rfl, r10', b10'⟩
      go_wp2_with fail
      refine (himpl.out _ _ _ _ _ (SL.row (row_below r10 b10' r10.lt)) (SL.row r10')).mono ?_
      rintro e w11 ⟨co, cap11, rfl, o11, b11⟩
      have C11 : Below w9'.heap.size w9' w11 := b10.trans ((b10'.mono b10.size).trans (b11.mono (Nat.le_trans b10.size b10'.size)))
      have B11 : Below w2.heap.size w2 w11 := B9.trans (C11.mono B9.size)
      have o2'' := o2.below B11
      have o9' := o9.below C11
      go_wp2_with fail
      refine (eq_yes co ao m _ _ h h _ hm' (Own.sl (HF.out ▸ o11)) (Own.sl (HF.out ▸ o2'')) (fun _ _ => rfl)).mono ?_
      rintro e w11' ⟨rfl, q11, rfl⟩
      go_wp2_with fail
      refine (held_any bo m cap4 1 _ hm' (by decide) (by decide) (o9'.drawn q11).sl).mono ?_
      rintro e w12 ⟨rfl, rfl⟩
      go_wp2
      go_ret
      exact ⟨rfl, Below.drawn (B2.trans (B11.mono B2.size)) _⟩
    · go_enter Try.func5, Try.ntmps5
      go_wp2
      go_ret
      exact ⟨rfl, Below.refl _ _⟩
  · go_enter Try.func5, Try.ntmps5
    go_wp2
    go_ret
    exact ⟨rfl, Below.refl _ _⟩

set_option maxRecDepth 100000 in
theorem lifted (os : Os) (started : os.Started) (H : Type) (enc : TypeId × Value → H) :
    ReturnsInHanded {} Try.checked os 5 .any (Rows.fnExactUnionSpec.pre6 enc Try.prog Try.f5 Rows.fnExactUnionRow.domain false) (Rows.fnExactUnionSpec.post enc Try.prog Try.f5 false true false false) := by
  refine returnsInHanded_of_change (C := Try.checked) own started (by kernel_rfl) Try.func5
    (ChangeSpec.witness6 (enc := enc) (C := Try.checked) false ⟨#[], #[.slice none 0 0, .slice none 0 0], []⟩ 8 (by kernel_rfl) (by kernel_rfl) (by kernel_rfl) (by kernel_rfl)) ?_
  intro W base args ds gs before hval0 hW hcnd _
  have hval : ∀ (j : Nat) t v, Try.f5.params[j]? = some t → args[j]? = some v → Value.okWide Try.prog W .any base t v := hval0
  have hW' := hW
  obtain ⟨p, q, hA0, hV, rfl, hfz, hnd⟩ := hW
  have hA : DataW.TrodAll enc Try.prog W 0 (fun _ => true) true Try.f5.params.toList args.toList ds p := hA0
  rw [Try.params5] at hA hval
  obtain ⟨v0, vs0, d0, ds0, p0, q0, hargs, rfl, rfl, h0, r0⟩ := trodAll_cons hA
  obtain ⟨v1, vs1, d1, ds1, p1, q1, rfl, rfl, rfl, h1, r1⟩ := trodAll_cons r0
  obtain ⟨rfl, rfl, rfl⟩ := trodAll_nil r1
  obtain rfl : args = #[v0, v1] := by cases args; simp_all
  obtain ⟨rfl, rfl⟩ := trodVars_none hV
  obtain ⟨a0, len0, cap0, rfl⟩ := okWide_slice Try.underlying22 (hval 0 22 v0 rfl rfl)
  have k0 := h0
  have lt0 : ∀ x ∈ p0, x.block < W.heap.size := by obtain ⟨m, hm⟩ := k0; exact DataW.trod_lt m _ _ _ hm
  obtain ⟨z0, w0⟩ : ∃ zs, IsRow .i64 W a0 len0 cap0 zs := by
    obtain ⟨fuel, hf⟩ := h0
    rcases open_ints Try.underlying22 Try.underlying3 (by kernel_rfl) hf with ⟨hcs, _⟩ | ⟨x, l, c, zs, hcs, _, hl, hm, hz, _, hcell, hwz⟩
    · simp [Value.cells] at hcs
      obtain ⟨rfl, rfl, rfl⟩ := hcs
      exact ⟨[], .inl ⟨rfl, rfl, rfl, rfl⟩⟩
    · simp [Value.cells] at hcs
      obtain ⟨rfl, rfl, rfl⟩ := hcs
      exact ⟨zs, .inr ⟨_, rfl, hl, hm, by simpa using hz, hcell, hwz⟩⟩
  obtain ⟨a1, len1, cap1, rfl⟩ := okWide_slice Try.underlying22 (hval 1 22 v1 rfl rfl)
  have k1 := h1
  have lt1 : ∀ x ∈ p1, x.block < W.heap.size := by obtain ⟨m, hm⟩ := k1; exact DataW.trod_lt m _ _ _ hm
  obtain ⟨z1, w1⟩ : ∃ zs, IsRow .i64 W a1 len1 cap1 zs := by
    obtain ⟨fuel, hf⟩ := h1
    rcases open_ints Try.underlying22 Try.underlying3 (by kernel_rfl) hf with ⟨hcs, _⟩ | ⟨x, l, c, zs, hcs, _, hl, hm, hz, _, hcell, hwz⟩
    · simp [Value.cells] at hcs
      obtain ⟨rfl, rfl, rfl⟩ := hcs
      exact ⟨[], .inl ⟨rfl, rfl, rfl, rfl⟩⟩
    · simp [Value.cells] at hcs
      obtain ⟨rfl, rfl, rfl⟩ := hcs
      exact ⟨zs, .inr ⟨_, rfl, hl, hm, by simpa using hz, hcell, hwz⟩⟩
  clear hA0 hval0
  refine (walk a0 len0 cap0 z0 a1 len1 cap1 z1 W w0 w1).mono fun e W' ⟨he, bel⟩ => ?_
  subst he
  exact ⟨_, rfl, _, _, _, [], _, [], hW', trodAll_mk1 (shut_bool Try.underlying4 _), (trodAll_cons_mk (Below.trod laidOut (by kernel_rfl) (of_decide_eq_true (by kernel_rfl)) k0 bel lt0) (trodAll_cons_mk (Below.trod laidOut (by kernel_rfl) (of_decide_eq_true (by kernel_rfl)) k1 bel lt1) trodAll_mk0)), rfl, bel.frame _, fun h => by cases h⟩

theorem over : Rows.fnExactUnionRow.holds Try.pinned (OpenSpec.ofChange Rows.fnExactUnionSpec) :=
  OpenClaim.holds_of_wide 5 Try.f5 rfl rfl rfl rfl rfl rfl rfl ⟨rfl, rfl, rfl, rfl, rfl⟩ rfl rfl rfl rfl rfl (by kernel_rfl) Try.func5 (by kernel_rfl)
    (of_decide_eq_true (by kernel_rfl)) (by unfold Func.isWrapper; first | (rw [if_pos (by decide +kernel)]; kernel_rfl) | (rw [if_neg (by decide +kernel)]; exact ⟨rfl, rfl⟩))
    (fun os started H enc _ => lifted os started H enc)

theorem proved : Rows.FnExactUnionSaid := over
end Go.Proofs.Ythbegalohfbibab.fnExactUnion
namespace Go.Proofs.Ythbegalohfbibab
theorem fnExactUnion_holds : Rows.FnExactUnionSaid := fnExactUnion.proved
end Go.Proofs.Ythbegalohfbibab

/- Newer of the program answers as the model does, at every argument; it writes into none. -/
import Derived.Test.YtjbhgedbkajmdabRows
import Derived.WalkKit
import Derived.ProofKit
import Derived.OpenShut
import Derived.ShutString
import Derived.Test.YtjbhgedbkajmdabNwI
import Derived.Test.YtjbhgedbkajmdabIntM
import Derived.ChangeOld
import Derived.Below
namespace Go.Proofs.Ytjbhgedbkajmdab.fnExactNewer
open Go.ChangeShapes Go.WideShapes Go.ChangeAt Go.RowKit
open Go.ChangeMaps (open_string shut_string)
set_option linter.unusedVariables false

theorem own : ownKnob Try.prog.godebug = none := by kernel_rfl
theorem laidOut : laidOutB Try.prog = true := by kernel_rfl

/-- WHAT THE WALK IS TOLD OF A SLICE OF INTEGERS THAT CAME IN: it is nil; or it leads to a row of 'cap' cells, the numbers 'zs' (the first 'len' are its elements, the rest its spare room), each fitting its kind. -/
def IsRow (k : IntKind) (w : World) (a : Option Addr) (len cap : Nat) (zs : List Int) : Prop :=
  (a = none ∧ len = 0 ∧ cap = 0 ∧ zs = []) ∨
  ∃ x, a = some x ∧ len ≤ cap ∧ cap ≤ maxLen ∧ zs.length = cap ∧ (∀ i, i < zs.length → w.cell? (x.add i) = some (.int k (zs.getD i 0))) ∧ ∀ n ∈ zs, (Lit.int k n).wf = true

theorem walk (a0 : Option Addr) (len0 cap0 : Nat) (z0 : List Int) (a1 : Option Addr) (len1 cap1 : Nat) (z1 : List Int) (w : World) (w0 : IsRow .i64 w a0 len0 cap0 z0) (w1 : IsRow .i64 w a1 len1 cap1 z1) :
    Calls Try.prog 3 #[.slice a0 len0 cap0, .slice a1 len1 cap1] w fun e w' => e = .returned (.bool true) ∧ Below w.heap.size w w' := by
  obtain ⟨f, hs, _⟩ := view w0
  obtain ⟨g, ht, _⟩ := view w1
  clear w0 w1
  by_cases hn : len0 ≤ 1048576
  · by_cases hm : len1 ≤ 1048576
    · go_enter Try.func3, Try.ntmps3
      go_wp2_with fail
      refine (ito_any a0 len0 cap0 f _ hn hs).mono ?_
      rintro e w1 ⟨rfl, r1, b1⟩
      go_wp2_with fail
      refine (ito_any a1 len1 cap1 g _ hm (ht.below b1)).mono ?_
      rintro e w2 ⟨rfl, r2, b2⟩
      have r1' := row_below r1 b2 r1.lt
      have B2 : Below w.heap.size w w2 := b1.trans (b2.mono b1.size)
      go_wp2_with fail
      refine (newer_spec _ _ _ _ _ _ f g _ hn hm (SL.row r1') (SL.row r2)).mono ?_
      rintro e w2' ⟨r, rfl, hr0, q, rfl⟩
      have HR := hide hr0
      have B3 : Below w.heap.size w (w2.drewN q) := Below.drawn B2 q
      clear hr0 r1 r2 r1' b1 b2 B2
      go_wp2_with fail
      refine (ito_any a0 len0 cap0 f _ hn (hs.below B3)).mono ?_
      rintro e w4 ⟨rfl, r4, b4⟩
      have B4 : Below w.heap.size w w4 := B3.trans (b4.mono B3.size)
      go_wp2_with fail
      refine (ito_any a1 len1 cap1 g _ hm (ht.below B4)).mono ?_
      rintro e w5 ⟨rfl, r5, b5⟩
      have r4' := row_below r4 b5 r4.lt
      have B5 : Below w.heap.size w w5 := B4.trans (b5.mono B4.size)
      clear r4 b4 b5 B4 B3
      go_wp2_with fail
      refine (newer_impl _ _ _ _ _ _ f g _ hn hm (SL.row r4') (SL.row r5) (.inr ⟨_, _, rfl, Nat.le_refl _⟩) (.inr ⟨_, _, rfl, Nat.le_refl _⟩)).mono ?_
      rintro e w5' ⟨r', rfl, hr', q5, rfl⟩
      obtain rfl : r' = r := hr'.uniq HR.out
      clear hr' HR
      have r6 : (w5.drewN q5).rowIs (w2.drewN q).heap.size 3 len0 (fun i => .int .i64 (f i)) := r4'
      have r7 : (w5.drewN q5).rowIs w4.heap.size 3 len1 (fun i => .int .i64 (g i)) := r5
      have B6 : Below w.heap.size w (w5.drewN q5) := Below.drawn B5 q5
      clear r4' r5 B5
      go_wp2_with fail
      refine (ito_any a0 len0 cap0 f _ hn (hs.below B6)).mono ?_
      rintro e w8 ⟨rfl, r8, b8⟩
      have B8 : Below w.heap.size w w8 := B6.trans (b8.mono B6.size)
      have r6' := row_below r6 b8 r6.lt
      have r7' := row_below r7 b8 r7.lt
      clear r6 r7 b8 B6
      go_wp2_with fail
      refine (ieq_yes _ _ _ _ _ f f _ hn (SL.row r6') (SL.row r8) (fun _ _ => rfl)).mono ?_
      rintro e w8' ⟨rfl, q8, rfl⟩
      have B9 : Below w.heap.size w (w8.drewN q8) := Below.drawn B8 q8
      have r9 : (w8.drewN q8).rowIs w4.heap.size 3 len1 (fun i => .int .i64 (g i)) := r7'
      clear r6' r7' r8 B8
      go_wp2_with fail
      refine (ito_any a1 len1 cap1 g _ hm (ht.below B9)).mono ?_
      rintro e w10 ⟨rfl, r10, b10⟩
      have r9' := row_below r9 b10 r9.lt
      go_wp2_with fail
      refine (ieq_yes _ _ _ _ _ g g _ hm (SL.row r9') (SL.row r10) (fun _ _ => rfl)).mono ?_
      rintro e w11 ⟨rfl, q11, rfl⟩
      go_wp2
      go_ret
      exact ⟨rfl, Below.drawn (B9.trans (b10.mono B9.size)) _⟩
    · go_enter Try.func3, Try.ntmps3
      go_wp2
      go_ret
      exact ⟨rfl, Below.refl _ _⟩
  · go_enter Try.func3, Try.ntmps3
    go_wp2
    go_ret
    exact ⟨rfl, Below.refl _ _⟩

set_option maxRecDepth 100000 in
theorem lifted (os : Os) (started : os.Started) (H : Type) (enc : TypeId × Value → H) :
    ReturnsInHanded {} Try.checked os 3 .any (Rows.fnExactNewerSpec.pre6 enc Try.prog Try.f3 Rows.fnExactNewerRow.domain false) (Rows.fnExactNewerSpec.post enc Try.prog Try.f3 false true false false) := by
  refine returnsInHanded_of_change (C := Try.checked) own started (by kernel_rfl) Try.func3
    (ChangeSpec.witness6 (enc := enc) (C := Try.checked) false ⟨#[], #[.slice none 0 0, .slice none 0 0], []⟩ 8 (by kernel_rfl) (by kernel_rfl) (by kernel_rfl) (by kernel_rfl)) ?_
  intro W base args ds gs before hval0 hW hcnd _
  have hval : ∀ (j : Nat) t v, Try.f3.params[j]? = some t → args[j]? = some v → Value.okWide Try.prog W .any base t v := hval0
  have hW' := hW
  obtain ⟨p, q, hA0, hV, rfl, hfz, hnd⟩ := hW
  have hA : DataW.TrodAll enc Try.prog W 0 (fun _ => true) true Try.f3.params.toList args.toList ds p := hA0
  rw [Try.params3] at hA hval
  obtain ⟨v0, vs0, d0, ds0, p0, q0, hargs, rfl, rfl, h0, r0⟩ := trodAll_cons hA
  obtain ⟨v1, vs1, d1, ds1, p1, q1, rfl, rfl, rfl, h1, r1⟩ := trodAll_cons r0
  obtain ⟨rfl, rfl, rfl⟩ := trodAll_nil r1
  obtain rfl : args = #[v0, v1] := by cases args; simp_all
  obtain ⟨rfl, rfl⟩ := trodVars_none hV
  obtain ⟨a0, len0, cap0, rfl⟩ := okWide_slice Try.underlying22 (hval 0 22 v0 rfl rfl)
  have k0 := h0
  have lt0 : ∀ x ∈ p0, x.block < W.heap.size := by obtain ⟨m, hm⟩ := k0; exact DataW.trod_lt m _ _ _ hm
  obtain ⟨z0, w0⟩ : ∃ zs, IsRow .i64 W a0 len0 cap0 zs := by
    obtain ⟨fuel, hf⟩ := h0
    rcases open_ints Try.underlying22 Try.underlying3 (by kernel_rfl) hf with ⟨hcs, _⟩ | ⟨x, l, c, zs, hcs, _, hl, hm, hz, _, hcell, hwz⟩
    · simp [Value.cells] at hcs
      obtain ⟨rfl, rfl, rfl⟩ := hcs
      exact ⟨[], .inl ⟨rfl, rfl, rfl, rfl⟩⟩
    · simp [Value.cells] at hcs
      obtain ⟨rfl, rfl, rfl⟩ := hcs
      exact ⟨zs, .inr ⟨_, rfl, hl, hm, by simpa using hz, hcell, hwz⟩⟩
  obtain ⟨a1, len1, cap1, rfl⟩ := okWide_slice Try.underlying22 (hval 1 22 v1 rfl rfl)
  have k1 := h1
  have lt1 : ∀ x ∈ p1, x.block < W.heap.size := by obtain ⟨m, hm⟩ := k1; exact DataW.trod_lt m _ _ _ hm
  obtain ⟨z1, w1⟩ : ∃ zs, IsRow .i64 W a1 len1 cap1 zs := by
    obtain ⟨fuel, hf⟩ := h1
    rcases open_ints Try.underlying22 Try.underlying3 (by kernel_rfl) hf with ⟨hcs, _⟩ | ⟨x, l, c, zs, hcs, _, hl, hm, hz, _, hcell, hwz⟩
    · simp [Value.cells] at hcs
      obtain ⟨rfl, rfl, rfl⟩ := hcs
      exact ⟨[], .inl ⟨rfl, rfl, rfl, rfl⟩⟩
    · simp [Value.cells] at hcs
      obtain ⟨rfl, rfl, rfl⟩ := hcs
      exact ⟨zs, .inr ⟨_, rfl, hl, hm, by simpa using hz, hcell, hwz⟩⟩
  clear hA0 hval0
  refine (walk a0 len0 cap0 z0 a1 len1 cap1 z1 W w0 w1).mono fun e W' ⟨he, bel⟩ => ?_
  subst he
  exact ⟨_, rfl, _, _, _, [], _, [], hW', trodAll_mk1 (shut_bool Try.underlying4 _), (trodAll_cons_mk (Below.trod laidOut (by kernel_rfl) (of_decide_eq_true (by kernel_rfl)) k0 bel lt0) (trodAll_cons_mk (Below.trod laidOut (by kernel_rfl) (of_decide_eq_true (by kernel_rfl)) k1 bel lt1) trodAll_mk0)), rfl, bel.frame _, fun h => by cases h⟩

theorem over : Rows.fnExactNewerRow.holds Try.pinned (OpenSpec.ofChange Rows.fnExactNewerSpec) :=
  OpenClaim.holds_of_wide 3 Try.f3 rfl rfl rfl rfl rfl rfl rfl ⟨rfl, rfl, rfl, rfl, rfl⟩ rfl rfl rfl rfl rfl (by kernel_rfl) Try.func3 (by kernel_rfl)
    (of_decide_eq_true (by kernel_rfl)) (by unfold Func.isWrapper; first | (rw [if_pos (by decide +kernel)]; kernel_rfl) | (rw [if_neg (by decide +kernel)]; exact ⟨rfl, rfl⟩))
    (fun os started H enc _ => lifted os started H enc)

theorem proved : Rows.FnExactNewerSaid := over
end Go.Proofs.Ytjbhgedbkajmdab.fnExactNewer
namespace Go.Proofs.Ytjbhgedbkajmdab
theorem fnExactNewer_holds : Rows.FnExactNewerSaid := fnExactNewer.proved
end Go.Proofs.Ytjbhgedbkajmdab

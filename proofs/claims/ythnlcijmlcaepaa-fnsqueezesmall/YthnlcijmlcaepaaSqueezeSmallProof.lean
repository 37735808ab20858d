/- What is squeezed of drawn bytes is twice as long at most. -/
import Derived.Test.YthnlcijmlcaepaaRows
import Derived.WalkKit
import Derived.ProofKit
import Derived.OpenShut
import Derived.ShutString
import Derived.Test.YthnlcijmlcaepaaSqzI
import Derived.Test.YthnlcijmlcaepaaDrawSpr2
import Derived.Test.YthnlcijmlcaepaaConv
import Derived.Test.YthnlcijmlcaepaaBig
import Derived.ChangeOld
import Derived.Below
namespace Go.Proofs.Ythnlcijmlcaepaa.fnSqueezeSmall
open Go.ChangeShapes Go.WideShapes Go.ChangeAt Go.RowKit
open Go.ChangeMaps (open_string shut_string)
set_option linter.unusedVariables false

theorem own : ownKnob Try.prog.godebug = none := by kernel_rfl
theorem laidOut : laidOutB Try.prog = true := by kernel_rfl

/-- WHAT THE WALK IS TOLD OF A SLICE OF INTEGERS THAT CAME IN: it is nil; or it leads to a row of 'cap' cells, the numbers 'zs' (the first 'len' are its elements, the rest its spare room), each fitting its kind. -/
def IsRow (k : IntKind) (w : World) (a : Option Addr) (len cap : Nat) (zs : List Int) : Prop :=
  (a = none ∧ len = 0 ∧ cap = 0 ∧ zs = []) ∨
  ∃ x, a = some x ∧ len ≤ cap ∧ cap ≤ maxLen ∧ zs.length = cap ∧ (∀ i, i < zs.length → w.cell? (x.add i) = some (.int k (zs.getD i 0))) ∧ ∀ n ∈ zs, (Lit.int k n).wf = true

theorem walk (a0 : Option Addr) (len0 cap0 : Nat) (z0 : List Int) (w : World) (w0 : IsRow .u8 w a0 len0 cap0 z0) :
    Calls Try.prog 4 #[.slice a0 len0 cap0] w fun e w' => e = .returned (.bool true) ∧ Below w.heap.size w w' := by
  obtain ⟨f, hs, hf0⟩ := view w0
  have hf := view_u8 hf0
  clear w0 hf0
  by_cases hn : len0 ≤ 1048576
  · have HS := hide hs
    have HF := hide hf
    clear hs hf
    go_enter Try.func4, Try.ntmps4
    go_wp2_with fail
    refine (big_no a0 len0 cap0 _ hn).mono ?_
    rintro e w' ⟨rfl, hw⟩
    rw [hw]
    clear hw
    go_wp2_with fail
    refine (draw_squeeze a0 len0 cap0 f _ hn HS.out HF.out).mono ?_
    rintro e w1 ⟨v1, L, rfl, hL, ⟨bo, cb, rfl, hcb1, hcb2, hO1⟩, hLb, b1⟩
    have hLb' : ∀ i, i < L.length → 0 ≤ L.getD i 0 ∧ L.getD i 0 ≤ 255 := fun i hi => hLb _ (by simp [List.getD, hi])
    have hspec : Hid (∀ W, SL .u8 W bo L.length (fun i => L.getD i 0) → Calls Try.prog 15 #[.slice bo L.length cb] W fun e w' => ∃ v, e = .returned v ∧ w'.ownsRow W.heap.size 5 1 v (squeeze (fun i => L.getD i 0) L.length).length ((squeeze (fun i => L.getD i 0) L.length).map (.int .u8)) ∧ v ≠ .slice none 0 0 ∧ Below W.heap.size W w') := fun W h => squeeze_spec bo L.length cb _ W (by omega) h hLb'
    have himpl := hide (squeeze_impl bo L.length cb (fun i => L.getD i 0) w1 (by omega) hO1.sl hLb')
    have hlen := squeeze_len (fun i => L.getD i 0) L.length
    have hst : Hid (∀ (W : World) (ao : Option Addr) (c : Nat), SL .u8 W ao (squeeze (fun i => L.getD i 0) L.length).length (fun i => (squeeze (fun i => L.getD i 0) L.length).getD i 0) → (convert 22 9 (.slice ao (squeeze (fun i => L.getD i 0) L.length).length c)).run Try.prog W = .ok (.string (bstr (squeeze (fun i => L.getD i 0) L.length))) W) := fun W ao c h => conv_str h (squeeze_byte _ _ hLb')
    generalize bstr (squeeze (fun i => L.getD i 0) L.length) = st at hst
    generalize squeeze (fun i => L.getD i 0) L.length = M at *
    have HB1 := hide b1
    have HL1 := hide hO1.sl
    clear hLb hLb' b1 hO1 HS HF
    go_wp2_with fail
    refine himpl.out.mono ?_
    rintro e w2 ⟨v2, rfl, ho2, b2⟩
    obtain ⟨so, cs, rfl, hl2, hO2⟩ := Own.of_owns ho2
    have HI : Hid (SL .u8 w2.drew bo L.length (fun i => L.getD i 0) ∧ SL .u8 w2.drew so M.length (fun i => M.getD i 0) ∧ Below w.heap.size w w2.drew) := ⟨HL1.out.below (Below.drawn b2 1), hO2.sl, Below.drawn (HB1.out.trans (b2.mono HB1.out.size)) 1⟩
    clear ho2 hl2 hO2 b2 himpl HB1 HL1
    have hcv0 := hst.out w2.drew so cs HI.out.2.1
    have hle : (M.length : Int) ≤ 2 * (L.length : Int) := by omega
    go_wp2_with fail
    refine wp_region_held_drew (S := fun _ => True) (by kernel_rfl) trivial (fun _ => ?_)
    refine wpAnyH_take (i := 0) (oi := { dst := some 11, op := Op.move (Operand.tmp 4), type := 22, pos := "laws.go:853", after := #[], guard := none }) (v := ?_) rfl (by kernel_rfl) (by kernel_rfl) (by kernel_rfl) (fun _ _ _ h => h) (Or.inl ⟨by rfl, ?_⟩) trivial ?_
    rotate_left 1
    · (intro wq _; go_simp; try with_reducible rfl)
    try simp only [Act.put, List.setIfInBounds_toArray, List.set_cons_zero, List.set_cons_succ]
    refine wpAnyH_take (i := 2) (oi := { dst := some 13, op := Op.move (Operand.tmp 3), type := 22, pos := "laws.go:853", after := #[], guard := none }) (v := ?_) rfl (by kernel_rfl) (by kernel_rfl) (by kernel_rfl) (fun _ _ _ h => h) (Or.inl ⟨by rfl, ?_⟩) trivial ?_
    rotate_left 1
    · (intro wq _; go_simp; try with_reducible rfl)
    try simp only [Act.put, List.setIfInBounds_toArray, List.set_cons_zero, List.set_cons_succ]
    refine wpAnyH_ready (rs := [1, 3]) (by kernel_rfl) (by simp) ?_
    refine AllReadyH.cons (o := { dst := some 12, op := Op.convert 22 9 (Operand.tmp 11), type := 9, pos := "laws.go:853", after := #[{ on := 0, ground := Ground.data }], guard := none }) rfl (fun K hK => ?_) ?_
    · go_simp
      refine hK.out _ _ trivial (fun _ => ?_)
      clear hK K
      try simp only [Act.put, List.setIfInBounds_toArray, List.set_cons_zero, List.set_cons_succ]
      refine wpAnyH_ready (rs := [3]) (by kernel_rfl) (by simp) ?_
      refine AllReadyH.cons (o := { dst := some 14, op := Op.call { callee := Callee.value (Operand.func 15), args := #[Operand.tmp 13], argTypes := #[22] }, type := 22, pos := "laws.go:853", after := #[{ on := 2, ground := Ground.data }], guard := none }) rfl (fun K hK => ?_) AllReadyH.nil
      go_simp
      refine (hspec.out _ (HI.out.1)).mono ?_
      rintro e w3 ⟨v3, rfl, ho3, _, b3⟩
      obtain ⟨to, tc, rfl, hl3, hO3⟩ := Own.of_owns ho3
      have hcv1 := hst.out w3 so cs (HI.out.2.1.below b3)
      have hcv2 := hst.out w3 to tc hO3.sl
      have HB3 := hide (HI.out.2.2.trans (b3.mono HI.out.2.2.size))
      clear ho3 hl3 hO3 b3
      go_wp2_with fail
      refine hK.out _ _ trivial (fun _ => ?_)
      clear hK K
      try simp only [Act.put, List.setIfInBounds_toArray, List.set_cons_zero, List.set_cons_succ]
      refine wpAnyH_ready (rs := [4]) (by kernel_rfl) (by simp) ?_
      refine AllReadyH.cons (o := { dst := some 15, op := Op.convert 22 9 (Operand.tmp 14), type := 9, pos := "laws.go:853", after := #[{ on := 3, ground := Ground.data }], guard := none }) rfl (fun K hK => ?_) AllReadyH.nil
      go_simp
      refine hK.out _ _ trivial (fun _ => ?_)
      clear hK K
      try simp only [Act.put, List.setIfInBounds_toArray, List.set_cons_zero, List.set_cons_succ]
      refine wpAnyH_take (i := 5) (oi := { dst := some 16, op := Op.binOp BinOp.neq 9 (Operand.tmp 12) (Operand.tmp 15) 9, type := 4, pos := "laws.go:853", after := #[{ on := 1, ground := Ground.data }, { on := 4, ground := Ground.data }], guard := none }) (v := ?_) rfl (by kernel_rfl) (by kernel_rfl) (by kernel_rfl) (fun _ _ _ h => h) (Or.inl ⟨by rfl, ?_⟩) trivial ?_
      rotate_left 1
      · (intro wq _; go_simp; try with_reducible rfl)
      try simp only [Act.put, List.setIfInBounds_toArray, List.set_cons_zero, List.set_cons_succ]
      refine wpAnyH_done (by kernel_rfl) ?_ _
      go_wp2_with fail
      go_ret
      exact ⟨rfl, HB3.out⟩
    refine AllReadyH.cons (o := { dst := some 14, op := Op.call { callee := Callee.value (Operand.func 15), args := #[Operand.tmp 13], argTypes := #[22] }, type := 22, pos := "laws.go:853", after := #[{ on := 2, ground := Ground.data }], guard := none }) rfl (fun K hK => ?_) AllReadyH.nil
    · go_simp
      refine (hspec.out _ (HI.out.1)).mono ?_
      rintro e w3 ⟨v3, rfl, ho3, _, b3⟩
      obtain ⟨to, tc, rfl, hl3, hO3⟩ := Own.of_owns ho3
      have hcv1 := hst.out w3 so cs (HI.out.2.1.below b3)
      have hcv2 := hst.out w3 to tc hO3.sl
      have HB3 := hide (HI.out.2.2.trans (b3.mono HI.out.2.2.size))
      clear ho3 hl3 hO3 b3
      go_wp2_with fail
      refine hK.out _ _ trivial (fun _ => ?_)
      clear hK K
      try simp only [Act.put, List.setIfInBounds_toArray, List.set_cons_zero, List.set_cons_succ]
      refine wpAnyH_ready (rs := [1, 4]) (by kernel_rfl) (by simp) ?_
      refine AllReadyH.cons (o := { dst := some 12, op := Op.convert 22 9 (Operand.tmp 11), type := 9, pos := "laws.go:853", after := #[{ on := 0, ground := Ground.data }], guard := none }) rfl (fun K hK => ?_) ?_
      · go_simp
        refine hK.out _ _ trivial (fun _ => ?_)
        clear hK K
        try simp only [Act.put, List.setIfInBounds_toArray, List.set_cons_zero, List.set_cons_succ]
        refine wpAnyH_ready (rs := [4]) (by kernel_rfl) (by simp) ?_
        refine AllReadyH.cons (o := { dst := some 15, op := Op.convert 22 9 (Operand.tmp 14), type := 9, pos := "laws.go:853", after := #[{ on := 3, ground := Ground.data }], guard := none }) rfl (fun K hK => ?_) AllReadyH.nil
        go_simp
        refine hK.out _ _ trivial (fun _ => ?_)
        clear hK K
        try simp only [Act.put, List.setIfInBounds_toArray, List.set_cons_zero, List.set_cons_succ]
        refine wpAnyH_take (i := 5) (oi := { dst := some 16, op := Op.binOp BinOp.neq 9 (Operand.tmp 12) (Operand.tmp 15) 9, type := 4, pos := "laws.go:853", after := #[{ on := 1, ground := Ground.data }, { on := 4, ground := Ground.data }], guard := none }) (v := ?_) rfl (by kernel_rfl) (by kernel_rfl) (by kernel_rfl) (fun _ _ _ h => h) (Or.inl ⟨by rfl, ?_⟩) trivial ?_
        rotate_left 1
        · (intro wq _; go_simp; try with_reducible rfl)
        try simp only [Act.put, List.setIfInBounds_toArray, List.set_cons_zero, List.set_cons_succ]
        refine wpAnyH_done (by kernel_rfl) ?_ _
        go_wp2_with fail
        go_ret
        exact ⟨rfl, HB3.out⟩
      refine AllReadyH.cons (o := { dst := some 15, op := Op.convert 22 9 (Operand.tmp 14), type := 9, pos := "laws.go:853", after := #[{ on := 3, ground := Ground.data }], guard := none }) rfl (fun K hK => ?_) AllReadyH.nil
      · go_simp
        refine hK.out _ _ trivial (fun _ => ?_)
        clear hK K
        try simp only [Act.put, List.setIfInBounds_toArray, List.set_cons_zero, List.set_cons_succ]
        refine wpAnyH_ready (rs := [1]) (by kernel_rfl) (by simp) ?_
        refine AllReadyH.cons (o := { dst := some 12, op := Op.convert 22 9 (Operand.tmp 11), type := 9, pos := "laws.go:853", after := #[{ on := 0, ground := Ground.data }], guard := none }) rfl (fun K hK => ?_) AllReadyH.nil
        go_simp
        refine hK.out _ _ trivial (fun _ => ?_)
        clear hK K
        try simp only [Act.put, List.setIfInBounds_toArray, List.set_cons_zero, List.set_cons_succ]
        refine wpAnyH_take (i := 5) (oi := { dst := some 16, op := Op.binOp BinOp.neq 9 (Operand.tmp 12) (Operand.tmp 15) 9, type := 4, pos := "laws.go:853", after := #[{ on := 1, ground := Ground.data }, { on := 4, ground := Ground.data }], guard := none }) (v := ?_) rfl (by kernel_rfl) (by kernel_rfl) (by kernel_rfl) (fun _ _ _ h => h) (Or.inl ⟨by rfl, ?_⟩) trivial ?_
        rotate_left 1
        · (intro wq _; go_simp; try with_reducible rfl)
        try simp only [Act.put, List.setIfInBounds_toArray, List.set_cons_zero, List.set_cons_succ]
        refine wpAnyH_done (by kernel_rfl) ?_ _
        go_wp2_with fail
        go_ret
        exact ⟨rfl, HB3.out⟩
  · go_enter Try.func4, Try.ntmps4
    go_wp2_with fail
    refine (big_yes a0 len0 cap0 _ hn).mono ?_
    rintro e w' ⟨rfl, hw⟩
    rw [hw]
    go_wp2
    go_ret
    exact ⟨rfl, Below.refl _ _⟩

set_option maxRecDepth 100000 in
theorem lifted (os : Os) (started : os.Started) (H : Type) (enc : TypeId × Value → H) :
    ReturnsInHanded {} Try.checked os 4 .any (Rows.fnSqueezeSmallSpec.pre6 enc Try.prog Try.f4 Rows.fnSqueezeSmallRow.domain false) (Rows.fnSqueezeSmallSpec.post enc Try.prog Try.f4 false true false false) := by
  refine returnsInHanded_of_change (C := Try.checked) own started (by kernel_rfl) Try.func4
    (ChangeSpec.witness6 (enc := enc) (C := Try.checked) false ⟨#[], #[.slice none 0 0], []⟩ 8 (by kernel_rfl) (by kernel_rfl) (by kernel_rfl) (by kernel_rfl)) ?_
  intro W base args ds gs before hval0 hW hcnd _
  have hval : ∀ (j : Nat) t v, Try.f4.params[j]? = some t → args[j]? = some v → Value.okWide Try.prog W .any base t v := hval0
  have hW' := hW
  obtain ⟨p, q, hA0, hV, rfl, hfz, hnd⟩ := hW
  have hA : DataW.TrodAll enc Try.prog W 0 (fun _ => true) true Try.f4.params.toList args.toList ds p := hA0
  rw [Try.params4] at hA hval
  obtain ⟨v0, vs0, d0, ds0, p0, q0, hargs, rfl, rfl, h0, r0⟩ := trodAll_cons hA
  obtain ⟨rfl, rfl, rfl⟩ := trodAll_nil r0
  obtain rfl : args = #[v0] := by cases args; simp_all
  obtain ⟨rfl, rfl⟩ := trodVars_none hV
  obtain ⟨a0, len0, cap0, rfl⟩ := okWide_slice Try.underlying22 (hval 0 22 v0 rfl rfl)
  have k0 := h0
  have lt0 : ∀ x ∈ p0, x.block < W.heap.size := by obtain ⟨m, hm⟩ := k0; exact DataW.trod_lt m _ _ _ hm
  obtain ⟨z0, w0⟩ : ∃ zs, IsRow .u8 W a0 len0 cap0 zs := by
    obtain ⟨fuel, hf⟩ := h0
    rcases open_ints Try.underlying22 Try.underlying5 (by kernel_rfl) hf with ⟨hcs, _⟩ | ⟨x, l, c, zs, hcs, _, hl, hm, hz, _, hcell, hwz⟩
    · simp [Value.cells] at hcs
      obtain ⟨rfl, rfl, rfl⟩ := hcs
      exact ⟨[], .inl ⟨rfl, rfl, rfl, rfl⟩⟩
    · simp [Value.cells] at hcs
      obtain ⟨rfl, rfl, rfl⟩ := hcs
      exact ⟨zs, .inr ⟨_, rfl, hl, hm, by simpa using hz, hcell, hwz⟩⟩
  clear hA0 hval0
  refine (walk a0 len0 cap0 z0 W w0).mono fun e W' ⟨he, bel⟩ => ?_
  subst he
  exact ⟨_, rfl, _, _, _, [], _, [], hW', trodAll_mk1 (shut_bool Try.underlying4 _), (trodAll_cons_mk (Below.trod laidOut (by kernel_rfl) (of_decide_eq_true (by kernel_rfl)) k0 bel lt0) trodAll_mk0), rfl, bel.frame _, fun h => by cases h⟩

theorem over : Rows.fnSqueezeSmallRow.holds Try.pinned (OpenSpec.ofChange Rows.fnSqueezeSmallSpec) :=
  OpenClaim.holds_of_wide 4 Try.f4 rfl rfl rfl rfl rfl rfl rfl ⟨rfl, rfl, rfl, rfl, rfl⟩ rfl rfl rfl rfl rfl (by kernel_rfl) Try.func4 (by kernel_rfl)
    (of_decide_eq_true (by kernel_rfl)) (by unfold Func.isWrapper; first | (rw [if_pos (by decide +kernel)]; kernel_rfl) | (rw [if_neg (by decide +kernel)]; exact ⟨rfl, rfl⟩))
    (fun os started H enc _ => lifted os started H enc)

theorem proved : Rows.FnSqueezeSmallSaid := over
end Go.Proofs.Ythnlcijmlcaepaa.fnSqueezeSmall
namespace Go.Proofs.Ythnlcijmlcaepaa
theorem fnSqueezeSmall_holds : Rows.FnSqueezeSmallSaid := fnSqueezeSmall.proved
end Go.Proofs.Ythnlcijmlcaepaa

/- FnDifferPuts returns true for every slice of bytes, and the slice reads behind the call as before it: what two drawn images differ in, put from one into the other, makes that one of it, from both sides. -/
import Derived.Test.YthbegalohfbibaaRows
import Derived.WalkKit
import Derived.ProofKit
import Derived.OpenShut
import Derived.ShutString
import Derived.Test.YthbegalohfbibaaDifP
import Derived.ChangeOld
import Derived.Below
namespace Go.Proofs.Ythbegalohfbibaa.fnDifferPuts
open Go.ChangeShapes Go.WideShapes Go.ChangeAt Go.RowKit
open Go.ChangeMaps (open_string shut_string)
set_option linter.unusedVariables false

theorem own : ownKnob Try.prog.godebug = none := by kernel_rfl
theorem laidOut : laidOutB Try.prog = true := by kernel_rfl

/-- WHAT THE WALK IS TOLD OF A SLICE OF INTEGERS THAT CAME IN: it is nil; or it leads to a row of 'cap' cells, the numbers 'zs' (the first 'len' are its elements, the rest its spare room), each fitting its kind. -/
def IsRow (k : IntKind) (w : World) (a : Option Addr) (len cap : Nat) (zs : List Int) : Prop :=
  (a = none ∧ len = 0 ∧ cap = 0 ∧ zs = []) ∨
  ∃ x, a = some x ∧ len ≤ cap ∧ cap ≤ maxLen ∧ zs.length = cap ∧ (∀ i, i < zs.length → w.cell? (x.add i) = some (.int k (zs.getD i 0))) ∧ ∀ n ∈ zs, (Lit.int k n).wf = true

theorem walk (a0 : Option Addr) (len0 cap0 : Nat) (z0 : List Int) (w : World) (w0 : IsRow .u8 w a0 len0 cap0 z0) :
    Calls Try.prog 3 #[.slice a0 len0 cap0] w fun e w' => e = .returned (.bool true) ∧ Below w.heap.size w w' := by
  obtain ⟨f, hs, hf0⟩ := view w0
  have hf := view_u8 hf0
  clear w0 hf0
  by_cases hn : len0 ≤ 1048576
  · go_enter Try.func3, Try.ntmps3
    have HS := hide hs
    have HF := hide hf
    clear hs hf
    go_wp2_with fail
    refine (big_no a0 len0 cap0 _ hn).mono ?_
    rintro e w' ⟨rfl, hw⟩
    rw [hw]
    clear hw
    go_wp2_with fail
    refine (draw_differ a0 len0 cap0 f _ hn HS.out HF.out).mono ?_
    rintro e w1 ⟨⟨ba, na, ca, bb, nb, cb, Fa, Fb, rfl, hna, hnb, sa, sb⟩, b1⟩
    have HA := hide sa
    have HB := hide sb
    have HB1 := hide b1
    clear sa sb b1 HS HF
    go_wp2_with fail
    refine (differ_both _ _ na nb ca cb Fa Fb _ hna hnb HA.out HB.out).1.mono ?_
    rintro e w2 ⟨lo, lc, rfl, sl, b2⟩
    have HD : Hid ((dif (alike Fa Fb na nb) 8).length ≤ 8) := dif_len _ _
    obtain ⟨D, hD⟩ : ∃ D, D = dif (alike Fa Fb na nb) 8 := ⟨_, rfl⟩
    rw [← hD] at sl HD ⊢
    obtain ⟨r, hr⟩ : ∃ r, r = D.length := ⟨_, rfl⟩
    rw [← hr] at sl HD ⊢
    have hr8 : r ≤ 8 := HD.out
    have HR : Hid (r = D.length) := hr
    have HDD : Hid (D = dif (alike Fa Fb na nb) 8) := hD
    have HL := hide sl
    have HA2 := hide (HA.out.below b2)
    have HB2 := hide (HB.out.below b2)
    have HC2 := hide (HB1.out.trans (b2.mono HB1.out.size))
    clear sl b2 HA HB HB1 hr hD HD
    go_wp2_with fail
    refine (differ_both _ _ na nb ca cb Fa Fb _ hna hnb HA2.out HB2.out).2.mono ?_
    rintro e w3 ⟨lo2, lc2, rfl, sl, b3⟩
    rw [← HDD.out, ← HR.out] at sl
    rw [← HDD.out, ← HR.out]
    have HL2 := hide sl
    have HL3 := hide (HL.out.below b3)
    have HA3 := hide (HA2.out.below b3)
    have HB3 := hide (HB2.out.below b3)
    have HC3 := hide (HC2.out.trans (b3.mono HC2.out.size))
    clear sl b3 HL HA2 HB2 HC2
    go_wp2_with fail
    refine (same_yes lo lo2 r _ _ _ _ _ (by omega) HL3.out HL2.out (fun _ _ => rfl)).mono ?_
    rintro e w3' ⟨rfl, q3, rfl⟩
    go_wp2_with fail
    refine (imageok_impl _ na ca Fa _ (by omega) (show SL .i64 (w3.drewN q3) _ na Fa from HA3.out)).mono ?_
    rintro e w4 ⟨⟨ok1, rfl, hok1⟩, rfl⟩
    have HO1 := hide hok1
    clear hok1 HL2
    cases ok1 with
    | false =>
      go_wp2_with fail
      go_ret
      exact ⟨rfl, Below.drawn HC3.out _⟩
    | true =>
      go_wp2_with fail
      refine (imageok_impl _ nb cb Fb _ (by omega) (show SL .i64 (w3.drewN q3) _ nb Fb from HB3.out)).mono ?_
      rintro e w4 ⟨⟨ok2, rfl, hok2⟩, rfl⟩
      have HO2 := hide hok2
      clear hok2
      cases ok2 with
      | false =>
        go_wp2_with fail
        go_ret
        exact ⟨rfl, Below.drawn HC3.out _⟩
      | true =>
        obtain rfl : na = 8 := (HO1.out.1 (by trivial)).1
        obtain rfl : nb = 8 := (HO2.out.1 (by trivial)).1
        clear HO1 HO2
        have HL4 : Hid (SL .i64 (w3.drewN q3) lo r (fun i => D.getD i 0)) := HL3
        have HA4 : Hid (SL .i64 (w3.drewN q3) (some ⟨ba, 0, none⟩) 8 Fa) := HA3
        have HB4 : Hid (SL .i64 (w3.drewN q3) (some ⟨bb, 0, none⟩) 8 Fb) := HB3
        have HC4 : Hid (Below w.heap.size w (w3.drewN q3)) := Below.drawn HC3.out _
        clear HL3 HA3 HB3 HC3
        generalize w3.drewN q3 = w4 at *
        obtain ⟨i0, hi, hz0, hz1, hz2⟩ := info_parts Try.info3
        have hnews := hide (news_of HA4.out ((Below.refl w4.heap.size w4).alloc (Nat.le_refl _) (.cells #[] 3)))
        have hone := hide (app_ones .i64 (lst Fa 8))
        go_wp2_with (first
          | (at_builtin; refine wpList_append_own _ rfl _ _ 24 rfl w4.heap.size 3 i0 (.int .i64 0) 1 8 Try.underlying24 hi hz0 hz1 hz2 rfl (by decide) _ _ _ rfl (owns_empty (Nat.le_refl _)) ⟨ba, 0, none⟩ 8 ca ((lst Fa 8).map (.int .i64)) rfl (by simp [lst]) hnews.out hone.out (app_lens (by omega)) (by omega) (by simp) ?_; intro v' w5 hown' hgrow hnn))
        have b5 := grown_below ((Below.refl w4.heap.size w4).alloc (Nat.le_refl _) _) (by simp) (owns_empty (Nat.le_refl _)) hgrow
        obtain ⟨mo, mc, rfl, ho⟩ := own_lst (f := Fa) (n := 8) (by simpa using hown')
        obtain ⟨bm, rfl, _⟩ := ho.at (i := 0) (by omega)
        have HM := hide ho.sl
        have HL5 := hide (HL4.out.below b5)
        have HA5 := hide (HA4.out.below b5)
        have HB5 := hide (HB4.out.below b5)
        have HC5 := hide (HC4.out.trans (b5.mono HC4.out.size))
        clear b5 ho hown' hgrow hnn hnews hone HL4 HA4 HB4 HC4
        go_wp2_with fail
        go_loopw [6, 7] (fun v i wr => ∃ (k bm cm : Nat) (F : Nat → Int), k ≤ r ∧ i = .int .i64 k ∧ v = .slice (some ⟨bm, 0, none⟩) 8 cm ∧ Hid (SL .i64 wr (some ⟨bm, 0, none⟩) 8 F ∧ PutUp D Fa Fb F k ∧ Below w5.heap.size w5 wr)) (fun _ i _ => r - (intOf i).toNat)
        case atStart => exact ⟨0, bm, mc, Fa, by omega, rfl, rfl, HM.out, PutUp.zero (fun _ _ => rfl), Below.refl _ _⟩
        case round =>
          obtain ⟨k, bm', cm, F, hk, rfl, rfl, HI⟩ := hrel
          clear HM
          by_cases hlt : k < r
          · obtain ⟨d, hd8, hdk, hdg⟩ : ∃ d : Nat, d < 8 ∧ D[k]? = some (d : Int) ∧ D.getD k 0 = (d : Int) := by
              have hkD : k < D.length := by have := HR.out; omega
              have hmem : D[k] ∈ dif (alike Fa Fb 8 8) 8 := by rw [← HDD.out]; exact List.getElem_mem hkD
              obtain ⟨j, hj, e, _⟩ := mem_dif.1 hmem
              exact ⟨j, hj, by rw [List.getElem?_eq_getElem hkD, e], by simp [List.getD, hkD, e]⟩
            obtain ⟨bl, offl, rfl, hbl, hcl0⟩ := HL5.out k hlt
            have hcl1 : w5.cell? ⟨bl, offl + k, none⟩ = some (.int .i64 (d : Int)) := by rw [← hdg]; exact hcl0
            have hcl := (HI.out.2.2.cell (p := ⟨bl, offl + k, none⟩) hbl).trans hcl1
            obtain ⟨bb', offb, eb, hbb, hcb0⟩ := HB5.out d hd8
            simp only [Option.some.injEq, Addr.mk.injEq] at eb
            obtain ⟨rfl, rfl, _⟩ := eb
            rw [Nat.zero_add] at hcb0
            have hcb := (HI.out.2.2.cell (p := ⟨bb, d, none⟩) hbb).trans hcb0
            have HK := hide hdk
            clear hcl0 hcl1 hcb0 hdk hdg
            generalize hy : Fb d = y at hcb
            have HY : Hid (Fb d = y) := hy
            clear hy
            go_wp2_with fail
            have hd8' : (d : Int) < 8 := by omega
            have hd0' : (0 : Int) ≤ (d : Int) := by omega
            have hblw : bl < wr.heap.size := Nat.lt_of_lt_of_le hbl HI.out.2.2.size
            have hbbw : bb < wr.heap.size := Nat.lt_of_lt_of_le hbb HI.out.2.2.size
            clear HL5 HA5 HB5 HC5 HR HDD
            go_region_held3 (fun w' => w'.cell? ⟨bl, offl + k, none⟩ = some (.int .i64 (d : Int)) ∧ w'.cell? ⟨bb, d, none⟩ = some (.int .i64 y)) (first | assumption | go_keep) (first
              | (go_at_call 13; refine (put_impl_c ⟨bm', 0, none⟩ 8 cm F (d : Int) y wr.drew (by omega) (show SL .i64 wr.drew _ 8 F from HI.out.1)).mono ?_; rintro e w7 ⟨ro, rc, rfl, o7, b7⟩; have hkeep : w7.cell? ⟨bl, offl + k, none⟩ = some (.int .i64 (d : Int)) ∧ w7.cell? ⟨bb, d, none⟩ = some (.int .i64 y) := ⟨cell_drew hcl b7 hblw, cell_drew hcb b7 hbbw⟩; have HO7 := hide o7; have HB7 := hide b7; clear o7 b7))
            all_goals
              obtain ⟨b8, rfl, _⟩ := HO7.out.at (i := 0) (by omega)
              go_wp2_with fail
              go_roundw
              case rel => exact ⟨k + 1, b8, rc, _, by omega, by go_num, rfl, HO7.out.sl, HY.out ▸ HI.out.2.1.step HK.out, (Below.drawn HI.out.2.2 1).trans (HB7.out.mono HI.out.2.2.size)⟩
              case measure => simp [intOf]; omega
          · obtain rfl : k = r := by omega
            have hdone := hide (PutUp.done (HDD.out ▸ HI.out.2.1) (by rw [← HDD.out]; exact HR.out.symm))
            have HM6 := hide HI.out.1
            have HL6 := hide (HL5.out.below HI.out.2.2)
            have HA6 := hide (HA5.out.below HI.out.2.2)
            have HB6 := hide (HB5.out.below HI.out.2.2)
            have HC6 := hide (HC5.out.trans (HI.out.2.2.mono HC5.out.size))
            clear HL5 HA5 HB5 HC5 HI
            go_wp2_with fail
            refine (same_yes _ _ 8 _ _ F Fb _ (by omega) HM6.out HB6.out hdone.out).mono ?_
            rintro e w6 ⟨rfl, q6, rfl⟩
            go_wp2_with fail
            refine (differ_both _ _ 8 8 cb ca Fb Fa (wr.drewN q6) (by omega) (by omega) HB6.out HA6.out).1.mono ?_
            rintro e w7 ⟨so, sc, rfl, ss, b7⟩
            rw [dif_comm, ← HDD.out, ← HR.out] at ss
            rw [dif_comm, ← HDD.out, ← HR.out]
            have hx : Below wr.heap.size wr w7 := (Below.drawn (Below.refl _ wr) q6).trans b7
            have HS7 := hide ss
            have HL7 := hide (HL6.out.below hx)
            have HM7 := hide (HM6.out.below hx)
            have HB7 := hide (HB6.out.below hx)
            have HC7 := hide (HC6.out.trans (hx.mono HC6.out.size))
            clear ss hx b7 HL6 HM6 HB6 HC6 HA6
            go_wp2_with fail
            refine (same_yes so lo k _ _ _ _ _ (by omega) HS7.out HL7.out (fun _ _ => rfl)).mono ?_
            rintro e w8 ⟨rfl, q8, rfl⟩
            go_wp2_with fail
            refine (differ_both _ _ 8 8 cm cb F Fb (w7.drewN q8) (by omega) (by omega) HM7.out HB7.out).1.mono ?_
            rintro e w9 ⟨uo, uc, rfl, us, b9⟩
            rw [dif_same hdone.out]
            have HC9 := hide ((Below.drawn HC7.out q8).trans (b9.mono HC7.out.size))
            clear us b9 HC7
            go_wp2_with fail
            go_ret
            exact ⟨rfl, HC9.out⟩
  · go_enter Try.func3, Try.ntmps3
    go_wp2_with fail
    refine (big_yes a0 len0 cap0 _ hn).mono ?_
    rintro e w' ⟨rfl, rfl⟩
    go_wp2
    go_ret
    exact ⟨rfl, Below.refl _ _⟩

set_option maxRecDepth 100000 in
theorem lifted (os : Os) (started : os.Started) (H : Type) (enc : TypeId × Value → H) :
    ReturnsInHanded {} Try.checked os 3 .any (Rows.fnDifferPutsSpec.pre6 enc Try.prog Try.f3 Rows.fnDifferPutsRow.domain false) (Rows.fnDifferPutsSpec.post enc Try.prog Try.f3 false true false false) := by
  refine returnsInHanded_of_change (C := Try.checked) own started (by kernel_rfl) Try.func3
    (ChangeSpec.witness6 (enc := enc) (C := Try.checked) false ⟨#[], #[.slice none 0 0], []⟩ 8 (by kernel_rfl) (by kernel_rfl) (by kernel_rfl) (by kernel_rfl)) ?_
  intro W base args ds gs before hval0 hW hcnd _
  have hval : ∀ (j : Nat) t v, Try.f3.params[j]? = some t → args[j]? = some v → Value.okWide Try.prog W .any base t v := hval0
  have hW' := hW
  obtain ⟨p, q, hA0, hV, rfl, hfz, hnd⟩ := hW
  have hA : DataW.TrodAll enc Try.prog W 0 (fun _ => true) true Try.f3.params.toList args.toList ds p := hA0
  rw [Try.params3] at hA hval
  obtain ⟨v0, vs0, d0, ds0, p0, q0, hargs, rfl, rfl, h0, r0⟩ := trodAll_cons hA
  obtain ⟨rfl, rfl, rfl⟩ := trodAll_nil r0
  obtain rfl : args = #[v0] := by cases args; simp_all
  obtain ⟨rfl, rfl⟩ := trodVars_none hV
  obtain ⟨a0, len0, cap0, rfl⟩ := okWide_slice Try.underlying22 (hval 0 22 v0 rfl rfl)
  have k0 := h0
  have lt0 : ∀ x ∈ p0, x.block < W.heap.size := by obtain ⟨m, hm⟩ := k0; exact DataW.trod_lt m _ _ _ hm
  obtain ⟨z0, w0⟩ : ∃ zs, IsRow .u8 W a0 len0 cap0 zs := by
    obtain ⟨fuel, hf⟩ := h0
    rcases open_ints Try.underlying22 Try.underlying5 (by kernel_rfl) hf with ⟨hcs, _⟩ | ⟨x, l, c, zs, hcs, _, hl, hm, hz, _, hcell, hwz⟩
    · simp [Value.cells] at hcs
      obtain ⟨rfl, rfl, rfl⟩ := hcs
      exact ⟨[], .inl ⟨rfl, rfl, rfl, rfl⟩⟩
    · simp [Value.cells] at hcs
      obtain ⟨rfl, rfl, rfl⟩ := hcs
      exact ⟨zs, .inr ⟨_, rfl, hl, hm, by simpa using hz, hcell, hwz⟩⟩
  clear hA0 hval0
  refine (walk a0 len0 cap0 z0 W w0).mono fun e W' ⟨he, bel⟩ => ?_
  subst he
  exact ⟨_, rfl, _, _, _, [], _, [], hW', trodAll_mk1 (shut_bool Try.underlying4 _), (trodAll_cons_mk (Below.trod laidOut (by kernel_rfl) (of_decide_eq_true (by kernel_rfl)) k0 bel lt0) trodAll_mk0), rfl, bel.frame _, fun h => by cases h⟩

theorem over : Rows.fnDifferPutsRow.holds Try.pinned (OpenSpec.ofChange Rows.fnDifferPutsSpec) :=
  OpenClaim.holds_of_wide 3 Try.f3 rfl rfl rfl rfl rfl rfl rfl ⟨rfl, rfl, rfl, rfl, rfl⟩ rfl rfl rfl rfl rfl (by kernel_rfl) Try.func3 (by kernel_rfl)
    (of_decide_eq_true (by kernel_rfl)) (by unfold Func.isWrapper; first | (rw [if_pos (by decide +kernel)]; kernel_rfl) | (rw [if_neg (by decide +kernel)]; exact ⟨rfl, rfl⟩))
    (fun os started H enc _ => lifted os started H enc)

theorem proved : Rows.FnDifferPutsSaid := over
end Go.Proofs.Ythbegalohfbibaa.fnDifferPuts
namespace Go.Proofs.Ythbegalohfbibaa
theorem fnDifferPuts_holds : Rows.FnDifferPutsSaid := fnDifferPuts.proved
end Go.Proofs.Ythbegalohfbibaa

/- Of drawn generations what is pushed is newer; newer is told from both sides. -/
import Derived.Test.YtjbhgedbkajmdaaRows
import Derived.WalkKit
import Derived.ProofKit
import Derived.OpenShut
import Derived.ShutString
import Derived.Test.YtjbhgedbkajmdaaDrawG2
import Derived.Test.YtjbhgedbkajmdaaBig
import Derived.ChangeOld
import Derived.Below
namespace Go.Proofs.Ytjbhgedbkajmdaa.fnGens
open Go.ChangeShapes Go.WideShapes Go.ChangeAt Go.RowKit
open Go.ChangeMaps (open_string shut_string)
set_option linter.unusedVariables false

theorem own : ownKnob Try.prog.godebug = none := by kernel_rfl
theorem laidOut : laidOutB Try.prog = true := by kernel_rfl

/-- WHAT THE WALK IS TOLD OF A SLICE OF INTEGERS THAT CAME IN: it is nil; or it leads to a row of 'cap' cells, the numbers 'zs' (the first 'len' are its elements, the rest its spare room), each fitting its kind. -/
def IsRow (k : IntKind) (w : World) (a : Option Addr) (len cap : Nat) (zs : List Int) : Prop :=
  (a = none ∧ len = 0 ∧ cap = 0 ∧ zs = []) ∨
  ∃ x, a = some x ∧ len ≤ cap ∧ cap ≤ maxLen ∧ zs.length = cap ∧ (∀ i, i < zs.length → w.cell? (x.add i) = some (.int k (zs.getD i 0))) ∧ ∀ n ∈ zs, (Lit.int k n).wf = true

/-- What is kept in view. -/
def KS (w0 w : World) (vs : List (Value × List Int)) : Prop := (∀ p ∈ vs, VI w p.1 p.2) ∧ Below w0.heap.size w0 w
theorem KS.below {w0 w w' : World} {vs : List (Value × List Int)} (h : KS w0 w vs) (hb : Below w.heap.size w w') : KS w0 w' vs := ⟨fun p hp => (h.1 p hp).below hb, h.2.trans (hb.mono h.2.size)⟩
theorem KS.add {w0 w : World} {vs : List (Value × List Int)} {v : Value} {L : List Int} (h : KS w0 w vs) (hv : VI w v L) : KS w0 w ((v, L) :: vs) :=
  ⟨fun p hp => by rcases List.mem_cons.1 hp with rfl | hp; exact hv; exact h.1 p hp, h.2⟩
theorem wf5 {x : Int} (h : x ∈ ([1, 9, 50, 0, 100001] : List Int)) : (Lit.int .i64 x).wf = true := wf_small (by simp at h; omega) (by simp at h; omega)
theorem nw_cases {L M : List Int} {r : Int} (h : NwL L M r) : r = 0 ∨ r = 1 ∨ r = 2 ∨ r = 3 := by
  rcases h with ⟨_, e⟩ | ⟨_, _, e⟩ | ⟨_, _, _, e⟩ | ⟨_, _, _, e⟩
  · exact .inl e
  · exact .inr (.inl e)
  · exact .inr (.inr (.inl e))
  · exact .inr (.inr (.inr e))
/-- What Newer says from both sides. -/
def Syn (r s : Int) : Prop := (r = 0 ∧ s = 0) ∨ r = 1 ∨ (r = 2 ∧ s = 1) ∨ (r = 3 ∧ s = 3)
theorem nw_syn {L M : List Int} {r s : Int} (h : NwL L M r) (h' : NwL M L s) : Syn r s := by
  have hs := new_sym h h'
  rcases nw_cases h with e | e | e | e
  · exact .inl ⟨e, hs.1 e⟩
  · exact .inr (.inl e)
  · exact .inr (.inr (.inl ⟨e, hs.2.2 e⟩))
  · exact .inr (.inr (.inr ⟨e, hs.2.1 e⟩))
set_option maxHeartbeats 4000000 in
theorem walk (a0 : Option Addr) (len0 cap0 : Nat) (z0 : List Int) (w : World) (w0 : IsRow .u8 w a0 len0 cap0 z0) :
    Calls Try.prog 4 #[.slice a0 len0 cap0] w fun e w' => e = .returned (.bool true) ∧ Below w.heap.size w w' := by
  obtain ⟨f, hs, hwf⟩ := view w0
  have hf := view_u8 hwf
  clear w0 hwf
  by_cases hn : len0 ≤ 1048576
  · have HS := hide hs
    have HF := hide hf
    clear hs hf
    go_enter Try.func4, Try.ntmps4
    go_wp2_with fail
    refine (big_no a0 len0 cap0 w hn).mono ?_
    rintro e w' ⟨rfl, hw⟩
    rw [hw]
    clear hw
    go_wp2_with fail
    refine (draw_genpush a0 len0 cap0 f w hn HS.out HF.out).mono ?_
    rintro e w1 ⟨vg, G, x, rfl, hG, hx, vi1, b1⟩
    have hGl : G.length ≤ 12 := hG.2.1
    have HG := hide hG
    have HX := hide hx
    have K1 : Hid (KS w w1 [(vg, G)]) := ⟨fun p hp => by simp at hp; rw [hp]; exact vi1, b1⟩
    clear hG hx vi1 b1
    go_wp2_with fail
    refine (genpush_impl Classical.propDecidable vg G x w1 (by omega) (K1.out.1 (vg, G) (by simp)).src (wf5 HX.out) (fun y hy => wf_small (by have := HG.out.2.2 y hy; omega) (by have := HG.out.2.2 y hy; omega))).mono ?_
    rintro e w2 ⟨va, rfl, oa, b2⟩
    have hAl0 := gpl_len1 (D := Classical.propDecidable) x G
    generalize hA0 : gpl Classical.propDecidable x G = A at *
    have hAl : A.length ≤ 13 := by omega
    have HA := hide hA0
    have K2 := hide ((K1.out.below b2).add (VI.of oa))
    clear hA0 oa b2 K1 hAl0
    go_wp2_with fail
    refine (draw_newer a0 len0 cap0 f w2 hn (HS.out.below K2.out.2) HF.out).mono ?_
    rintro e w3 ⟨vx, vy, X, Y, rfl, ⟨hX, hY⟩, vix, viy, b3⟩
    have K3 := hide (((K2.out.below b3).add vix).add viy)
    clear vix viy b3 K2
    go_wp2_with fail
    refine (newI vx vy X Y w3 hX hY (K3.out.1 (vx, X) (by simp)) (K3.out.1 (vy, Y) (by simp))).mono ?_
    rintro e w4 ⟨⟨r, rfl, hr⟩, b4⟩
    have HR := hide hr
    have K4 := hide (K3.out.below b4)
    clear hr b4 K3
    go_wp2_with fail
    refine (draw_gensok a0 len0 cap0 f w4 hn (HS.out.below K4.out.2) HF.out).mono ?_
    rintro e w5 ⟨vo, O, rfl, hO, vio, b5⟩
    have hOl : O.length ≤ 12 := hO.2.1
    have K5 := hide ((K4.out.below b5).add vio)
    clear hO vio b5 K4
    go_wp2_with fail
    refine (genpush_x Classical.propDecidable vg G x w5 (by omega) (K5.out.1 (vg, G) (by simp)).src).mono ?_
    rintro e w6 ⟨vb, rfl, ob, b6⟩
    rw [HA.out] at ob
    have K6 := hide ((K5.out.below b6).add (VI.of ob))
    clear ob b6 K5
    go_wp2_with fail
    refine (sameL va vb A w6 (by omega) (K6.out.1 (va, A) (by simp)) (K6.out.1 (vb, A) (by simp))).mono ?_
    rintro e w7 ⟨rfl, b7⟩
    have K7 := hide (K6.out.below b7)
    clear b7 K6
    go_wp2_with fail
    refine (newS vx vy X Y w7 hX hY (K7.out.1 (vx, X) (by simp)) (K7.out.1 (vy, Y) (by simp))).mono ?_
    rintro e w8 ⟨⟨r', rfl, hr'⟩, b8⟩
    obtain rfl : r' = r := hr'.uniq HR.out
    have K8 := hide (K7.out.below b8)
    clear hr' b8 K7
    go_wp2_with fail
    refine (gensI vo O w8 (by omega) (K8.out.1 (vo, O) (by simp))).mono ?_
    rintro e w9 ⟨⟨bo, rfl, hbo⟩, b9⟩
    have HO := hide hbo
    have K9 := hide (K8.out.below b9)
    clear hbo b9 K8
    go_wp2_with fail
    refine (gensS vo O w9 (by omega) (K9.out.1 (vo, O) (by simp))).mono ?_
    rintro e w10 ⟨⟨bo', rfl, hbo'⟩, b10⟩
    obtain rfl : bo' = bo := Bool.eq_iff_iff.2 (hbo'.trans HO.out.symm)
    have K10 := hide (K9.out.below b10)
    clear hbo' b10 K9 HO
    go_wp2_with fail
    refine (gensI vx X w10 hX (K10.out.1 (vx, X) (by simp))).mono ?_
    rintro e w11 ⟨⟨bx, rfl, hbx⟩, b11⟩
    have K11 := hide (K10.out.below b11)
    clear hbx b11 K10
    cases bx with
    | false =>
      go_wp2
      go_ret
      exact ⟨rfl, K11.out.2⟩
    | true =>
      go_wp2_with fail
      refine (gensI vy Y w11 hY (K11.out.1 (vy, Y) (by simp))).mono ?_
      rintro e w12 ⟨⟨by0, rfl, hby⟩, b12⟩
      have K12 := hide (K11.out.below b12)
      clear hby b12 K11
      cases by0 with
      | false =>
        go_wp2
        go_ret
        exact ⟨rfl, K12.out.2⟩
      | true =>
        go_wp2_with fail
        refine (gensI vg G w12 (by omega) (K12.out.1 (vg, G) (by simp))).mono ?_
        rintro e w13 ⟨⟨bg, rfl, hbg⟩, b13⟩
        have HBG := hide hbg
        have K13 := hide (K12.out.below b13)
        clear hbg b13 K12
        cases bg with
        | false =>
          go_wp2
          go_ret
          exact ⟨rfl, K13.out.2⟩
        | true =>
          have HGo : Hid (LGo G) := HBG.out.1 rfl
          clear HBG
          go_wp2_with fail
          refine (newI vy vx Y X w13 hY hX (K13.out.1 (vy, Y) (by simp)) (K13.out.1 (vx, X) (by simp))).mono ?_
          rintro e w14 ⟨⟨s, rfl, hsn⟩, b14⟩
          have hsyn := nw_syn HR.out hsn
          have K14 := hide (K13.out.below b14)
          clear hsn b14 K13 HR
          rcases hsyn with ⟨rfl, rfl⟩ | rfl | ⟨rfl, rfl⟩ | ⟨rfl, rfl⟩
          all_goals
            go_wp2_with fail
            refine (withinL vg G x w14 (by omega) (K14.out.1 (vg, G) (by simp))).mono ?_
            rintro e w15 ⟨⟨bw, rfl, hbw⟩, b15⟩
            have K15 := hide (K14.out.below b15)
            have HBW := hide hbw
            clear hbw b15 K14
            by_cases hbad : bw = true ∨ x < 1 ∨ 100000 < x
            · have hAG : A = G := by
                rw [← HA.out]
                exact gpl_same HG.out HX.out (hbad.imp HBW.out.1 id)
              have HS2 := hide (sameL va vg A w15 (by omega) (K15.out.1 (va, A) (by simp)) (hAG ▸ K15.out.1 (vg, G) (by simp)))
              have hcase : (bw = true) ∨ (bw = false ∧ x < 1) ∨ (bw = false ∧ ¬ x < 1 ∧ 100000 < x) := by
                cases bw
                · by_cases h1 : x < 1
                  · exact .inr (.inl ⟨rfl, h1⟩)
                  · rcases hbad with h | h | h
                    · cases h
                    · exact absurd h h1
                    · exact .inr (.inr ⟨rfl, h1, h⟩)
                · exact .inl rfl
              clear hbad hAG HBW
              rcases hcase with rfl | ⟨rfl, h1⟩ | ⟨rfl, h1, h2⟩
              all_goals
                go_wp2_with fail
                refine HS2.out.mono ?_
                rintro e w16 ⟨rfl, b16⟩
                have B16 := hide (K15.out.below b16).2
                clear b16
                go_wp2
                go_ret
                exact ⟨rfl, B16.out⟩
            · obtain ⟨hb0, h1, h2⟩ : bw = false ∧ ¬ x < 1 ∧ ¬ 100000 < x := by
                refine ⟨?_, fun h => hbad (.inr (.inl h)), fun h => hbad (.inr (.inr h))⟩
                cases bw
                · rfl
                · exact absurd (.inl rfl) hbad
              subst hb0
              have hxG : x ∉ G := fun h => by have := HBW.out.2 h; cases this
              have hnew := gpl_newer (D := Classical.propDecidable) HGo.out hxG (by omega) (by omega)
              rw [HA.out] at hnew
              obtain ⟨n1, n2, n3, n4⟩ := hnew
              have N1 := hide n1
              have N4 := hide n4
              clear hbad HBW hxG n1 n4
              go_wp2_with fail
              refine (gensI va A w15 (by omega) (K15.out.1 (va, A) (by simp))).mono ?_
              rintro e w16 ⟨⟨ba, rfl, hba⟩, b16⟩
              obtain rfl : ba = true := hba.2 N1.out
              have K16 := hide (K15.out.below b16)
              clear hba b16 K15
              have va1 : VI w16 va A := K16.out.1 (va, A) (by simp)
              obtain ⟨aa, ca, rfl, _, hsa, hca⟩ := va1.form
              obtain ⟨b, off, rfl, hb, hc⟩ := hsa 0 n3
              simp only [n2, Nat.add_zero] at hc
              have vg1 : VI w16 vg G := K16.out.1 (vg, G) (by simp)
              obtain ⟨ag, cg, rfl, _, _, _⟩ := vg1.form
              have hAp : (0 : Int) < (A.length : Int) := by omega
              have VA1 := hide va1
              have VG1 := hide vg1
              clear hsa n2 va1 vg1
              by_cases g0 : G.length = 0
              · have hg0 : (G.length : Int) = 0 := by omega
                go_wp2
                go_ret
                exact ⟨rfl, K16.out.2⟩
              · have hg0 : decide ((G.length : Int) = 0) = false := by simpa using g0
                have hg1 : ¬ (G.length : Int) = 0 := by omega
                have hNW := hide (newI _ _ A G w16 (by omega) (by omega) VA1.out VG1.out)
                go_wp2_with fail
                refine hNW.out.mono ?_
                rintro e w17 ⟨⟨t, rfl, ht⟩, b17⟩
                obtain rfl : t = 1 := ht.uniq (N4.out (by omega))
                have B17 := hide (K16.out.below b17).2
                clear b17 ht
                go_wp2
                go_ret
                exact ⟨rfl, B17.out⟩
  · go_enter Try.func4, Try.ntmps4
    go_wp2_with fail
    refine (big_yes a0 len0 cap0 w hn).mono ?_
    rintro e w' ⟨rfl, hw⟩
    rw [hw]
    clear hw
    go_wp2
    go_ret
    exact ⟨rfl, Below.refl _ _⟩

set_option maxRecDepth 100000 in
theorem lifted (os : Os) (started : os.Started) (H : Type) (enc : TypeId × Value → H) :
    ReturnsInHanded {} Try.checked os 4 .any (Rows.fnGensSpec.pre6 enc Try.prog Try.f4 Rows.fnGensRow.domain false) (Rows.fnGensSpec.post enc Try.prog Try.f4 false true false false) := by
  refine returnsInHanded_of_change (C := Try.checked) own started (by kernel_rfl) Try.func4
    (ChangeSpec.witness6 (enc := enc) (C := Try.checked) false ⟨#[], #[.slice none 0 0], []⟩ 8 (by kernel_rfl) (by kernel_rfl) (by kernel_rfl) (by kernel_rfl)) ?_
  intro W base args ds gs before hval0 hW hcnd _
  have hval : ∀ (j : Nat) t v, Try.f4.params[j]? = some t → args[j]? = some v → Value.okWide Try.prog W .any base t v := hval0
  have hW' := hW
  obtain ⟨p, q, hA0, hV, rfl, hfz, hnd⟩ := hW
  have hA : DataW.TrodAll enc Try.prog W 0 (fun _ => true) true Try.f4.params.toList args.toList ds p := hA0
  rw [Try.params4] at hA hval
  obtain ⟨v0, vs0, d0, ds0, p0, q0, hargs, rfl, rfl, h0, r0⟩ := trodAll_cons hA
  obtain ⟨rfl, rfl, rfl⟩ := trodAll_nil r0
  obtain rfl : args = #[v0] := by cases args; simp_all
  obtain ⟨rfl, rfl⟩ := trodVars_none hV
  obtain ⟨a0, len0, cap0, rfl⟩ := okWide_slice Try.underlying22 (hval 0 22 v0 rfl rfl)
  have k0 := h0
  have lt0 : ∀ x ∈ p0, x.block < W.heap.size := by obtain ⟨m, hm⟩ := k0; exact DataW.trod_lt m _ _ _ hm
  obtain ⟨z0, w0⟩ : ∃ zs, IsRow .u8 W a0 len0 cap0 zs := by
    obtain ⟨fuel, hf⟩ := h0
    rcases open_ints Try.underlying22 Try.underlying5 (by kernel_rfl) hf with ⟨hcs, _⟩ | ⟨x, l, c, zs, hcs, _, hl, hm, hz, _, hcell, hwz⟩
    · simp [Value.cells] at hcs
      obtain ⟨rfl, rfl, rfl⟩ := hcs
      exact ⟨[], .inl ⟨rfl, rfl, rfl, rfl⟩⟩
    · simp [Value.cells] at hcs
      obtain ⟨rfl, rfl, rfl⟩ := hcs
      exact ⟨zs, .inr ⟨_, rfl, hl, hm, by simpa using hz, hcell, hwz⟩⟩
  clear hA0 hval0
  refine (walk a0 len0 cap0 z0 W w0).mono fun e W' ⟨he, bel⟩ => ?_
  subst he
  exact ⟨_, rfl, _, _, _, [], _, [], hW', trodAll_mk1 (shut_bool Try.underlying4 _), (trodAll_cons_mk (Below.trod laidOut (by kernel_rfl) (of_decide_eq_true (by kernel_rfl)) k0 bel lt0) trodAll_mk0), rfl, bel.frame _, fun h => by cases h⟩

theorem over : Rows.fnGensRow.holds Try.pinned (OpenSpec.ofChange Rows.fnGensSpec) :=
  OpenClaim.holds_of_wide 4 Try.f4 rfl rfl rfl rfl rfl rfl rfl ⟨rfl, rfl, rfl, rfl, rfl⟩ rfl rfl rfl rfl rfl (by kernel_rfl) Try.func4 (by kernel_rfl)
    (of_decide_eq_true (by kernel_rfl)) (by unfold Func.isWrapper; first | (rw [if_pos (by decide +kernel)]; kernel_rfl) | (rw [if_neg (by decide +kernel)]; exact ⟨rfl, rfl⟩))
    (fun os started H enc _ => lifted os started H enc)

theorem proved : Rows.FnGensSaid := over
end Go.Proofs.Ytjbhgedbkajmdaa.fnGens
namespace Go.Proofs.Ytjbhgedbkajmdaa
theorem fnGens_holds : Rows.FnGensSaid := fnGens.proved
end Go.Proofs.Ytjbhgedbkajmdaa

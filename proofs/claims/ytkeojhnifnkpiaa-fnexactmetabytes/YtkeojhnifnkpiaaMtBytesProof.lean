/- Whatever is handed in, the law FnExactMetaBytes returns true and leaves what it was handed as it was. -/
import Derived.Test.YtkeojhnifnkpiaaRows
import Derived.WalkKit
import Derived.ProofKit
import Derived.OpenShut
import Derived.ShutString
import Derived.ChangeOld
import Derived.Below
import Derived.Test.YtkeojhnifnkpiaaMtO
import Derived.Test.YtkeojhnifnkpiaaMtRb
import Derived.Test.YtkeojhnifnkpiaaMtBI
namespace Go.Proofs.Ytkeojhnifnkpiaa.fnExactMetaBytes
open Go.ChangeShapes Go.WideShapes Go.ChangeAt Go.RowKit
set_option linter.unusedVariables false

theorem own : ownKnob Try.prog.godebug = none := by kernel_rfl
theorem laidOut : laidOutB Try.prog = true := by kernel_rfl

set_option maxHeartbeats 1000000 in
set_option maxRecDepth 100000 in
theorem walk (go bo : Option Addr) (gc bc : Nat) (g : List Int) (n : Nat) (L : Nat → List Int) (fi ol he : Bool) (la : Int) (w : World) (hv : MV w go gc bo bc g n L) (hg : g.length ≤ 9223372036854775807) (hn : n ≤ 9223372036854775807) (hL : ∀ i, i < n → (L i).length ≤ 9223372036854775807) :
    Calls Try.prog 7 #[.agg #[.slice go g.length gc, .slice bo n bc, .bool fi, .bool ol, .bool he, .int .i64 la]] w fun e w' => e = .returned (.bool true) ∧ Below w.heap.size w w' := by
  have HV := hide hv
  have hsz := hide (szm_any go bo gc bc g n L fi ol he la 1048576 (w.alloc (.cells #[.slice go g.length gc, .slice bo n bc, .bool fi, .bool ol, .bool he, .int .i64 la] 54)) hg hn hL (by omega) (by omega) (hv.below (bal1 _ _)))
  clear hv hg hn hL
  go_enter Try.func7, Try.ntmps7
  go_wp2_with fail
  refine hsz.out.mono ?_
  rintro e w1 ⟨h1, b1⟩
  clear hsz
  have M1 := (KB.new w 54 go g.length gc bo n bc fi ol he la).b b1
  have B1 := hide ((bal1 w (.cells #[.slice go g.length gc, .slice bo n bc, .bool fi, .bool ol, .bool he, .int .i64 la] 54)).trans (b1.mono (by simp)))
  clear b1
  rcases h1 with ⟨hle, rfl⟩ | rfl
  · have hd := hide (bd_of hle)
    have hle' : g.length + (n + psum L n) ≤ 1048576 := by omega
    obtain ⟨m, f, hm', hspec, himpl⟩ : ∃ (m : Nat) (f : Nat → Int), m ≤ 1048576 ∧ Hid (∀ W go bo gc bc, MV W go gc bo bc g n L → Calls Try.prog 18 #[.agg #[.slice go g.length gc, .slice bo n bc, .bool fi, .bool ol, .bool he, .int .i64 la]] W fun e w' => ∃ ro rc, e = .returned (.slice ro m rc) ∧ Own w' W.heap.size 5 ro m (fun i => .int .u8 (f i)) ∧ Below W.heap.size W w') ∧
        Hid (∀ W go bo gc bc, MV W go gc bo bc g n L → Calls Try.prog 11 #[.agg #[.slice go g.length gc, .slice bo n bc, .bool fi, .bool ol, .bool he, .int .i64 la]] W fun e w' => ∃ ro rc, e = .returned (.slice ro m rc) ∧ Own w' W.heap.size 5 ro m (fun i => .int .u8 (f i)) ∧ Below W.heap.size W w') := by
      refine ⟨((mtb Classical.propDecidable) g n L fi ol he la).length, fun i => ((mtb Classical.propDecidable) g n L fi ol he la).getD i 0, by have := mtb_len g n L fi ol he la; omega, fun W go bo gc bc h2 => (mtbytes_spec go bo gc bc g n L fi ol he la W hd.out h2).mono ?_, fun W go bo gc bc h2 => (mtbytes_impl go bo gc bc g n L fi ol he la W hd.out h2).mono ?_⟩
      all_goals
        rintro e w' ⟨v, rfl, ho, hb⟩
        obtain ⟨ro, rc, rfl, _, ho'⟩ := Own.of_owns ho
        exact ⟨_, _, rfl, ho', hb⟩
    generalize hF : (fun i => Value.int .u8 (f i)) = FB at hspec himpl
    have HF := hide hF
    clear hF
    have hlen : ¬ (1048576 : Int) - ((g.length : Int) + ((n : Int) + (psum L n : Int))) < 0 := by omega
    obtain ⟨tot, htot⟩ : ∃ tot : Int, tot = (g.length : Int) + ((n : Int) + (psum L n : Int)) := ⟨_, rfl⟩
    rw [← htot] at hlen hle ⊢
    clear htot
    obtain ⟨m0, m1, m2, m3, m4, m5⟩ := M1.cells
    have HM1 := hide M1
    clear M1
    go_wp2_with fail
    refine (tom_any go bo gc bc g n L fi ol he la _ hd.out (HV.out.below B1.out)).mono ?_
    rintro e w2 ⟨go2, bo2, gc2, bc2, rfl, o2, b2⟩
    have B2 := hide (B1.out.trans (b2.mono B1.out.size))
    have HM2 := hide (HM1.out.b b2)
    have O2 := hide o2.mv
    clear b2 o2 B1 HM1 m0 m1 m2 m3 m4 m5 hlen hle
    go_wp2_with fail
    refine (hspec.out _ _ _ _ _ O2.out).mono ?_
    rintro e w3 ⟨ao, cap3, rfl, o3, b3⟩
    have B3 := hide (B2.out.trans (b3.mono B2.out.size))
    have HM3 := hide (HM2.out.b b3)
    have R3 := hide (Rb.of o3)
    clear b3 O2 B2 HM2 o3 hspec
    obtain ⟨m0, m1, m2, m3, m4, m5⟩ := HM3.out.cells
    go_wp2_with fail
    refine (tom_any go bo gc bc g n L fi ol he la _ hd.out (HV.out.below B3.out)).mono ?_
    rintro e w4 ⟨go4, bo4, gc4, bc4, rfl, o4, b4⟩
    have B4 := hide (B3.out.trans (b4.mono B3.out.size))
    have HM4 := hide (HM3.out.b b4)
    have O4 := hide o4
    have R4 := hide (R3.out.below b4 (Nat.le_refl _))
    have HZ : Hid (w.heap.size < w3.heap.size ∧ w3.heap.size ≤ w4.heap.size) := ⟨HM3.out.lt, b4.size⟩
    clear b4 o4 B3 HM3 R3 m0 m1 m2 m3 m4 m5
    generalize w2.heap.size = Z2 at *
    generalize w3.heap.size = Z3 at *
    go_wp2_with fail
    have X4 := KB.new w4 27 go4 g.length gc4 bo4 n bc4 fi ol he la
    have bX := bal1 w4 (.cells #[.slice go4 g.length gc4, .slice bo4 n bc4, .bool fi, .bool ol, .bool he, .int .i64 la] 27)
    refine (himpl.out _ _ _ _ _ (O4.out.mv.below bX)).mono ?_
    rintro e w5 ⟨co, cap5, rfl, o5, b5⟩
    rw [alsz] at o5
    have b5' := bX.trans (b5.mono bX.size)
    have H5 : Hid (KB (w5) (w.heap.size) 54 go g.length gc bo n bc fi ol he la ∧ KB (w5) (w4.heap.size) 27 go4 g.length gc4 bo4 n bc4 fi ol he la ∧ OKm w5 Z3 w4.heap.size go4 gc4 bo4 bc4 g n L ∧ Below w.heap.size w w5 ∧ Rb w5 Z2 Z3 ao m FB ∧ Own w5 (w4.heap.size + 1) 5 co m FB) :=
      ⟨HM4.out.b b5', X4.b b5, O4.out.below b5' (Nat.le_refl _), B4.out.trans (b5'.mono B4.out.size), R4.out.below b5' HZ.out.2, o5⟩
    generalize w4.heap.size = X at *
    clear X4 bX b5 b5' HM4 O4 B4 R4 o5
    go_wp2_with fail
    refine (eq_yes co ao m _ _ f f _ hm' (Own.sl (HF.out ▸ H5.out.2.2.2.2.2)) (Own.sl (HF.out ▸ H5.out.2.2.2.2.1.own)) (fun _ _ => rfl)).mono ?_
    rintro e w5' ⟨rfl, q5, hw5⟩
    rw [hw5]
    have b5q := Below.drawn (Below.drawn (Below.refl w5.heap.size w5) q5) 1
    have H5d : Hid (KB ((w5.drewN q5).drew) (w.heap.size) 54 go g.length gc bo n bc fi ol he la ∧ KB ((w5.drewN q5).drew) (X) 27 go4 g.length gc4 bo4 n bc4 fi ol he la ∧ OKm (w5.drewN q5).drew Z3 X go4 gc4 bo4 bc4 g n L ∧ Below w.heap.size w (w5.drewN q5).drew ∧ Rb (w5.drewN q5).drew Z2 Z3 ao m FB ∧ Own (w5.drewN q5).drew (X + 1) 5 co m FB) :=
      ⟨H5.out.1.b b5q, H5.out.2.1.b b5q, H5.out.2.2.1.below b5q H5.out.2.2.1.1.2, H5.out.2.2.2.1.trans (b5q.mono H5.out.2.2.2.1.size), H5.out.2.2.2.2.1.below b5q (Nat.le_trans HZ.out.2 H5.out.2.2.1.1.2), H5.out.2.2.2.2.2.below b5q⟩
    clear hw5 H5 b5q
    generalize w5.drewN q5 = w5q at *
    have hto := hide (tom_any go bo gc bc g n L fi ol he la w5q.drew hd.out (HV.out.below H5d.out.2.2.2.1))
    have hS := And.intro H5d.out.1.cells H5d.out.2.1.cells
    go_wp2_with fail
    go_region_held3 (fun w' => (w'.cell? ⟨w.heap.size, 0, none⟩ = some (.slice go g.length gc) ∧ w'.cell? ⟨w.heap.size, 1, none⟩ = some (.slice bo n bc) ∧ w'.cell? ⟨w.heap.size, 2, none⟩ = some (.bool fi) ∧ w'.cell? ⟨w.heap.size, 3, none⟩ = some (.bool ol) ∧ w'.cell? ⟨w.heap.size, 4, none⟩ = some (.bool he) ∧ w'.cell? ⟨w.heap.size, 5, none⟩ = some (.int .i64 la)) ∧ (w'.cell? ⟨X, 0, none⟩ = some (.slice go4 g.length gc4) ∧ w'.cell? ⟨X, 1, none⟩ = some (.slice bo4 n bc4) ∧ w'.cell? ⟨X, 2, none⟩ = some (.bool fi) ∧ w'.cell? ⟨X, 3, none⟩ = some (.bool ol) ∧ w'.cell? ⟨X, 4, none⟩ = some (.bool he) ∧ w'.cell? ⟨X, 5, none⟩ = some (.int .i64 la))) (with_reducible assumption) (first
      | (go_at_call 42; refine hto.out.mono ?_; rintro e w6 ⟨go6, bo6, gc6, bc6, rfl, o6, b6⟩; have hk6 := And.intro (H5d.out.1.b b6).cells (H5d.out.2.1.b b6).cells; have H6 : Hid (KB (w6) (w.heap.size) 54 go g.length gc bo n bc fi ol he la ∧ KB (w6) (X) 27 go4 g.length gc4 bo4 n bc4 fi ol he la ∧ OKm w6 Z3 X go4 gc4 bo4 bc4 g n L ∧ MV w6 go6 gc6 bo6 bc6 g n L ∧ Below w.heap.size w w6 ∧ Rb w6 Z2 Z3 ao m FB ∧ Own w6 (X + 1) 5 co m FB) := ⟨H5d.out.1.b b6, H5d.out.2.1.b b6, H5d.out.2.2.1.below b6 H5d.out.2.2.1.1.2, o6.mv, H5d.out.2.2.2.1.trans (b6.mono H5d.out.2.2.2.1.size), H5d.out.2.2.2.2.1.below b6 (Nat.le_trans HZ.out.2 H5d.out.2.2.1.1.2), H5d.out.2.2.2.2.2.below b6⟩; clear o6 b6)
      | (go_at_call 43; refine (eqm_yes go4 bo4 go6 bo6 gc4 bc4 gc6 bc6 g n L fi ol he la _ hd.out H6.out.2.2.1.mv H6.out.2.2.2.1).mono ?_; rintro e w7 ⟨rfl, b7⟩; have hk7 := And.intro (H6.out.1.b b7).cells (H6.out.2.1.b b7).cells; have H7 : Hid (KB (w7) (w.heap.size) 54 go g.length gc bo n bc fi ol he la ∧ KB (w7) (X) 27 go4 g.length gc4 bo4 n bc4 fi ol he la ∧ OKm w7 Z3 X go4 gc4 bo4 bc4 g n L ∧ Below w.heap.size w w7 ∧ Rb w7 Z2 Z3 ao m FB ∧ Own w7 (X + 1) 5 co m FB) := ⟨H6.out.1.b b7, H6.out.2.1.b b7, H6.out.2.2.1.below b7 H6.out.2.2.1.1.2, H6.out.2.2.2.2.1.trans (b7.mono H6.out.2.2.2.2.1.size), H6.out.2.2.2.2.2.1.below b7 (Nat.le_trans HZ.out.2 H6.out.2.2.1.1.2), H6.out.2.2.2.2.2.2.below b7⟩; clear b7))
    clear hto H5d H6 hk6 hS hk7
    obtain ⟨x0, x1, x2, x3, x4, x5⟩ := H7.out.2.1.cells
    go_wp2_with fail
    refine (markm_any go4 bo4 gc4 bc4 Z3 X g n L fi ol he la 1 _ hle' (by omega) (by omega) H7.out.2.2.1).mono ?_
    rintro e w8 ⟨rfl, _, n8⟩
    have H8 : Hid (KB (w8) (w.heap.size) 54 go g.length gc bo n bc fi ol he la ∧ Below w.heap.size w w8 ∧ Rb w8 Z2 Z3 ao m FB ∧ Own w8 (X + 1) 5 co m FB ∧ X + 1 ≤ w8.heap.size) := by
      refine ⟨H7.out.1.below n8.1 HZ.out.1, H7.out.2.2.2.1.trans (n8.1.mono (by have := HZ.out.1; omega)), H7.out.2.2.2.2.1.below n8.1 (Nat.le_refl _), ?_, Nat.le_trans H7.out.2.1.lt n8.1.size⟩
      rcases H7.out.2.2.2.2.2 with h0 | ⟨γ, eγ, hB, c, hc, hs, hFF⟩
      · exact .inl h0
      · exact .inr ⟨γ, eγ, hB, c, (n8.2 γ (Array.getElem?_eq_some_iff.1 hc).1 (by omega)).trans hc, hs, hFF⟩
    clear n8 H7 x0 x1 x2 x3 x4 x5
    have hKp : ¬ 1 + ((g.length : Int) + (psum L n : Int)) < 0 := by omega
    generalize 1 + ((g.length : Int) + (psum L n : Int)) = KK at *
    go_wp2_with fail
    refine (eq_yes co ao m _ _ f f _ hm' (Own.sl (HF.out ▸ H8.out.2.2.2.1)) (Own.sl (HF.out ▸ H8.out.2.2.1.own)) (fun _ _ => rfl)).mono ?_
    rintro e w8' ⟨rfl, q8, hw8⟩
    rw [hw8]
    clear hw8
    go_wp2_with fail
    refine (mark_any co m cap5 (X + 1) 1 FB _ hm' (by decide) (by decide) (H8.out.2.2.2.1.drawn q8)).mono ?_
    rintro e w9 ⟨rfl, o9, b9⟩
    have H9 : Hid (KB (w9) (w.heap.size) 54 go g.length gc bo n bc fi ol he la ∧ Below w.heap.size w w9 ∧ Rb w9 Z2 Z3 ao m FB ∧ Own w9 (X + 1) 5 co m (fun j => .int .u8 ((1 + (j : Int)) % 256))) := by
      have h1 := HZ.out
      have b9' : Below (X + 1) w8 w9 := (Below.drawn (Below.refl _ _) q8).trans b9
      exact ⟨H8.out.1.below b9' (by omega), H8.out.2.1.trans (b9'.mono (by omega)), H8.out.2.2.1.below b9' (by omega), o9⟩
    clear b9 o9 H8
    go_wp2_with fail
    refine (held_any co m cap5 1 _ hm' (by decide) (by decide) H9.out.2.2.2.sl).mono ?_
    rintro e w9' ⟨rfl, hw9⟩
    rw [hw9]
    clear hw9
    obtain ⟨m0, m1, m2, m3, m4, m5⟩ := H9.out.1.cells
    go_wp2_with fail
    refine (tom_any go bo gc bc g n L fi ol he la _ hd.out (HV.out.below H9.out.2.1)).mono ?_
    rintro e w10 ⟨go10, bo10, gc10, bc10, rfl, o10, b10⟩
    have O10 := hide o10.mv
    have B10 := hide b10
    clear m0 m1 m2 m3 m4 m5 o10 b10
    go_wp2_with fail
    refine (himpl.out _ _ _ _ _ O10.out).mono ?_
    rintro e w11 ⟨ho, cap11, rfl, o11, b11⟩
    have C11 := B10.out.trans (b11.mono B10.out.size)
    have H11 : Hid (Below w.heap.size w w11 ∧ Own w11 Z2 5 ao m FB ∧ Own w11 w10.heap.size 5 ho m FB ∧ Own w11 (X + 1) 5 co m (fun j => .int .u8 ((1 + (j : Int)) % 256))) := ⟨H9.out.2.1.trans (C11.mono H9.out.2.1.size), H9.out.2.2.1.own.below C11, o11, H9.out.2.2.2.below C11⟩
    clear C11 o11 b11 B10 O10 H9 himpl HV
    go_wp2_with fail
    refine (eq_yes ho ao m _ _ f f _ hm' (Own.sl (HF.out ▸ H11.out.2.2.1)) (Own.sl (HF.out ▸ H11.out.2.1)) (fun _ _ => rfl)).mono ?_
    rintro e w12 ⟨rfl, q12, hw12⟩
    rw [hw12]
    clear hw12
    go_wp2_with fail
    refine (held_any co m cap5 1 _ hm' (by decide) (by decide) (H11.out.2.2.2.drawn q12).sl).mono ?_
    rintro e w13 ⟨rfl, hw13⟩
    rw [hw13]
    clear hw13
    go_wp2
    go_ret
    exact ⟨rfl, Below.drawn H11.out.1 _⟩
  · clear M1
    go_wp2
    go_ret
    exact ⟨rfl, B1.out⟩

set_option maxRecDepth 100000 in
theorem lifted (os : Os) (started : os.Started) (H : Type) (enc : TypeId × Value → H) :
    ReturnsInHanded {} Try.checked os 7 .any (Rows.fnExactMetaBytesSpec.pre6 enc Try.prog Try.f7 Rows.fnExactMetaBytesRow.domain false) (Rows.fnExactMetaBytesSpec.post enc Try.prog Try.f7 false true false false) := by
  refine returnsInHanded_of_change (C := Try.checked) own started (by kernel_rfl) Try.func7
    (ChangeSpec.witness6 (enc := enc) (C := Try.checked) false ⟨#[], #[.agg #[.slice none 0 0, .slice none 0 0, .bool false, .bool false, .bool false, .int .i64 0]], []⟩ 8 (by kernel_rfl) (by kernel_rfl) (by kernel_rfl) (by kernel_rfl)) ?_
  intro W base args ds gs before hval0 hW hcnd _
  have hval : ∀ (j : Nat) t v, Try.f7.params[j]? = some t → args[j]? = some v → Value.okWide Try.prog W .any base t v := hval0
  have hW' := hW
  obtain ⟨p, q, hA0, hV, rfl, hfz, hnd⟩ := hW
  have hA : DataW.TrodAll enc Try.prog W 0 (fun _ => true) true Try.f7.params.toList args.toList ds p := hA0
  rw [Try.params7] at hA hval
  obtain ⟨v0, vs0, d0, ds0, p0, q0, hargs0, rfl, rfl, h0, r0⟩ := trodAll_cons hA
  obtain ⟨rfl, rfl, rfl⟩ := trodAll_nil r0
  obtain rfl : args = #[v0] := by cases args; simp_all
  obtain ⟨rfl, rfl⟩ := trodVars_none hV
  have k0 := h0
  have lt0 : ∀ x ∈ p0, x.block < W.heap.size := by obtain ⟨m, hm⟩ := k0; exact DataW.trod_lt m _ _ _ hm
  obtain ⟨cs0, rfl, _⟩ := okWide_struct Try.underlying54 (hval 0 54 v0 rfl rfl)
  obtain ⟨go, bo, gc, bc, g, n, L, fi, ol, he, la, hcs, hv, hg, hn, hL⟩ : ∃ (go bo : Option Addr) (gc bc : Nat) (g : List Int) (n : Nat) (L : Nat → List Int) (fi ol he : Bool) (la : Int), cs0 = #[.slice go g.length gc, .slice bo n bc, .bool fi, .bool ol, .bool he, .int .i64 la] ∧ MV W go gc bo bc g n L ∧ g.length ≤ 9223372036854775807 ∧ n ≤ 9223372036854775807 ∧ ∀ i, i < n → (L i).length ≤ 9223372036854775807 := by
    obtain ⟨fuel, hf⟩ := h0
    obtain ⟨go, bo, gc, bc, g, n, L, fi, ol, he, la, e, h1, h2, h3, h4⟩ := open_known hf
    refine ⟨go, bo, gc, bc, g, n, L, fi, ol, he, la, ?_, h1, h2, h3, h4⟩
    obtain ⟨l⟩ := cs0
    simpa [Value.cells] using e
  subst hcs
  clear hA0 hval0
  refine (walk go bo gc bc g n L fi ol he la W hv hg hn hL).mono fun e W' ⟨he, bel⟩ => ?_
  subst he
  exact ⟨_, rfl, _, _, _, [], _, [], hW', trodAll_mk1 (shut_bool Try.underlying4 _), (trodAll_cons_mk (Below.trod laidOut (by kernel_rfl) (of_decide_eq_true (by kernel_rfl)) k0 bel lt0) trodAll_mk0), rfl, bel.frame _, fun h => by cases h⟩

theorem over : Rows.fnExactMetaBytesRow.holds Try.pinned (OpenSpec.ofChange Rows.fnExactMetaBytesSpec) :=
  OpenClaim.holds_of_wide 7 Try.f7 rfl rfl rfl rfl rfl rfl rfl ⟨rfl, rfl, rfl, rfl, rfl⟩ rfl rfl rfl rfl rfl (by kernel_rfl) Try.func7 (by kernel_rfl)
    (of_decide_eq_true (by kernel_rfl)) (by unfold Func.isWrapper; first | (rw [if_pos (by decide +kernel)]; kernel_rfl) | (rw [if_neg (by decide +kernel)]; exact ⟨rfl, rfl⟩))
    (fun os started H enc _ => lifted os started H enc)

theorem proved : Rows.FnExactMetaBytesSaid := over
end Go.Proofs.Ytkeojhnifnkpiaa.fnExactMetaBytes
namespace Go.Proofs.Ytkeojhnifnkpiaa
theorem fnExactMetaBytes_holds : Rows.FnExactMetaBytesSaid := fnExactMetaBytes.proved
end Go.Proofs.Ytkeojhnifnkpiaa

/- Whatever is handed in, the law FnExactMetaOk returns true and leaves what it was handed as it was. -/
import Derived.Test.YtkeojhnifnkpiaaRows
import Derived.WalkKit
import Derived.ProofKit
import Derived.OpenShut
import Derived.ShutString
import Derived.ChangeOld
import Derived.Below
import Derived.Test.YtkeojhnifnkpiaaMtO
import Derived.Test.YtkeojhnifnkpiaaMtK
import Derived.Test.YtkeojhnifnkpiaaMtS1
import Derived.Test.YtkeojhnifnkpiaaMtI1
namespace Go.Proofs.Ytkeojhnifnkpiaa.fnExactMetaOk
open Go.ChangeShapes Go.WideShapes Go.ChangeAt Go.RowKit
set_option linter.unusedVariables false

theorem own : ownKnob Try.prog.godebug = none := by kernel_rfl
theorem laidOut : laidOutB Try.prog = true := by kernel_rfl

set_option maxHeartbeats 1000000 in
set_option maxRecDepth 100000 in
theorem walk (go bo : Option Addr) (gc bc : Nat) (g : List Int) (n : Nat) (L : Nat → List Int) (fi ol he : Bool) (la : Int) (w : World) (hv : MV w go gc bo bc g n L) (hg : g.length ≤ 9223372036854775807) (hn : n ≤ 9223372036854775807) (hL : ∀ i, i < n → (L i).length ≤ 9223372036854775807) :
    Calls Try.prog 5 #[.agg #[.slice go g.length gc, .slice bo n bc, .bool fi, .bool ol, .bool he, .int .i64 la]] w fun e w' => e = .returned (.bool true) ∧ Below w.heap.size w w' := by
  have HV := hide hv
  have hsz := hide (szm_any go bo gc bc g n L fi ol he la 1048576 (w.alloc (.cells #[.slice go g.length gc, .slice bo n bc, .bool fi, .bool ol, .bool he, .int .i64 la] 54)) hg hn hL (by omega) (by omega) (hv.below (bal1 _ _)))
  clear hv hg hn hL
  go_enter Try.func5, Try.ntmps5
  go_wp2_with fail
  refine hsz.out.mono ?_
  rintro e w1 ⟨h1, b1⟩
  clear hsz
  have M1 := (KB.new w 54 go g.length gc bo n bc fi ol he la).b b1
  have B1 := hide ((bal1 w (.cells #[.slice go g.length gc, .slice bo n bc, .bool fi, .bool ol, .bool he, .int .i64 la] 54)).trans (b1.mono (by simp)))
  clear b1
  rcases h1 with ⟨hle, rfl⟩ | rfl
  · have hd := hide (bd_of hle)
    obtain ⟨b, hspec, himpl⟩ : ∃ b : Bool, Hid (∀ W go bo gc bc, MV W go gc bo bc g n L → Calls Try.prog 21 #[.agg #[.slice go g.length gc, .slice bo n bc, .bool fi, .bool ol, .bool he, .int .i64 la]] W fun e w' => e = .returned (.bool b) ∧ Below W.heap.size W w') ∧
        Hid (∀ W go bo gc bc, MV W go gc bo bc g n L → Calls Try.prog 20 #[.agg #[.slice go g.length gc, .slice bo n bc, .bool fi, .bool ol, .bool he, .int .i64 la]] W fun e w' => e = .returned (.bool b) ∧ Below W.heap.size W w') := by
      obtain ⟨b, hb⟩ : ∃ b : Bool, b = true ↔ MtOk g n L ol he la := by
        by_cases h : MtOk g n L ol he la
        · exact ⟨true, by simp [h]⟩
        · exact ⟨false, by simp [h]⟩
      refine ⟨b, fun W go bo gc bc h2 => (mtok_spec go bo gc bc g n L fi ol he la W hd.out h2).mono ?_, fun W go bo gc bc h2 => (mtok_impl go bo gc bc g n L fi ol he la W hd.out h2).mono ?_⟩
      all_goals
        rintro e w' ⟨h, hbb⟩
        refine ⟨?_, hbb⟩
        rcases h with ⟨h, rfl⟩ | ⟨h, rfl⟩
        · rw [hb.2 h]
        · cases b with
          | true => exact absurd (hb.1 rfl) h
          | false => rfl
    have hlen : ¬ (1048576 : Int) - ((g.length : Int) + ((n : Int) + (psum L n : Int))) < 0 := by omega
    generalize (g.length : Int) + ((n : Int) + (psum L n : Int)) = tot at *
    obtain ⟨m0, m1, m2, m3, m4, m5⟩ := M1.cells
    have HM1 := hide M1
    clear M1
    go_wp2_with fail
    refine (tom_any go bo gc bc g n L fi ol he la _ hd.out (HV.out.below B1.out)).mono ?_
    rintro e w2 ⟨go2, bo2, gc2, bc2, rfl, o2, b2⟩
    have B2 := hide (B1.out.trans (b2.mono B1.out.size))
    have HM2 := hide (HM1.out.b b2)
    have O2 := hide o2.mv
    clear b2 o2 B1 HM1 m0 m1 m2 m3 m4 m5 hlen
    go_wp2_with fail
    refine (hspec.out _ _ _ _ _ O2.out).mono ?_
    rintro e w3 ⟨rfl, b3⟩
    have B3 := hide (B2.out.trans (b3.mono B2.out.size))
    have HM3 := hide (HM2.out.b b3)
    clear b3 O2 B2 HM2
    obtain ⟨m0, m1, m2, m3, m4, m5⟩ := HM3.out.cells
    go_wp2_with fail
    refine (tom_any go bo gc bc g n L fi ol he la _ hd.out (HV.out.below B3.out)).mono ?_
    rintro e w4 ⟨go4, bo4, gc4, bc4, rfl, o4, b4⟩
    have B4 := hide (B3.out.trans (b4.mono B3.out.size))
    have HM4 := hide (HM3.out.b b4)
    have O4 := hide o4.mv
    clear b4 o4 B3 HM3 m0 m1 m2 m3 m4 m5
    go_wp2_with fail
    have X4 := KB.new w4 27 go4 g.length gc4 bo4 n bc4 fi ol he la
    have bX := bal1 w4 (.cells #[.slice go4 g.length gc4, .slice bo4 n bc4, .bool fi, .bool ol, .bool he, .int .i64 la] 27)
    refine (himpl.out _ _ _ _ _ (O4.out.below bX)).mono ?_
    rintro e w5 ⟨rfl, b5⟩
    have b5' := bX.trans (b5.mono bX.size)
    have H5 : Hid (KB w5.drew w.heap.size 54 go g.length gc bo n bc fi ol he la ∧ KB w5.drew w4.heap.size 27 go4 g.length gc4 bo4 n bc4 fi ol he la ∧ MV w5.drew go4 gc4 bo4 bc4 g n L ∧ Below w.heap.size w w5.drew) :=
      ⟨HM4.out.b (Below.drawn b5' 1), X4.b (Below.drawn b5 1), O4.out.below (Below.drawn b5' 1), Below.drawn (B4.out.trans (b5'.mono B4.out.size)) 1⟩
    generalize w4.heap.size = X at *
    clear X4 bX b5 b5' HM4 O4 B4 himpl hspec
    have hto := hide (tom_any go bo gc bc g n L fi ol he la w5.drew hd.out (HV.out.below H5.out.2.2.2))
    obtain ⟨m0, m1, m2, m3, m4, m5⟩ := (show KB w5 w.heap.size 54 go g.length gc bo n bc fi ol he la from H5.out.1).cells
    obtain ⟨x0, x1, x2, x3, x4, x5⟩ := (show KB w5 X 27 go4 g.length gc4 bo4 n bc4 fi ol he la from H5.out.2.1).cells
    go_wp2_with fail
    go_region_held3 (fun w' => (w'.cell? ⟨w.heap.size, 0, none⟩ = some (.slice go g.length gc) ∧ w'.cell? ⟨w.heap.size, 1, none⟩ = some (.slice bo n bc) ∧ w'.cell? ⟨w.heap.size, 2, none⟩ = some (.bool fi) ∧ w'.cell? ⟨w.heap.size, 3, none⟩ = some (.bool ol) ∧ w'.cell? ⟨w.heap.size, 4, none⟩ = some (.bool he) ∧ w'.cell? ⟨w.heap.size, 5, none⟩ = some (.int .i64 la)) ∧ (w'.cell? ⟨X, 0, none⟩ = some (.slice go4 g.length gc4) ∧ w'.cell? ⟨X, 1, none⟩ = some (.slice bo4 n bc4) ∧ w'.cell? ⟨X, 2, none⟩ = some (.bool fi) ∧ w'.cell? ⟨X, 3, none⟩ = some (.bool ol) ∧ w'.cell? ⟨X, 4, none⟩ = some (.bool he) ∧ w'.cell? ⟨X, 5, none⟩ = some (.int .i64 la))) (first | assumption | exact ⟨⟨m0, m1, m2, m3, m4, m5⟩, x0, x1, x2, x3, x4, x5⟩) (first
      | (go_at_call 42; refine hto.out.mono ?_; rintro e w6 ⟨go6, bo6, gc6, bc6, rfl, o6, b6⟩; have hk6 := And.intro (H5.out.1.b b6).cells (H5.out.2.1.b b6).cells; have H6 : Hid (KB w6 w.heap.size 54 go g.length gc bo n bc fi ol he la ∧ KB w6 X 27 go4 g.length gc4 bo4 n bc4 fi ol he la ∧ MV w6 go4 gc4 bo4 bc4 g n L ∧ MV w6 go6 gc6 bo6 bc6 g n L ∧ Below w.heap.size w w6) := ⟨H5.out.1.b b6, H5.out.2.1.b b6, H5.out.2.2.1.below b6, o6.mv, H5.out.2.2.2.trans (b6.mono H5.out.2.2.2.size)⟩; clear o6 b6)
      | (go_at_call 43; refine (eqm_yes go4 bo4 go6 bo6 gc4 bc4 gc6 bc6 g n L fi ol he la _ hd.out H6.out.2.2.1 H6.out.2.2.2.1).mono ?_; rintro e w7 ⟨rfl, b7⟩; have hk7 := And.intro (H6.out.1.b b7).cells (H6.out.2.1.b b7).cells; have H7 : Hid (Below w.heap.size w w7) := H6.out.2.2.2.2.trans (b7.mono H6.out.2.2.2.2.size); clear b7))
    go_wp2
    go_ret
    exact ⟨rfl, H7.out⟩
  · clear M1
    go_wp2
    go_ret
    exact ⟨rfl, B1.out⟩

set_option maxRecDepth 100000 in
theorem lifted (os : Os) (started : os.Started) (H : Type) (enc : TypeId × Value → H) :
    ReturnsInHanded {} Try.checked os 5 .any (Rows.fnExactMetaOkSpec.pre6 enc Try.prog Try.f5 Rows.fnExactMetaOkRow.domain false) (Rows.fnExactMetaOkSpec.post enc Try.prog Try.f5 false true false false) := by
  refine returnsInHanded_of_change (C := Try.checked) own started (by kernel_rfl) Try.func5
    (ChangeSpec.witness6 (enc := enc) (C := Try.checked) false ⟨#[], #[.agg #[.slice none 0 0, .slice none 0 0, .bool false, .bool false, .bool false, .int .i64 0]], []⟩ 8 (by kernel_rfl) (by kernel_rfl) (by kernel_rfl) (by kernel_rfl)) ?_
  intro W base args ds gs before hval0 hW hcnd _
  have hval : ∀ (j : Nat) t v, Try.f5.params[j]? = some t → args[j]? = some v → Value.okWide Try.prog W .any base t v := hval0
  have hW' := hW
  obtain ⟨p, q, hA0, hV, rfl, hfz, hnd⟩ := hW
  have hA : DataW.TrodAll enc Try.prog W 0 (fun _ => true) true Try.f5.params.toList args.toList ds p := hA0
  rw [Try.params5] at hA hval
  obtain ⟨v0, vs0, d0, ds0, p0, q0, hargs0, rfl, rfl, h0, r0⟩ := trodAll_cons hA
  obtain ⟨rfl, rfl, rfl⟩ := trodAll_nil r0
  obtain rfl : args = #[v0] := by cases args; simp_all
  obtain ⟨rfl, rfl⟩ := trodVars_none hV
  have k0 := h0
  have lt0 : ∀ x ∈ p0, x.block < W.heap.size := by obtain ⟨m, hm⟩ := k0; exact DataW.trod_lt m _ _ _ hm
  obtain ⟨cs0, rfl, _⟩ := okWide_struct Try.underlying54 (hval 0 54 v0 rfl rfl)
  obtain ⟨go, bo, gc, bc, g, n, L, fi, ol, he, la, hcs, hv, hg, hn, hL⟩ : ∃ (go bo : Option Addr) (gc bc : Nat) (g : List Int) (n : Nat) (L : Nat → List Int) (fi ol he : Bool) (la : Int), cs0 = #[.slice go g.length gc, .slice bo n bc, .bool fi, .bool ol, .bool he, .int .i64 la] ∧ MV W go gc bo bc g n L ∧ g.length ≤ 9223372036854775807 ∧ n ≤ 9223372036854775807 ∧ ∀ i, i < n → (L i).length ≤ 9223372036854775807 := by
    obtain ⟨fuel, hf⟩ := h0
    obtain ⟨go, bo, gc, bc, g, n, L, fi, ol, he, la, e, h1, h2, h3, h4⟩ := open_known hf
    refine ⟨go, bo, gc, bc, g, n, L, fi, ol, he, la, ?_, h1, h2, h3, h4⟩
    obtain ⟨l⟩ := cs0
    simpa [Value.cells] using e
  subst hcs
  clear hA0 hval0
  refine (walk go bo gc bc g n L fi ol he la W hv hg hn hL).mono fun e W' ⟨he, bel⟩ => ?_
  subst he
  exact ⟨_, rfl, _, _, _, [], _, [], hW', trodAll_mk1 (shut_bool Try.underlying4 _), (trodAll_cons_mk (Below.trod laidOut (by kernel_rfl) (of_decide_eq_true (by kernel_rfl)) k0 bel lt0) trodAll_mk0), rfl, bel.frame _, fun h => by cases h⟩

theorem over : Rows.fnExactMetaOkRow.holds Try.pinned (OpenSpec.ofChange Rows.fnExactMetaOkSpec) :=
  OpenClaim.holds_of_wide 5 Try.f5 rfl rfl rfl rfl rfl rfl rfl ⟨rfl, rfl, rfl, rfl, rfl⟩ rfl rfl rfl rfl rfl (by kernel_rfl) Try.func5 (by kernel_rfl)
    (of_decide_eq_true (by kernel_rfl)) (by unfold Func.isWrapper; first | (rw [if_pos (by decide +kernel)]; kernel_rfl) | (rw [if_neg (by decide +kernel)]; exact ⟨rfl, rfl⟩))
    (fun os started H enc _ => lifted os started H enc)

theorem proved : Rows.FnExactMetaOkSaid := over
end Go.Proofs.Ytkeojhnifnkpiaa.fnExactMetaOk
namespace Go.Proofs.Ytkeojhnifnkpiaa
theorem fnExactMetaOk_holds : Rows.FnExactMetaOkSaid := fnExactMetaOk.proved
end Go.Proofs.Ytkeojhnifnkpiaa

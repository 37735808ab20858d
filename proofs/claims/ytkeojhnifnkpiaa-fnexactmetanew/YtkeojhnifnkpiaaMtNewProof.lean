/- Whatever is handed in, the law FnExactMetaNew returns true. -/
import Derived.Test.YtkeojhnifnkpiaaRows
import Derived.WalkKit
import Derived.ProofKit
import Derived.OpenShut
import Derived.ShutString
import Derived.ChangeOld
import Derived.Below
import Derived.Test.YtkeojhnifnkpiaaMtN
namespace Go.Proofs.Ytkeojhnifnkpiaa.fnExactMetaNew
open Go.ChangeShapes Go.WideShapes Go.ChangeAt Go.RowKit
open Go.ChangeMaps (open_string shut_string)
set_option linter.unusedVariables false

theorem own : ownKnob Try.prog.godebug = none := by kernel_rfl

set_option maxHeartbeats 1000000 in
set_option maxRecDepth 100000 in
theorem walk (a0 : Int) (w0 : (Lit.int .i64 a0).wf = true) (w : World) :
    Calls Try.prog 6 #[.int .i64 a0] w fun e w' => e = .returned (.bool true) ∧ Below w.heap.size w w' := by
  obtain ⟨g, n, L, fi, ol, he, la, hbd, hspec, himpl⟩ : ∃ (g : List Int) (n : Nat) (L : Nat → List Int) (fi ol he : Bool) (la : Int), (g.length + (n + psum L n) ≤ 1000) ∧
      Hid (∀ W, Calls Try.prog 23 #[.int .i64 a0] W fun e w' => ∃ go bo gc bc, e = .returned (.agg #[.slice go g.length gc, .slice bo n bc, .bool fi, .bool ol, .bool he, .int .i64 la]) ∧ OKm w' W.heap.size w'.heap.size go gc bo bc g n L ∧ Below W.heap.size W w') ∧
      Hid (∀ W, Calls Try.prog 22 #[.int .i64 a0] W fun e w' => ∃ go bo gc bc, e = .returned (.agg #[.slice go g.length gc, .slice bo n bc, .bool fi, .bool ol, .bool he, .int .i64 la]) ∧ OKm w' W.heap.size w'.heap.size go gc bo bc g n L ∧ Below W.heap.size W w') := by
    refine ⟨nwg a0, nwn a0, fun _ => [], nw a0, false, false, 0, ?_, fun W => mtnew_spec a0 W, fun W => mtnew_impl a0 W⟩
    unfold nwg nwn
    cases nw a0 <;> simp [psum]
  have hd : Hid (Bd g n L) := bd_of (by omega)
  go_enter Try.func6, Try.ntmps6
  go_wp2_with fail
  refine (hspec.out _).mono ?_
  rintro e w1 ⟨go1, bo1, gc1, bc1, rfl, o1, b1⟩
  have B1 := hide b1
  have O1 := hide o1.mv
  clear b1 o1 hspec
  go_wp2_with fail
  refine (himpl.out _).mono ?_
  rintro e w2 ⟨go2, bo2, gc2, bc2, rfl, o2, b2⟩
  have H2 : Hid (KB (w2) (w1.heap.size) 27 go1 g.length gc1 bo1 n bc1 fi ol he la ∧ MV w2 go1 gc1 bo1 bc1 g n L ∧ OKm w2 (w1.heap.size + 1) w2.heap.size go2 gc2 bo2 bc2 g n L ∧ Below w.heap.size w w2 ∧ (w.heap.size ≤ w1.heap.size ∧ w1.heap.size < w2.heap.size)) := by
    have hx := bal1 w1 (.cells #[.slice go1 g.length gc1, .slice bo1 n bc1, .bool fi, .bool ol, .bool he, .int .i64 la] 27)
    have hk := (KB.new w1 27 go1 g.length gc1 bo1 n bc1 fi ol he la).b b2
    refine ⟨hk, (O1.out.below hx).below b2, ?_, (B1.out.trans (hx.mono B1.out.size)).trans (b2.mono (Nat.le_trans B1.out.size hx.size)), B1.out.size, hk.lt⟩
    have := alsz w1 (.cells #[.slice go1 g.length gc1, .slice bo1 n bc1, .bool fi, .bool ol, .bool he, .int .i64 la] 27)
    rw [this] at o2
    exact o2
  have HV0 : Hid (∀ w', Below (w1.heap.size + 1) w2 w' → MV w' go1 gc1 bo1 bc1 g n L) := fun w' hb => by
    have hx := bal1 w1 (.cells #[.slice go1 g.length gc1, .slice bo1 n bc1, .bool fi, .bool ol, .bool he, .int .i64 la] 27)
    have h2 := O1.out.below hx
    refine h2.below ?_
    have e := alsz w1 (.cells #[.slice go1 g.length gc1, .slice bo1 n bc1, .bool fi, .bool ol, .bool he, .int .i64 la] 27)
    rw [e] at b2 ⊢
    exact b2.trans hb
  clear o2 b2 O1 B1
  generalize w1.heap.size = X1 at *
  obtain ⟨y0, y1, y2, y3, y4, y5⟩ := H2.out.1.cells
  have hlt1 : X1 < w2.heap.size := H2.out.2.2.2.2.2
  go_wp2_with fail
  clear y0 y1 y2 y3 y4 y5 hlt1
  have hx3 := bal1 w2 (.cells #[.slice go2 g.length gc2, .slice bo2 n bc2, .bool fi, .bool ol, .bool he, .int .i64 la] 27)
  have H3 : Hid (KB (w2.alloc (.cells #[.slice go2 g.length gc2, .slice bo2 n bc2, .bool fi, .bool ol, .bool he, .int .i64 la] 27)) (X1) 27 go1 g.length gc1 bo1 n bc1 fi ol he la ∧ KB (w2.alloc (.cells #[.slice go2 g.length gc2, .slice bo2 n bc2, .bool fi, .bool ol, .bool he, .int .i64 la] 27)) (w2.heap.size) 27 go2 g.length gc2 bo2 n bc2 fi ol he la ∧ MV (w2.alloc (.cells #[.slice go2 g.length gc2, .slice bo2 n bc2, .bool fi, .bool ol, .bool he, .int .i64 la] 27)) go1 gc1 bo1 bc1 g n L ∧ OKm (w2.alloc (.cells #[.slice go2 g.length gc2, .slice bo2 n bc2, .bool fi, .bool ol, .bool he, .int .i64 la] 27)) (X1 + 1) w2.heap.size go2 gc2 bo2 bc2 g n L ∧ Below w.heap.size w (w2.alloc (.cells #[.slice go2 g.length gc2, .slice bo2 n bc2, .bool fi, .bool ol, .bool he, .int .i64 la] 27)) ∧ (w.heap.size ≤ X1 ∧ X1 < w2.heap.size)) :=
    ⟨H2.out.1.b hx3, KB.new w2 27 go2 g.length gc2 bo2 n bc2 fi ol he la, H2.out.2.1.below hx3, H2.out.2.2.1.below hx3 (Nat.le_refl _), H2.out.2.2.2.1.trans (hx3.mono H2.out.2.2.2.1.size), H2.out.2.2.2.2⟩
  have HV0' : Hid (∀ w', Below (X1 + 1) (w2.alloc (.cells #[.slice go2 g.length gc2, .slice bo2 n bc2, .bool fi, .bool ol, .bool he, .int .i64 la] 27)) w' → MV w' go1 gc1 bo1 bc1 g n L) := fun w' hb => HV0.out w' ((hx3.mono H2.out.2.2.2.2.2).trans hb)
  have HX1 : Hid (X1 + 1 ≤ (w2.alloc (.cells #[.slice go2 g.length gc2, .slice bo2 n bc2, .bool fi, .bool ol, .bool he, .int .i64 la] 27)).heap.size) := Nat.le_trans H2.out.2.2.2.2.2 hx3.size
  generalize w2.alloc (.cells #[.slice go2 g.length gc2, .slice bo2 n bc2, .bool fi, .bool ol, .bool he, .int .i64 la] 27) = W3 at *
  generalize w2.heap.size = X2 at *
  clear hx3 H2 HV0
  refine (eqm_yes go2 bo2 go1 bo1 gc2 bc2 gc1 bc1 g n L fi ol he la _ hd.out H3.out.2.2.2.1.mv H3.out.2.2.1).mono ?_
  rintro e w4 ⟨rfl, b4⟩
  have H4 : Hid (KB (w4) (X1) 27 go1 g.length gc1 bo1 n bc1 fi ol he la ∧ KB (w4) (X2) 27 go2 g.length gc2 bo2 n bc2 fi ol he la ∧ MV w4 go1 gc1 bo1 bc1 g n L ∧ OKm w4 (X1 + 1) X2 go2 gc2 bo2 bc2 g n L ∧ Below w.heap.size w w4 ∧ (w.heap.size ≤ X1 ∧ X1 < X2) ∧ Below W3.heap.size W3 w4) :=
    ⟨H3.out.1.b b4, H3.out.2.1.b b4, H3.out.2.2.1.below b4, H3.out.2.2.2.1.below b4 H3.out.2.2.2.1.1.2, H3.out.2.2.2.2.1.trans (b4.mono H3.out.2.2.2.2.1.size), H3.out.2.2.2.2.2, b4⟩
  clear b4
  obtain ⟨x0, x1, x2, x3, x4, x5⟩ := H4.out.2.1.cells
  go_wp2_with fail
  refine (markm_any go2 bo2 gc2 bc2 (X1 + 1) X2 g n L fi ol he la 1 _ (by omega) (by omega) (by omega) H4.out.2.2.2.1).mono ?_
  rintro e w5 ⟨rfl, o5, n5⟩
  have H5 : Hid (KB (w5) (X1) 27 go1 g.length gc1 bo1 n bc1 fi ol he la ∧ KB (w5) (X2) 27 go2 g.length gc2 bo2 n bc2 fi ol he la ∧ Below w.heap.size w w5 ∧ OKm w5 (X1 + 1) X2 go2 gc2 bo2 bc2 (mgs g 1) n (mbs g L n 1) ∧ Below (X1 + 1) w4 w5 ∧ (w.heap.size ≤ X1 ∧ X1 < X2)) := by
    have h6 := H4.out.2.2.2.2.2.1
    refine ⟨H4.out.1.below n5.1 (by omega), (n5.2 X2 H4.out.2.1.lt (Nat.le_refl _)).trans H4.out.2.1, H4.out.2.2.2.2.1.trans (n5.1.mono (by omega)), o5, n5.1, h6⟩
  have HV1 : Hid (∀ w', Below (X1 + 1) w4 w' → MV w' go1 gc1 bo1 bc1 g n L) := fun w' hb => HV0'.out w' ((H4.out.2.2.2.2.2.2.mono HX1.out).trans hb)
  clear o5 n5 x0 x1 x2 x3 x4 x5
  obtain ⟨x0, x1, x2, x3, x4, x5⟩ := H5.out.2.1.cells
  generalize hK : 1 + ((g.length : Int) + (psum L n : Int)) = K at *
  have HK := hide hK
  have hKp : ¬ K < 0 := by omega
  clear hK
  go_wp2_with fail
  refine (heldm_any go2 bo2 gc2 bc2 g n L fi ol he la 1 _ (by omega) (by omega) (by omega) H5.out.2.2.2.1.mv).mono ?_
  rintro e w6 ⟨rfl, b6⟩
  rw [HK.out]
  have H6 : Hid (KB (w6) (X1) 27 go1 g.length gc1 bo1 n bc1 fi ol he la ∧ KB (w6) (X2) 27 go2 g.length gc2 bo2 n bc2 fi ol he la ∧ Below w.heap.size w w6 ∧ OKm w6 (X1 + 1) X2 go2 gc2 bo2 bc2 (mgs g 1) n (mbs g L n 1) ∧ Below (X1 + 1) w4 w6) :=
    ⟨H5.out.1.b b6, H5.out.2.1.b b6, H5.out.2.2.1.trans (b6.mono H5.out.2.2.1.size), H5.out.2.2.2.1.below b6 H5.out.2.2.2.1.1.2, H5.out.2.2.2.2.1.trans (b6.mono (by have := H5.out.1.lt; omega))⟩
  clear b6 x0 x1 x2 x3 x4 x5
  go_wp2_with fail
  refine (himpl.out _).mono ?_
  rintro e w7 ⟨go7, bo7, gc7, bc7, rfl, o7, b7⟩
  have H7 : Hid (KB (w7) (X1) 27 go1 g.length gc1 bo1 n bc1 fi ol he la ∧ KB (w7) (X2) 27 go2 g.length gc2 bo2 n bc2 fi ol he la ∧ Below w.heap.size w w7 ∧ MV w7 go2 gc2 bo2 bc2 (mgs g 1) n (mbs g L n 1) ∧ MV w7 go1 gc1 bo1 bc1 g n L ∧ MV w7 go7 gc7 bo7 bc7 g n L) := by
    refine ⟨H6.out.1.b b7, H6.out.2.1.b b7, H6.out.2.2.1.trans (b7.mono H6.out.2.2.1.size), H6.out.2.2.2.1.mv.below b7, ?_, o7.mv⟩
    exact (HV1.out _ H6.out.2.2.2.2).below b7
  clear o7 b7 H6
  obtain ⟨y0, y1, y2, y3, y4, y5⟩ := H7.out.1.cells
  have hlt1 : X1 < w7.heap.size := H7.out.1.lt
  go_wp2_with fail
  clear y0 y1 y2 y3 y4 y5 hlt1
  have hx8 := bal1 w7 (.cells #[.slice go7 g.length gc7, .slice bo7 n bc7, .bool fi, .bool ol, .bool he, .int .i64 la] 27)
  have H8 : Hid (KB (w7.alloc (.cells #[.slice go7 g.length gc7, .slice bo7 n bc7, .bool fi, .bool ol, .bool he, .int .i64 la] 27)) (X1) 27 go1 g.length gc1 bo1 n bc1 fi ol he la ∧ KB (w7.alloc (.cells #[.slice go7 g.length gc7, .slice bo7 n bc7, .bool fi, .bool ol, .bool he, .int .i64 la] 27)) (X2) 27 go2 g.length gc2 bo2 n bc2 fi ol he la ∧ Below w.heap.size w (w7.alloc (.cells #[.slice go7 g.length gc7, .slice bo7 n bc7, .bool fi, .bool ol, .bool he, .int .i64 la] 27)) ∧ MV (w7.alloc (.cells #[.slice go7 g.length gc7, .slice bo7 n bc7, .bool fi, .bool ol, .bool he, .int .i64 la] 27)) go2 gc2 bo2 bc2 (mgs g 1) n (mbs g L n 1) ∧ MV (w7.alloc (.cells #[.slice go7 g.length gc7, .slice bo7 n bc7, .bool fi, .bool ol, .bool he, .int .i64 la] 27)) go1 gc1 bo1 bc1 g n L ∧ MV (w7.alloc (.cells #[.slice go7 g.length gc7, .slice bo7 n bc7, .bool fi, .bool ol, .bool he, .int .i64 la] 27)) go7 gc7 bo7 bc7 g n L) :=
    ⟨H7.out.1.b hx8, H7.out.2.1.b hx8, H7.out.2.2.1.trans (hx8.mono H7.out.2.2.1.size), H7.out.2.2.2.1.below hx8, H7.out.2.2.2.2.1.below hx8, H7.out.2.2.2.2.2.below hx8⟩
  clear hx8 H7
  refine (eqm_yes go7 bo7 go1 bo1 gc7 bc7 gc1 bc1 g n L fi ol he la _ hd.out H8.out.2.2.2.2.2 H8.out.2.2.2.2.1).mono ?_
  rintro e w9 ⟨rfl, b9⟩
  have H9 : Hid (KB (w9) (X2) 27 go2 g.length gc2 bo2 n bc2 fi ol he la ∧ Below w.heap.size w w9 ∧ MV w9 go2 gc2 bo2 bc2 (mgs g 1) n (mbs g L n 1)) :=
    ⟨H8.out.2.1.b b9, H8.out.2.2.1.trans (b9.mono H8.out.2.2.1.size), H8.out.2.2.2.1.below b9⟩
  clear b9 H8
  obtain ⟨x0, x1, x2, x3, x4, x5⟩ := H9.out.1.cells
  go_wp2_with fail
  refine (heldm_any go2 bo2 gc2 bc2 g n L fi ol he la 1 _ (by omega) (by omega) (by omega) H9.out.2.2).mono ?_
  rintro e w10 ⟨rfl, b10⟩
  rw [HK.out]
  have H10 := hide (H9.out.2.1.trans (b10.mono H9.out.2.1.size))
  clear b10
  go_wp2
  go_ret
  exact ⟨rfl, H10.out⟩

set_option maxRecDepth 100000 in
theorem lifted (os : Os) (started : os.Started) (H : Type) (enc : TypeId × Value → H) :
    ReturnsInHanded {} Try.checked os 6 .any (Rows.fnExactMetaNewSpec.pre6 enc Try.prog Try.f6 Rows.fnExactMetaNewRow.domain false) (Rows.fnExactMetaNewSpec.post enc Try.prog Try.f6 false true false false) := by
  refine returnsInHanded_of_change (C := Try.checked) own started (by kernel_rfl) Try.func6
    (ChangeSpec.witness6 (enc := enc) (C := Try.checked) false ⟨#[], #[.int .i64 0], []⟩ 8 (by kernel_rfl) (by kernel_rfl) (by kernel_rfl) (by kernel_rfl)) ?_
  intro W base args ds gs before hval0 hW hcnd _
  have hval : ∀ (j : Nat) t v, Try.f6.params[j]? = some t → args[j]? = some v → Value.okWide Try.prog W .any base t v := hval0
  have hW' := hW
  obtain ⟨p, q, hA0, hV, rfl, hfz, hnd⟩ := hW
  have hA : DataW.TrodAll enc Try.prog W 0 (fun _ => true) true Try.f6.params.toList args.toList ds p := hA0
  rw [Try.params6] at hA hval
  obtain ⟨v0, vs0, d0, ds0, p0, q0, hargs, rfl, rfl, h0, r0⟩ := trodAll_cons hA
  obtain ⟨rfl, rfl, rfl⟩ := trodAll_nil r0
  obtain rfl : args = #[v0] := by cases args; simp_all
  obtain ⟨rfl, rfl⟩ := trodVars_none hV
  obtain ⟨a0, rfl, rfl, rfl, w0⟩ := open_int Try.underlying3 (hval 0 3 v0 rfl rfl) h0
  clear hA0 hval0
  refine (walk a0 w0 W).mono fun e W' ⟨he, hg⟩ => ?_
  subst he
  exact ⟨_, rfl, _, _, _, [], _, [], hW', trodAll_mk1 (shut_bool Try.underlying4 _), (trodAll_cons_mk (shut_int Try.underlying3 w0) trodAll_mk0), rfl, hg.frame _, fun h => by cases h⟩

theorem over : Rows.fnExactMetaNewRow.holds Try.pinned (OpenSpec.ofChange Rows.fnExactMetaNewSpec) :=
  OpenClaim.holds_of_wide 6 Try.f6 rfl rfl rfl rfl rfl rfl rfl ⟨rfl, rfl, rfl, rfl, rfl⟩ rfl rfl rfl rfl rfl (by kernel_rfl) Try.func6 (by kernel_rfl)
    (of_decide_eq_true (by kernel_rfl)) (by unfold Func.isWrapper; first | (rw [if_pos (by decide +kernel)]; kernel_rfl) | (rw [if_neg (by decide +kernel)]; exact ⟨rfl, rfl⟩))
    (fun os started H enc _ => lifted os started H enc)

theorem proved : Rows.FnExactMetaNewSaid :=
  over
end Go.Proofs.Ytkeojhnifnkpiaa.fnExactMetaNew
namespace Go.Proofs.Ytkeojhnifnkpiaa
theorem fnExactMetaNew_holds : Rows.FnExactMetaNewSaid := fnExactMetaNew.proved
end Go.Proofs.Ytkeojhnifnkpiaa

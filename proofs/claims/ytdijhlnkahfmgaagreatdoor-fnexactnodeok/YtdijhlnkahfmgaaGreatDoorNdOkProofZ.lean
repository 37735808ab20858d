/- NodeOk of the program answers at every node as its model does, and writes into none. -/
import Derived.Test.YtdijhlnkahfmgaaGreatDoorCards
import Derived.Test.YtdijhlnkahfmgaaGreatDoorTie
import Derived.WalkKit
import Derived.ProofKit
import Derived.OpenShut
import Derived.ShutString
import Derived.ChangeOld
import Derived.Below
import Derived.Deep.DeepHandedRow
import Derived.Stop.LaidErr
import Derived.LaidMore
import Derived.LaidHandle
import Derived.Test.YtdijhlnkahfmgaaGreatDoorSlOZ
import Derived.Test.YtdijhlnkahfmgaaGreatDoorNdNZ
import Derived.Test.YtdijhlnkahfmgaaGreatDoorNdOZ

namespace Go.Proofs.YtdijhlnkahfmgaaGreatDoor.fnExactNodeOk
open Go.ChangeShapes Go.WideShapes Go.ChangeAt Go.RowKit
set_option linter.unusedVariables false

theorem own : ownKnob Tryz.prog.godebug = none := by kernel_rfl
theorem laidOut : laidOutB Tryz.prog = true := by kernel_rfl
theorem gErr : Tryz.prog.globalNamed "errors.errorType" = some 0 := by kernel_rfl
theorem rtT : (Tryz.prog.cutTypes.find? (·.1 == "internal/reflectlite.rtype")).map (·.2) = some 189 := by kernel_rfl
theorem tsize : Tryz.prog.types.size = 297 := by kernel_rfl
theorem oneRow : ((List.range 297).filter fun t => Tryz.prog.rowNamed t [101, 114, 114, 111, 114]) = [91] := by kernel_rfl
theorem handle {W : World} (h : laidMetH Tryz.prog Rows.fnExactNodeOkRow.laid W) : ErrT W := by
  have h' : laidMet Tryz.prog [] W ∧ handlesMet Tryz.prog [("errors.errorType", Rows.laid_errors_errorType)] W := h
  obtain ⟨name, u, ty, e1, e2, e3, e4, e5⟩ := h'.2 _ (List.mem_singleton.2 rfl)
  have en : name = [101, 114, 114, 111, 114] := (Option.some.inj e1).symm
  subst en
  obtain rfl := Option.some.inj (rtT.symm.trans e2)
  have hm : ty ∈ (List.range 297).filter fun t => Tryz.prog.rowNamed t [101, 114, 114, 111, 114] := List.mem_filter.2 ⟨List.mem_range.2 (by rw [← tsize]; exact e3), e4⟩
  rw [oneRow] at hm
  obtain rfl := List.mem_singleton.1 hm
  have hh : typeHandle Tryz.prog 91 = .pointer (some ⟨1, 91, none⟩) := by kernel_rfl
  rw [hh] at e5
  show W.cell? ⟨0, 0, none⟩ = _
  simpa using World.var?_cell gErr e5 0

set_option maxHeartbeats 8000000 in
set_option maxRecDepth 100000 in
theorem walk (a : Na) (d : Nd) (w : World) (hg : ErrT w) (hv : NV w a d) (hw : NBw d) :
    Calls Tryz.prog 6 #[nv a d] w fun e w' => e = .returned (.bool true) ∧ Below w.heap.size w w' := by
  obtain ⟨W0, hW0⟩ : ∃ W0, W0 = w.alloc (.cells (nds a d) 64) := ⟨_, rfl⟩
  have H0 : Hid (Below w.heap.size w W0 ∧ NB W0 w.heap.size 64 a d) := by rw [hW0]; exact ⟨bal1 _ _, NB.new _ _ _ _⟩
  have HV : Hid (∀ V, Below w.heap.size w V → NV V a d ∧ ErrT V) := fun V hb => ⟨hv.below hb, hg.below hb⟩
  have hsz := hide (szn_any a d 1048576 W0 hw (by omega) (by omega) (HV.out _ H0.out.1).1)
  obtain ⟨p0, p1, p2, p3, p4, p5, p6, p7, p8, p9, p10, p11, p12, p13, p14, p15⟩ := H0.out.2.cells
  clear hg hv hw
  unfold nv
  unfold nds at hW0 ⊢
  go_enter Tryz.func6, Tryz.ntmps6
  go_wp2_with fail
  rw [← hW0]
  clear hW0
  refine hsz.out.mono ?_
  rintro e ws ⟨hs, bs⟩
  have H1 : Hid (Below w.heap.size w ws ∧ NB ws w.heap.size 64 a d) := ⟨H0.out.1.trans (bs.mono H0.out.1.size), H0.out.2.b bs⟩
  clear bs H0 hsz p0 p1 p2 p3 p4 p5 p6 p7 p8 p9 p10 p11 p12 p13 p14 p15
  obtain ⟨p0, p1, p2, p3, p4, p5, p6, p7, p8, p9, p10, p11, p12, p13, p14, p15⟩ := H1.out.2.cells
  rcases hs with ⟨hle, rfl⟩ | rfl
  case inr =>
    go_wp2
    go_ret
    exact ⟨rfl, H1.out.1⟩
  have hkd : ¬ (1048576 : Int) - ntot d < 0 := by omega
  have HD := hide (nbd_of hle)
  have HT := hide hle
  clear hle
  as_aux_lemma =>
    go_wp2_with fail
    refine (ton_any a d ws HD.out (HV.out _ H1.out.1).1).mono ?_
    rintro e w1 ⟨b1, rfl, o1, c1⟩
    have H2 : Hid ((Below w.heap.size w w1 ∧ NB w1 w.heap.size 64 a d) ∧ NV w1 b1 d) := ⟨⟨H1.out.1.trans (c1.mono H1.out.1.size), H1.out.2.b c1⟩, o1.nv⟩
    clear o1 c1 H1 p0 p1 p2 p3 p4 p5 p6 p7 p8 p9 p10 p11 p12 p13 p14 p15 hkd
    as_aux_lemma =>
      go_wp2_with fail
      refine (node_spec b1 d w1 HD.out H2.out.2).mono ?_
      rintro e w2 ⟨hb, c2⟩
      obtain ⟨bb, rfl, hbb⟩ : ∃ bb : Bool, e = .returned (.bool bb) ∧ (bb = true ↔ NOk d) := by
        rcases hb with ⟨h, rfl⟩ | ⟨h, rfl⟩
        · exact ⟨true, rfl, fun _ => h, fun _ => rfl⟩
        · exact ⟨false, rfl, (fun h2 => by cases h2), fun h2 => absurd h2 h⟩
      have HBB : Hid (bb = true ↔ NOk d) := (show _ ↔ _ from hbb)
      have H3 : Hid (Below w.heap.size w w2 ∧ NB w2 w.heap.size 64 a d) := ⟨H2.out.1.1.trans (c2.mono H2.out.1.1.size), H2.out.1.2.b c2⟩
      clear c2 H2 hb hbb
      obtain ⟨p0, p1, p2, p3, p4, p5, p6, p7, p8, p9, p10, p11, p12, p13, p14, p15⟩ := H3.out.2.cells
      as_aux_lemma =>
        go_wp2_with fail
        refine (ton_any a d w2 HD.out (HV.out _ H3.out.1).1).mono ?_
        rintro e w3 ⟨b3, rfl, o3, c3⟩
        obtain ⟨W3, hW3⟩ : ∃ W3, W3 = w3.alloc (.cells (nds b3 d) 45) := ⟨_, rfl⟩
        have H4 : Hid ((Below w.heap.size w W3 ∧ NB W3 w.heap.size 64 a d) ∧ NB W3 w3.heap.size 45 b3 d ∧ NV W3 b3 d) := by
          have bx := bal1 w3 (.cells (nds b3 d) 45)
          have cc := H3.out.1.trans (c3.mono H3.out.1.size)
          rw [hW3]
          exact ⟨⟨cc.trans (bx.mono cc.size), (H3.out.2.b c3).b bx⟩, NB.new _ _ _ _, o3.nv.below bx⟩
        clear o3 c3 H3 p0 p1 p2 p3 p4 p5 p6 p7 p8 p9 p10 p11 p12 p13 p14 p15
        as_aux_lemma =>
          unfold nds at hW3
          unfold nv nds
          go_wp2_with fail
          rw [← hW3]
          clear hW3
          generalize w3.heap.size = X3 at *
          refine (node_impl b3 d W3 (HV.out _ H4.out.1.1).2 HD.out H4.out.2.2).mono ?_
          rintro e w4 ⟨hb, c4⟩
          obtain rfl : e = .returned (.bool bb) := by
            rcases hb with ⟨h, rfl⟩ | ⟨h, rfl⟩
            · rw [HBB.out.2 h]
            · cases bb with
              | false => rfl
              | true => exact absurd (HBB.out.1 rfl) h
          have H5 : Hid ((Below w.heap.size w w4.drew ∧ NB w4.drew w.heap.size 64 a d) ∧ NB w4.drew X3 45 b3 d ∧ NV w4.drew b3 d) := by
            have c5 : Below W3.heap.size W3 w4.drew := Below.drawn c4 1
            exact ⟨⟨H4.out.1.1.trans (c5.mono H4.out.1.1.size), H4.out.1.2.b c5⟩, H4.out.2.1.b c5, H4.out.2.2.below c5⟩
          clear hb c4 H4 HBB
          have hto := hide (ton_any a d w4.drew HD.out (HV.out _ H5.out.1.1).1)
          have hb2 : (bb != bb) = false := by cases bb <;> rfl
          have hb3 : (bb == bb) = true := by cases bb <;> rfl
          as_aux_lemma =>
            go_wp2_with fail
            refine wp_region_held_drew (S := (fun w' => NB w' X3 45 b3 d ∧ NB w' w.heap.size 64 a d)) (by kernel_rfl) ?_ (fun hHeld => ?_)
            · exact ⟨H5.out.2.1, H5.out.1.2⟩
            refine wpAnyH_take (i := 0) (oi := { dst := some 22, op := Op.load 45 (Operand.tmp 5), type := 45, pos := "exact.go:2878", after := #[], guard := none }) (v := nv b3 d) rfl (by kernel_rfl) (by kernel_rfl) (by kernel_rfl) (fun _ _ _ h => h) (Or.inl ⟨by rfl, ?_⟩) (by assumption) ?_
            · (intro wq hSw; obtain ⟨p0, p1, p2, p3, p4, p5, p6, p7, p8, p9, p10, p11, p12, p13, p14, p15⟩ := hSw.1.cells; go_simp; rfl)
            try simp only [Act.put, List.setIfInBounds_toArray, List.set_cons_zero, List.set_cons_succ]
            refine wpAnyH_take (i := 1) (oi := { dst := some 23, op := Op.load 64 (Operand.tmp 1), type := 64, pos := "exact.go:2878", after := #[], guard := none }) (v := nv a d) rfl (by kernel_rfl) (by kernel_rfl) (by kernel_rfl) (fun _ _ _ h => h) (Or.inl ⟨by rfl, ?_⟩) (by assumption) ?_
            · (intro wq hSw; obtain ⟨p0, p1, p2, p3, p4, p5, p6, p7, p8, p9, p10, p11, p12, p13, p14, p15⟩ := hSw.2.cells; go_simp; rfl)
            try simp only [Act.put, List.setIfInBounds_toArray, List.set_cons_zero, List.set_cons_succ]
            refine wpAnyH_ready (rs := [2]) (by kernel_rfl) (by simp) ?_
            refine AllReadyH.cons (o := { dst := some 24, op := Op.call { callee := Callee.value (Operand.func 51), args := #[Operand.tmp 23], argTypes := #[64] }, type := 45, pos := "exact.go:2878", after := #[{ on := 1, ground := Ground.data }], guard := none }) rfl (fun K hK => ?_) AllReadyH.nil
            go_simp
            refine hto.out.mono ?_
            rintro e w6 ⟨b6, rfl, o6, c6⟩
            have H6 : Hid ((Below w.heap.size w w6 ∧ NB w6 w.heap.size 64 a d) ∧ NB w6 X3 45 b3 d ∧ NV w6 b3 d ∧ NV w6 b6 d) := ⟨⟨H5.out.1.1.trans (c6.mono H5.out.1.1.size), H5.out.1.2.b c6⟩, H5.out.2.1.b c6, H5.out.2.2.below c6, o6.nv⟩
            clear o6 c6
            go_wp2_with fail
            refine hK.out _ _ ?_ (fun hHeld => ?_)
            · exact ⟨H6.out.2.1, H6.out.1.2⟩
            clear hK K
            try simp only [Act.put, List.setIfInBounds_toArray, List.set_cons_zero, List.set_cons_succ]
            refine wpAnyH_ready (rs := [3]) (by kernel_rfl) (by simp) ?_
            refine AllReadyH.cons (o := { dst := some 25, op := Op.call { callee := Callee.value (Operand.func 52), args := #[Operand.tmp 22, Operand.tmp 24], argTypes := #[45, 45] }, type := 4, pos := "exact.go:2878", after := #[{ on := 0, ground := Ground.data }, { on := 2, ground := Ground.data }, { on := 2, ground := Ground.chain }], guard := none }) rfl (fun K hK => ?_) AllReadyH.nil
            go_simp
            refine (eqn_yes b3 b6 d w6 HD.out H6.out.2.2.1 H6.out.2.2.2).mono ?_
            rintro e w7 ⟨rfl, c7⟩
            have H7 : Hid ((Below w.heap.size w w7 ∧ NB w7 w.heap.size 64 a d) ∧ NB w7 X3 45 b3 d) := ⟨⟨H6.out.1.1.trans (c7.mono H6.out.1.1.size), H6.out.1.2.b c7⟩, H6.out.2.1.b c7⟩
            clear c7 H6
            go_wp2_with fail
            refine hK.out _ _ ?_ (fun hHeld => ?_)
            · exact ⟨H7.out.2, H7.out.1.2⟩
            clear hK K
            try simp only [Act.put, List.setIfInBounds_toArray, List.set_cons_zero, List.set_cons_succ]
            refine wpAnyH_take (i := 4) (oi := { dst := some 26, op := Op.unOp UnOp.not 4 (Operand.tmp 25), type := 4, pos := "exact.go:2878", after := #[{ on := 3, ground := Ground.data }], guard := none }) (v := ?_) rfl (by kernel_rfl) (by kernel_rfl) (by kernel_rfl) (fun _ _ _ h => h) (Or.inl ⟨by rfl, ?_⟩) (by assumption) ?_
            rotate_left 1
            · (intro wq hSw; (try dsimp only at hSw); go_simp; try with_reducible rfl)
            try simp only [Act.put, List.setIfInBounds_toArray, List.set_cons_zero, List.set_cons_succ]
            refine wpAnyH_done (by kernel_rfl) ?_ _
            clear hto
            go_wp2
            go_ret
            exact ⟨rfl, H7.out.1.1⟩

set_option maxRecDepth 100000 in
theorem contract (H : Type) (enc : TypeId × Value → H) (W : World) (base : Nat) (args : Array Value) (ds gs : List (DataW H)) (before : List MemPlace)
    (hval : ∀ (j : Nat) t v, Tryz.f6.params[j]? = some t → args[j]? = some v → Value.okWide Tryz.prog W .any base t v)
    (hW : DataW.Whole enc Tryz.prog Tryz.f6.params.toList Rows.fnExactNodeOkSpec.vars false W args.toList ds gs before) (hL0 : laidMetH Tryz.prog Rows.fnExactNodeOkRow.laid W) :
    Calls Tryz.prog 6 args W fun e W' => ∃ v, e = .returned v ∧ Rows.fnExactNodeOkSpec.post enc Tryz.prog Tryz.f6 false true false false W args v W' := by
  have hW' := hW
  obtain ⟨p, q, hA0, hV, rfl, hfz, hnd⟩ := hW
  have hAll : DataW.TrodAll enc Tryz.prog W 0 (fun _ => true) true Tryz.f6.params.toList args.toList ds p := hA0
  rw [Tryz.params6] at hAll hval
  obtain ⟨v0, vs0, d0, ds0, p0, q0, hargs0, rfl, rfl, h0, r0⟩ := trodAll_cons hAll
  obtain ⟨rfl, rfl, rfl⟩ := trodAll_nil r0
  obtain rfl : args = #[v0] := by cases args; simp_all
  obtain ⟨rfl, rfl⟩ := trodVars_none hV
  have k0 := h0
  have lt0 : ∀ x ∈ p0, x.block < W.heap.size := by obtain ⟨m, hm⟩ := k0; exact DataW.trod_lt m _ _ _ hm
  obtain ⟨cs0, rfl, _⟩ := okWide_struct Tryz.underlying64 (hval 0 64 v0 rfl rfl)
  obtain ⟨a, d, hcs0, hv, hw⟩ : ∃ (a : Na) (d : Nd), cs0 = nds a d ∧ NV W a d ∧ NBw d := by
    obtain ⟨fuel, hf⟩ := h0
    obtain ⟨a, d, e, h1, h2⟩ := open_node hf
    refine ⟨a, d, ?_, h1, h2⟩
    obtain ⟨l⟩ := cs0
    simpa [Value.cells, nds] using e
  subst hcs0
  clear hA0
  refine (walk a d W (handle hL0) hv hw).mono fun e W' ⟨he, bel⟩ => ?_
  subst he
  exact ⟨_, rfl, _, _, _, [], _, [], hW', trodAll_mk1 (shut_bool Tryz.underlying4 _), (trodAll_cons_mk (Below.trod laidOut (by kernel_rfl) (of_decide_eq_true (by kernel_rfl)) k0 bel lt0) trodAll_mk0), rfl, bel.frame _, fun h => by cases h⟩

/-- A world that meets the condition: the variable's cell laid. -/
def laidWorld (w0 : World) : World :=
  { w0 with heap := w0.heap.modify 0 fun
      | .cells _ t frozen => .cells #[.iface 189 (.agg #[.pointer (some ⟨1, 91, none⟩)])] t frozen
      | o => o }
theorem laid_met (os : Os) (args : Array Value) : laidMetH Tryz.prog Rows.fnExactNodeOkRow.laid ((laidWorld (World.holding Tryz.prog os ⟨#[], #[], []⟩)).forCall (fun _ _ => 0) ⟨#[], args, []⟩).memory :=
  laidMetH_of_parts (laidMet_nil _ _) (by kernel_rfl)
theorem reads (os : Os) {H : Type} (enc : TypeId × Value → H) : ∃ places, DataW.whole enc Tryz.prog ((laidWorld (World.holding Tryz.prog os ⟨#[], #[], []⟩)).forCall (fun _ _ => 0) ⟨#[], #[.agg #[.int .i64 0, .bool false, .bool false, .slice none 0 0, .slice none 0 0, .slice none 0 0, .bool false, .bool false, .bool false, .int .i64 0, .slice none 0 0, .slice none 0 0, .slice none 0 0, .slice none 0 0, .slice none 0 0, .slice none 0 0]], []⟩).memory Tryz.f6.params.toList Rows.fnExactNodeOkSpec.vars false #[.agg #[.int .i64 0, .bool false, .bool false, .slice none 0 0, .slice none 0 0, .slice none 0 0, .bool false, .bool false, .bool false, .int .i64 0, .slice none 0 0, .slice none 0 0, .slice none 0 0, .slice none 0 0, .slice none 0 0, .slice none 0 0]].toList 8 = some ([.agg [.lit (.int .i64 0), .lit (.bool false), .lit (.bool false), .nil, .agg [.nil, .nil, .lit (.bool false), .lit (.bool false), .lit (.bool false), .lit (.int .i64 0)], .agg [.nil, .nil], .nil, .nil, .nil, .nil]], [], places) :=
  ⟨[], by kernel_rfl⟩

set_option maxRecDepth 100000 in
theorem lifted (os : Os) (started : os.Started) (H : Type) (enc : TypeId × Value → H) (F : Stop.Interp) :
    ReturnsInHanded {} Tryz.checked os 6 .any ((OpenSpec.ofChange Rows.fnExactNodeOkSpec).preRow enc Tryz.prog Tryz.f6 Rows.fnExactNodeOkRow.domain false Rows.fnExactNodeOkRow.laid) (((OpenSpec.ofChange Rows.fnExactNodeOkSpec).at F).post enc Tryz.prog Tryz.f6 false true false false) := by
  obtain ⟨places, hx⟩ := reads os enc
  refine returnsInHanded_of_row (C := Tryz.checked) (s := OpenSpec.ofChange Rows.fnExactNodeOkSpec) own started (by kernel_rfl) Tryz.func6
    (witness_row_at (enc := enc) (C := Tryz.checked) false (laidWorld (World.holding Tryz.prog os ⟨#[], #[], []⟩)) #[.agg #[.int .i64 0, .bool false, .bool false, .slice none 0 0, .slice none 0 0, .slice none 0 0, .bool false, .bool false, .bool false, .int .i64 0, .slice none 0 0, .slice none 0 0, .slice none 0 0, .slice none 0 0, .slice none 0 0, .slice none 0 0]] rfl (by kernel_rfl) (by kernel_rfl) (by kernel_rfl)
      (OpenSpec.preRow_of_cond 8 hx (by kernel_rfl) (fun k hk => by cases hk) (by kernel_rfl) (laid_met os _))) ?_
  intro W base args ds gs before hval hW _ _ _ hL _ _
  exact contract H enc W base args ds gs before hval hW hL

theorem said : Rows.FnExactNodeOkSaid :=
  OpenClaim.holds_of_cond 6 Tryz.f6 rfl rfl rfl rfl rfl rfl rfl ⟨rfl, rfl, rfl, rfl, rfl⟩ rfl rfl rfl rfl rfl (by kernel_rfl) Tryz.func6 (by kernel_rfl)
    (of_decide_eq_true (by kernel_rfl)) (by unfold Func.isWrapper; first | (rw [if_pos (by decide +kernel)]; kernel_rfl) | (rw [if_neg (by decide +kernel)]; exact ⟨rfl, rfl⟩))
    (fun os started H enc _ F => by rw [OpenClaim.pre_eq_preRow]; exact lifted os started H enc F)

theorem plain (f : FuncId) (fn : Func) (hf : Tryz.pinned.checked.prog.funcNamed "loop.example/g00399/laws.FnExactNodeOk" = some f) (hfn : Tryz.pinned.checked.prog.funcs[f]? = some fn) :
    true = Tryz.pinned.checked.prog.looks [] ∧ ∀ (j : Nat) t, fn.params[j]? = some t → Tryz.pinned.checked.prog.wantsStandIn t = false := by
  obtain rfl : f = 6 := Option.some.inj ((show Tryz.prog.funcNamed "loop.example/g00399/laws.FnExactNodeOk" = some 6 by kernel_rfl).symm.trans hf) |>.symm
  obtain rfl : fn = Tryz.f6 := (Option.some.inj (Tryz.func6.symm.trans hfn)).symm
  refine ⟨by kernel_rfl, fun j t ht => ?_⟩
  rw [Tryz.params6] at ht
  have ht' : t = 64 := by simpa using Array.mem_of_getElem? ht
  rcases ht' with rfl
  · exact (show Tryz.prog.wantsStandIn 64 = false by kernel_rfl)

theorem card : Rows.FnExactNodeOkCardSaid :=
  Claim7.holds_tied_plain_at .later [] _ _ _ _ said (fun _ h => by cases h) (by kernel_rfl) (fun _ h => by cases h) fnExactNodeOk_row_tie rfl ⟨rfl, rfl⟩ (by kernel_rfl) rfl plain (by kernel_rfl)
end Go.Proofs.YtdijhlnkahfmgaaGreatDoor.fnExactNodeOk
namespace Go.Proofs.YtdijhlnkahfmgaaGreatDoor
theorem fnExactNodeOk_card : Rows.FnExactNodeOkCardSaid := fnExactNodeOk.card
end Go.Proofs.YtdijhlnkahfmgaaGreatDoor

/- Lead answers as its model at every two nodes, quiet or not, writes into no argument, and its answer owns its memory. -/
import Derived.Test.YtkndnndildnbpaaGreatDoorCards
import Derived.Test.YtkndnndildnbpaaGreatDoorTie
import Derived.WalkKit
import Derived.ProofKit
import Derived.OpenShut
import Derived.ShutString
import Derived.ChangeOld
import Derived.Below
import Derived.Deep.DeepHandedRow
import Derived.Stop.LaidErr
import Derived.LaidLaws
import Derived.RowKitTokens
import Derived.Test.YtkndnndildnbpaaGreatDoorHi
import Derived.LaidMore
import Derived.LaidHandle
import Derived.Test.YtkndnndildnbpaaGreatDoorSlOZ
import Derived.Test.YtkndnndildnbpaaGreatDoorNdLeadWalkZ
import Derived.Test.YtkndnndildnbpaaGreatDoorNdLeadFaZ

namespace Go.Proofs.YtkndnndildnbpaaGreatDoor.fnExactLead
open Go.ChangeShapes Go.WideShapes Go.ChangeAt Go.RowKit
set_option linter.unusedVariables false

theorem own : ownKnob Tryz.prog.godebug = none := by kernel_rfl
theorem laidOut : laidOutB Tryz.prog = true := by kernel_rfl
theorem gErr : Tryz.prog.globalNamed "errors.errorType" = some 11 := by kernel_rfl
theorem rtT : (Tryz.prog.cutTypes.find? (·.1 == "internal/reflectlite.rtype")).map (·.2) = some 194 := by kernel_rfl
theorem tsize : Tryz.prog.types.size = 293 := by kernel_rfl
theorem oneRow : ((List.range 293).filter fun t => Tryz.prog.rowNamed t [101, 114, 114, 111, 114]) = [129] := by kernel_rfl
theorem g_errNoPair : Tryz.prog.globalNamed "loop.example/g00399/impl.errNoPair" = some 1 := by kernel_rfl
theorem gt_errNoPair : (Tryz.prog.globals[1]?).map (·.type) = some 129 := by kernel_rfl
theorem g_errUnfit : Tryz.prog.globalNamed "loop.example/g00399/impl.errUnfit" = some 2 := by kernel_rfl
theorem gt_errUnfit : (Tryz.prog.globals[2]?).map (·.type) = some 129 := by kernel_rfl
theorem g_errHoldsNot : Tryz.prog.globalNamed "loop.example/g00399/impl.errHoldsNot" = some 0 := by kernel_rfl
theorem gt_errHoldsNot : (Tryz.prog.globals[0]?).map (·.type) = some 129 := by kernel_rfl
theorem g_errLeads : Tryz.prog.globalNamed "loop.example/g00399/impl.errLeads" = some 6 := by kernel_rfl
theorem gt_errLeads : (Tryz.prog.globals[6]?).map (·.type) = some 129 := by kernel_rfl
theorem g_errMateLeads : Tryz.prog.globalNamed "loop.example/g00399/impl.errMateLeads" = some 5 := by kernel_rfl
theorem gt_errMateLeads : (Tryz.prog.globals[5]?).map (·.type) = some 129 := by kernel_rfl
theorem g_errApart : Tryz.prog.globalNamed "loop.example/g00399/impl.errApart" = some 7 := by kernel_rfl
theorem gt_errApart : (Tryz.prog.globals[7]?).map (·.type) = some 129 := by kernel_rfl
theorem g_errCopies : Tryz.prog.globalNamed "loop.example/g00399/impl.errCopies" = some 8 := by kernel_rfl
theorem gt_errCopies : (Tryz.prog.globals[8]?).map (·.type) = some 129 := by kernel_rfl
theorem g_errBehind : Tryz.prog.globalNamed "loop.example/g00399/impl.errBehind" = some 9 := by kernel_rfl
theorem gt_errBehind : (Tryz.prog.globals[9]?).map (·.type) = some 129 := by kernel_rfl
theorem g_errNotQuiet : Tryz.prog.globalNamed "loop.example/g00399/impl.errNotQuiet" = some 10 := by kernel_rfl
theorem gt_errNotQuiet : (Tryz.prog.globals[10]?).map (·.type) = some 129 := by kernel_rfl
theorem star : "*" ++ "errors.errorString" = "*errors.errorString" := by decide
theorem rowES (u : TypeId) (h : Tryz.prog.typeName? 3 u = some "*errors.errorString") : u = 258 :=
  typeName_ptr_named (nm := "errors.errorString") (by rw [star]; kernel_rfl) (by kernel_rfl) (by decide) u (by rw [star]; exact h)
theorem cES : Tryz.prog.cellsOf 281 = 1 := by kernel_rfl
theorem cStr : Tryz.prog.cellsOf 9 = 1 := by kernel_rfl
theorem isIf : ∀ n ∈ ["loop.example/g00399/impl.errHoldsNot", "loop.example/g00399/impl.errNoPair", "loop.example/g00399/impl.errUnfit", "loop.example/g00399/impl.errLeads", "loop.example/g00399/impl.errApart", "loop.example/g00399/impl.errCopies", "loop.example/g00399/impl.errMateLeads", "loop.example/g00399/impl.errBehind", "loop.example/g00399/impl.errNotQuiet"], ∀ g t, Tryz.prog.globalNamed n = some g → (Tryz.prog.globals[g]?).map (·.type) = some t → ∃ ms, Tryz.prog.underlying t = some (.interface ms) := by
  intro n hn g t hg ht
  simp only [List.mem_cons, List.not_mem_nil, or_false] at hn
  rcases hn with rfl | rfl | rfl | rfl | rfl | rfl | rfl | rfl | rfl
  · obtain rfl := Option.some.inj (g_errHoldsNot.symm.trans hg)
    obtain rfl := Option.some.inj (gt_errHoldsNot.symm.trans ht)
    exact ⟨_, Tryz.underlying129⟩
  · obtain rfl := Option.some.inj (g_errNoPair.symm.trans hg)
    obtain rfl := Option.some.inj (gt_errNoPair.symm.trans ht)
    exact ⟨_, Tryz.underlying129⟩
  · obtain rfl := Option.some.inj (g_errUnfit.symm.trans hg)
    obtain rfl := Option.some.inj (gt_errUnfit.symm.trans ht)
    exact ⟨_, Tryz.underlying129⟩
  · obtain rfl := Option.some.inj (g_errLeads.symm.trans hg)
    obtain rfl := Option.some.inj (gt_errLeads.symm.trans ht)
    exact ⟨_, Tryz.underlying129⟩
  · obtain rfl := Option.some.inj (g_errApart.symm.trans hg)
    obtain rfl := Option.some.inj (gt_errApart.symm.trans ht)
    exact ⟨_, Tryz.underlying129⟩
  · obtain rfl := Option.some.inj (g_errCopies.symm.trans hg)
    obtain rfl := Option.some.inj (gt_errCopies.symm.trans ht)
    exact ⟨_, Tryz.underlying129⟩
  · obtain rfl := Option.some.inj (g_errMateLeads.symm.trans hg)
    obtain rfl := Option.some.inj (gt_errMateLeads.symm.trans ht)
    exact ⟨_, Tryz.underlying129⟩
  · obtain rfl := Option.some.inj (g_errBehind.symm.trans hg)
    obtain rfl := Option.some.inj (gt_errBehind.symm.trans ht)
    exact ⟨_, Tryz.underlying129⟩
  · obtain rfl := Option.some.inj (g_errNotQuiet.symm.trans hg)
    obtain rfl := Option.some.inj (gt_errNotQuiet.symm.trans ht)
    exact ⟨_, Tryz.underlying129⟩
theorem handleT {W : World} (h' : laidMet Tryz.prog [("loop.example/g00399/impl.errNoPair", Rows.laid_loop_example_g00399_impl_errNoPair), ("loop.example/g00399/impl.errUnfit", Rows.laid_loop_example_g00399_impl_errUnfit), ("loop.example/g00399/impl.errHoldsNot", Rows.laid_loop_example_g00399_impl_errHoldsNot), ("loop.example/g00399/impl.errLeads", Rows.laid_loop_example_g00399_impl_errLeads), ("loop.example/g00399/impl.errMateLeads", Rows.laid_loop_example_g00399_impl_errMateLeads), ("loop.example/g00399/impl.errApart", Rows.laid_loop_example_g00399_impl_errApart), ("loop.example/g00399/impl.errCopies", Rows.laid_loop_example_g00399_impl_errCopies), ("loop.example/g00399/impl.errBehind", Rows.laid_loop_example_g00399_impl_errBehind), ("loop.example/g00399/impl.errNotQuiet", Rows.laid_loop_example_g00399_impl_errNotQuiet)] W ∧ handlesMet Tryz.prog [("errors.errorType", Rows.laid_errors_errorType)] W) : ErrT W := by
  obtain ⟨name, u, ty, e1, e2, e3, e4, e5⟩ := h'.2 _ (List.mem_singleton.2 rfl)
  have en : name = [101, 114, 114, 111, 114] := (Option.some.inj e1).symm
  subst en
  obtain rfl := Option.some.inj (rtT.symm.trans e2)
  have hm : ty ∈ (List.range 293).filter fun t => Tryz.prog.rowNamed t [101, 114, 114, 111, 114] := List.mem_filter.2 ⟨List.mem_range.2 (by rw [← tsize]; exact e3), e4⟩
  rw [oneRow] at hm
  obtain rfl := List.mem_singleton.1 hm
  have hh : typeHandle Tryz.prog 129 = .pointer (some ⟨12, 129, none⟩) := by kernel_rfl
  rw [hh] at e5
  show W.cell? ⟨11, 0, none⟩ = _
  simpa using World.var?_cell gErr e5 0

theorem handle {W : World} (h : laidMetH Tryz.prog Rows.fnExactLeadRow.laid W) : ErrL W := by
  have h' : laidMet Tryz.prog [("loop.example/g00399/impl.errNoPair", Rows.laid_loop_example_g00399_impl_errNoPair), ("loop.example/g00399/impl.errUnfit", Rows.laid_loop_example_g00399_impl_errUnfit), ("loop.example/g00399/impl.errHoldsNot", Rows.laid_loop_example_g00399_impl_errHoldsNot), ("loop.example/g00399/impl.errLeads", Rows.laid_loop_example_g00399_impl_errLeads), ("loop.example/g00399/impl.errMateLeads", Rows.laid_loop_example_g00399_impl_errMateLeads), ("loop.example/g00399/impl.errApart", Rows.laid_loop_example_g00399_impl_errApart), ("loop.example/g00399/impl.errCopies", Rows.laid_loop_example_g00399_impl_errCopies), ("loop.example/g00399/impl.errBehind", Rows.laid_loop_example_g00399_impl_errBehind), ("loop.example/g00399/impl.errNotQuiet", Rows.laid_loop_example_g00399_impl_errNotQuiet)] W ∧ handlesMet Tryz.prog [("errors.errorType", Rows.laid_errors_errorType)] W := h
  have hT := handleT h'
  have t0 := h'.1
  obtain ⟨p0, _, v0, _, _, _⟩ := laid_sentinel t0 g_errNoPair gt_errNoPair Tryz.underlying129 rowES Tryz.underlying258 Tryz.underlying281 rfl rfl Tryz.underlying9 cES cStr
  have e_errNoPair : ErrV 1 W := ⟨p0, by simpa using World.var?_cell g_errNoPair v0 0⟩
  have t1 := t0.tail
  obtain ⟨p1, _, v1, _, _, _⟩ := laid_sentinel t1 g_errUnfit gt_errUnfit Tryz.underlying129 rowES Tryz.underlying258 Tryz.underlying281 rfl rfl Tryz.underlying9 cES cStr
  have e_errUnfit : ErrV 2 W := ⟨p1, by simpa using World.var?_cell g_errUnfit v1 0⟩
  have t2 := t1.tail
  obtain ⟨p2, _, v2, _, _, _⟩ := laid_sentinel t2 g_errHoldsNot gt_errHoldsNot Tryz.underlying129 rowES Tryz.underlying258 Tryz.underlying281 rfl rfl Tryz.underlying9 cES cStr
  have e_errHoldsNot : ErrV 0 W := ⟨p2, by simpa using World.var?_cell g_errHoldsNot v2 0⟩
  have t3 := t2.tail
  obtain ⟨p3, _, v3, _, _, _⟩ := laid_sentinel t3 g_errLeads gt_errLeads Tryz.underlying129 rowES Tryz.underlying258 Tryz.underlying281 rfl rfl Tryz.underlying9 cES cStr
  have e_errLeads : ErrV 6 W := ⟨p3, by simpa using World.var?_cell g_errLeads v3 0⟩
  have t4 := t3.tail
  obtain ⟨p4, _, v4, _, _, _⟩ := laid_sentinel t4 g_errMateLeads gt_errMateLeads Tryz.underlying129 rowES Tryz.underlying258 Tryz.underlying281 rfl rfl Tryz.underlying9 cES cStr
  have e_errMateLeads : ErrV 5 W := ⟨p4, by simpa using World.var?_cell g_errMateLeads v4 0⟩
  have t5 := t4.tail
  obtain ⟨p5, _, v5, _, _, _⟩ := laid_sentinel t5 g_errApart gt_errApart Tryz.underlying129 rowES Tryz.underlying258 Tryz.underlying281 rfl rfl Tryz.underlying9 cES cStr
  have e_errApart : ErrV 7 W := ⟨p5, by simpa using World.var?_cell g_errApart v5 0⟩
  have t6 := t5.tail
  obtain ⟨p6, _, v6, _, _, _⟩ := laid_sentinel t6 g_errCopies gt_errCopies Tryz.underlying129 rowES Tryz.underlying258 Tryz.underlying281 rfl rfl Tryz.underlying9 cES cStr
  have e_errCopies : ErrV 8 W := ⟨p6, by simpa using World.var?_cell g_errCopies v6 0⟩
  have t7 := t6.tail
  obtain ⟨p7, _, v7, _, _, _⟩ := laid_sentinel t7 g_errBehind gt_errBehind Tryz.underlying129 rowES Tryz.underlying258 Tryz.underlying281 rfl rfl Tryz.underlying9 cES cStr
  have e_errBehind : ErrV 9 W := ⟨p7, by simpa using World.var?_cell g_errBehind v7 0⟩
  have t8 := t7.tail
  obtain ⟨p8, _, v8, _, _, _⟩ := laid_sentinel t8 g_errNotQuiet gt_errNotQuiet Tryz.underlying129 rowES Tryz.underlying258 Tryz.underlying281 rfl rfl Tryz.underlying9 cES cStr
  have e_errNotQuiet : ErrV 10 W := ⟨p8, by simpa using World.var?_cell g_errNotQuiet v8 0⟩
  have F : EsT Tryz.prog "*errors.errorString" 258 281 9 _ := ⟨rowES, Tryz.underlying258, Tryz.underlying281, rfl, rfl, Tryz.underlying9, cES, cStr⟩
  obtain ⟨x1, y1, vx1, vy1, ne1, bx1, by1⟩ := laid_apart F h'.1 (n0 := "loop.example/g00399/impl.errNoPair") (n1 := "loop.example/g00399/impl.errHoldsNot") (by decide) (isIf _ (by simp)) (isIf _ (by simp)) (List.Mem.head _) (List.Mem.tail _ (List.Mem.tail _ (List.Mem.head _)))
  obtain ⟨x2, y2, vx2, vy2, ne2, bx2, by2⟩ := laid_apart F h'.1 (n0 := "loop.example/g00399/impl.errUnfit") (n1 := "loop.example/g00399/impl.errHoldsNot") (by decide) (isIf _ (by simp)) (isIf _ (by simp)) (List.Mem.tail _ (List.Mem.head _)) (List.Mem.tail _ (List.Mem.tail _ (List.Mem.head _)))
  have ey2 : y2 = y1 := by have := vy2.symm.trans vy1; simpa using this
  rw [ey2] at ne2
  obtain ⟨x3, y3, vx3, vy3, ne3, bx3, by3⟩ := laid_apart F h'.1 (n0 := "loop.example/g00399/impl.errLeads") (n1 := "loop.example/g00399/impl.errHoldsNot") (by decide) (isIf _ (by simp)) (isIf _ (by simp)) (List.Mem.tail _ (List.Mem.tail _ (List.Mem.tail _ (List.Mem.head _)))) (List.Mem.tail _ (List.Mem.tail _ (List.Mem.head _)))
  have ey3 : y3 = y1 := by have := vy3.symm.trans vy1; simpa using this
  rw [ey3] at ne3
  exact ⟨hT, e_errApart, e_errCopies, e_errMateLeads, e_errBehind, e_errNotQuiet, y1, ⟨by simpa using World.var?_cell g_errHoldsNot vy1 0, by1⟩, ⟨x1, by simpa using World.var?_cell g_errNoPair vx1 0, ne1, bx1⟩, ⟨x2, by simpa using World.var?_cell g_errUnfit vx2 0, ne2, bx2⟩, ⟨x3, by simpa using World.var?_cell g_errLeads vx3 0, ne3, bx3⟩⟩

set_option maxRecDepth 100000 in
theorem contract (H : Type) (enc : TypeId × Value → H) (W : World) (base : Nat) (args : Array Value) (ds gs : List (DataW H)) (before : List MemPlace)
    (hval : ∀ (j : Nat) t v, Tryz.f12.params[j]? = some t → args[j]? = some v → Value.okWide Tryz.prog W .any base t v)
    (hW : DataW.Whole enc Tryz.prog Tryz.f12.params.toList Rows.fnExactLeadSpec.vars false W args.toList ds gs before) (hL0 : laidMetH Tryz.prog Rows.fnExactLeadRow.laid W) :
    Calls Tryz.prog 12 args W fun e W' => ∃ v, e = .returned v ∧ Rows.fnExactLeadSpec.post enc Tryz.prog Tryz.f12 false true false false W args v W' := by
  have hW' := hW
  obtain ⟨p, q, hA0, hV, rfl, hfz, hnd⟩ := hW
  have hAll : DataW.TrodAll enc Tryz.prog W 0 (fun _ => true) true Tryz.f12.params.toList args.toList ds p := hA0
  rw [Tryz.params12] at hAll hval
  obtain ⟨v0, vs0, d0, ds0, p0, q0, hargs0, rfl, rfl, h0, r0⟩ := trodAll_cons hAll
  obtain ⟨v1, vs1, d1, ds1, p1, q1, hargs1, rfl, rfl, h1, r1⟩ := trodAll_cons r0
  obtain ⟨v2, vs2, d2, ds2, p2, q2, hargs2, rfl, rfl, h2, r2⟩ := trodAll_cons r1
  obtain ⟨rfl, rfl, rfl⟩ := trodAll_nil r2
  obtain rfl : args = #[v0, v1, v2] := by cases args; simp_all
  have hVV : DataW.TrodVars enc Tryz.prog W (fun _ => true) ["loop.example/g00399/impl.errHoldsNot", "loop.example/g00399/impl.errNoPair", "loop.example/g00399/impl.errUnfit", "loop.example/g00399/impl.errLeads", "loop.example/g00399/impl.errApart", "loop.example/g00399/impl.errCopies", "loop.example/g00399/impl.errMateLeads", "loop.example/g00399/impl.errBehind", "loop.example/g00399/impl.errNotQuiet"] gs q := hV
  obtain ⟨e0, gs0, qq0, rfl, hV0⟩ := vars_cons hVV
  obtain ⟨e1, gs1, qq1, rfl, hV1⟩ := vars_cons hV0
  obtain ⟨e2, gs2, qq2, rfl, hV2⟩ := vars_cons hV1
  obtain ⟨e3, gs3, qq3, rfl, hV3⟩ := vars_cons hV2
  obtain ⟨e4, gs4, qq4, rfl, hV4⟩ := vars_cons hV3
  obtain ⟨e5, gs5, qq5, rfl, hV5⟩ := vars_cons hV4
  obtain ⟨e6, gs6, qq6, rfl, hV6⟩ := vars_cons hV5
  obtain ⟨e7, gs7, qq7, rfl, hV7⟩ := vars_cons hV6
  obtain ⟨e8, gs8, qq8, rfl, hV8⟩ := vars_cons hV7
  obtain ⟨rfl, _⟩ := trodVars_none hV8
  have k0 := h0
  have lt0 : ∀ x ∈ p0, x.block < W.heap.size := by obtain ⟨m, hm⟩ := k0; exact DataW.trod_lt m _ _ _ hm
  obtain ⟨cs0, rfl, _⟩ := okWide_struct Tryz.underlying39 (hval 0 39 v0 rfl rfl)
  obtain ⟨a1, d1, hcs0, hv1, hw1⟩ : ∃ (a : Na) (d : Nd), cs0 = nds a d ∧ NV W a d ∧ NBw d := by
    obtain ⟨fuel, hf⟩ := h0
    obtain ⟨a, d, e, h1, h2⟩ := open_node hf
    refine ⟨a, d, ?_, h1, h2⟩
    obtain ⟨l⟩ := cs0
    simpa [Value.cells, nds] using e
  subst hcs0
  have k1 := h1
  have lt1 : ∀ x ∈ p1, x.block < W.heap.size := by obtain ⟨m, hm⟩ := k1; exact DataW.trod_lt m _ _ _ hm
  obtain ⟨cs1, rfl, _⟩ := okWide_struct Tryz.underlying39 (hval 1 39 v1 rfl rfl)
  obtain ⟨a2, d2, hcs1, hv2, hw2⟩ : ∃ (a : Na) (d : Nd), cs1 = nds a d ∧ NV W a d ∧ NBw d := by
    obtain ⟨fuel, hf⟩ := h1
    obtain ⟨a, d, e, h1, h2⟩ := open_node hf
    refine ⟨a, d, ?_, h1, h2⟩
    obtain ⟨l⟩ := cs1
    simpa [Value.cells, nds] using e
  subst hcs1
  have k2 := h2
  have lt2 : ∀ x ∈ p2, x.block < W.heap.size := by obtain ⟨m, hm⟩ := k2; exact DataW.trod_lt m _ _ _ hm
  obtain ⟨q1, rfl⟩ : ∃ q, v2 = .bool q := by
    obtain ⟨q, e, _⟩ := open_bool Tryz.underlying4 (hval 2 4 v2 rfl rfl) h2
    exact ⟨q, e⟩
  clear hA0
  refine (walk a1 d1 a2 d2 q1 W (handle hL0) hv1 hw1 hv2 hw2 ).mono fun e W' ⟨he, bel⟩ => ?_
  subst he
  exact ⟨_, rfl, _, _, _, [], _, _, hW', trodAll_mk1 (shut_bool Tryz.underlying4 _), (trodAll_cons_mk (Below.trod laidOut (by kernel_rfl) (of_decide_eq_true (by kernel_rfl)) k0 bel lt0) (trodAll_cons_mk (Below.trod laidOut (by kernel_rfl) (of_decide_eq_true (by kernel_rfl)) k1 bel lt1) (trodAll_cons_mk (Below.trod laidOut (by kernel_rfl) (of_decide_eq_true (by kernel_rfl)) k2 bel lt2) trodAll_mk0))), vars_again bel isIf hVV, bel.frame _, fun h => by cases h⟩

/-- A world that meets the condition: the variable's cell laid. -/
def laidWorld (w0 : World) : World :=
  { w0 with heap := ((((((((((w0.heap.modify 11 fun
      | .cells _ t frozen => .cells #[.iface 194 (.agg #[.pointer (some ⟨12, 129, none⟩)])] t frozen
      | o => o).modify 1 fun
      | .cells _ t frozen => .cells #[.iface 258 (.pointer (some ⟨w0.heap.size + 0, 0, none⟩))] t frozen
      | o => o).modify 2 fun
      | .cells _ t frozen => .cells #[.iface 258 (.pointer (some ⟨w0.heap.size + 1, 0, none⟩))] t frozen
      | o => o).modify 0 fun
      | .cells _ t frozen => .cells #[.iface 258 (.pointer (some ⟨w0.heap.size + 2, 0, none⟩))] t frozen
      | o => o).modify 6 fun
      | .cells _ t frozen => .cells #[.iface 258 (.pointer (some ⟨w0.heap.size + 3, 0, none⟩))] t frozen
      | o => o).modify 5 fun
      | .cells _ t frozen => .cells #[.iface 258 (.pointer (some ⟨w0.heap.size + 4, 0, none⟩))] t frozen
      | o => o).modify 7 fun
      | .cells _ t frozen => .cells #[.iface 258 (.pointer (some ⟨w0.heap.size + 5, 0, none⟩))] t frozen
      | o => o).modify 8 fun
      | .cells _ t frozen => .cells #[.iface 258 (.pointer (some ⟨w0.heap.size + 6, 0, none⟩))] t frozen
      | o => o).modify 9 fun
      | .cells _ t frozen => .cells #[.iface 258 (.pointer (some ⟨w0.heap.size + 7, 0, none⟩))] t frozen
      | o => o).modify 10 fun
      | .cells _ t frozen => .cells #[.iface 258 (.pointer (some ⟨w0.heap.size + 8, 0, none⟩))] t frozen
      | o => o) |>.push (.cells #[.string { data := #[116, 104, 101, 121, 32, 97, 114, 101, 32, 110, 111, 116, 32, 116, 119, 111, 32, 110, 111, 100, 101, 115, 32, 111, 102, 32, 116, 104, 101, 32, 112, 97, 105, 114] }] 281 (0, 0)) |>.push (.cells #[.string { data := #[105, 116, 32, 105, 115, 32, 100, 111, 119, 110, 44, 32, 116, 111, 114, 110, 32, 111, 114, 32, 111, 108, 100] }] 281 (0, 0)) |>.push (.cells #[.string { data := #[105, 116, 32, 100, 111, 101, 115, 32, 110, 111, 116, 32, 104, 111, 108, 100, 32, 105, 116, 115, 32, 109, 97, 116, 101, 32, 102, 111, 114, 32, 111, 108, 100] }] 281 (0, 0)) |>.push (.cells #[.string { data := #[105, 116, 32, 108, 101, 97, 100, 115, 32, 97, 108, 114, 101, 97, 100, 121] }] 281 (0, 0)) |>.push (.cells #[.string { data := #[105, 116, 115, 32, 109, 97, 116, 101, 32, 108, 101, 97, 100, 115] }] 281 (0, 0)) |>.push (.cells #[.string { data := #[116, 104, 101, 121, 32, 100, 111, 32, 110, 111, 116, 32, 104, 101, 97, 114, 32, 101, 97, 99, 104, 32, 111, 116, 104, 101, 114] }] 281 (0, 0)) |>.push (.cells #[.string { data := #[111, 110, 101, 32, 111, 102, 32, 116, 104, 101, 109, 32, 99, 111, 112, 105, 101, 115, 32, 116, 111, 32, 116, 104, 101, 32, 111, 116, 104, 101, 114, 32, 111, 110, 101] }] 281 (0, 0)) |>.push (.cells #[.string { data := #[116, 104, 101, 105, 114, 32, 108, 97, 115, 116, 32, 119, 114, 105, 116, 101, 115, 32, 97, 114, 101, 32, 110, 111, 116, 32, 116, 104, 101, 32, 115, 97, 109, 101] }] 281 (0, 0)) |>.push (.cells #[.string { data := #[115, 111, 109, 101, 116, 104, 105, 110, 103, 32, 105, 115, 32, 111, 110, 32, 105, 116, 115, 32, 119, 97, 121, 32, 98, 101, 116, 119, 101, 101, 110, 32, 116, 104, 101, 109] }] 281 (0, 0)) }
theorem laid_met (os : Os) (args : Array Value) : laidMetH Tryz.prog Rows.fnExactLeadRow.laid ((laidWorld (World.holding Tryz.prog os ⟨#[], #[], []⟩)).forCall (fun _ _ => 0) ⟨#[], args, []⟩).memory :=
  laidMetH_of_parts (laidMet_of_run' 8 (by kernel_rfl) (by kernel_rfl)) (by kernel_rfl)
theorem reads (os : Os) {H : Type} (enc : TypeId × Value → H) : ∃ gs places, DataW.whole enc Tryz.prog ((laidWorld (World.holding Tryz.prog os ⟨#[], #[], []⟩)).forCall (fun _ _ => 0) ⟨#[], #[.agg #[.int .i64 0, .bool false, .bool false, .slice none 0 0, .slice none 0 0, .slice none 0 0, .bool false, .bool false, .bool false, .int .i64 0, .slice none 0 0, .slice none 0 0, .slice none 0 0, .slice none 0 0, .slice none 0 0, .slice none 0 0], .agg #[.int .i64 0, .bool false, .bool false, .slice none 0 0, .slice none 0 0, .slice none 0 0, .bool false, .bool false, .bool false, .int .i64 0, .slice none 0 0, .slice none 0 0, .slice none 0 0, .slice none 0 0, .slice none 0 0, .slice none 0 0], .bool false], []⟩).memory Tryz.f12.params.toList Rows.fnExactLeadSpec.vars false #[.agg #[.int .i64 0, .bool false, .bool false, .slice none 0 0, .slice none 0 0, .slice none 0 0, .bool false, .bool false, .bool false, .int .i64 0, .slice none 0 0, .slice none 0 0, .slice none 0 0, .slice none 0 0, .slice none 0 0, .slice none 0 0], .agg #[.int .i64 0, .bool false, .bool false, .slice none 0 0, .slice none 0 0, .slice none 0 0, .bool false, .bool false, .bool false, .int .i64 0, .slice none 0 0, .slice none 0 0, .slice none 0 0, .slice none 0 0, .slice none 0 0, .slice none 0 0], .bool false].toList 8 = some ([.agg [.lit (.int .i64 0), .lit (.bool false), .lit (.bool false), .nil, .agg [.nil, .nil, .lit (.bool false), .lit (.bool false), .lit (.bool false), .lit (.int .i64 0)], .agg [.nil, .nil], .nil, .nil, .nil, .nil], .agg [.lit (.int .i64 0), .lit (.bool false), .lit (.bool false), .nil, .agg [.nil, .nil, .lit (.bool false), .lit (.bool false), .lit (.bool false), .lit (.int .i64 0)], .agg [.nil, .nil], .nil, .nil, .nil, .nil], .lit (.bool false)], gs, places) :=
  ⟨[tok enc (.iface 258 (.pointer (some ⟨(World.holding Tryz.prog os ⟨#[], #[], []⟩).heap.size + 2, 0, none⟩))), tok enc (.iface 258 (.pointer (some ⟨(World.holding Tryz.prog os ⟨#[], #[], []⟩).heap.size + 0, 0, none⟩))), tok enc (.iface 258 (.pointer (some ⟨(World.holding Tryz.prog os ⟨#[], #[], []⟩).heap.size + 1, 0, none⟩))), tok enc (.iface 258 (.pointer (some ⟨(World.holding Tryz.prog os ⟨#[], #[], []⟩).heap.size + 3, 0, none⟩))), tok enc (.iface 258 (.pointer (some ⟨(World.holding Tryz.prog os ⟨#[], #[], []⟩).heap.size + 5, 0, none⟩))), tok enc (.iface 258 (.pointer (some ⟨(World.holding Tryz.prog os ⟨#[], #[], []⟩).heap.size + 6, 0, none⟩))), tok enc (.iface 258 (.pointer (some ⟨(World.holding Tryz.prog os ⟨#[], #[], []⟩).heap.size + 4, 0, none⟩))), tok enc (.iface 258 (.pointer (some ⟨(World.holding Tryz.prog os ⟨#[], #[], []⟩).heap.size + 7, 0, none⟩))), tok enc (.iface 258 (.pointer (some ⟨(World.holding Tryz.prog os ⟨#[], #[], []⟩).heap.size + 8, 0, none⟩)))], [.cell 0 0, .cell 1 0, .cell 2 0, .cell 6 0, .cell 7 0, .cell 8 0, .cell 5 0, .cell 9 0, .cell 10 0], by kernel_rfl⟩

set_option maxRecDepth 100000 in
theorem lifted (os : Os) (started : os.Started) (H : Type) (enc : TypeId × Value → H) (F : Stop.Interp) :
    ReturnsInHanded {} Tryz.checked os 12 .any ((OpenSpec.ofChange Rows.fnExactLeadSpec).preRow enc Tryz.prog Tryz.f12 Rows.fnExactLeadRow.domain false Rows.fnExactLeadRow.laid) (((OpenSpec.ofChange Rows.fnExactLeadSpec).at F).post enc Tryz.prog Tryz.f12 false true false false) := by
  obtain ⟨gs, places, hx⟩ := reads os enc
  refine returnsInHanded_of_row (C := Tryz.checked) (s := OpenSpec.ofChange Rows.fnExactLeadSpec) own started (by kernel_rfl) Tryz.func12
    (witness_row_at (enc := enc) (C := Tryz.checked) false (laidWorld (World.holding Tryz.prog os ⟨#[], #[], []⟩)) #[.agg #[.int .i64 0, .bool false, .bool false, .slice none 0 0, .slice none 0 0, .slice none 0 0, .bool false, .bool false, .bool false, .int .i64 0, .slice none 0 0, .slice none 0 0, .slice none 0 0, .slice none 0 0, .slice none 0 0, .slice none 0 0], .agg #[.int .i64 0, .bool false, .bool false, .slice none 0 0, .slice none 0 0, .slice none 0 0, .bool false, .bool false, .bool false, .int .i64 0, .slice none 0 0, .slice none 0 0, .slice none 0 0, .slice none 0 0, .slice none 0 0, .slice none 0 0], .bool false] rfl (by kernel_rfl) (by kernel_rfl) (by kernel_rfl)
      (OpenSpec.preRow_of_cond 8 hx (by kernel_rfl) (fun k hk => by cases hk) (by kernel_rfl) (laid_met os _))) ?_
  intro W base args ds gs before hval hW _ _ _ hL _ _
  exact contract H enc W base args ds gs before hval hW hL

theorem said : Rows.FnExactLeadSaid :=
  OpenClaim.holds_of_cond 12 Tryz.f12 rfl rfl rfl rfl rfl rfl rfl ⟨rfl, rfl, rfl, rfl, rfl⟩ rfl rfl rfl rfl rfl (by as_aux_lemma => kernel_rfl) Tryz.func12 jf
    (of_decide_eq_true (by as_aux_lemma => kernel_rfl)) (by unfold Func.isWrapper; first | (rw [if_pos (by decide +kernel)]; kernel_rfl) | (rw [if_neg (by decide +kernel)]; exact ⟨rfl, rfl⟩))
    (fun os started H enc _ F => by rw [OpenClaim.pre_eq_preRow]; exact lifted os started H enc F)

theorem plain (f : FuncId) (fn : Func) (hf : Tryz.pinned.checked.prog.funcNamed "loop.example/g00399/laws.FnExactLead" = some f) (hfn : Tryz.pinned.checked.prog.funcs[f]? = some fn) :
    true = Tryz.pinned.checked.prog.looks [] ∧ ∀ (j : Nat) t, fn.params[j]? = some t → Tryz.pinned.checked.prog.wantsStandIn t = false := by
  obtain rfl : f = 12 := Option.some.inj ((show Tryz.prog.funcNamed "loop.example/g00399/laws.FnExactLead" = some 12 by kernel_rfl).symm.trans hf) |>.symm
  obtain rfl : fn = Tryz.f12 := (Option.some.inj (Tryz.func12.symm.trans hfn)).symm
  refine ⟨by kernel_rfl, fun j t ht => ?_⟩
  rw [Tryz.params12] at ht
  have ht' : t = 39 ∨ t = 4 := by simpa using Array.mem_of_getElem? ht
  rcases ht' with rfl | rfl
  · exact (show Tryz.prog.wantsStandIn 39 = false by kernel_rfl)
  · exact (show Tryz.prog.wantsStandIn 4 = false by kernel_rfl)

theorem card : Rows.FnExactLeadCardSaid :=
  Claim7.holds_tied_plain_at .later [] _ _ _ _ said (fun _ h => by cases h) (by as_aux_lemma => kernel_rfl) (fun _ h => by cases h) fnExactLead_row_tie rfl ⟨rfl, rfl⟩ (by as_aux_lemma => kernel_rfl) rfl plain (by as_aux_lemma => kernel_rfl)
end Go.Proofs.YtkndnndildnbpaaGreatDoor.fnExactLead
namespace Go.Proofs.YtkndnndildnbpaaGreatDoor
theorem fnExactLead_card : Rows.FnExactLeadCardSaid := fnExactLead.card
end Go.Proofs.YtkndnndildnbpaaGreatDoor

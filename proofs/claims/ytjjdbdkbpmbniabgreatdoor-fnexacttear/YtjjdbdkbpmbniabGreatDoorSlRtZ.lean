/- A variable of a law that is made of slots and of what is known, in whatever order. -/
import Derived.Test.YtjjdbdkbpmbniabGreatDoorGh
import Derived.Deep.RegionHeld3

namespace Go.Proofs.YtjjdbdkbpmbniabGreatDoor
open Go.ChangeShapes Go.WideShapes Go.ChangeAt Go.RowKit
set_option linter.unusedVariables false
set_option linter.unusedSimpArgs false
set_option maxRecDepth 100000

theorem VBy.set {w : World} {X i : Nat} {ao : Option Addr} {cap : Nat} {P : List Int} {v : Value} (h : VBy w ao cap P) (hs : ∀ j, j < P.length → ∀ b off, ao = some ⟨b, off, none⟩ → b ≠ X) : VBy (w.setCell ⟨X, i, none⟩ v) ao cap P := by
  refine ⟨fun j hj => ?_, h.2⟩
  obtain ⟨b, off, e, hl, hc⟩ := h.1 j hj
  exact ⟨b, off, e, by simpa [World.setCell] using hl, (World.cell?_of_block (far_set (hs j hj b off e))).trans hc⟩
theorem VBy.neX {w : World} {X : Nat} {ao : Option Addr} {cap : Nat} {P : List Int} {xA xB : Option Addr} {nA yA nB yB : Nat} (h : VBy w ao cap P) (hS : SB w X 31 xA nA yA xB nB yB) : ∀ j, j < P.length → ∀ b off, ao = some ⟨b, off, none⟩ → b ≠ X := by
  intro j hj b off e e2
  obtain ⟨b', off', e', hl, hc⟩ := h.1 j hj
  rw [e] at e'
  cases e'
  subst e2
  unfold SB at hS
  simp only [World.cell?, hS] at hc
  rcases Nat.lt_or_ge (off + j) 2 with h2 | h2
  · obtain h3 | h3 : off + j = 0 ∨ off + j = 1 := by omega
    · simp [h3] at hc
    · simp [h3] at hc
  · simp [Array.getElem?_eq_none (show (#[Value.slice xA nA yA, Value.slice xB nB yB]).size ≤ off + j from h2)] at hc
theorem rg_end {w wm W : World} {X : Nat} {aA aB : Option Addr} {cA cB : Nat} {A B : List Int} {go : Option Addr} {gc : Nat} {bo : Option Addr} {bc : Nat} {g : List Int} {n : Nat} {fi ol he : Bool} {la : Int} {sA sB : Option Addr} {eA eB : Nat} {PA PB : List Int}
    (H : Below w.heap.size w W ∧ SB W w.heap.size 24 aA A.length cA aB B.length cB ∧ KB (W) (w.heap.size + 1) 28 go g.length gc bo n bc fi ol he la ∧ Below wm.heap.size wm W) (hS : SB W X 31 none 0 0 none 0 0) (h1 : VBy W sA eA PA) (h2 : VBy W sB eB PB) (hw : w.heap.size + 1 < wm.heap.size) (hX : wm.heap.size ≤ X) :
    (Below w.heap.size w ((W.setCell ⟨X, 0, none⟩ (.slice sA PA.length eA)).setCell ⟨X, 1, none⟩ (.slice sB PB.length eB)) ∧ SB ((W.setCell ⟨X, 0, none⟩ (.slice sA PA.length eA)).setCell ⟨X, 1, none⟩ (.slice sB PB.length eB)) w.heap.size 24 aA A.length cA aB B.length cB ∧ KB (((W.setCell ⟨X, 0, none⟩ (.slice sA PA.length eA)).setCell ⟨X, 1, none⟩ (.slice sB PB.length eB))) (w.heap.size + 1) 28 go g.length gc bo n bc fi ol he la ∧ Below wm.heap.size wm ((W.setCell ⟨X, 0, none⟩ (.slice sA PA.length eA)).setCell ⟨X, 1, none⟩ (.slice sB PB.length eB))) ∧ SB ((W.setCell ⟨X, 0, none⟩ (.slice sA PA.length eA)).setCell ⟨X, 1, none⟩ (.slice sB PB.length eB)) X 31 sA PA.length eA sB PB.length eB ∧ VBy ((W.setCell ⟨X, 0, none⟩ (.slice sA PA.length eA)).setCell ⟨X, 1, none⟩ (.slice sB PB.length eB)) sA eA PA ∧ VBy ((W.setCell ⟨X, 0, none⟩ (.slice sA PA.length eA)).setCell ⟨X, 1, none⟩ (.slice sB PB.length eB)) sB eB PB :=
  ⟨⟨(H.1.setCell (p := ⟨X, 0, none⟩) (show w.heap.size ≤ X by omega) _).setCell (p := ⟨X, 1, none⟩) (show w.heap.size ≤ X by omega) _, (H.2.1.far (by omega)).far (by omega), (far_set (by omega)).trans ((far_set (by omega)).trans H.2.2.1), (H.2.2.2.setCell (p := ⟨X, 0, none⟩) (show wm.heap.size ≤ X by omega) _).setCell (p := ⟨X, 1, none⟩) (show wm.heap.size ≤ X by omega) _⟩, hS.set0.set1, (h1.set (h1.neX hS)).set (h1.neX hS), (h2.set (h2.neX hS)).set (h2.neX hS)⟩

set_option maxHeartbeats 4000000 in
theorem rgS (t0 t1 t5 t6 t7 t8 t9 t10 t11 t12 t13 t14 t15 t16 t17 t18 t19 t20 t21 t22 t23 t24 t25 t26 t27 t28 t29 t30 t31 t32 t33 t34 t35 t36 t37 t38 t39 t40 t41 t42 t43 t44 t45 t46 t47 t48 t49 t50 t51 t52 t53 t54 t55 t56 t57 t58 t59 t60 t61 t62 t63 t64 t65 t66 t67 t68 t69 t70 t71 t72 t73 t74 t75 t76 t77 t78 t79 t80 t81 t82 t83 t84 t85 t86 t87 t88 t89 t90 t91 t92 t93 t94 t95 t96 : Value) (Q : Exit → Act → World → Prop) (w wm : World) (aA aB : Option Addr) (cA cB : Nat) (A B : List Int) (go bo : Option Addr) (gc bc : Nat) (g : List Int) (n : Nat) (L : Nat → List Int) (fi ol he : Bool) (la : Int) (y : Int) (PA PB : List Int)
    (HVA : Hid (VBy w aA cA A)) (HVB : Hid (VBy w aB cB B)) (HV : Hid (MV w go gc bo bc g n L)) (hd : Bd g n L) (HPA : Hid (By PA)) (HPB : Hid (By PB)) (hfn : Hid (∀ W aA cA aB cB go gc bo bc, VBy W aA cA A → VBy W aB cB B → NC aA cA → NC aB cB → MV W go gc bo bc g n L → Calls Tryz.prog 6 #[.agg #[.slice aA A.length cA, .slice aB B.length cB], .agg #[.slice go g.length gc, .slice bo n bc, .bool fi, .bool ol, .bool he, .int .i64 la], .int .i64 y] W fun e w' => PtOut W w' PA PB e)) (H0 : Hid (Below w.heap.size w wm ∧ SB wm w.heap.size 24 aA A.length cA aB B.length cB ∧ KB (wm) (w.heap.size + 1) 28 go g.length gc bo n bc fi ol he la))
    (hQp : ∀ c a d v w, Q (.panic c) (Act.put a d v) w → Q (.panic c) a w)
    (h : ∀ (tA tB : Option Addr) (iA iB : Nat) (go7 bo7 : Option Addr) (gc7 bc7 : Nat) (sA sB : Option Addr) (eA eB X2 : Nat) (W2 : World), Hid ((Below w.heap.size w W2 ∧ SB W2 w.heap.size 24 aA A.length cA aB B.length cB ∧ KB (W2) (w.heap.size + 1) 28 go g.length gc bo n bc fi ol he la ∧ Below wm.heap.size wm W2) ∧ SB W2 X2 31 sA PA.length eA sB PB.length eB ∧ VBy W2 sA eA PA ∧ VBy W2 sB eB PB) → Q .normal { tmps := #[t0, t1, .int .i64 y, .pointer (some ⟨w.heap.size, 0, none⟩), .pointer (some ⟨w.heap.size + 1, 0, none⟩), t5, t6, t7, .pointer (some ⟨X2, 0, none⟩), t9, t10, t11, t12, t13, t14, t15, t16, t17, t18, t19, t20, t21, t22, t23, t24, t25, .agg #[.slice aA A.length cA, .slice aB B.length cB], .agg #[.slice tA A.length iA, .slice tB B.length iB], .agg #[.slice go g.length gc, .slice bo n bc, .bool fi, .bool ol, .bool he, .int .i64 la], .agg #[.slice go7 g.length gc7, .slice bo7 n bc7, .bool fi, .bool ol, .bool he, .int .i64 la], .int .i64 y, .agg #[.slice sA PA.length eA, .slice sB PB.length eB], t32, t33, t34, t35, t36, t37, t38, t39, t40, t41, t42, t43, t44, t45, t46, t47, t48, t49, t50, t51, t52, t53, t54, t55, t56, t57, t58, t59, t60, t61, t62, t63, t64, t65, t66, t67, t68, t69, t70, t71, t72, t73, t74, t75, t76, t77, t78, t79, t80, t81, t82, t83, t84, t85, t86, t87, t88, t89, t90, t91, t92, t93, t94, t95, t96], defers := [] } W2) :
    Code.wp Tryz.prog (Code.region 8 #[{ dst := some 26, op := Op.load 24 (Operand.tmp 3), type := 24, pos := "exact.go:2726", after := #[], guard := none }, { dst := some 27, op := Op.call { callee := Callee.value (Operand.func 7), args := #[Operand.tmp 26], argTypes := #[24] }, type := 31, pos := "exact.go:2726", after := #[{ on := 0, ground := Ground.data }], guard := none }, { dst := some 28, op := Op.load 28 (Operand.tmp 4), type := 28, pos := "exact.go:2726", after := #[], guard := none }, { dst := some 29, op := Op.call { callee := Callee.value (Operand.func 8), args := #[Operand.tmp 28], argTypes := #[28] }, type := 34, pos := "exact.go:2726", after := #[{ on := 2, ground := Ground.data }, { on := 1, ground := Ground.chain }], guard := none }, { dst := some 30, op := Op.move (Operand.tmp 2), type := 3, pos := "exact.go:2726", after := #[], guard := none }, { dst := some 31, op := Op.call { callee := Callee.value (Operand.func 6), args := #[Operand.tmp 27, Operand.tmp 29, Operand.tmp 30], argTypes := #[31, 34, 3] }, type := 31, pos := "exact.go:2726", after := #[{ on := 1, ground := Ground.data }, { on := 3, ground := Ground.data }, { on := 4, ground := Ground.data }, { on := 3, ground := Ground.chain }], guard := none }, { dst := some 8, op := Op.alloc 31, type := 0, pos := "exact.go:2726", after := #[], guard := none }, { dst := none, op := Op.store 31 (Operand.tmp 8) (Operand.tmp 31), type := 0, pos := "exact.go:2726", after := #[{ on := 6, ground := Ground.data }, { on := 5, ground := Ground.data }, { on := 5, ground := Ground.chain }, { on := 0, ground := Ground.phase }, { on := 1, ground := Ground.phase }, { on := 2, ground := Ground.phase }, { on := 3, ground := Ground.phase }, { on := 4, ground := Ground.phase }, { on := 5, ground := Ground.phase }, { on := 6, ground := Ground.phase }], guard := none }] true) Q { tmps := #[t0, t1, .int .i64 y, .pointer (some ⟨w.heap.size, 0, none⟩), .pointer (some ⟨w.heap.size + 1, 0, none⟩), t5, t6, t7, t8, t9, t10, t11, t12, t13, t14, t15, t16, t17, t18, t19, t20, t21, t22, t23, t24, t25, t26, t27, t28, t29, t30, t31, t32, t33, t34, t35, t36, t37, t38, t39, t40, t41, t42, t43, t44, t45, t46, t47, t48, t49, t50, t51, t52, t53, t54, t55, t56, t57, t58, t59, t60, t61, t62, t63, t64, t65, t66, t67, t68, t69, t70, t71, t72, t73, t74, t75, t76, t77, t78, t79, t80, t81, t82, t83, t84, t85, t86, t87, t88, t89, t90, t91, t92, t93, t94, t95, t96], defers := [] } wm := by
  have H0d : Hid (Below w.heap.size w wm.drew ∧ SB wm.drew w.heap.size 24 aA A.length cA aB B.length cB ∧ KB (wm.drew) (w.heap.size + 1) 28 go g.length gc bo n bc fi ol he la ∧ Below wm.heap.size wm wm.drew) := ⟨Below.drawn H0.out.1 1, H0.out.2.1.b (Below.drawn (Below.refl _ _) 1), H0.out.2.2.b (Below.drawn (Below.refl _ _) 1), Below.drawn (Below.refl _ _) 1⟩
  have hS := And.intro H0d.out.2.1.cells H0d.out.2.2.1.cells
  refine wp_region_held_drew (S := (fun w' => (w'.cell? ⟨w.heap.size, 0, none⟩ = some (.slice aA A.length cA) ∧ w'.cell? ⟨w.heap.size, 1, none⟩ = some (.slice aB B.length cB)) ∧ (w'.cell? ⟨w.heap.size + 1, 0, none⟩ = some (.slice go g.length gc) ∧ w'.cell? ⟨w.heap.size + 1, 1, none⟩ = some (.slice bo n bc) ∧ w'.cell? ⟨w.heap.size + 1, 2, none⟩ = some (.bool fi) ∧ w'.cell? ⟨w.heap.size + 1, 3, none⟩ = some (.bool ol) ∧ w'.cell? ⟨w.heap.size + 1, 4, none⟩ = some (.bool he) ∧ w'.cell? ⟨w.heap.size + 1, 5, none⟩ = some (.int .i64 la)))) (by kernel_rfl) ?_ (fun hHeld => ?_)
  · exact hS
  refine wpAnyH_take (i := 0) (oi := { dst := some 26, op := Op.load 24 (Operand.tmp 3), type := 24, pos := "exact.go:2726", after := #[], guard := none }) (v := ?_) rfl (by kernel_rfl) (by kernel_rfl) (by kernel_rfl) (fun _ _ _ h => hQp _ _ _ _ _ h) (Or.inl ⟨by rfl, ?_⟩) (by assumption) ?_
  rotate_left 1
  · (intro wq hSw; (try dsimp only at hSw); go_simp; try with_reducible rfl)
  try simp only [Act.put, List.setIfInBounds_toArray, List.set_cons_zero, List.set_cons_succ]
  refine wpAnyH_take (i := 2) (oi := { dst := some 28, op := Op.load 28 (Operand.tmp 4), type := 28, pos := "exact.go:2726", after := #[], guard := none }) (v := ?_) rfl (by kernel_rfl) (by kernel_rfl) (by kernel_rfl) (fun _ _ _ h => hQp _ _ _ _ _ h) (Or.inl ⟨by rfl, ?_⟩) (by assumption) ?_
  rotate_left 1
  · (intro wq hSw; (try dsimp only at hSw); go_simp; try with_reducible rfl)
  try simp only [Act.put, List.setIfInBounds_toArray, List.set_cons_zero, List.set_cons_succ]
  refine wpAnyH_take (i := 4) (oi := { dst := some 30, op := Op.move (Operand.tmp 2), type := 3, pos := "exact.go:2726", after := #[], guard := none }) (v := ?_) rfl (by kernel_rfl) (by kernel_rfl) (by kernel_rfl) (fun _ _ _ h => hQp _ _ _ _ _ h) (Or.inl ⟨by rfl, ?_⟩) (by assumption) ?_
  rotate_left 1
  · (intro wq hSw; (try dsimp only at hSw); go_simp; try with_reducible rfl)
  try simp only [Act.put, List.setIfInBounds_toArray, List.set_cons_zero, List.set_cons_succ]
  refine wpAnyH_ready (rs := [1, 6]) (by kernel_rfl) (by simp) ?_
  refine AllReadyH.cons (o := { dst := some 27, op := Op.call { callee := Callee.value (Operand.func 7), args := #[Operand.tmp 26], argTypes := #[24] }, type := 31, pos := "exact.go:2726", after := #[{ on := 0, ground := Ground.data }], guard := none }) rfl (fun K hK => ?_) ?_
  · skip
    go_simp
    refine (tos_some aA aB cA cB A B wm.drew (HVA.out.below H0d.out.1) (HVB.out.below H0d.out.1)).mono ?_
    rintro e v1 ⟨tA, tB, iA, iB, rfl, o6, b1, k6, k6'⟩
    have T1 : Hid (VBy v1 tA iA A ∧ VBy v1 tB iB B ∧ NC tA iA ∧ NC tB iB) := ⟨o6.va HVA.out.by, o6.vb HVB.out.by, k6, k6'⟩
    have H1 : Hid (Below w.heap.size w v1 ∧ SB v1 w.heap.size 24 aA A.length cA aB B.length cB ∧ KB (v1) (w.heap.size + 1) 28 go g.length gc bo n bc fi ol he la ∧ Below wm.heap.size wm v1) := ⟨H0d.out.1.trans (b1.mono H0d.out.1.size), H0d.out.2.1.b b1, H0d.out.2.2.1.b b1, H0d.out.2.2.2.trans (b1.mono H0d.out.2.2.2.size)⟩
    have hk1 := And.intro H1.out.2.1.cells H1.out.2.2.1.cells
    clear b1
    go_wp2_with fail
    refine hK.out _ _ ?_ (fun hHeld => ?_)
    · exact hk1
    clear hK K
    try simp only [Act.put, List.setIfInBounds_toArray, List.set_cons_zero, List.set_cons_succ]
    refine wpAnyH_ready (rs := [3, 6]) (by kernel_rfl) (by simp) ?_
    refine AllReadyH.cons (o := { dst := some 29, op := Op.call { callee := Callee.value (Operand.func 8), args := #[Operand.tmp 28], argTypes := #[28] }, type := 34, pos := "exact.go:2726", after := #[{ on := 2, ground := Ground.data }, { on := 1, ground := Ground.chain }], guard := none }) rfl (fun K hK => ?_) ?_
    · skip
      go_simp
      refine (tom_any go bo gc bc g n L fi ol he la v1 hd (HV.out.below H1.out.1)).mono ?_
      rintro e v2 ⟨go7, bo7, gc7, bc7, rfl, o7, b2⟩
      have T2 : Hid (VBy v2 tA iA A ∧ VBy v2 tB iB B ∧ NC tA iA ∧ NC tB iB) := ⟨T1.out.1.below b2, T1.out.2.1.below b2, T1.out.2.2⟩
      have M2 : Hid (MV v2 go7 gc7 bo7 bc7 g n L) := o7.mv
      have H2 : Hid (Below w.heap.size w v2 ∧ SB v2 w.heap.size 24 aA A.length cA aB B.length cB ∧ KB (v2) (w.heap.size + 1) 28 go g.length gc bo n bc fi ol he la ∧ Below wm.heap.size wm v2) := ⟨H1.out.1.trans (b2.mono H1.out.1.size), H1.out.2.1.b b2, H1.out.2.2.1.b b2, H1.out.2.2.2.trans (b2.mono H1.out.2.2.2.size)⟩
      have hk2 := And.intro H2.out.2.1.cells H2.out.2.2.1.cells
      clear b2
      go_wp2_with fail
      refine hK.out _ _ ?_ (fun hHeld => ?_)
      · exact hk2
      clear hK K
      try simp only [Act.put, List.setIfInBounds_toArray, List.set_cons_zero, List.set_cons_succ]
      refine wpAnyH_ready (rs := [5, 6]) (by kernel_rfl) (by simp) ?_
      refine AllReadyH.cons (o := { dst := some 31, op := Op.call { callee := Callee.value (Operand.func 6), args := #[Operand.tmp 27, Operand.tmp 29, Operand.tmp 30], argTypes := #[31, 34, 3] }, type := 31, pos := "exact.go:2726", after := #[{ on := 1, ground := Ground.data }, { on := 3, ground := Ground.data }, { on := 4, ground := Ground.data }, { on := 3, ground := Ground.chain }], guard := none }) rfl (fun K hK => ?_) ?_
      · skip
        go_simp
        refine (hfn.out v2 _ _ _ _ _ _ _ _ T2.out.1 T2.out.2.1 T2.out.2.2.1 T2.out.2.2.2 M2.out).mono ?_
        rintro e v3 ⟨sA, sB, eA, eB, rfl, o8, b3, _, _⟩
        have F3 : Hid (VBy v3 sA eA PA ∧ VBy v3 sB eB PB) := ⟨o8.va HPA.out, o8.vb HPB.out⟩
        have H3 : Hid (Below w.heap.size w v3 ∧ SB v3 w.heap.size 24 aA A.length cA aB B.length cB ∧ KB (v3) (w.heap.size + 1) 28 go g.length gc bo n bc fi ol he la ∧ Below wm.heap.size wm v3) := ⟨H2.out.1.trans (b3.mono H2.out.1.size), H2.out.2.1.b b3, H2.out.2.2.1.b b3, H2.out.2.2.2.trans (b3.mono H2.out.2.2.2.size)⟩
        have hk3 := And.intro H3.out.2.1.cells H3.out.2.2.1.cells
        clear b3
        go_wp2_with fail
        refine hK.out _ _ ?_ (fun hHeld => ?_)
        · exact hk3
        clear hK K
        try simp only [Act.put, List.setIfInBounds_toArray, List.set_cons_zero, List.set_cons_succ]
        refine wpAnyH_ready (rs := [6]) (by kernel_rfl) (by simp) ?_
        refine AllReadyH.cons (o := { dst := some 8, op := Op.alloc 31, type := 0, pos := "exact.go:2726", after := #[], guard := none }) rfl (fun K hK => ?_) AllReadyH.nil
        have H4 : Hid (Below w.heap.size w (v3.alloc (.cells #[.slice none 0 0, .slice none 0 0] 31)) ∧ SB (v3.alloc (.cells #[.slice none 0 0, .slice none 0 0] 31)) w.heap.size 24 aA A.length cA aB B.length cB ∧ KB ((v3.alloc (.cells #[.slice none 0 0, .slice none 0 0] 31))) (w.heap.size + 1) 28 go g.length gc bo n bc fi ol he la ∧ Below wm.heap.size wm (v3.alloc (.cells #[.slice none 0 0, .slice none 0 0] 31))) := ⟨H3.out.1.trans ((bal1 v3 (.cells #[.slice none 0 0, .slice none 0 0] 31)).mono H3.out.1.size), H3.out.2.1.b (bal1 v3 (.cells #[.slice none 0 0, .slice none 0 0] 31)), H3.out.2.2.1.b (bal1 v3 (.cells #[.slice none 0 0, .slice none 0 0] 31)), H3.out.2.2.2.trans ((bal1 v3 (.cells #[.slice none 0 0, .slice none 0 0] 31)).mono H3.out.2.2.2.size)⟩
        have hk4 := And.intro H4.out.2.1.cells H4.out.2.2.1.cells
        have A4 : Hid (SB (v3.alloc (.cells #[.slice none 0 0, .slice none 0 0] 31)) v3.heap.size 31 none 0 0 none 0 0) := SB.new v3 _ _ _ _ _ _ _
        have hge0 : wm.heap.size ≤ v3.heap.size := H3.out.2.2.2.size
        have F4 : Hid (VBy (v3.alloc (.cells #[.slice none 0 0, .slice none 0 0] 31)) sA eA PA ∧ VBy (v3.alloc (.cells #[.slice none 0 0, .slice none 0 0] 31)) sB eB PB) := ⟨F3.out.1.below (bal1 v3 (.cells #[.slice none 0 0, .slice none 0 0] 31)), F3.out.2.below (bal1 v3 (.cells #[.slice none 0 0, .slice none 0 0] 31))⟩
        go_simp
        refine hK.out _ _ ?_ (fun hHeld => ?_)
        · exact hk4
        clear hK K
        try simp only [Act.put, List.setIfInBounds_toArray, List.set_cons_zero, List.set_cons_succ]
        obtain ⟨v4, hv4⟩ : ∃ V, V = (v3.alloc (.cells #[.slice none 0 0, .slice none 0 0] 31)) := ⟨_, rfl⟩
        obtain ⟨X4, hX4⟩ : ∃ X, X = v3.heap.size := ⟨_, rfl⟩
        have hge : wm.heap.size ≤ X4 := by rw [hX4]; exact hge0
        clear hge0
        rw [← hv4]
        try rw [← hX4]
        rw [← hv4, ← hX4] at A4
        rw [← hv4] at H4
        rw [← hv4] at F4
        rw [← hv4] at hk4
        clear hv4 hX4
        refine wpAnyH_ready (rs := [7]) (by kernel_rfl) (by simp) ?_
        refine AllReadyH.cons (o := { dst := none, op := Op.store 31 (Operand.tmp 8) (Operand.tmp 31), type := 0, pos := "exact.go:2726", after := #[{ on := 6, ground := Ground.data }, { on := 5, ground := Ground.data }, { on := 5, ground := Ground.chain }, { on := 0, ground := Ground.phase }, { on := 1, ground := Ground.phase }, { on := 2, ground := Ground.phase }, { on := 3, ground := Ground.phase }, { on := 4, ground := Ground.phase }, { on := 5, ground := Ground.phase }, { on := 6, ground := Ground.phase }], guard := none }) rfl (fun K hK => ?_) AllReadyH.nil
        obtain ⟨x0, x1⟩ := A4.out.cells
        have z1 := A4.out.froz
        have F9 : Hid ((Below w.heap.size w ((v4.setCell ⟨X4, 0, none⟩ (.slice sA PA.length eA)).setCell ⟨X4, 1, none⟩ (.slice sB PB.length eB)) ∧ SB ((v4.setCell ⟨X4, 0, none⟩ (.slice sA PA.length eA)).setCell ⟨X4, 1, none⟩ (.slice sB PB.length eB)) w.heap.size 24 aA A.length cA aB B.length cB ∧ KB (((v4.setCell ⟨X4, 0, none⟩ (.slice sA PA.length eA)).setCell ⟨X4, 1, none⟩ (.slice sB PB.length eB))) (w.heap.size + 1) 28 go g.length gc bo n bc fi ol he la ∧ Below wm.heap.size wm ((v4.setCell ⟨X4, 0, none⟩ (.slice sA PA.length eA)).setCell ⟨X4, 1, none⟩ (.slice sB PB.length eB))) ∧ SB ((v4.setCell ⟨X4, 0, none⟩ (.slice sA PA.length eA)).setCell ⟨X4, 1, none⟩ (.slice sB PB.length eB)) X4 31 sA PA.length eA sB PB.length eB ∧ VBy ((v4.setCell ⟨X4, 0, none⟩ (.slice sA PA.length eA)).setCell ⟨X4, 1, none⟩ (.slice sB PB.length eB)) sA eA PA ∧ VBy ((v4.setCell ⟨X4, 0, none⟩ (.slice sA PA.length eA)).setCell ⟨X4, 1, none⟩ (.slice sB PB.length eB)) sB eB PB) := rg_end H4.out A4.out F4.out.1 F4.out.2 H0.out.2.2.lt hge
        have hk9 := And.intro F9.out.1.2.1.cells F9.out.1.2.2.1.cells
        go_simp
        refine hK.out _ _ ?_ (fun hHeld => ?_)
        · exact hk9
        clear hK K
        try simp only [Act.put, List.setIfInBounds_toArray, List.set_cons_zero, List.set_cons_succ]
        refine wpAnyH_done (by kernel_rfl) ?_ _
        exact h tA tB iA iB go7 bo7 gc7 bc7 sA sB eA eB X4 _ F9
      refine AllReadyH.cons (o := { dst := some 8, op := Op.alloc 31, type := 0, pos := "exact.go:2726", after := #[], guard := none }) rfl (fun K hK => ?_) AllReadyH.nil
      · skip
        have H5 : Hid (Below w.heap.size w (v2.alloc (.cells #[.slice none 0 0, .slice none 0 0] 31)) ∧ SB (v2.alloc (.cells #[.slice none 0 0, .slice none 0 0] 31)) w.heap.size 24 aA A.length cA aB B.length cB ∧ KB ((v2.alloc (.cells #[.slice none 0 0, .slice none 0 0] 31))) (w.heap.size + 1) 28 go g.length gc bo n bc fi ol he la ∧ Below wm.heap.size wm (v2.alloc (.cells #[.slice none 0 0, .slice none 0 0] 31))) := ⟨H2.out.1.trans ((bal1 v2 (.cells #[.slice none 0 0, .slice none 0 0] 31)).mono H2.out.1.size), H2.out.2.1.b (bal1 v2 (.cells #[.slice none 0 0, .slice none 0 0] 31)), H2.out.2.2.1.b (bal1 v2 (.cells #[.slice none 0 0, .slice none 0 0] 31)), H2.out.2.2.2.trans ((bal1 v2 (.cells #[.slice none 0 0, .slice none 0 0] 31)).mono H2.out.2.2.2.size)⟩
        have hk5 := And.intro H5.out.2.1.cells H5.out.2.2.1.cells
        have A5 : Hid (SB (v2.alloc (.cells #[.slice none 0 0, .slice none 0 0] 31)) v2.heap.size 31 none 0 0 none 0 0) := SB.new v2 _ _ _ _ _ _ _
        have hge0 : wm.heap.size ≤ v2.heap.size := H2.out.2.2.2.size
        have T5 : Hid (VBy (v2.alloc (.cells #[.slice none 0 0, .slice none 0 0] 31)) tA iA A ∧ VBy (v2.alloc (.cells #[.slice none 0 0, .slice none 0 0] 31)) tB iB B ∧ NC tA iA ∧ NC tB iB) := ⟨T2.out.1.below (bal1 v2 (.cells #[.slice none 0 0, .slice none 0 0] 31)), T2.out.2.1.below (bal1 v2 (.cells #[.slice none 0 0, .slice none 0 0] 31)), T2.out.2.2⟩
        have M5 : Hid (MV (v2.alloc (.cells #[.slice none 0 0, .slice none 0 0] 31)) go7 gc7 bo7 bc7 g n L) := M2.out.below (bal1 v2 (.cells #[.slice none 0 0, .slice none 0 0] 31))
        go_simp
        refine hK.out _ _ ?_ (fun hHeld => ?_)
        · exact hk5
        clear hK K
        try simp only [Act.put, List.setIfInBounds_toArray, List.set_cons_zero, List.set_cons_succ]
        obtain ⟨v5, hv5⟩ : ∃ V, V = (v2.alloc (.cells #[.slice none 0 0, .slice none 0 0] 31)) := ⟨_, rfl⟩
        obtain ⟨X5, hX5⟩ : ∃ X, X = v2.heap.size := ⟨_, rfl⟩
        have hge : wm.heap.size ≤ X5 := by rw [hX5]; exact hge0
        clear hge0
        rw [← hv5]
        try rw [← hX5]
        rw [← hv5, ← hX5] at A5
        rw [← hv5] at H5
        rw [← hv5] at T5
        rw [← hv5] at M5
        rw [← hv5] at hk5
        clear hv5 hX5
        refine wpAnyH_ready (rs := [5]) (by kernel_rfl) (by simp) ?_
        refine AllReadyH.cons (o := { dst := some 31, op := Op.call { callee := Callee.value (Operand.func 6), args := #[Operand.tmp 27, Operand.tmp 29, Operand.tmp 30], argTypes := #[31, 34, 3] }, type := 31, pos := "exact.go:2726", after := #[{ on := 1, ground := Ground.data }, { on := 3, ground := Ground.data }, { on := 4, ground := Ground.data }, { on := 3, ground := Ground.chain }], guard := none }) rfl (fun K hK => ?_) AllReadyH.nil
        go_simp
        refine (hfn.out v5 _ _ _ _ _ _ _ _ T5.out.1 T5.out.2.1 T5.out.2.2.1 T5.out.2.2.2 M5.out).mono ?_
        rintro e v6 ⟨sA, sB, eA, eB, rfl, o8, b6, _, _⟩
        have F6 : Hid (VBy v6 sA eA PA ∧ VBy v6 sB eB PB) := ⟨o8.va HPA.out, o8.vb HPB.out⟩
        have H6 : Hid (Below w.heap.size w v6 ∧ SB v6 w.heap.size 24 aA A.length cA aB B.length cB ∧ KB (v6) (w.heap.size + 1) 28 go g.length gc bo n bc fi ol he la ∧ Below wm.heap.size wm v6) := ⟨H5.out.1.trans (b6.mono H5.out.1.size), H5.out.2.1.b b6, H5.out.2.2.1.b b6, H5.out.2.2.2.trans (b6.mono H5.out.2.2.2.size)⟩
        have hk6 := And.intro H6.out.2.1.cells H6.out.2.2.1.cells
        have A6 := hide (A5.out.b b6)
        clear b6
        go_wp2_with fail
        refine hK.out _ _ ?_ (fun hHeld => ?_)
        · exact hk6
        clear hK K
        try simp only [Act.put, List.setIfInBounds_toArray, List.set_cons_zero, List.set_cons_succ]
        refine wpAnyH_ready (rs := [7]) (by kernel_rfl) (by simp) ?_
        refine AllReadyH.cons (o := { dst := none, op := Op.store 31 (Operand.tmp 8) (Operand.tmp 31), type := 0, pos := "exact.go:2726", after := #[{ on := 6, ground := Ground.data }, { on := 5, ground := Ground.data }, { on := 5, ground := Ground.chain }, { on := 0, ground := Ground.phase }, { on := 1, ground := Ground.phase }, { on := 2, ground := Ground.phase }, { on := 3, ground := Ground.phase }, { on := 4, ground := Ground.phase }, { on := 5, ground := Ground.phase }, { on := 6, ground := Ground.phase }], guard := none }) rfl (fun K hK => ?_) AllReadyH.nil
        obtain ⟨x0, x1⟩ := A6.out.cells
        have z1 := A6.out.froz
        have F9 : Hid ((Below w.heap.size w ((v6.setCell ⟨X5, 0, none⟩ (.slice sA PA.length eA)).setCell ⟨X5, 1, none⟩ (.slice sB PB.length eB)) ∧ SB ((v6.setCell ⟨X5, 0, none⟩ (.slice sA PA.length eA)).setCell ⟨X5, 1, none⟩ (.slice sB PB.length eB)) w.heap.size 24 aA A.length cA aB B.length cB ∧ KB (((v6.setCell ⟨X5, 0, none⟩ (.slice sA PA.length eA)).setCell ⟨X5, 1, none⟩ (.slice sB PB.length eB))) (w.heap.size + 1) 28 go g.length gc bo n bc fi ol he la ∧ Below wm.heap.size wm ((v6.setCell ⟨X5, 0, none⟩ (.slice sA PA.length eA)).setCell ⟨X5, 1, none⟩ (.slice sB PB.length eB))) ∧ SB ((v6.setCell ⟨X5, 0, none⟩ (.slice sA PA.length eA)).setCell ⟨X5, 1, none⟩ (.slice sB PB.length eB)) X5 31 sA PA.length eA sB PB.length eB ∧ VBy ((v6.setCell ⟨X5, 0, none⟩ (.slice sA PA.length eA)).setCell ⟨X5, 1, none⟩ (.slice sB PB.length eB)) sA eA PA ∧ VBy ((v6.setCell ⟨X5, 0, none⟩ (.slice sA PA.length eA)).setCell ⟨X5, 1, none⟩ (.slice sB PB.length eB)) sB eB PB) := rg_end H6.out A6.out F6.out.1 F6.out.2 H0.out.2.2.lt hge
        have hk9 := And.intro F9.out.1.2.1.cells F9.out.1.2.2.1.cells
        go_simp
        refine hK.out _ _ ?_ (fun hHeld => ?_)
        · exact hk9
        clear hK K
        try simp only [Act.put, List.setIfInBounds_toArray, List.set_cons_zero, List.set_cons_succ]
        refine wpAnyH_done (by kernel_rfl) ?_ _
        exact h tA tB iA iB go7 bo7 gc7 bc7 sA sB eA eB X5 _ F9
    refine AllReadyH.cons (o := { dst := some 8, op := Op.alloc 31, type := 0, pos := "exact.go:2726", after := #[], guard := none }) rfl (fun K hK => ?_) AllReadyH.nil
    · skip
      have H7 : Hid (Below w.heap.size w (v1.alloc (.cells #[.slice none 0 0, .slice none 0 0] 31)) ∧ SB (v1.alloc (.cells #[.slice none 0 0, .slice none 0 0] 31)) w.heap.size 24 aA A.length cA aB B.length cB ∧ KB ((v1.alloc (.cells #[.slice none 0 0, .slice none 0 0] 31))) (w.heap.size + 1) 28 go g.length gc bo n bc fi ol he la ∧ Below wm.heap.size wm (v1.alloc (.cells #[.slice none 0 0, .slice none 0 0] 31))) := ⟨H1.out.1.trans ((bal1 v1 (.cells #[.slice none 0 0, .slice none 0 0] 31)).mono H1.out.1.size), H1.out.2.1.b (bal1 v1 (.cells #[.slice none 0 0, .slice none 0 0] 31)), H1.out.2.2.1.b (bal1 v1 (.cells #[.slice none 0 0, .slice none 0 0] 31)), H1.out.2.2.2.trans ((bal1 v1 (.cells #[.slice none 0 0, .slice none 0 0] 31)).mono H1.out.2.2.2.size)⟩
      have hk7 := And.intro H7.out.2.1.cells H7.out.2.2.1.cells
      have A7 : Hid (SB (v1.alloc (.cells #[.slice none 0 0, .slice none 0 0] 31)) v1.heap.size 31 none 0 0 none 0 0) := SB.new v1 _ _ _ _ _ _ _
      have hge0 : wm.heap.size ≤ v1.heap.size := H1.out.2.2.2.size
      have T7 : Hid (VBy (v1.alloc (.cells #[.slice none 0 0, .slice none 0 0] 31)) tA iA A ∧ VBy (v1.alloc (.cells #[.slice none 0 0, .slice none 0 0] 31)) tB iB B ∧ NC tA iA ∧ NC tB iB) := ⟨T1.out.1.below (bal1 v1 (.cells #[.slice none 0 0, .slice none 0 0] 31)), T1.out.2.1.below (bal1 v1 (.cells #[.slice none 0 0, .slice none 0 0] 31)), T1.out.2.2⟩
      go_simp
      refine hK.out _ _ ?_ (fun hHeld => ?_)
      · exact hk7
      clear hK K
      try simp only [Act.put, List.setIfInBounds_toArray, List.set_cons_zero, List.set_cons_succ]
      obtain ⟨v7, hv7⟩ : ∃ V, V = (v1.alloc (.cells #[.slice none 0 0, .slice none 0 0] 31)) := ⟨_, rfl⟩
      obtain ⟨X7, hX7⟩ : ∃ X, X = v1.heap.size := ⟨_, rfl⟩
      have hge : wm.heap.size ≤ X7 := by rw [hX7]; exact hge0
      clear hge0
      rw [← hv7]
      try rw [← hX7]
      rw [← hv7, ← hX7] at A7
      rw [← hv7] at H7
      rw [← hv7] at T7
      rw [← hv7] at hk7
      clear hv7 hX7
      refine wpAnyH_ready (rs := [3]) (by kernel_rfl) (by simp) ?_
      refine AllReadyH.cons (o := { dst := some 29, op := Op.call { callee := Callee.value (Operand.func 8), args := #[Operand.tmp 28], argTypes := #[28] }, type := 34, pos := "exact.go:2726", after := #[{ on := 2, ground := Ground.data }, { on := 1, ground := Ground.chain }], guard := none }) rfl (fun K hK => ?_) AllReadyH.nil
      go_simp
      refine (tom_any go bo gc bc g n L fi ol he la v7 hd (HV.out.below H7.out.1)).mono ?_
      rintro e v8 ⟨go7, bo7, gc7, bc7, rfl, o7, b8⟩
      have T8 : Hid (VBy v8 tA iA A ∧ VBy v8 tB iB B ∧ NC tA iA ∧ NC tB iB) := ⟨T7.out.1.below b8, T7.out.2.1.below b8, T7.out.2.2⟩
      have M8 : Hid (MV v8 go7 gc7 bo7 bc7 g n L) := o7.mv
      have H8 : Hid (Below w.heap.size w v8 ∧ SB v8 w.heap.size 24 aA A.length cA aB B.length cB ∧ KB (v8) (w.heap.size + 1) 28 go g.length gc bo n bc fi ol he la ∧ Below wm.heap.size wm v8) := ⟨H7.out.1.trans (b8.mono H7.out.1.size), H7.out.2.1.b b8, H7.out.2.2.1.b b8, H7.out.2.2.2.trans (b8.mono H7.out.2.2.2.size)⟩
      have hk8 := And.intro H8.out.2.1.cells H8.out.2.2.1.cells
      have A8 := hide (A7.out.b b8)
      clear b8
      go_wp2_with fail
      refine hK.out _ _ ?_ (fun hHeld => ?_)
      · exact hk8
      clear hK K
      try simp only [Act.put, List.setIfInBounds_toArray, List.set_cons_zero, List.set_cons_succ]
      refine wpAnyH_ready (rs := [5]) (by kernel_rfl) (by simp) ?_
      refine AllReadyH.cons (o := { dst := some 31, op := Op.call { callee := Callee.value (Operand.func 6), args := #[Operand.tmp 27, Operand.tmp 29, Operand.tmp 30], argTypes := #[31, 34, 3] }, type := 31, pos := "exact.go:2726", after := #[{ on := 1, ground := Ground.data }, { on := 3, ground := Ground.data }, { on := 4, ground := Ground.data }, { on := 3, ground := Ground.chain }], guard := none }) rfl (fun K hK => ?_) AllReadyH.nil
      go_simp
      refine (hfn.out v8 _ _ _ _ _ _ _ _ T8.out.1 T8.out.2.1 T8.out.2.2.1 T8.out.2.2.2 M8.out).mono ?_
      rintro e v9 ⟨sA, sB, eA, eB, rfl, o8, b9, _, _⟩
      have F9 : Hid (VBy v9 sA eA PA ∧ VBy v9 sB eB PB) := ⟨o8.va HPA.out, o8.vb HPB.out⟩
      have H9 : Hid (Below w.heap.size w v9 ∧ SB v9 w.heap.size 24 aA A.length cA aB B.length cB ∧ KB (v9) (w.heap.size + 1) 28 go g.length gc bo n bc fi ol he la ∧ Below wm.heap.size wm v9) := ⟨H8.out.1.trans (b9.mono H8.out.1.size), H8.out.2.1.b b9, H8.out.2.2.1.b b9, H8.out.2.2.2.trans (b9.mono H8.out.2.2.2.size)⟩
      have hk9 := And.intro H9.out.2.1.cells H9.out.2.2.1.cells
      have A9 := hide (A8.out.b b9)
      clear b9
      go_wp2_with fail
      refine hK.out _ _ ?_ (fun hHeld => ?_)
      · exact hk9
      clear hK K
      try simp only [Act.put, List.setIfInBounds_toArray, List.set_cons_zero, List.set_cons_succ]
      refine wpAnyH_ready (rs := [7]) (by kernel_rfl) (by simp) ?_
      refine AllReadyH.cons (o := { dst := none, op := Op.store 31 (Operand.tmp 8) (Operand.tmp 31), type := 0, pos := "exact.go:2726", after := #[{ on := 6, ground := Ground.data }, { on := 5, ground := Ground.data }, { on := 5, ground := Ground.chain }, { on := 0, ground := Ground.phase }, { on := 1, ground := Ground.phase }, { on := 2, ground := Ground.phase }, { on := 3, ground := Ground.phase }, { on := 4, ground := Ground.phase }, { on := 5, ground := Ground.phase }, { on := 6, ground := Ground.phase }], guard := none }) rfl (fun K hK => ?_) AllReadyH.nil
      obtain ⟨x0, x1⟩ := A9.out.cells
      have z1 := A9.out.froz
      have F9 : Hid ((Below w.heap.size w ((v9.setCell ⟨X7, 0, none⟩ (.slice sA PA.length eA)).setCell ⟨X7, 1, none⟩ (.slice sB PB.length eB)) ∧ SB ((v9.setCell ⟨X7, 0, none⟩ (.slice sA PA.length eA)).setCell ⟨X7, 1, none⟩ (.slice sB PB.length eB)) w.heap.size 24 aA A.length cA aB B.length cB ∧ KB (((v9.setCell ⟨X7, 0, none⟩ (.slice sA PA.length eA)).setCell ⟨X7, 1, none⟩ (.slice sB PB.length eB))) (w.heap.size + 1) 28 go g.length gc bo n bc fi ol he la ∧ Below wm.heap.size wm ((v9.setCell ⟨X7, 0, none⟩ (.slice sA PA.length eA)).setCell ⟨X7, 1, none⟩ (.slice sB PB.length eB))) ∧ SB ((v9.setCell ⟨X7, 0, none⟩ (.slice sA PA.length eA)).setCell ⟨X7, 1, none⟩ (.slice sB PB.length eB)) X7 31 sA PA.length eA sB PB.length eB ∧ VBy ((v9.setCell ⟨X7, 0, none⟩ (.slice sA PA.length eA)).setCell ⟨X7, 1, none⟩ (.slice sB PB.length eB)) sA eA PA ∧ VBy ((v9.setCell ⟨X7, 0, none⟩ (.slice sA PA.length eA)).setCell ⟨X7, 1, none⟩ (.slice sB PB.length eB)) sB eB PB) := rg_end H9.out A9.out F9.out.1 F9.out.2 H0.out.2.2.lt hge
      have hk9 := And.intro F9.out.1.2.1.cells F9.out.1.2.2.1.cells
      go_simp
      refine hK.out _ _ ?_ (fun hHeld => ?_)
      · exact hk9
      clear hK K
      try simp only [Act.put, List.setIfInBounds_toArray, List.set_cons_zero, List.set_cons_succ]
      refine wpAnyH_done (by kernel_rfl) ?_ _
      exact h tA tB iA iB go7 bo7 gc7 bc7 sA sB eA eB X7 _ F9
  refine AllReadyH.cons (o := { dst := some 8, op := Op.alloc 31, type := 0, pos := "exact.go:2726", after := #[], guard := none }) rfl (fun K hK => ?_) AllReadyH.nil
  · skip
    have H10 : Hid (Below w.heap.size w (wm.alloc (.cells #[.slice none 0 0, .slice none 0 0] 31)).drew ∧ SB (wm.alloc (.cells #[.slice none 0 0, .slice none 0 0] 31)).drew w.heap.size 24 aA A.length cA aB B.length cB ∧ KB ((wm.alloc (.cells #[.slice none 0 0, .slice none 0 0] 31)).drew) (w.heap.size + 1) 28 go g.length gc bo n bc fi ol he la ∧ Below wm.heap.size wm (wm.alloc (.cells #[.slice none 0 0, .slice none 0 0] 31)).drew) := ⟨H0d.out.1.trans ((bal1 wm.drew (.cells #[.slice none 0 0, .slice none 0 0] 31)).mono H0d.out.1.size), H0d.out.2.1.b (bal1 wm.drew (.cells #[.slice none 0 0, .slice none 0 0] 31)), H0d.out.2.2.1.b (bal1 wm.drew (.cells #[.slice none 0 0, .slice none 0 0] 31)), H0d.out.2.2.2.trans ((bal1 wm.drew (.cells #[.slice none 0 0, .slice none 0 0] 31)).mono H0d.out.2.2.2.size)⟩
    have hk10 := And.intro H10.out.2.1.cells H10.out.2.2.1.cells
    have A10 : Hid (SB (wm.alloc (.cells #[.slice none 0 0, .slice none 0 0] 31)).drew wm.heap.size 31 none 0 0 none 0 0) := SB.new wm.drew _ _ _ _ _ _ _
    have hge0 : wm.heap.size ≤ wm.heap.size := H0d.out.2.2.2.size
    go_simp
    refine hK.out _ _ ?_ (fun hHeld => ?_)
    · exact hk10
    clear hK K
    try simp only [Act.put, List.setIfInBounds_toArray, List.set_cons_zero, List.set_cons_succ]
    obtain ⟨v10, hv10⟩ : ∃ V, V = (wm.alloc (.cells #[.slice none 0 0, .slice none 0 0] 31)).drew := ⟨_, rfl⟩
    obtain ⟨X10, hX10⟩ : ∃ X, X = wm.heap.size := ⟨_, rfl⟩
    have hge : wm.heap.size ≤ X10 := by rw [hX10]; exact hge0
    clear hge0
    rw [← hv10]
    try rw [← hX10]
    rw [← hv10, ← hX10] at A10
    rw [← hv10] at H10
    rw [← hv10] at hk10
    clear hv10 hX10
    refine wpAnyH_ready (rs := [1]) (by kernel_rfl) (by simp) ?_
    refine AllReadyH.cons (o := { dst := some 27, op := Op.call { callee := Callee.value (Operand.func 7), args := #[Operand.tmp 26], argTypes := #[24] }, type := 31, pos := "exact.go:2726", after := #[{ on := 0, ground := Ground.data }], guard := none }) rfl (fun K hK => ?_) AllReadyH.nil
    go_simp
    refine (tos_some aA aB cA cB A B v10 (HVA.out.below H10.out.1) (HVB.out.below H10.out.1)).mono ?_
    rintro e v11 ⟨tA, tB, iA, iB, rfl, o6, b11, k6, k6'⟩
    have T11 : Hid (VBy v11 tA iA A ∧ VBy v11 tB iB B ∧ NC tA iA ∧ NC tB iB) := ⟨o6.va HVA.out.by, o6.vb HVB.out.by, k6, k6'⟩
    have H11 : Hid (Below w.heap.size w v11 ∧ SB v11 w.heap.size 24 aA A.length cA aB B.length cB ∧ KB (v11) (w.heap.size + 1) 28 go g.length gc bo n bc fi ol he la ∧ Below wm.heap.size wm v11) := ⟨H10.out.1.trans (b11.mono H10.out.1.size), H10.out.2.1.b b11, H10.out.2.2.1.b b11, H10.out.2.2.2.trans (b11.mono H10.out.2.2.2.size)⟩
    have hk11 := And.intro H11.out.2.1.cells H11.out.2.2.1.cells
    have A11 := hide (A10.out.b b11)
    clear b11
    go_wp2_with fail
    refine hK.out _ _ ?_ (fun hHeld => ?_)
    · exact hk11
    clear hK K
    try simp only [Act.put, List.setIfInBounds_toArray, List.set_cons_zero, List.set_cons_succ]
    refine wpAnyH_ready (rs := [3]) (by kernel_rfl) (by simp) ?_
    refine AllReadyH.cons (o := { dst := some 29, op := Op.call { callee := Callee.value (Operand.func 8), args := #[Operand.tmp 28], argTypes := #[28] }, type := 34, pos := "exact.go:2726", after := #[{ on := 2, ground := Ground.data }, { on := 1, ground := Ground.chain }], guard := none }) rfl (fun K hK => ?_) AllReadyH.nil
    go_simp
    refine (tom_any go bo gc bc g n L fi ol he la v11 hd (HV.out.below H11.out.1)).mono ?_
    rintro e v12 ⟨go7, bo7, gc7, bc7, rfl, o7, b12⟩
    have T12 : Hid (VBy v12 tA iA A ∧ VBy v12 tB iB B ∧ NC tA iA ∧ NC tB iB) := ⟨T11.out.1.below b12, T11.out.2.1.below b12, T11.out.2.2⟩
    have M12 : Hid (MV v12 go7 gc7 bo7 bc7 g n L) := o7.mv
    have H12 : Hid (Below w.heap.size w v12 ∧ SB v12 w.heap.size 24 aA A.length cA aB B.length cB ∧ KB (v12) (w.heap.size + 1) 28 go g.length gc bo n bc fi ol he la ∧ Below wm.heap.size wm v12) := ⟨H11.out.1.trans (b12.mono H11.out.1.size), H11.out.2.1.b b12, H11.out.2.2.1.b b12, H11.out.2.2.2.trans (b12.mono H11.out.2.2.2.size)⟩
    have hk12 := And.intro H12.out.2.1.cells H12.out.2.2.1.cells
    have A12 := hide (A11.out.b b12)
    clear b12
    go_wp2_with fail
    refine hK.out _ _ ?_ (fun hHeld => ?_)
    · exact hk12
    clear hK K
    try simp only [Act.put, List.setIfInBounds_toArray, List.set_cons_zero, List.set_cons_succ]
    refine wpAnyH_ready (rs := [5]) (by kernel_rfl) (by simp) ?_
    refine AllReadyH.cons (o := { dst := some 31, op := Op.call { callee := Callee.value (Operand.func 6), args := #[Operand.tmp 27, Operand.tmp 29, Operand.tmp 30], argTypes := #[31, 34, 3] }, type := 31, pos := "exact.go:2726", after := #[{ on := 1, ground := Ground.data }, { on := 3, ground := Ground.data }, { on := 4, ground := Ground.data }, { on := 3, ground := Ground.chain }], guard := none }) rfl (fun K hK => ?_) AllReadyH.nil
    go_simp
    refine (hfn.out v12 _ _ _ _ _ _ _ _ T12.out.1 T12.out.2.1 T12.out.2.2.1 T12.out.2.2.2 M12.out).mono ?_
    rintro e v13 ⟨sA, sB, eA, eB, rfl, o8, b13, _, _⟩
    have F13 : Hid (VBy v13 sA eA PA ∧ VBy v13 sB eB PB) := ⟨o8.va HPA.out, o8.vb HPB.out⟩
    have H13 : Hid (Below w.heap.size w v13 ∧ SB v13 w.heap.size 24 aA A.length cA aB B.length cB ∧ KB (v13) (w.heap.size + 1) 28 go g.length gc bo n bc fi ol he la ∧ Below wm.heap.size wm v13) := ⟨H12.out.1.trans (b13.mono H12.out.1.size), H12.out.2.1.b b13, H12.out.2.2.1.b b13, H12.out.2.2.2.trans (b13.mono H12.out.2.2.2.size)⟩
    have hk13 := And.intro H13.out.2.1.cells H13.out.2.2.1.cells
    have A13 := hide (A12.out.b b13)
    clear b13
    go_wp2_with fail
    refine hK.out _ _ ?_ (fun hHeld => ?_)
    · exact hk13
    clear hK K
    try simp only [Act.put, List.setIfInBounds_toArray, List.set_cons_zero, List.set_cons_succ]
    refine wpAnyH_ready (rs := [7]) (by kernel_rfl) (by simp) ?_
    refine AllReadyH.cons (o := { dst := none, op := Op.store 31 (Operand.tmp 8) (Operand.tmp 31), type := 0, pos := "exact.go:2726", after := #[{ on := 6, ground := Ground.data }, { on := 5, ground := Ground.data }, { on := 5, ground := Ground.chain }, { on := 0, ground := Ground.phase }, { on := 1, ground := Ground.phase }, { on := 2, ground := Ground.phase }, { on := 3, ground := Ground.phase }, { on := 4, ground := Ground.phase }, { on := 5, ground := Ground.phase }, { on := 6, ground := Ground.phase }], guard := none }) rfl (fun K hK => ?_) AllReadyH.nil
    obtain ⟨x0, x1⟩ := A13.out.cells
    have z1 := A13.out.froz
    have F9 : Hid ((Below w.heap.size w ((v13.setCell ⟨X10, 0, none⟩ (.slice sA PA.length eA)).setCell ⟨X10, 1, none⟩ (.slice sB PB.length eB)) ∧ SB ((v13.setCell ⟨X10, 0, none⟩ (.slice sA PA.length eA)).setCell ⟨X10, 1, none⟩ (.slice sB PB.length eB)) w.heap.size 24 aA A.length cA aB B.length cB ∧ KB (((v13.setCell ⟨X10, 0, none⟩ (.slice sA PA.length eA)).setCell ⟨X10, 1, none⟩ (.slice sB PB.length eB))) (w.heap.size + 1) 28 go g.length gc bo n bc fi ol he la ∧ Below wm.heap.size wm ((v13.setCell ⟨X10, 0, none⟩ (.slice sA PA.length eA)).setCell ⟨X10, 1, none⟩ (.slice sB PB.length eB))) ∧ SB ((v13.setCell ⟨X10, 0, none⟩ (.slice sA PA.length eA)).setCell ⟨X10, 1, none⟩ (.slice sB PB.length eB)) X10 31 sA PA.length eA sB PB.length eB ∧ VBy ((v13.setCell ⟨X10, 0, none⟩ (.slice sA PA.length eA)).setCell ⟨X10, 1, none⟩ (.slice sB PB.length eB)) sA eA PA ∧ VBy ((v13.setCell ⟨X10, 0, none⟩ (.slice sA PA.length eA)).setCell ⟨X10, 1, none⟩ (.slice sB PB.length eB)) sB eB PB) := rg_end H13.out A13.out F13.out.1 F13.out.2 H0.out.2.2.lt hge
    have hk9 := And.intro F9.out.1.2.1.cells F9.out.1.2.2.1.cells
    go_simp
    refine hK.out _ _ ?_ (fun hHeld => ?_)
    · exact hk9
    clear hK K
    try simp only [Act.put, List.setIfInBounds_toArray, List.set_cons_zero, List.set_cons_succ]
    refine wpAnyH_done (by kernel_rfl) ?_ _
    exact h tA tB iA iB go7 bo7 gc7 bc7 sA sB eA eB X10 _ F9

set_option maxHeartbeats 4000000 in
theorem rgI (t0 t1 t5 t6 t7 t8 t9 t10 t11 t12 t13 t14 t15 t16 t17 t18 t19 t20 t21 t22 t23 t24 t25 t26 t27 t28 t29 t30 t31 t32 t33 t34 t35 t36 t37 t38 t39 t40 t41 t42 t43 t44 t45 t46 t47 t48 t49 t50 t51 t52 t53 t54 t55 t56 t57 t58 t59 t60 t61 t62 t63 t64 t65 t66 t67 t68 t69 t70 t71 t72 t73 t74 t75 t76 t77 t78 t79 t80 t81 t82 t83 t84 t85 t86 t87 t88 t89 t90 t91 t92 t93 t94 t95 t96 : Value) (Q : Exit → Act → World → Prop) (w wm : World) (aA aB : Option Addr) (cA cB : Nat) (A B : List Int) (go bo : Option Addr) (gc bc : Nat) (g : List Int) (n : Nat) (L : Nat → List Int) (fi ol he : Bool) (la : Int) (y : Int) (PA PB : List Int)
    (HVA : Hid (VBy w aA cA A)) (HVB : Hid (VBy w aB cB B)) (HV : Hid (MV w go gc bo bc g n L)) (hd : Bd g n L) (HPA : Hid (By PA)) (HPB : Hid (By PB)) (HG : Hid (ErrT w)) (hfn : Hid (∀ W aA cA aB cB go gc bo bc, ErrT W → VBy W aA cA A → VBy W aB cB B → NC aA cA → NC aB cB → MV W go gc bo bc g n L → Calls Tryz.prog 9 #[.agg #[.slice aA A.length cA, .slice aB B.length cB], .agg #[.slice go g.length gc, .slice bo n bc, .bool fi, .bool ol, .bool he, .int .i64 la], .int .i64 y] W fun e w' => PtOut W w' PA PB e)) (H0 : Hid (Below w.heap.size w wm ∧ SB wm w.heap.size 24 aA A.length cA aB B.length cB ∧ KB (wm) (w.heap.size + 1) 28 go g.length gc bo n bc fi ol he la))
    (hQp : ∀ c a d v w, Q (.panic c) (Act.put a d v) w → Q (.panic c) a w)
    (h : ∀ (tA tB : Option Addr) (iA iB : Nat) (go7 bo7 : Option Addr) (gc7 bc7 : Nat) (sA sB : Option Addr) (eA eB X2 : Nat) (W2 : World), Hid ((Below w.heap.size w W2 ∧ SB W2 w.heap.size 24 aA A.length cA aB B.length cB ∧ KB (W2) (w.heap.size + 1) 28 go g.length gc bo n bc fi ol he la ∧ Below wm.heap.size wm W2) ∧ SB W2 X2 31 sA PA.length eA sB PB.length eB ∧ VBy W2 sA eA PA ∧ VBy W2 sB eB PB) → Q .normal { tmps := #[t0, t1, .int .i64 y, .pointer (some ⟨w.heap.size, 0, none⟩), .pointer (some ⟨w.heap.size + 1, 0, none⟩), t5, t6, t7, t8, t9, t10, t11, t12, t13, t14, .pointer (some ⟨X2, 0, none⟩), t16, t17, t18, t19, t20, t21, t22, t23, t24, t25, t26, t27, t28, t29, t30, t31, t32, t33, t34, t35, t36, t37, t38, t39, t40, t41, t42, t43, t44, t45, t46, t47, t48, t49, t50, t51, t52, t53, t54, t55, t56, t57, t58, t59, t60, t61, t62, t63, t64, t65, t66, t67, t68, t69, t70, t71, t72, t73, t74, t75, t76, t77, t78, .agg #[.slice aA A.length cA, .slice aB B.length cB], .agg #[.slice tA A.length iA, .slice tB B.length iB], .agg #[.slice go g.length gc, .slice bo n bc, .bool fi, .bool ol, .bool he, .int .i64 la], .agg #[.slice go7 g.length gc7, .slice bo7 n bc7, .bool fi, .bool ol, .bool he, .int .i64 la], .int .i64 y, .agg #[.slice sA PA.length eA, .slice sB PB.length eB], t85, t86, t87, t88, t89, t90, t91, t92, t93, t94, t95, t96], defers := [] } W2) :
    Code.wp Tryz.prog (Code.region 31 #[{ dst := some 79, op := Op.load 24 (Operand.tmp 3), type := 24, pos := "exact.go:2755", after := #[], guard := none }, { dst := some 80, op := Op.call { callee := Callee.value (Operand.func 7), args := #[Operand.tmp 79], argTypes := #[24] }, type := 31, pos := "exact.go:2755", after := #[{ on := 0, ground := Ground.data }], guard := none }, { dst := some 81, op := Op.load 28 (Operand.tmp 4), type := 28, pos := "exact.go:2755", after := #[], guard := none }, { dst := some 82, op := Op.call { callee := Callee.value (Operand.func 8), args := #[Operand.tmp 81], argTypes := #[28] }, type := 34, pos := "exact.go:2755", after := #[{ on := 2, ground := Ground.data }, { on := 1, ground := Ground.chain }], guard := none }, { dst := some 83, op := Op.move (Operand.tmp 2), type := 3, pos := "exact.go:2755", after := #[], guard := none }, { dst := some 84, op := Op.call { callee := Callee.value (Operand.func 9), args := #[Operand.tmp 80, Operand.tmp 82, Operand.tmp 83], argTypes := #[31, 34, 3] }, type := 31, pos := "exact.go:2755", after := #[{ on := 1, ground := Ground.data }, { on := 3, ground := Ground.data }, { on := 4, ground := Ground.data }, { on := 3, ground := Ground.chain }], guard := none }, { dst := some 15, op := Op.alloc 31, type := 0, pos := "exact.go:2755", after := #[], guard := none }, { dst := none, op := Op.store 31 (Operand.tmp 15) (Operand.tmp 84), type := 0, pos := "exact.go:2755", after := #[{ on := 6, ground := Ground.data }, { on := 5, ground := Ground.data }, { on := 5, ground := Ground.chain }, { on := 0, ground := Ground.phase }, { on := 1, ground := Ground.phase }, { on := 2, ground := Ground.phase }, { on := 3, ground := Ground.phase }, { on := 4, ground := Ground.phase }, { on := 5, ground := Ground.phase }, { on := 6, ground := Ground.phase }], guard := none }] true) Q { tmps := #[t0, t1, .int .i64 y, .pointer (some ⟨w.heap.size, 0, none⟩), .pointer (some ⟨w.heap.size + 1, 0, none⟩), t5, t6, t7, t8, t9, t10, t11, t12, t13, t14, t15, t16, t17, t18, t19, t20, t21, t22, t23, t24, t25, t26, t27, t28, t29, t30, t31, t32, t33, t34, t35, t36, t37, t38, t39, t40, t41, t42, t43, t44, t45, t46, t47, t48, t49, t50, t51, t52, t53, t54, t55, t56, t57, t58, t59, t60, t61, t62, t63, t64, t65, t66, t67, t68, t69, t70, t71, t72, t73, t74, t75, t76, t77, t78, t79, t80, t81, t82, t83, t84, t85, t86, t87, t88, t89, t90, t91, t92, t93, t94, t95, t96], defers := [] } wm := by
  have H0d : Hid (Below w.heap.size w wm.drew ∧ SB wm.drew w.heap.size 24 aA A.length cA aB B.length cB ∧ KB (wm.drew) (w.heap.size + 1) 28 go g.length gc bo n bc fi ol he la ∧ Below wm.heap.size wm wm.drew) := ⟨Below.drawn H0.out.1 1, H0.out.2.1.b (Below.drawn (Below.refl _ _) 1), H0.out.2.2.b (Below.drawn (Below.refl _ _) 1), Below.drawn (Below.refl _ _) 1⟩
  have hS := And.intro H0d.out.2.1.cells H0d.out.2.2.1.cells
  refine wp_region_held_drew (S := (fun w' => (w'.cell? ⟨w.heap.size, 0, none⟩ = some (.slice aA A.length cA) ∧ w'.cell? ⟨w.heap.size, 1, none⟩ = some (.slice aB B.length cB)) ∧ (w'.cell? ⟨w.heap.size + 1, 0, none⟩ = some (.slice go g.length gc) ∧ w'.cell? ⟨w.heap.size + 1, 1, none⟩ = some (.slice bo n bc) ∧ w'.cell? ⟨w.heap.size + 1, 2, none⟩ = some (.bool fi) ∧ w'.cell? ⟨w.heap.size + 1, 3, none⟩ = some (.bool ol) ∧ w'.cell? ⟨w.heap.size + 1, 4, none⟩ = some (.bool he) ∧ w'.cell? ⟨w.heap.size + 1, 5, none⟩ = some (.int .i64 la)))) (by kernel_rfl) ?_ (fun hHeld => ?_)
  · exact hS
  refine wpAnyH_take (i := 0) (oi := { dst := some 79, op := Op.load 24 (Operand.tmp 3), type := 24, pos := "exact.go:2755", after := #[], guard := none }) (v := ?_) rfl (by kernel_rfl) (by kernel_rfl) (by kernel_rfl) (fun _ _ _ h => hQp _ _ _ _ _ h) (Or.inl ⟨by rfl, ?_⟩) (by assumption) ?_
  rotate_left 1
  · (intro wq hSw; (try dsimp only at hSw); go_simp; try with_reducible rfl)
  try simp only [Act.put, List.setIfInBounds_toArray, List.set_cons_zero, List.set_cons_succ]
  refine wpAnyH_take (i := 2) (oi := { dst := some 81, op := Op.load 28 (Operand.tmp 4), type := 28, pos := "exact.go:2755", after := #[], guard := none }) (v := ?_) rfl (by kernel_rfl) (by kernel_rfl) (by kernel_rfl) (fun _ _ _ h => hQp _ _ _ _ _ h) (Or.inl ⟨by rfl, ?_⟩) (by assumption) ?_
  rotate_left 1
  · (intro wq hSw; (try dsimp only at hSw); go_simp; try with_reducible rfl)
  try simp only [Act.put, List.setIfInBounds_toArray, List.set_cons_zero, List.set_cons_succ]
  refine wpAnyH_take (i := 4) (oi := { dst := some 83, op := Op.move (Operand.tmp 2), type := 3, pos := "exact.go:2755", after := #[], guard := none }) (v := ?_) rfl (by kernel_rfl) (by kernel_rfl) (by kernel_rfl) (fun _ _ _ h => hQp _ _ _ _ _ h) (Or.inl ⟨by rfl, ?_⟩) (by assumption) ?_
  rotate_left 1
  · (intro wq hSw; (try dsimp only at hSw); go_simp; try with_reducible rfl)
  try simp only [Act.put, List.setIfInBounds_toArray, List.set_cons_zero, List.set_cons_succ]
  refine wpAnyH_ready (rs := [1, 6]) (by kernel_rfl) (by simp) ?_
  refine AllReadyH.cons (o := { dst := some 80, op := Op.call { callee := Callee.value (Operand.func 7), args := #[Operand.tmp 79], argTypes := #[24] }, type := 31, pos := "exact.go:2755", after := #[{ on := 0, ground := Ground.data }], guard := none }) rfl (fun K hK => ?_) ?_
  · skip
    go_simp
    refine (tos_some aA aB cA cB A B wm.drew (HVA.out.below H0d.out.1) (HVB.out.below H0d.out.1)).mono ?_
    rintro e v1 ⟨tA, tB, iA, iB, rfl, o6, b1, k6, k6'⟩
    have T1 : Hid (VBy v1 tA iA A ∧ VBy v1 tB iB B ∧ NC tA iA ∧ NC tB iB) := ⟨o6.va HVA.out.by, o6.vb HVB.out.by, k6, k6'⟩
    have H1 : Hid (Below w.heap.size w v1 ∧ SB v1 w.heap.size 24 aA A.length cA aB B.length cB ∧ KB (v1) (w.heap.size + 1) 28 go g.length gc bo n bc fi ol he la ∧ Below wm.heap.size wm v1) := ⟨H0d.out.1.trans (b1.mono H0d.out.1.size), H0d.out.2.1.b b1, H0d.out.2.2.1.b b1, H0d.out.2.2.2.trans (b1.mono H0d.out.2.2.2.size)⟩
    have hk1 := And.intro H1.out.2.1.cells H1.out.2.2.1.cells
    clear b1
    go_wp2_with fail
    refine hK.out _ _ ?_ (fun hHeld => ?_)
    · exact hk1
    clear hK K
    try simp only [Act.put, List.setIfInBounds_toArray, List.set_cons_zero, List.set_cons_succ]
    refine wpAnyH_ready (rs := [3, 6]) (by kernel_rfl) (by simp) ?_
    refine AllReadyH.cons (o := { dst := some 82, op := Op.call { callee := Callee.value (Operand.func 8), args := #[Operand.tmp 81], argTypes := #[28] }, type := 34, pos := "exact.go:2755", after := #[{ on := 2, ground := Ground.data }, { on := 1, ground := Ground.chain }], guard := none }) rfl (fun K hK => ?_) ?_
    · skip
      go_simp
      refine (tom_any go bo gc bc g n L fi ol he la v1 hd (HV.out.below H1.out.1)).mono ?_
      rintro e v2 ⟨go7, bo7, gc7, bc7, rfl, o7, b2⟩
      have T2 : Hid (VBy v2 tA iA A ∧ VBy v2 tB iB B ∧ NC tA iA ∧ NC tB iB) := ⟨T1.out.1.below b2, T1.out.2.1.below b2, T1.out.2.2⟩
      have M2 : Hid (MV v2 go7 gc7 bo7 bc7 g n L) := o7.mv
      have H2 : Hid (Below w.heap.size w v2 ∧ SB v2 w.heap.size 24 aA A.length cA aB B.length cB ∧ KB (v2) (w.heap.size + 1) 28 go g.length gc bo n bc fi ol he la ∧ Below wm.heap.size wm v2) := ⟨H1.out.1.trans (b2.mono H1.out.1.size), H1.out.2.1.b b2, H1.out.2.2.1.b b2, H1.out.2.2.2.trans (b2.mono H1.out.2.2.2.size)⟩
      have hk2 := And.intro H2.out.2.1.cells H2.out.2.2.1.cells
      clear b2
      go_wp2_with fail
      refine hK.out _ _ ?_ (fun hHeld => ?_)
      · exact hk2
      clear hK K
      try simp only [Act.put, List.setIfInBounds_toArray, List.set_cons_zero, List.set_cons_succ]
      refine wpAnyH_ready (rs := [5, 6]) (by kernel_rfl) (by simp) ?_
      refine AllReadyH.cons (o := { dst := some 84, op := Op.call { callee := Callee.value (Operand.func 9), args := #[Operand.tmp 80, Operand.tmp 82, Operand.tmp 83], argTypes := #[31, 34, 3] }, type := 31, pos := "exact.go:2755", after := #[{ on := 1, ground := Ground.data }, { on := 3, ground := Ground.data }, { on := 4, ground := Ground.data }, { on := 3, ground := Ground.chain }], guard := none }) rfl (fun K hK => ?_) ?_
      · skip
        go_simp
        refine (hfn.out v2 _ _ _ _ _ _ _ _ (HG.out.below H2.out.1) T2.out.1 T2.out.2.1 T2.out.2.2.1 T2.out.2.2.2 M2.out).mono ?_
        rintro e v3 ⟨sA, sB, eA, eB, rfl, o8, b3, _, _⟩
        have F3 : Hid (VBy v3 sA eA PA ∧ VBy v3 sB eB PB) := ⟨o8.va HPA.out, o8.vb HPB.out⟩
        have H3 : Hid (Below w.heap.size w v3 ∧ SB v3 w.heap.size 24 aA A.length cA aB B.length cB ∧ KB (v3) (w.heap.size + 1) 28 go g.length gc bo n bc fi ol he la ∧ Below wm.heap.size wm v3) := ⟨H2.out.1.trans (b3.mono H2.out.1.size), H2.out.2.1.b b3, H2.out.2.2.1.b b3, H2.out.2.2.2.trans (b3.mono H2.out.2.2.2.size)⟩
        have hk3 := And.intro H3.out.2.1.cells H3.out.2.2.1.cells
        clear b3
        go_wp2_with fail
        refine hK.out _ _ ?_ (fun hHeld => ?_)
        · exact hk3
        clear hK K
        try simp only [Act.put, List.setIfInBounds_toArray, List.set_cons_zero, List.set_cons_succ]
        refine wpAnyH_ready (rs := [6]) (by kernel_rfl) (by simp) ?_
        refine AllReadyH.cons (o := { dst := some 15, op := Op.alloc 31, type := 0, pos := "exact.go:2755", after := #[], guard := none }) rfl (fun K hK => ?_) AllReadyH.nil
        have H4 : Hid (Below w.heap.size w (v3.alloc (.cells #[.slice none 0 0, .slice none 0 0] 31)) ∧ SB (v3.alloc (.cells #[.slice none 0 0, .slice none 0 0] 31)) w.heap.size 24 aA A.length cA aB B.length cB ∧ KB ((v3.alloc (.cells #[.slice none 0 0, .slice none 0 0] 31))) (w.heap.size + 1) 28 go g.length gc bo n bc fi ol he la ∧ Below wm.heap.size wm (v3.alloc (.cells #[.slice none 0 0, .slice none 0 0] 31))) := ⟨H3.out.1.trans ((bal1 v3 (.cells #[.slice none 0 0, .slice none 0 0] 31)).mono H3.out.1.size), H3.out.2.1.b (bal1 v3 (.cells #[.slice none 0 0, .slice none 0 0] 31)), H3.out.2.2.1.b (bal1 v3 (.cells #[.slice none 0 0, .slice none 0 0] 31)), H3.out.2.2.2.trans ((bal1 v3 (.cells #[.slice none 0 0, .slice none 0 0] 31)).mono H3.out.2.2.2.size)⟩
        have hk4 := And.intro H4.out.2.1.cells H4.out.2.2.1.cells
        have A4 : Hid (SB (v3.alloc (.cells #[.slice none 0 0, .slice none 0 0] 31)) v3.heap.size 31 none 0 0 none 0 0) := SB.new v3 _ _ _ _ _ _ _
        have hge0 : wm.heap.size ≤ v3.heap.size := H3.out.2.2.2.size
        have F4 : Hid (VBy (v3.alloc (.cells #[.slice none 0 0, .slice none 0 0] 31)) sA eA PA ∧ VBy (v3.alloc (.cells #[.slice none 0 0, .slice none 0 0] 31)) sB eB PB) := ⟨F3.out.1.below (bal1 v3 (.cells #[.slice none 0 0, .slice none 0 0] 31)), F3.out.2.below (bal1 v3 (.cells #[.slice none 0 0, .slice none 0 0] 31))⟩
        go_simp
        refine hK.out _ _ ?_ (fun hHeld => ?_)
        · exact hk4
        clear hK K
        try simp only [Act.put, List.setIfInBounds_toArray, List.set_cons_zero, List.set_cons_succ]
        obtain ⟨v4, hv4⟩ : ∃ V, V = (v3.alloc (.cells #[.slice none 0 0, .slice none 0 0] 31)) := ⟨_, rfl⟩
        obtain ⟨X4, hX4⟩ : ∃ X, X = v3.heap.size := ⟨_, rfl⟩
        have hge : wm.heap.size ≤ X4 := by rw [hX4]; exact hge0
        clear hge0
        rw [← hv4]
        try rw [← hX4]
        rw [← hv4, ← hX4] at A4
        rw [← hv4] at H4
        rw [← hv4] at F4
        rw [← hv4] at hk4
        clear hv4 hX4
        refine wpAnyH_ready (rs := [7]) (by kernel_rfl) (by simp) ?_
        refine AllReadyH.cons (o := { dst := none, op := Op.store 31 (Operand.tmp 15) (Operand.tmp 84), type := 0, pos := "exact.go:2755", after := #[{ on := 6, ground := Ground.data }, { on := 5, ground := Ground.data }, { on := 5, ground := Ground.chain }, { on := 0, ground := Ground.phase }, { on := 1, ground := Ground.phase }, { on := 2, ground := Ground.phase }, { on := 3, ground := Ground.phase }, { on := 4, ground := Ground.phase }, { on := 5, ground := Ground.phase }, { on := 6, ground := Ground.phase }], guard := none }) rfl (fun K hK => ?_) AllReadyH.nil
        obtain ⟨x0, x1⟩ := A4.out.cells
        have z1 := A4.out.froz
        have F9 : Hid ((Below w.heap.size w ((v4.setCell ⟨X4, 0, none⟩ (.slice sA PA.length eA)).setCell ⟨X4, 1, none⟩ (.slice sB PB.length eB)) ∧ SB ((v4.setCell ⟨X4, 0, none⟩ (.slice sA PA.length eA)).setCell ⟨X4, 1, none⟩ (.slice sB PB.length eB)) w.heap.size 24 aA A.length cA aB B.length cB ∧ KB (((v4.setCell ⟨X4, 0, none⟩ (.slice sA PA.length eA)).setCell ⟨X4, 1, none⟩ (.slice sB PB.length eB))) (w.heap.size + 1) 28 go g.length gc bo n bc fi ol he la ∧ Below wm.heap.size wm ((v4.setCell ⟨X4, 0, none⟩ (.slice sA PA.length eA)).setCell ⟨X4, 1, none⟩ (.slice sB PB.length eB))) ∧ SB ((v4.setCell ⟨X4, 0, none⟩ (.slice sA PA.length eA)).setCell ⟨X4, 1, none⟩ (.slice sB PB.length eB)) X4 31 sA PA.length eA sB PB.length eB ∧ VBy ((v4.setCell ⟨X4, 0, none⟩ (.slice sA PA.length eA)).setCell ⟨X4, 1, none⟩ (.slice sB PB.length eB)) sA eA PA ∧ VBy ((v4.setCell ⟨X4, 0, none⟩ (.slice sA PA.length eA)).setCell ⟨X4, 1, none⟩ (.slice sB PB.length eB)) sB eB PB) := rg_end H4.out A4.out F4.out.1 F4.out.2 H0.out.2.2.lt hge
        have hk9 := And.intro F9.out.1.2.1.cells F9.out.1.2.2.1.cells
        go_simp
        refine hK.out _ _ ?_ (fun hHeld => ?_)
        · exact hk9
        clear hK K
        try simp only [Act.put, List.setIfInBounds_toArray, List.set_cons_zero, List.set_cons_succ]
        refine wpAnyH_done (by kernel_rfl) ?_ _
        exact h tA tB iA iB go7 bo7 gc7 bc7 sA sB eA eB X4 _ F9
      refine AllReadyH.cons (o := { dst := some 15, op := Op.alloc 31, type := 0, pos := "exact.go:2755", after := #[], guard := none }) rfl (fun K hK => ?_) AllReadyH.nil
      · skip
        have H5 : Hid (Below w.heap.size w (v2.alloc (.cells #[.slice none 0 0, .slice none 0 0] 31)) ∧ SB (v2.alloc (.cells #[.slice none 0 0, .slice none 0 0] 31)) w.heap.size 24 aA A.length cA aB B.length cB ∧ KB ((v2.alloc (.cells #[.slice none 0 0, .slice none 0 0] 31))) (w.heap.size + 1) 28 go g.length gc bo n bc fi ol he la ∧ Below wm.heap.size wm (v2.alloc (.cells #[.slice none 0 0, .slice none 0 0] 31))) := ⟨H2.out.1.trans ((bal1 v2 (.cells #[.slice none 0 0, .slice none 0 0] 31)).mono H2.out.1.size), H2.out.2.1.b (bal1 v2 (.cells #[.slice none 0 0, .slice none 0 0] 31)), H2.out.2.2.1.b (bal1 v2 (.cells #[.slice none 0 0, .slice none 0 0] 31)), H2.out.2.2.2.trans ((bal1 v2 (.cells #[.slice none 0 0, .slice none 0 0] 31)).mono H2.out.2.2.2.size)⟩
        have hk5 := And.intro H5.out.2.1.cells H5.out.2.2.1.cells
        have A5 : Hid (SB (v2.alloc (.cells #[.slice none 0 0, .slice none 0 0] 31)) v2.heap.size 31 none 0 0 none 0 0) := SB.new v2 _ _ _ _ _ _ _
        have hge0 : wm.heap.size ≤ v2.heap.size := H2.out.2.2.2.size
        have T5 : Hid (VBy (v2.alloc (.cells #[.slice none 0 0, .slice none 0 0] 31)) tA iA A ∧ VBy (v2.alloc (.cells #[.slice none 0 0, .slice none 0 0] 31)) tB iB B ∧ NC tA iA ∧ NC tB iB) := ⟨T2.out.1.below (bal1 v2 (.cells #[.slice none 0 0, .slice none 0 0] 31)), T2.out.2.1.below (bal1 v2 (.cells #[.slice none 0 0, .slice none 0 0] 31)), T2.out.2.2⟩
        have M5 : Hid (MV (v2.alloc (.cells #[.slice none 0 0, .slice none 0 0] 31)) go7 gc7 bo7 bc7 g n L) := M2.out.below (bal1 v2 (.cells #[.slice none 0 0, .slice none 0 0] 31))
        go_simp
        refine hK.out _ _ ?_ (fun hHeld => ?_)
        · exact hk5
        clear hK K
        try simp only [Act.put, List.setIfInBounds_toArray, List.set_cons_zero, List.set_cons_succ]
        obtain ⟨v5, hv5⟩ : ∃ V, V = (v2.alloc (.cells #[.slice none 0 0, .slice none 0 0] 31)) := ⟨_, rfl⟩
        obtain ⟨X5, hX5⟩ : ∃ X, X = v2.heap.size := ⟨_, rfl⟩
        have hge : wm.heap.size ≤ X5 := by rw [hX5]; exact hge0
        clear hge0
        rw [← hv5]
        try rw [← hX5]
        rw [← hv5, ← hX5] at A5
        rw [← hv5] at H5
        rw [← hv5] at T5
        rw [← hv5] at M5
        rw [← hv5] at hk5
        clear hv5 hX5
        refine wpAnyH_ready (rs := [5]) (by kernel_rfl) (by simp) ?_
        refine AllReadyH.cons (o := { dst := some 84, op := Op.call { callee := Callee.value (Operand.func 9), args := #[Operand.tmp 80, Operand.tmp 82, Operand.tmp 83], argTypes := #[31, 34, 3] }, type := 31, pos := "exact.go:2755", after := #[{ on := 1, ground := Ground.data }, { on := 3, ground := Ground.data }, { on := 4, ground := Ground.data }, { on := 3, ground := Ground.chain }], guard := none }) rfl (fun K hK => ?_) AllReadyH.nil
        go_simp
        refine (hfn.out v5 _ _ _ _ _ _ _ _ (HG.out.below H5.out.1) T5.out.1 T5.out.2.1 T5.out.2.2.1 T5.out.2.2.2 M5.out).mono ?_
        rintro e v6 ⟨sA, sB, eA, eB, rfl, o8, b6, _, _⟩
        have F6 : Hid (VBy v6 sA eA PA ∧ VBy v6 sB eB PB) := ⟨o8.va HPA.out, o8.vb HPB.out⟩
        have H6 : Hid (Below w.heap.size w v6 ∧ SB v6 w.heap.size 24 aA A.length cA aB B.length cB ∧ KB (v6) (w.heap.size + 1) 28 go g.length gc bo n bc fi ol he la ∧ Below wm.heap.size wm v6) := ⟨H5.out.1.trans (b6.mono H5.out.1.size), H5.out.2.1.b b6, H5.out.2.2.1.b b6, H5.out.2.2.2.trans (b6.mono H5.out.2.2.2.size)⟩
        have hk6 := And.intro H6.out.2.1.cells H6.out.2.2.1.cells
        have A6 := hide (A5.out.b b6)
        clear b6
        go_wp2_with fail
        refine hK.out _ _ ?_ (fun hHeld => ?_)
        · exact hk6
        clear hK K
        try simp only [Act.put, List.setIfInBounds_toArray, List.set_cons_zero, List.set_cons_succ]
        refine wpAnyH_ready (rs := [7]) (by kernel_rfl) (by simp) ?_
        refine AllReadyH.cons (o := { dst := none, op := Op.store 31 (Operand.tmp 15) (Operand.tmp 84), type := 0, pos := "exact.go:2755", after := #[{ on := 6, ground := Ground.data }, { on := 5, ground := Ground.data }, { on := 5, ground := Ground.chain }, { on := 0, ground := Ground.phase }, { on := 1, ground := Ground.phase }, { on := 2, ground := Ground.phase }, { on := 3, ground := Ground.phase }, { on := 4, ground := Ground.phase }, { on := 5, ground := Ground.phase }, { on := 6, ground := Ground.phase }], guard := none }) rfl (fun K hK => ?_) AllReadyH.nil
        obtain ⟨x0, x1⟩ := A6.out.cells
        have z1 := A6.out.froz
        have F9 : Hid ((Below w.heap.size w ((v6.setCell ⟨X5, 0, none⟩ (.slice sA PA.length eA)).setCell ⟨X5, 1, none⟩ (.slice sB PB.length eB)) ∧ SB ((v6.setCell ⟨X5, 0, none⟩ (.slice sA PA.length eA)).setCell ⟨X5, 1, none⟩ (.slice sB PB.length eB)) w.heap.size 24 aA A.length cA aB B.length cB ∧ KB (((v6.setCell ⟨X5, 0, none⟩ (.slice sA PA.length eA)).setCell ⟨X5, 1, none⟩ (.slice sB PB.length eB))) (w.heap.size + 1) 28 go g.length gc bo n bc fi ol he la ∧ Below wm.heap.size wm ((v6.setCell ⟨X5, 0, none⟩ (.slice sA PA.length eA)).setCell ⟨X5, 1, none⟩ (.slice sB PB.length eB))) ∧ SB ((v6.setCell ⟨X5, 0, none⟩ (.slice sA PA.length eA)).setCell ⟨X5, 1, none⟩ (.slice sB PB.length eB)) X5 31 sA PA.length eA sB PB.length eB ∧ VBy ((v6.setCell ⟨X5, 0, none⟩ (.slice sA PA.length eA)).setCell ⟨X5, 1, none⟩ (.slice sB PB.length eB)) sA eA PA ∧ VBy ((v6.setCell ⟨X5, 0, none⟩ (.slice sA PA.length eA)).setCell ⟨X5, 1, none⟩ (.slice sB PB.length eB)) sB eB PB) := rg_end H6.out A6.out F6.out.1 F6.out.2 H0.out.2.2.lt hge
        have hk9 := And.intro F9.out.1.2.1.cells F9.out.1.2.2.1.cells
        go_simp
        refine hK.out _ _ ?_ (fun hHeld => ?_)
        · exact hk9
        clear hK K
        try simp only [Act.put, List.setIfInBounds_toArray, List.set_cons_zero, List.set_cons_succ]
        refine wpAnyH_done (by kernel_rfl) ?_ _
        exact h tA tB iA iB go7 bo7 gc7 bc7 sA sB eA eB X5 _ F9
    refine AllReadyH.cons (o := { dst := some 15, op := Op.alloc 31, type := 0, pos := "exact.go:2755", after := #[], guard := none }) rfl (fun K hK => ?_) AllReadyH.nil
    · skip
      have H7 : Hid (Below w.heap.size w (v1.alloc (.cells #[.slice none 0 0, .slice none 0 0] 31)) ∧ SB (v1.alloc (.cells #[.slice none 0 0, .slice none 0 0] 31)) w.heap.size 24 aA A.length cA aB B.length cB ∧ KB ((v1.alloc (.cells #[.slice none 0 0, .slice none 0 0] 31))) (w.heap.size + 1) 28 go g.length gc bo n bc fi ol he la ∧ Below wm.heap.size wm (v1.alloc (.cells #[.slice none 0 0, .slice none 0 0] 31))) := ⟨H1.out.1.trans ((bal1 v1 (.cells #[.slice none 0 0, .slice none 0 0] 31)).mono H1.out.1.size), H1.out.2.1.b (bal1 v1 (.cells #[.slice none 0 0, .slice none 0 0] 31)), H1.out.2.2.1.b (bal1 v1 (.cells #[.slice none 0 0, .slice none 0 0] 31)), H1.out.2.2.2.trans ((bal1 v1 (.cells #[.slice none 0 0, .slice none 0 0] 31)).mono H1.out.2.2.2.size)⟩
      have hk7 := And.intro H7.out.2.1.cells H7.out.2.2.1.cells
      have A7 : Hid (SB (v1.alloc (.cells #[.slice none 0 0, .slice none 0 0] 31)) v1.heap.size 31 none 0 0 none 0 0) := SB.new v1 _ _ _ _ _ _ _
      have hge0 : wm.heap.size ≤ v1.heap.size := H1.out.2.2.2.size
      have T7 : Hid (VBy (v1.alloc (.cells #[.slice none 0 0, .slice none 0 0] 31)) tA iA A ∧ VBy (v1.alloc (.cells #[.slice none 0 0, .slice none 0 0] 31)) tB iB B ∧ NC tA iA ∧ NC tB iB) := ⟨T1.out.1.below (bal1 v1 (.cells #[.slice none 0 0, .slice none 0 0] 31)), T1.out.2.1.below (bal1 v1 (.cells #[.slice none 0 0, .slice none 0 0] 31)), T1.out.2.2⟩
      go_simp
      refine hK.out _ _ ?_ (fun hHeld => ?_)
      · exact hk7
      clear hK K
      try simp only [Act.put, List.setIfInBounds_toArray, List.set_cons_zero, List.set_cons_succ]
      obtain ⟨v7, hv7⟩ : ∃ V, V = (v1.alloc (.cells #[.slice none 0 0, .slice none 0 0] 31)) := ⟨_, rfl⟩
      obtain ⟨X7, hX7⟩ : ∃ X, X = v1.heap.size := ⟨_, rfl⟩
      have hge : wm.heap.size ≤ X7 := by rw [hX7]; exact hge0
      clear hge0
      rw [← hv7]
      try rw [← hX7]
      rw [← hv7, ← hX7] at A7
      rw [← hv7] at H7
      rw [← hv7] at T7
      rw [← hv7] at hk7
      clear hv7 hX7
      refine wpAnyH_ready (rs := [3]) (by kernel_rfl) (by simp) ?_
      refine AllReadyH.cons (o := { dst := some 82, op := Op.call { callee := Callee.value (Operand.func 8), args := #[Operand.tmp 81], argTypes := #[28] }, type := 34, pos := "exact.go:2755", after := #[{ on := 2, ground := Ground.data }, { on := 1, ground := Ground.chain }], guard := none }) rfl (fun K hK => ?_) AllReadyH.nil
      go_simp
      refine (tom_any go bo gc bc g n L fi ol he la v7 hd (HV.out.below H7.out.1)).mono ?_
      rintro e v8 ⟨go7, bo7, gc7, bc7, rfl, o7, b8⟩
      have T8 : Hid (VBy v8 tA iA A ∧ VBy v8 tB iB B ∧ NC tA iA ∧ NC tB iB) := ⟨T7.out.1.below b8, T7.out.2.1.below b8, T7.out.2.2⟩
      have M8 : Hid (MV v8 go7 gc7 bo7 bc7 g n L) := o7.mv
      have H8 : Hid (Below w.heap.size w v8 ∧ SB v8 w.heap.size 24 aA A.length cA aB B.length cB ∧ KB (v8) (w.heap.size + 1) 28 go g.length gc bo n bc fi ol he la ∧ Below wm.heap.size wm v8) := ⟨H7.out.1.trans (b8.mono H7.out.1.size), H7.out.2.1.b b8, H7.out.2.2.1.b b8, H7.out.2.2.2.trans (b8.mono H7.out.2.2.2.size)⟩
      have hk8 := And.intro H8.out.2.1.cells H8.out.2.2.1.cells
      have A8 := hide (A7.out.b b8)
      clear b8
      go_wp2_with fail
      refine hK.out _ _ ?_ (fun hHeld => ?_)
      · exact hk8
      clear hK K
      try simp only [Act.put, List.setIfInBounds_toArray, List.set_cons_zero, List.set_cons_succ]
      refine wpAnyH_ready (rs := [5]) (by kernel_rfl) (by simp) ?_
      refine AllReadyH.cons (o := { dst := some 84, op := Op.call { callee := Callee.value (Operand.func 9), args := #[Operand.tmp 80, Operand.tmp 82, Operand.tmp 83], argTypes := #[31, 34, 3] }, type := 31, pos := "exact.go:2755", after := #[{ on := 1, ground := Ground.data }, { on := 3, ground := Ground.data }, { on := 4, ground := Ground.data }, { on := 3, ground := Ground.chain }], guard := none }) rfl (fun K hK => ?_) AllReadyH.nil
      go_simp
      refine (hfn.out v8 _ _ _ _ _ _ _ _ (HG.out.below H8.out.1) T8.out.1 T8.out.2.1 T8.out.2.2.1 T8.out.2.2.2 M8.out).mono ?_
      rintro e v9 ⟨sA, sB, eA, eB, rfl, o8, b9, _, _⟩
      have F9 : Hid (VBy v9 sA eA PA ∧ VBy v9 sB eB PB) := ⟨o8.va HPA.out, o8.vb HPB.out⟩
      have H9 : Hid (Below w.heap.size w v9 ∧ SB v9 w.heap.size 24 aA A.length cA aB B.length cB ∧ KB (v9) (w.heap.size + 1) 28 go g.length gc bo n bc fi ol he la ∧ Below wm.heap.size wm v9) := ⟨H8.out.1.trans (b9.mono H8.out.1.size), H8.out.2.1.b b9, H8.out.2.2.1.b b9, H8.out.2.2.2.trans (b9.mono H8.out.2.2.2.size)⟩
      have hk9 := And.intro H9.out.2.1.cells H9.out.2.2.1.cells
      have A9 := hide (A8.out.b b9)
      clear b9
      go_wp2_with fail
      refine hK.out _ _ ?_ (fun hHeld => ?_)
      · exact hk9
      clear hK K
      try simp only [Act.put, List.setIfInBounds_toArray, List.set_cons_zero, List.set_cons_succ]
      refine wpAnyH_ready (rs := [7]) (by kernel_rfl) (by simp) ?_
      refine AllReadyH.cons (o := { dst := none, op := Op.store 31 (Operand.tmp 15) (Operand.tmp 84), type := 0, pos := "exact.go:2755", after := #[{ on := 6, ground := Ground.data }, { on := 5, ground := Ground.data }, { on := 5, ground := Ground.chain }, { on := 0, ground := Ground.phase }, { on := 1, ground := Ground.phase }, { on := 2, ground := Ground.phase }, { on := 3, ground := Ground.phase }, { on := 4, ground := Ground.phase }, { on := 5, ground := Ground.phase }, { on := 6, ground := Ground.phase }], guard := none }) rfl (fun K hK => ?_) AllReadyH.nil
      obtain ⟨x0, x1⟩ := A9.out.cells
      have z1 := A9.out.froz
      have F9 : Hid ((Below w.heap.size w ((v9.setCell ⟨X7, 0, none⟩ (.slice sA PA.length eA)).setCell ⟨X7, 1, none⟩ (.slice sB PB.length eB)) ∧ SB ((v9.setCell ⟨X7, 0, none⟩ (.slice sA PA.length eA)).setCell ⟨X7, 1, none⟩ (.slice sB PB.length eB)) w.heap.size 24 aA A.length cA aB B.length cB ∧ KB (((v9.setCell ⟨X7, 0, none⟩ (.slice sA PA.length eA)).setCell ⟨X7, 1, none⟩ (.slice sB PB.length eB))) (w.heap.size + 1) 28 go g.length gc bo n bc fi ol he la ∧ Below wm.heap.size wm ((v9.setCell ⟨X7, 0, none⟩ (.slice sA PA.length eA)).setCell ⟨X7, 1, none⟩ (.slice sB PB.length eB))) ∧ SB ((v9.setCell ⟨X7, 0, none⟩ (.slice sA PA.length eA)).setCell ⟨X7, 1, none⟩ (.slice sB PB.length eB)) X7 31 sA PA.length eA sB PB.length eB ∧ VBy ((v9.setCell ⟨X7, 0, none⟩ (.slice sA PA.length eA)).setCell ⟨X7, 1, none⟩ (.slice sB PB.length eB)) sA eA PA ∧ VBy ((v9.setCell ⟨X7, 0, none⟩ (.slice sA PA.length eA)).setCell ⟨X7, 1, none⟩ (.slice sB PB.length eB)) sB eB PB) := rg_end H9.out A9.out F9.out.1 F9.out.2 H0.out.2.2.lt hge
      have hk9 := And.intro F9.out.1.2.1.cells F9.out.1.2.2.1.cells
      go_simp
      refine hK.out _ _ ?_ (fun hHeld => ?_)
      · exact hk9
      clear hK K
      try simp only [Act.put, List.setIfInBounds_toArray, List.set_cons_zero, List.set_cons_succ]
      refine wpAnyH_done (by kernel_rfl) ?_ _
      exact h tA tB iA iB go7 bo7 gc7 bc7 sA sB eA eB X7 _ F9
  refine AllReadyH.cons (o := { dst := some 15, op := Op.alloc 31, type := 0, pos := "exact.go:2755", after := #[], guard := none }) rfl (fun K hK => ?_) AllReadyH.nil
  · skip
    have H10 : Hid (Below w.heap.size w (wm.alloc (.cells #[.slice none 0 0, .slice none 0 0] 31)).drew ∧ SB (wm.alloc (.cells #[.slice none 0 0, .slice none 0 0] 31)).drew w.heap.size 24 aA A.length cA aB B.length cB ∧ KB ((wm.alloc (.cells #[.slice none 0 0, .slice none 0 0] 31)).drew) (w.heap.size + 1) 28 go g.length gc bo n bc fi ol he la ∧ Below wm.heap.size wm (wm.alloc (.cells #[.slice none 0 0, .slice none 0 0] 31)).drew) := ⟨H0d.out.1.trans ((bal1 wm.drew (.cells #[.slice none 0 0, .slice none 0 0] 31)).mono H0d.out.1.size), H0d.out.2.1.b (bal1 wm.drew (.cells #[.slice none 0 0, .slice none 0 0] 31)), H0d.out.2.2.1.b (bal1 wm.drew (.cells #[.slice none 0 0, .slice none 0 0] 31)), H0d.out.2.2.2.trans ((bal1 wm.drew (.cells #[.slice none 0 0, .slice none 0 0] 31)).mono H0d.out.2.2.2.size)⟩
    have hk10 := And.intro H10.out.2.1.cells H10.out.2.2.1.cells
    have A10 : Hid (SB (wm.alloc (.cells #[.slice none 0 0, .slice none 0 0] 31)).drew wm.heap.size 31 none 0 0 none 0 0) := SB.new wm.drew _ _ _ _ _ _ _
    have hge0 : wm.heap.size ≤ wm.heap.size := H0d.out.2.2.2.size
    go_simp
    refine hK.out _ _ ?_ (fun hHeld => ?_)
    · exact hk10
    clear hK K
    try simp only [Act.put, List.setIfInBounds_toArray, List.set_cons_zero, List.set_cons_succ]
    obtain ⟨v10, hv10⟩ : ∃ V, V = (wm.alloc (.cells #[.slice none 0 0, .slice none 0 0] 31)).drew := ⟨_, rfl⟩
    obtain ⟨X10, hX10⟩ : ∃ X, X = wm.heap.size := ⟨_, rfl⟩
    have hge : wm.heap.size ≤ X10 := by rw [hX10]; exact hge0
    clear hge0
    rw [← hv10]
    try rw [← hX10]
    rw [← hv10, ← hX10] at A10
    rw [← hv10] at H10
    rw [← hv10] at hk10
    clear hv10 hX10
    refine wpAnyH_ready (rs := [1]) (by kernel_rfl) (by simp) ?_
    refine AllReadyH.cons (o := { dst := some 80, op := Op.call { callee := Callee.value (Operand.func 7), args := #[Operand.tmp 79], argTypes := #[24] }, type := 31, pos := "exact.go:2755", after := #[{ on := 0, ground := Ground.data }], guard := none }) rfl (fun K hK => ?_) AllReadyH.nil
    go_simp
    refine (tos_some aA aB cA cB A B v10 (HVA.out.below H10.out.1) (HVB.out.below H10.out.1)).mono ?_
    rintro e v11 ⟨tA, tB, iA, iB, rfl, o6, b11, k6, k6'⟩
    have T11 : Hid (VBy v11 tA iA A ∧ VBy v11 tB iB B ∧ NC tA iA ∧ NC tB iB) := ⟨o6.va HVA.out.by, o6.vb HVB.out.by, k6, k6'⟩
    have H11 : Hid (Below w.heap.size w v11 ∧ SB v11 w.heap.size 24 aA A.length cA aB B.length cB ∧ KB (v11) (w.heap.size + 1) 28 go g.length gc bo n bc fi ol he la ∧ Below wm.heap.size wm v11) := ⟨H10.out.1.trans (b11.mono H10.out.1.size), H10.out.2.1.b b11, H10.out.2.2.1.b b11, H10.out.2.2.2.trans (b11.mono H10.out.2.2.2.size)⟩
    have hk11 := And.intro H11.out.2.1.cells H11.out.2.2.1.cells
    have A11 := hide (A10.out.b b11)
    clear b11
    go_wp2_with fail
    refine hK.out _ _ ?_ (fun hHeld => ?_)
    · exact hk11
    clear hK K
    try simp only [Act.put, List.setIfInBounds_toArray, List.set_cons_zero, List.set_cons_succ]
    refine wpAnyH_ready (rs := [3]) (by kernel_rfl) (by simp) ?_
    refine AllReadyH.cons (o := { dst := some 82, op := Op.call { callee := Callee.value (Operand.func 8), args := #[Operand.tmp 81], argTypes := #[28] }, type := 34, pos := "exact.go:2755", after := #[{ on := 2, ground := Ground.data }, { on := 1, ground := Ground.chain }], guard := none }) rfl (fun K hK => ?_) AllReadyH.nil
    go_simp
    refine (tom_any go bo gc bc g n L fi ol he la v11 hd (HV.out.below H11.out.1)).mono ?_
    rintro e v12 ⟨go7, bo7, gc7, bc7, rfl, o7, b12⟩
    have T12 : Hid (VBy v12 tA iA A ∧ VBy v12 tB iB B ∧ NC tA iA ∧ NC tB iB) := ⟨T11.out.1.below b12, T11.out.2.1.below b12, T11.out.2.2⟩
    have M12 : Hid (MV v12 go7 gc7 bo7 bc7 g n L) := o7.mv
    have H12 : Hid (Below w.heap.size w v12 ∧ SB v12 w.heap.size 24 aA A.length cA aB B.length cB ∧ KB (v12) (w.heap.size + 1) 28 go g.length gc bo n bc fi ol he la ∧ Below wm.heap.size wm v12) := ⟨H11.out.1.trans (b12.mono H11.out.1.size), H11.out.2.1.b b12, H11.out.2.2.1.b b12, H11.out.2.2.2.trans (b12.mono H11.out.2.2.2.size)⟩
    have hk12 := And.intro H12.out.2.1.cells H12.out.2.2.1.cells
    have A12 := hide (A11.out.b b12)
    clear b12
    go_wp2_with fail
    refine hK.out _ _ ?_ (fun hHeld => ?_)
    · exact hk12
    clear hK K
    try simp only [Act.put, List.setIfInBounds_toArray, List.set_cons_zero, List.set_cons_succ]
    refine wpAnyH_ready (rs := [5]) (by kernel_rfl) (by simp) ?_
    refine AllReadyH.cons (o := { dst := some 84, op := Op.call { callee := Callee.value (Operand.func 9), args := #[Operand.tmp 80, Operand.tmp 82, Operand.tmp 83], argTypes := #[31, 34, 3] }, type := 31, pos := "exact.go:2755", after := #[{ on := 1, ground := Ground.data }, { on := 3, ground := Ground.data }, { on := 4, ground := Ground.data }, { on := 3, ground := Ground.chain }], guard := none }) rfl (fun K hK => ?_) AllReadyH.nil
    go_simp
    refine (hfn.out v12 _ _ _ _ _ _ _ _ (HG.out.below H12.out.1) T12.out.1 T12.out.2.1 T12.out.2.2.1 T12.out.2.2.2 M12.out).mono ?_
    rintro e v13 ⟨sA, sB, eA, eB, rfl, o8, b13, _, _⟩
    have F13 : Hid (VBy v13 sA eA PA ∧ VBy v13 sB eB PB) := ⟨o8.va HPA.out, o8.vb HPB.out⟩
    have H13 : Hid (Below w.heap.size w v13 ∧ SB v13 w.heap.size 24 aA A.length cA aB B.length cB ∧ KB (v13) (w.heap.size + 1) 28 go g.length gc bo n bc fi ol he la ∧ Below wm.heap.size wm v13) := ⟨H12.out.1.trans (b13.mono H12.out.1.size), H12.out.2.1.b b13, H12.out.2.2.1.b b13, H12.out.2.2.2.trans (b13.mono H12.out.2.2.2.size)⟩
    have hk13 := And.intro H13.out.2.1.cells H13.out.2.2.1.cells
    have A13 := hide (A12.out.b b13)
    clear b13
    go_wp2_with fail
    refine hK.out _ _ ?_ (fun hHeld => ?_)
    · exact hk13
    clear hK K
    try simp only [Act.put, List.setIfInBounds_toArray, List.set_cons_zero, List.set_cons_succ]
    refine wpAnyH_ready (rs := [7]) (by kernel_rfl) (by simp) ?_
    refine AllReadyH.cons (o := { dst := none, op := Op.store 31 (Operand.tmp 15) (Operand.tmp 84), type := 0, pos := "exact.go:2755", after := #[{ on := 6, ground := Ground.data }, { on := 5, ground := Ground.data }, { on := 5, ground := Ground.chain }, { on := 0, ground := Ground.phase }, { on := 1, ground := Ground.phase }, { on := 2, ground := Ground.phase }, { on := 3, ground := Ground.phase }, { on := 4, ground := Ground.phase }, { on := 5, ground := Ground.phase }, { on := 6, ground := Ground.phase }], guard := none }) rfl (fun K hK => ?_) AllReadyH.nil
    obtain ⟨x0, x1⟩ := A13.out.cells
    have z1 := A13.out.froz
    have F9 : Hid ((Below w.heap.size w ((v13.setCell ⟨X10, 0, none⟩ (.slice sA PA.length eA)).setCell ⟨X10, 1, none⟩ (.slice sB PB.length eB)) ∧ SB ((v13.setCell ⟨X10, 0, none⟩ (.slice sA PA.length eA)).setCell ⟨X10, 1, none⟩ (.slice sB PB.length eB)) w.heap.size 24 aA A.length cA aB B.length cB ∧ KB (((v13.setCell ⟨X10, 0, none⟩ (.slice sA PA.length eA)).setCell ⟨X10, 1, none⟩ (.slice sB PB.length eB))) (w.heap.size + 1) 28 go g.length gc bo n bc fi ol he la ∧ Below wm.heap.size wm ((v13.setCell ⟨X10, 0, none⟩ (.slice sA PA.length eA)).setCell ⟨X10, 1, none⟩ (.slice sB PB.length eB))) ∧ SB ((v13.setCell ⟨X10, 0, none⟩ (.slice sA PA.length eA)).setCell ⟨X10, 1, none⟩ (.slice sB PB.length eB)) X10 31 sA PA.length eA sB PB.length eB ∧ VBy ((v13.setCell ⟨X10, 0, none⟩ (.slice sA PA.length eA)).setCell ⟨X10, 1, none⟩ (.slice sB PB.length eB)) sA eA PA ∧ VBy ((v13.setCell ⟨X10, 0, none⟩ (.slice sA PA.length eA)).setCell ⟨X10, 1, none⟩ (.slice sB PB.length eB)) sB eB PB) := rg_end H13.out A13.out F13.out.1 F13.out.2 H0.out.2.2.lt hge
    have hk9 := And.intro F9.out.1.2.1.cells F9.out.1.2.2.1.cells
    go_simp
    refine hK.out _ _ ?_ (fun hHeld => ?_)
    · exact hk9
    clear hK K
    try simp only [Act.put, List.setIfInBounds_toArray, List.set_cons_zero, List.set_cons_succ]
    refine wpAnyH_done (by kernel_rfl) ?_ _
    exact h tA tB iA iB go7 bo7 gc7 bc7 sA sB eA eB X10 _ F9
end Go.Proofs.YtjjdbdkbpmbniabGreatDoor

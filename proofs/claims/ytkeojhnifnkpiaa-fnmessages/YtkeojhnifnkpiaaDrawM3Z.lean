/- l4Draw of the model. -/
import Derived.Test.YtkeojhnifnkpiaaDrawM2Z
import Derived.Deep.RegionHeld3
import Derived.Deep.AppendLies

namespace Go.Proofs.Ytkeojhnifnkpiaa
open Go.ChangeShapes Go.WideShapes Go.ChangeAt Go.RowKit
set_option linter.unusedVariables false
set_option linter.unusedSimpArgs false
set_option maxRecDepth 100000

theorem owns_app_cur {w : World} {B g : Nat} {v : Value} {l : Nat} {xs : List Value} (h : w.ownsRow B 3 1 v l xs) : ∀ k, v.ownBlock = some k → B ≤ k := fun k hk => (World.ownsRow.lt h k hk).1

theorem DS.alloc {w wr : World} {g : Nat} {ao : Option Addr} {n cap : Nat} {f : Nat → Int} {X : Nat} {k c v h : Int} {ro : Option Addr} {rc : Nat} {G : List Int} (d : DS w wr g ao n cap f X k c v h ro rc G) (o : Obj) : DS w (wr.alloc o) g ao n cap f X k c v h ro rc G := d.cur (d.1.1.alloc o) (grown_alloc _ _ _)
theorem DS.drawn {w wr : World} {g : Nat} {ao : Option Addr} {n cap : Nat} {f : Nat → Int} {X : Nat} {k c v h : Int} {ro : Option Addr} {rc : Nat} {G : List Int} (d : DS w wr g ao n cap f X k c v h ro rc G) : DS w wr.drew g ao n cap f X k c v h ro rc G := d.cur (d.1.1.grown (grown_of_below (Below.drawn (Below.refl _ _) 1) none) (fun k hk => by cases hk)) (grown_of_below (Below.drawn (Below.refl _ _) 1) _)

theorem app_done {w w3 w4 : World} {g : Nat} {ao : Option Addr} {n cap : Nat} {f : Nat → Int} {X : Nat} {k c v h : Int} {ro : Option Addr} {rc g4 c4 : Nat} {G : List Int} {y : Int} (d : DS w w3 g ao n cap f X k c v h ro rc G) (hM : MB w4 X 40 k c v h ro G.length rc)
    (hown : w4.ownsRow (w.heap.size + 1) 3 1 (.slice (some ⟨g4, 0, none⟩) (G.length + 1) c4) (G.length + 1) (G.map (.int .i64) ++ [y].map (.int .i64))) (hg : (w3.alloc (.cells #[.int .i64 y] 3)).grownBy w4 (Value.slice ro G.length rc).ownBlock) (hat : (Value.slice ro G.length rc).ownBlock = some g4 ∨ g4 = (w3.alloc (.cells #[.int .i64 y] 3)).heap.size) :
    DS w (w4.setCell ⟨X, 4, none⟩ (.slice (some ⟨g4, 0, none⟩) (G ++ [y]).length c4)) g ao n cap f X k c v h (some ⟨g4, 0, none⟩) c4 (G ++ [y]) := by
  have d1 := d.alloc (.cells #[.int .i64 y] 3)
  have hlt := d1.2.2.1.lt
  refine DS.gens (d1.1.app hg (fun t ht => by have := (World.ownsRow.lt d1.2.2.2.2.1 t ht).1; omega)) ((hg.block _ d1.2.1.lt (fun e => by have := (World.ownsRow.lt d1.2.2.2.2.1 _ e.symm).1; omega)).trans d1.2.1) hM d.2.2.2.1 (by simpa using hown) (fun e => ?_)
  simp only [Value.ownBlock, Option.some.injEq] at e
  rcases hat with h1 | h1
  · exact d.2.2.2.2.2 (by rw [h1, e])
  · omega

set_option maxHeartbeats 2000000 in
theorem draw4 (g n cap : Nat) (ao : Option Addr) (f : Nat → Int) (w : World) (hc : Cur w g ao n cap f) :
    Calls Try.prog 79 #[.pointer (some ⟨g, 0, none⟩)] w fun e w' => DrM 5 w w' e ∧ CurW w w' g ao n cap f := by
  obtain ⟨i0, hi, hz0, hz1, hz2⟩ := info_parts Try.info3
  have HC := hide hc
  clear hc
  go_enter Try.func79, Try.ntmps79
  go_wp2_with fail
  refine (draw4r g n cap ao f _ ((CurW.refl HC.out).alloc _).1).mono ?_
  rintro e w1 ⟨⟨m, ro, rc, rfl, hl5, hO⟩, hcw⟩
  have HD : Hid (DS w (w1.alloc (.cells #[.int .i64 m.k, .int .i64 m.c, .int .i64 m.v, .int .i64 m.h, .slice ro m.g.length rc] 40)) g ao n cap f w1.heap.size m.k m.c m.v m.h ro rc m.g) := by
    have h0 := ((CurW.refl HC.out).alloc (.cells #[.int .i64 0, .int .i64 0, .int .i64 0, .int .i64 0, .slice none 0 0] 40)).trans hcw
    have hM := (MB.new w 40 0 0 0 0 none 0 0).cur hcw.2.1 HC.out.lt
    have hO' : w1.ownsRow (w.heap.size + 1) 3 1 (.slice ro m.g.length rc) m.g.length (m.g.map (.int .i64)) := by simpa using hO
    exact ⟨h0.alloc _, hM.below ((Below.refl _ _).alloc (Nat.le_refl _) _) hM.lt, MB.new _ _ _ _ _ _ _ _ _, hM.lt, hO'.alloc _, fun e => by have := (World.ownsRow.lt hO' _ e).2; omega⟩
  clear hO hcw
  go_wp2_with fail
  refine (below_any g n cap 12 ao f _ (by decide) (by decide) HD.out.1.1).mono ?_
  rintro e w2 ⟨⟨x, rfl, hx0, hx1⟩, hcur, hgr⟩
  have H2 := hide (HD.out.cur hcur hgr)
  clear hcur hgr HD
  generalize w1.heap.size = X at *
  obtain ⟨x0, x1, x2, x3, x4⟩ := H2.out.2.2.1.cells
  have zf := H2.out.2.2.1.froz
  by_cases c0 : x = 0
  · subst c0
    go_wp2_with fail
    refine (below_any g n cap 8 ao f _ (by decide) (by decide) H2.out.1.1).mono ?_
    rintro e w3 ⟨⟨y, rfl, hy0, hy1⟩, hcur, hgr⟩
    have H3a := hide (H2.out.cur hcur hgr)
    have H3 := hide (H3a.out.set (H3a.out.2.2.1.set0 (y - 1)))
    clear hcur hgr H2 x0 x1 x2 x3 x4 zf
    obtain ⟨t0, t1, t2, t3, t4⟩ := H3a.out.2.2.1.cells
    have zf3 := H3a.out.2.2.1.froz
    obtain ⟨r0, r1, r2, r3, r4⟩ := H3.out.2.1.cells
    obtain ⟨y0, y1, y2, y3, y4⟩ := H3.out.2.2.1.cells
    have z0 := H3.out.2.1.froz
    go_wp2_with fail
    exact bodyPost_ret (v := .agg #[.int .i64 (y - 1), .int .i64 m.c, .int .i64 m.v, .int .i64 m.h, .slice ro m.g.length rc]) (by simp [results, Try.results79, go_sem, r0, r1, r2, r3, r4]) rfl (H3.out.ret (by omega))
  by_cases c1 : x = 1
  · subst c1
    go_wp2_with fail
    refine (pick_any g n cap 4 4 ao (some ⟨w2.heap.size, 0, none⟩) f (fun i => [-1, 0, 200, 201].getD i 0) _ (by decide) (by decide) (H2.out.1.alloc _).1 (lit_cells w2 [-1, 0, 200, 201] 3 g H2.out.1.1.lt)).mono ?_
    rintro e w3 ⟨⟨j, hj, rfl⟩, hcur, hgr⟩
    have H3a := hide ((H2.out.alloc (.cells (([-1, 0, 200, 201] : List Int).map (Value.int .i64)).toArray 3)).cur hcur hgr)
    generalize ([-1, 0, 200, 201] : List Int).getD j 0 = z at *
    have H3 := hide (H3a.out.set (H3a.out.2.2.1.set2 z))
    clear hcur hgr H2 x0 x1 x2 x3 x4 zf
    obtain ⟨t0, t1, t2, t3, t4⟩ := H3a.out.2.2.1.cells
    have zf3 := H3a.out.2.2.1.froz
    obtain ⟨r0, r1, r2, r3, r4⟩ := H3.out.2.1.cells
    obtain ⟨y0, y1, y2, y3, y4⟩ := H3.out.2.2.1.cells
    have z0 := H3.out.2.1.froz
    go_wp2_with fail
    exact bodyPost_ret (v := .agg #[.int .i64 m.k, .int .i64 m.c, .int .i64 z, .int .i64 m.h, .slice ro m.g.length rc]) (by simp [results, Try.results79, go_sem, r0, r1, r2, r3, r4]) rfl (H3.out.ret (by omega))
  by_cases c2 : x = 2
  · subst c2
    go_wp2_with fail
    refine (pick_any g n cap 3 3 ao (some ⟨w2.heap.size, 0, none⟩) f (fun i => [-1, 7, 8].getD i 0) _ (by decide) (by decide) (H2.out.1.alloc _).1 (lit_cells w2 [-1, 7, 8] 3 g H2.out.1.1.lt)).mono ?_
    rintro e w3 ⟨⟨j, hj, rfl⟩, hcur, hgr⟩
    have H3a := hide ((H2.out.alloc (.cells (([-1, 7, 8] : List Int).map (Value.int .i64)).toArray 3)).cur hcur hgr)
    generalize ([-1, 7, 8] : List Int).getD j 0 = z at *
    have H3 := hide (H3a.out.set (H3a.out.2.2.1.set1 z))
    clear hcur hgr H2 x0 x1 x2 x3 x4 zf
    obtain ⟨t0, t1, t2, t3, t4⟩ := H3a.out.2.2.1.cells
    have zf3 := H3a.out.2.2.1.froz
    obtain ⟨r0, r1, r2, r3, r4⟩ := H3.out.2.1.cells
    obtain ⟨y0, y1, y2, y3, y4⟩ := H3.out.2.2.1.cells
    have z0 := H3.out.2.1.froz
    go_wp2_with fail
    exact bodyPost_ret (v := .agg #[.int .i64 m.k, .int .i64 z, .int .i64 m.v, .int .i64 m.h, .slice ro m.g.length rc]) (by simp [results, Try.results79, go_sem, r0, r1, r2, r3, r4]) rfl (H3.out.ret (by omega))
  by_cases c3 : x = 3
  · subst c3
    go_wp2_with fail
    refine (below_any g n cap 5 ao f _ (by decide) (by decide) H2.out.1.1).mono ?_
    rintro e w3 ⟨⟨y, rfl, hy0, hy1⟩, hcur, hgr⟩
    have H3a := hide (H2.out.cur hcur hgr)
    have H3 := hide (H3a.out.set (H3a.out.2.2.1.set3 (y - 1)))
    clear hcur hgr H2 x0 x1 x2 x3 x4 zf
    obtain ⟨t0, t1, t2, t3, t4⟩ := H3a.out.2.2.1.cells
    have zf3 := H3a.out.2.2.1.froz
    obtain ⟨r0, r1, r2, r3, r4⟩ := H3.out.2.1.cells
    obtain ⟨y0, y1, y2, y3, y4⟩ := H3.out.2.2.1.cells
    have z0 := H3.out.2.1.froz
    go_wp2_with fail
    exact bodyPost_ret (v := .agg #[.int .i64 m.k, .int .i64 m.c, .int .i64 m.v, .int .i64 (y - 1), .slice ro m.g.length rc]) (by simp [results, Try.results79, go_sem, r0, r1, r2, r3, r4]) rfl (H3.out.ret (by omega))
  by_cases c4 : x = 4
  · subst c4
    go_wp2_with fail
    have H2d : Hid (DS w w2.drew g ao n cap f X m.k m.c m.v m.h ro rc m.g) := H2.out.drawn
    have D4 : w2.drew.cell? ⟨X, 4, none⟩ = some (.slice ro m.g.length rc) := H2d.out.2.2.1.cells.2.2.2.2
    refine wp_region_held_drew (S := fun _ => True) (by kernel_rfl) trivial (fun _ => ?_)
    refine wpAnyH_take (i := 0) (oi := { dst := some 34, op := Op.fieldAddr 40 (Operand.tmp 3) 4, type := 0, pos := "l04_msg.go:132", after := #[], guard := none }) (v := ?_) rfl (by kernel_rfl) (by kernel_rfl) (by kernel_rfl) (fun _ _ _ h => h) (Or.inl ⟨by rfl, ?_⟩) trivial ?_
    rotate_left 1
    · (intro wq _; go_simp; try with_reducible rfl)
    try simp only [Act.put, List.setIfInBounds_toArray, List.set_cons_zero, List.set_cons_succ]
    refine wpAnyH_take (i := 2) (oi := { dst := some 36, op := Op.move (Operand.tmp 0), type := 63, pos := "l04_msg.go:132", after := #[], guard := none }) (v := ?_) rfl (by kernel_rfl) (by kernel_rfl) (by kernel_rfl) (fun _ _ _ h => h) (Or.inl ⟨by rfl, ?_⟩) trivial ?_
    rotate_left 1
    · (intro wq _; go_simp; try with_reducible rfl)
    try simp only [Act.put, List.setIfInBounds_toArray, List.set_cons_zero, List.set_cons_succ]
    refine wpAnyH_ready (rs := [1, 3]) (by kernel_rfl) (by simp) ?_
    refine AllReadyH.cons (o := { dst := some 35, op := Op.load 24 (Operand.tmp 34), type := 24, pos := "l04_msg.go:132", after := #[{ on := 0, ground := Ground.data }], guard := none }) rfl (fun K hK => ?_) ?_
    · go_simp
      refine hK.out _ _ trivial (fun _ => ?_)
      clear hK K
      try simp only [Act.put, List.setIfInBounds_toArray, List.set_cons_zero, List.set_cons_succ]
      refine wpAnyH_ready (rs := [3]) (by kernel_rfl) (by simp) ?_
      refine AllReadyH.cons (o := { dst := some 37, op := Op.call { callee := Callee.value (Operand.func 111), args := #[Operand.tmp 36, Operand.const (Value.int IntKind.i64 3)], argTypes := #[63, 3] }, type := 3, pos := "l04_msg.go:132", after := #[{ on := 2, ground := Ground.data }], guard := none }) rfl (fun K hK => ?_) AllReadyH.nil
      go_simp
      refine (below_any g n cap 3 ao f w2.drew (by decide) (by decide) H2d.out.1.1).mono ?_
      rintro e w3 ⟨⟨y, rfl, hy0, hy1⟩, hcur, hgr⟩
      have H3 := hide (H2d.out.cur hcur hgr)
      have hk3 := H3.out.2.2.1.cells.2.2.2.2
      have hk3a := (H3.out.alloc (.cells #[.int .i64 y] 3)).2.2.1.cells.2.2.2.2
      clear hcur hgr
      go_wp2_with fail
      refine hK.out _ _ trivial (fun _ => ?_)
      clear hK K
      try simp only [Act.put, List.setIfInBounds_toArray, List.set_cons_zero, List.set_cons_succ]
      refine wpAnyH_ready (rs := [4]) (by kernel_rfl) (by simp) ?_
      refine AllReadyH.cons (o := { dst := some 38, op := Op.buildSlice 24 1 #[(0, Operand.tmp 37)], type := 24, pos := "l04_msg.go:132", after := #[{ on := 3, ground := Ground.data }], guard := none }) rfl (fun K hK => ?_) AllReadyH.nil
      go_simp
      refine hK.out _ _ trivial (fun _ => ?_)
      clear hK K
      try simp only [Act.put, List.setIfInBounds_toArray, List.set_cons_zero, List.set_cons_succ]
      refine wpAnyH_ready (rs := [5]) (by kernel_rfl) (by simp) ?_
      refine AllReadyH.cons (o := { dst := some 39, op := Op.call { callee := Callee.builtin Builtin.append, args := #[Operand.tmp 35, Operand.tmp 38], argTypes := #[24, 24] }, type := 24, pos := "l04_msg.go:132", after := #[{ on := 1, ground := Ground.data }, { on := 4, ground := Ground.data }, { on := 3, ground := Ground.chain }], guard := none }) rfl (fun K hK => ?_) AllReadyH.nil
      refine step_append_lies _ rfl _ _ 24 rfl (w.heap.size + 1) 3 i0 (.int .i64 0) 1 8 Try.underlying24 hi hz0 hz1 hz2 rfl (by decide) _ _ _ rfl (H3.out.alloc _).2.2.2.2.1 ⟨w3.heap.size, 0, none⟩ 1 1 ([y].map (.int .i64)) rfl rfl (gcells w3 [.int .i64 y] 3) (gones .i64 [y]) (by decide) (by unfold maxLen; omega) (by omega) (by have := H3.out.2.1.lt; simp; omega) _ rfl ?_
      intro g4 c4 w4 hown4 hgrow4 hat4 hlt4
      have H5 : Hid (MB w4 X 40 m.k m.c m.v m.h ro m.g.length rc) := (hgrow4.block X ((H3.out.alloc _).2.2.1.lt) (fun e => (H3.out.alloc (.cells #[.int .i64 y] 3)).2.2.2.2.2 e.symm)).trans (H3.out.alloc _).2.2.1
      have H4 : Hid (DS w (w4.setCell ⟨X, 4, none⟩ (.slice (some ⟨g4, 0, none⟩) (m.g ++ [y]).length c4)) g ao n cap f X m.k m.c m.v m.h (some ⟨g4, 0, none⟩) c4 (m.g ++ [y])) := app_done H3.out H5.out hown4 hgrow4 hat4
      have zf5 := H5.out.froz
      obtain ⟨s0, s1, s2, s3, s4⟩ := H5.out.cells
      have HL : Hid ((m.g ++ [y]).length = m.g.length + 1) := (show _ = _ by simp)
      clear hown4 hgrow4 hat4 hlt4
      generalize m.g ++ [y] = L5 at H4 HL
      refine hK.out _ _ trivial (fun _ => ?_)
      clear hK K
      try simp only [Act.put, List.setIfInBounds_toArray, List.set_cons_zero, List.set_cons_succ]
      refine wpAnyH_take (i := 6) (oi := { dst := some 40, op := Op.fieldAddr 40 (Operand.tmp 3) 4, type := 0, pos := "l04_msg.go:132", after := #[{ on := 0, ground := Ground.phase }, { on := 1, ground := Ground.phase }, { on := 2, ground := Ground.phase }, { on := 3, ground := Ground.phase }, { on := 4, ground := Ground.phase }, { on := 5, ground := Ground.phase }], guard := none }) (v := ?_) rfl (by kernel_rfl) (by kernel_rfl) (by kernel_rfl) (fun _ _ _ h => h) (Or.inl ⟨by rfl, ?_⟩) trivial ?_
      rotate_left 1
      · (intro wq _; go_simp; try with_reducible rfl)
      try simp only [Act.put, List.setIfInBounds_toArray, List.set_cons_zero, List.set_cons_succ]
      refine wpAnyH_ready (rs := [7]) (by kernel_rfl) (by simp) ?_
      refine AllReadyH.cons (o := { dst := none, op := Op.store 24 (Operand.tmp 40) (Operand.tmp 39), type := 0, pos := "l04_msg.go:132", after := #[{ on := 6, ground := Ground.data }, { on := 5, ground := Ground.data }, { on := 5, ground := Ground.chain }, { on := 0, ground := Ground.phase }, { on := 1, ground := Ground.phase }, { on := 2, ground := Ground.phase }, { on := 3, ground := Ground.phase }, { on := 4, ground := Ground.phase }, { on := 5, ground := Ground.phase }], guard := none }) rfl (fun K hK => ?_) AllReadyH.nil
      go_simp
      refine hK.out _ _ trivial (fun _ => ?_)
      clear hK K
      try simp only [Act.put, List.setIfInBounds_toArray, List.set_cons_zero, List.set_cons_succ]
      refine wpAnyH_done (by kernel_rfl) ?_ _
      (try simp only [List.length_map, List.length_cons, List.length_nil, Nat.zero_add]); rw [← HL.out]
      obtain ⟨r0, r1, r2, r3, r4⟩ := H4.out.2.1.cells
      obtain ⟨y0, y1, y2, y3, y4⟩ := H4.out.2.2.1.cells
      have z0 := H4.out.2.1.froz
      go_wp2_with fail
      exact bodyPost_ret (v := .agg #[.int .i64 m.k, .int .i64 m.c, .int .i64 m.v, .int .i64 m.h, .slice (some ⟨g4, 0, none⟩) L5.length c4]) (by simp [results, Try.results79, go_sem, r0, r1, r2, r3, r4]) rfl (H4.out.ret (by have := HL.out; omega))
    refine AllReadyH.cons (o := { dst := some 37, op := Op.call { callee := Callee.value (Operand.func 111), args := #[Operand.tmp 36, Operand.const (Value.int IntKind.i64 3)], argTypes := #[63, 3] }, type := 3, pos := "l04_msg.go:132", after := #[{ on := 2, ground := Ground.data }], guard := none }) rfl (fun K hK => ?_) AllReadyH.nil
    · go_simp
      refine (below_any g n cap 3 ao f w2.drew (by decide) (by decide) H2d.out.1.1).mono ?_
      rintro e w3 ⟨⟨y, rfl, hy0, hy1⟩, hcur, hgr⟩
      have H3 := hide (H2d.out.cur hcur hgr)
      have hk3 := H3.out.2.2.1.cells.2.2.2.2
      have hk3a := (H3.out.alloc (.cells #[.int .i64 y] 3)).2.2.1.cells.2.2.2.2
      clear hcur hgr
      go_wp2_with fail
      refine hK.out _ _ trivial (fun _ => ?_)
      clear hK K
      try simp only [Act.put, List.setIfInBounds_toArray, List.set_cons_zero, List.set_cons_succ]
      refine wpAnyH_ready (rs := [1, 4]) (by kernel_rfl) (by simp) ?_
      refine AllReadyH.cons (o := { dst := some 35, op := Op.load 24 (Operand.tmp 34), type := 24, pos := "l04_msg.go:132", after := #[{ on := 0, ground := Ground.data }], guard := none }) rfl (fun K hK => ?_) ?_
      · go_simp
        refine hK.out _ _ trivial (fun _ => ?_)
        clear hK K
        try simp only [Act.put, List.setIfInBounds_toArray, List.set_cons_zero, List.set_cons_succ]
        refine wpAnyH_ready (rs := [4]) (by kernel_rfl) (by simp) ?_
        refine AllReadyH.cons (o := { dst := some 38, op := Op.buildSlice 24 1 #[(0, Operand.tmp 37)], type := 24, pos := "l04_msg.go:132", after := #[{ on := 3, ground := Ground.data }], guard := none }) rfl (fun K hK => ?_) AllReadyH.nil
        go_simp
        refine hK.out _ _ trivial (fun _ => ?_)
        clear hK K
        try simp only [Act.put, List.setIfInBounds_toArray, List.set_cons_zero, List.set_cons_succ]
        refine wpAnyH_ready (rs := [5]) (by kernel_rfl) (by simp) ?_
        refine AllReadyH.cons (o := { dst := some 39, op := Op.call { callee := Callee.builtin Builtin.append, args := #[Operand.tmp 35, Operand.tmp 38], argTypes := #[24, 24] }, type := 24, pos := "l04_msg.go:132", after := #[{ on := 1, ground := Ground.data }, { on := 4, ground := Ground.data }, { on := 3, ground := Ground.chain }], guard := none }) rfl (fun K hK => ?_) AllReadyH.nil
        refine step_append_lies _ rfl _ _ 24 rfl (w.heap.size + 1) 3 i0 (.int .i64 0) 1 8 Try.underlying24 hi hz0 hz1 hz2 rfl (by decide) _ _ _ rfl (H3.out.alloc _).2.2.2.2.1 ⟨w3.heap.size, 0, none⟩ 1 1 ([y].map (.int .i64)) rfl rfl (gcells w3 [.int .i64 y] 3) (gones .i64 [y]) (by decide) (by unfold maxLen; omega) (by omega) (by have := H3.out.2.1.lt; simp; omega) _ rfl ?_
        intro g4 c4 w4 hown4 hgrow4 hat4 hlt4
        have H5 : Hid (MB w4 X 40 m.k m.c m.v m.h ro m.g.length rc) := (hgrow4.block X ((H3.out.alloc _).2.2.1.lt) (fun e => (H3.out.alloc (.cells #[.int .i64 y] 3)).2.2.2.2.2 e.symm)).trans (H3.out.alloc _).2.2.1
        have H4 : Hid (DS w (w4.setCell ⟨X, 4, none⟩ (.slice (some ⟨g4, 0, none⟩) (m.g ++ [y]).length c4)) g ao n cap f X m.k m.c m.v m.h (some ⟨g4, 0, none⟩) c4 (m.g ++ [y])) := app_done H3.out H5.out hown4 hgrow4 hat4
        have zf5 := H5.out.froz
        obtain ⟨s0, s1, s2, s3, s4⟩ := H5.out.cells
        have HL : Hid ((m.g ++ [y]).length = m.g.length + 1) := (show _ = _ by simp)
        clear hown4 hgrow4 hat4 hlt4
        generalize m.g ++ [y] = L5 at H4 HL
        refine hK.out _ _ trivial (fun _ => ?_)
        clear hK K
        try simp only [Act.put, List.setIfInBounds_toArray, List.set_cons_zero, List.set_cons_succ]
        refine wpAnyH_take (i := 6) (oi := { dst := some 40, op := Op.fieldAddr 40 (Operand.tmp 3) 4, type := 0, pos := "l04_msg.go:132", after := #[{ on := 0, ground := Ground.phase }, { on := 1, ground := Ground.phase }, { on := 2, ground := Ground.phase }, { on := 3, ground := Ground.phase }, { on := 4, ground := Ground.phase }, { on := 5, ground := Ground.phase }], guard := none }) (v := ?_) rfl (by kernel_rfl) (by kernel_rfl) (by kernel_rfl) (fun _ _ _ h => h) (Or.inl ⟨by rfl, ?_⟩) trivial ?_
        rotate_left 1
        · (intro wq _; go_simp; try with_reducible rfl)
        try simp only [Act.put, List.setIfInBounds_toArray, List.set_cons_zero, List.set_cons_succ]
        refine wpAnyH_ready (rs := [7]) (by kernel_rfl) (by simp) ?_
        refine AllReadyH.cons (o := { dst := none, op := Op.store 24 (Operand.tmp 40) (Operand.tmp 39), type := 0, pos := "l04_msg.go:132", after := #[{ on := 6, ground := Ground.data }, { on := 5, ground := Ground.data }, { on := 5, ground := Ground.chain }, { on := 0, ground := Ground.phase }, { on := 1, ground := Ground.phase }, { on := 2, ground := Ground.phase }, { on := 3, ground := Ground.phase }, { on := 4, ground := Ground.phase }, { on := 5, ground := Ground.phase }], guard := none }) rfl (fun K hK => ?_) AllReadyH.nil
        go_simp
        refine hK.out _ _ trivial (fun _ => ?_)
        clear hK K
        try simp only [Act.put, List.setIfInBounds_toArray, List.set_cons_zero, List.set_cons_succ]
        refine wpAnyH_done (by kernel_rfl) ?_ _
        (try simp only [List.length_map, List.length_cons, List.length_nil, Nat.zero_add]); rw [← HL.out]
        obtain ⟨r0, r1, r2, r3, r4⟩ := H4.out.2.1.cells
        obtain ⟨y0, y1, y2, y3, y4⟩ := H4.out.2.2.1.cells
        have z0 := H4.out.2.1.froz
        go_wp2_with fail
        exact bodyPost_ret (v := .agg #[.int .i64 m.k, .int .i64 m.c, .int .i64 m.v, .int .i64 m.h, .slice (some ⟨g4, 0, none⟩) L5.length c4]) (by simp [results, Try.results79, go_sem, r0, r1, r2, r3, r4]) rfl (H4.out.ret (by have := HL.out; omega))
      refine AllReadyH.cons (o := { dst := some 38, op := Op.buildSlice 24 1 #[(0, Operand.tmp 37)], type := 24, pos := "l04_msg.go:132", after := #[{ on := 3, ground := Ground.data }], guard := none }) rfl (fun K hK => ?_) AllReadyH.nil
      · go_simp
        refine hK.out _ _ trivial (fun _ => ?_)
        clear hK K
        try simp only [Act.put, List.setIfInBounds_toArray, List.set_cons_zero, List.set_cons_succ]
        refine wpAnyH_ready (rs := [1]) (by kernel_rfl) (by simp) ?_
        refine AllReadyH.cons (o := { dst := some 35, op := Op.load 24 (Operand.tmp 34), type := 24, pos := "l04_msg.go:132", after := #[{ on := 0, ground := Ground.data }], guard := none }) rfl (fun K hK => ?_) AllReadyH.nil
        go_simp
        refine hK.out _ _ trivial (fun _ => ?_)
        clear hK K
        try simp only [Act.put, List.setIfInBounds_toArray, List.set_cons_zero, List.set_cons_succ]
        refine wpAnyH_ready (rs := [5]) (by kernel_rfl) (by simp) ?_
        refine AllReadyH.cons (o := { dst := some 39, op := Op.call { callee := Callee.builtin Builtin.append, args := #[Operand.tmp 35, Operand.tmp 38], argTypes := #[24, 24] }, type := 24, pos := "l04_msg.go:132", after := #[{ on := 1, ground := Ground.data }, { on := 4, ground := Ground.data }, { on := 3, ground := Ground.chain }], guard := none }) rfl (fun K hK => ?_) AllReadyH.nil
        refine step_append_lies _ rfl _ _ 24 rfl (w.heap.size + 1) 3 i0 (.int .i64 0) 1 8 Try.underlying24 hi hz0 hz1 hz2 rfl (by decide) _ _ _ rfl (H3.out.alloc _).2.2.2.2.1 ⟨w3.heap.size, 0, none⟩ 1 1 ([y].map (.int .i64)) rfl rfl (gcells w3 [.int .i64 y] 3) (gones .i64 [y]) (by decide) (by unfold maxLen; omega) (by omega) (by have := H3.out.2.1.lt; simp; omega) _ rfl ?_
        intro g4 c4 w4 hown4 hgrow4 hat4 hlt4
        have H5 : Hid (MB w4 X 40 m.k m.c m.v m.h ro m.g.length rc) := (hgrow4.block X ((H3.out.alloc _).2.2.1.lt) (fun e => (H3.out.alloc (.cells #[.int .i64 y] 3)).2.2.2.2.2 e.symm)).trans (H3.out.alloc _).2.2.1
        have H4 : Hid (DS w (w4.setCell ⟨X, 4, none⟩ (.slice (some ⟨g4, 0, none⟩) (m.g ++ [y]).length c4)) g ao n cap f X m.k m.c m.v m.h (some ⟨g4, 0, none⟩) c4 (m.g ++ [y])) := app_done H3.out H5.out hown4 hgrow4 hat4
        have zf5 := H5.out.froz
        obtain ⟨s0, s1, s2, s3, s4⟩ := H5.out.cells
        have HL : Hid ((m.g ++ [y]).length = m.g.length + 1) := (show _ = _ by simp)
        clear hown4 hgrow4 hat4 hlt4
        generalize m.g ++ [y] = L5 at H4 HL
        refine hK.out _ _ trivial (fun _ => ?_)
        clear hK K
        try simp only [Act.put, List.setIfInBounds_toArray, List.set_cons_zero, List.set_cons_succ]
        refine wpAnyH_take (i := 6) (oi := { dst := some 40, op := Op.fieldAddr 40 (Operand.tmp 3) 4, type := 0, pos := "l04_msg.go:132", after := #[{ on := 0, ground := Ground.phase }, { on := 1, ground := Ground.phase }, { on := 2, ground := Ground.phase }, { on := 3, ground := Ground.phase }, { on := 4, ground := Ground.phase }, { on := 5, ground := Ground.phase }], guard := none }) (v := ?_) rfl (by kernel_rfl) (by kernel_rfl) (by kernel_rfl) (fun _ _ _ h => h) (Or.inl ⟨by rfl, ?_⟩) trivial ?_
        rotate_left 1
        · (intro wq _; go_simp; try with_reducible rfl)
        try simp only [Act.put, List.setIfInBounds_toArray, List.set_cons_zero, List.set_cons_succ]
        refine wpAnyH_ready (rs := [7]) (by kernel_rfl) (by simp) ?_
        refine AllReadyH.cons (o := { dst := none, op := Op.store 24 (Operand.tmp 40) (Operand.tmp 39), type := 0, pos := "l04_msg.go:132", after := #[{ on := 6, ground := Ground.data }, { on := 5, ground := Ground.data }, { on := 5, ground := Ground.chain }, { on := 0, ground := Ground.phase }, { on := 1, ground := Ground.phase }, { on := 2, ground := Ground.phase }, { on := 3, ground := Ground.phase }, { on := 4, ground := Ground.phase }, { on := 5, ground := Ground.phase }], guard := none }) rfl (fun K hK => ?_) AllReadyH.nil
        go_simp
        refine hK.out _ _ trivial (fun _ => ?_)
        clear hK K
        try simp only [Act.put, List.setIfInBounds_toArray, List.set_cons_zero, List.set_cons_succ]
        refine wpAnyH_done (by kernel_rfl) ?_ _
        (try simp only [List.length_map, List.length_cons, List.length_nil, Nat.zero_add]); rw [← HL.out]
        obtain ⟨r0, r1, r2, r3, r4⟩ := H4.out.2.1.cells
        obtain ⟨y0, y1, y2, y3, y4⟩ := H4.out.2.2.1.cells
        have z0 := H4.out.2.1.froz
        go_wp2_with fail
        exact bodyPost_ret (v := .agg #[.int .i64 m.k, .int .i64 m.c, .int .i64 m.v, .int .i64 m.h, .slice (some ⟨g4, 0, none⟩) L5.length c4]) (by simp [results, Try.results79, go_sem, r0, r1, r2, r3, r4]) rfl (H4.out.ret (by have := HL.out; omega))
  have d0 : decide (x = 0) = false := by simpa using c0
  have d1 : decide (x = 1) = false := by simpa using c1
  have d2 : decide (x = 2) = false := by simpa using c2
  have d3 : decide (x = 3) = false := by simpa using c3
  have d4 : decide (x = 4) = false := by simpa using c4
  obtain ⟨r0, r1, r2, r3, r4⟩ := H2.out.2.1.cells
  obtain ⟨y0, y1, y2, y3, y4⟩ := H2.out.2.2.1.cells
  have z0 := H2.out.2.1.froz
  go_wp2_with fail
  exact bodyPost_ret (v := .agg #[.int .i64 m.k, .int .i64 m.c, .int .i64 m.v, .int .i64 m.h, .slice ro m.g.length rc]) (by simp [results, Try.results79, go_sem, r0, r1, r2, r3, r4]) rfl (H2.out.ret (by omega))
end Go.Proofs.Ytkeojhnifnkpiaa

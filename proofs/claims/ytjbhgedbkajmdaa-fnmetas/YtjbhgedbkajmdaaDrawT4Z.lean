/- l5Draw of the model. -/
import Derived.Test.YtjbhgedbkajmdaaDrawT3Z

namespace Go.Proofs.Ytjbhgedbkajmdaa
open Go.ChangeShapes Go.WideShapes Go.ChangeAt Go.RowKit
set_option linter.unusedVariables false
set_option linter.unusedSimpArgs false
set_option maxRecDepth 100000

/-- From block B on all that was there is as it was. -/
def Kp (B : Nat) (w w2 : World) : Prop := w.heap.size ≤ w2.heap.size ∧ ∀ j, B ≤ j → j < w.heap.size → w2.heap[j]? = w.heap[j]?
theorem Kp.refl (B : Nat) (w : World) : Kp B w w := ⟨Nat.le_refl _, fun _ _ _ => rfl⟩
theorem Kp.trans {B : Nat} {w w1 w2 : World} (h : Kp B w w1) (h' : Kp B w1 w2) : Kp B w w2 := ⟨Nat.le_trans h.1 h'.1, fun j a b => (h'.2 j a (Nat.lt_of_lt_of_le b h.1)).trans (h.2 j a b)⟩
theorem Kp.grown {B g : Nat} {w w1 : World} (hg : w.grownBy w1 (some g)) (h : g < B) : Kp B w w1 := ⟨hg.size, fun j a b => hg.block j b (fun e => by cases e; omega)⟩
theorem Kp.below {B : Nat} {w w1 : World} (hb : Below w.heap.size w w1) : Kp B w w1 := ⟨hb.size, fun j _ b => hb.block j b⟩
theorem Kp.set {B b i : Nat} {w : World} {v : Value} (h : b < B) : Kp B w (w.setCell ⟨b, i, none⟩ v) := ⟨by simp [World.setCell], fun j a _ => cur_far (by omega) v⟩
theorem Lw.kp {B : Nat} {wr w1 : World} {l : List Int} {r : Option Addr × Nat} (h : Lw B wr l r) (hk : Kp B wr w1) : Lw B w1 l r := by
  obtain ⟨h1, h2⟩ := h
  refine ⟨h1, ?_⟩
  rcases h2 with h2 | ⟨b, c, cur, e, hb, hh, q⟩
  · exact .inl h2
  · exact .inr ⟨b, c, cur, e, hb, (hk.2 b hb (Array.getElem?_eq_some_iff.1 hh).1).trans hh, q⟩
theorem DMr.kp {B : Nat} {wr w1 : World} {b : Nat} {r : Option Addr × Nat} {g : List Int} {R : Nat → Option Addr × Nat} {L : Nat → List Int} (h : DMr B wr b r g R L) (hk : Kp B wr w1) : DMr B w1 b r g R L :=
  ⟨h.1.of_block (hk.2 b h.2.1 h.1.lt), h.2.1, ⟨h.2.2.1.1.kp hk, h.2.2.1.2⟩, fun i hi => ⟨(h.2.2.2 i hi).1.kp hk, (h.2.2.2 i hi).2⟩⟩
/-- As MV, and each list may be appended. -/
def MVs (w : World) (go : Option Addr) (gc : Nat) (bo : Option Addr) (bc : Nat) (g : List Int) (n : Nat) (L : Nat → List Int) : Prop :=
  MV w go gc bo bc g n L ∧ Src .i64 w (.slice go g.length gc) g ∧ ∀ i, i < n → ∃ b off ro rc, bo = some ⟨b, off, none⟩ ∧ w.cell? ⟨b, off + i, none⟩ = some (.slice ro (L i).length rc) ∧ Src .i64 w (.slice ro (L i).length rc) (L i)
theorem MVs.below {w w' : World} {go bo : Option Addr} {gc bc n : Nat} {g : List Int} {L : Nat → List Int} (h : MVs w go gc bo bc g n L) (hb : Below w.heap.size w w') : MVs w' go gc bo bc g n L :=
  ⟨h.1.below hb, h.2.1.below hb, fun i hi => by
    obtain ⟨b, off, ro, rc, e, hc, hs⟩ := h.2.2 i hi
    exact ⟨b, off, ro, rc, e, (hb.cell (lt_of_cell hc)).trans hc, hs.below hb⟩⟩
theorem DMr.mvs {B : Nat} {wr : World} {b : Nat} {r : Option Addr × Nat} {g : List Int} {R : Nat → Option Addr × Nat} {L : Nat → List Int} (h : DMr B wr b r g R L) : MVs wr r.1 r.2 (some ⟨b, 0, none⟩) 3 g 3 L :=
  ⟨h.mv, Src.of_owns h.2.2.1.1, fun i hi => ⟨b, 0, (R i).1, (R i).2, rfl, by simpa [sv] using h.1.cell hi, Src.of_owns (h.2.2.2 i hi).1⟩⟩
/-- A drawn meta, whatever it is: it stays while nothing from block B on is written. -/
def DrU (B : Nat) (w' : World) (e : Ending) : Prop := ∃ (go bo : Option Addr) (gc bc : Nat) (G : List Int) (k : Nat) (L : Nat → List Int) (fi ol he : Bool) (la : Int), e = .returned (.agg #[.slice go G.length gc, .slice bo k bc, .bool fi, .bool ol, .bool he, .int .i64 la]) ∧ (G.length ≤ 8 ∧ k ≤ 3 ∧ ∀ i, i < k → (L i).length ≤ 8) ∧ ∀ w2, Kp B w' w2 → MVs w2 go gc bo bc G k L
theorem ret_u {w wr : World} {g : Nat} {ao : Option Addr} {n cap : Nat} {f : Nat → Int} {b : Nat} {r : Option Addr × Nat} {G G' : List Int} {R : Nat → Option Addr × Nat} {L : Nat → List Int} {fi ol he : Bool} {la : Int} {v0 v1 v2 v3 v4 v5 : Value} {go bo : Option Addr} {gc bc k : Nat} (hc : CurW w wr g ao n cap f) (hd : DMr (w.heap.size + 1) wr b r G R L) (hb : G'.length ≤ 8 ∧ k ≤ 3 ∧ ∀ i, i < k → (L i).length ≤ 8)
    (hm : ∀ w2, DMr w.heap.size w2 b r G R L → MVs w2 go gc bo bc G' k L) :
    DrU w.heap.size ((((((wr.setCell ⟨w.heap.size, 0, none⟩ v0).setCell ⟨w.heap.size, 1, none⟩ v1).setCell ⟨w.heap.size, 2, none⟩ v2).setCell ⟨w.heap.size, 3, none⟩ v3).setCell ⟨w.heap.size, 4, none⟩ v4).setCell ⟨w.heap.size, 5, none⟩ v5) (.returned (.agg #[.slice go G'.length gc, .slice bo k bc, .bool fi, .bool ol, .bool he, .int .i64 la])) ∧
      CurW w ((((((wr.setCell ⟨w.heap.size, 0, none⟩ v0).setCell ⟨w.heap.size, 1, none⟩ v1).setCell ⟨w.heap.size, 2, none⟩ v2).setCell ⟨w.heap.size, 3, none⟩ v3).setCell ⟨w.heap.size, 4, none⟩ v4).setCell ⟨w.heap.size, 5, none⟩ v5) g ao n cap f :=
  ⟨⟨go, bo, gc, bc, G', k, L, fi, ol, he, la, rfl, hb, fun w2 hg => hm w2 (((hd.res.res.res.res.res.res).mono (by omega)).kp hg)⟩, (((((hc.set (Nat.le_refl _)).set (Nat.le_refl _)).set (Nat.le_refl _)).set (Nat.le_refl _)).set (Nat.le_refl _)).set (Nat.le_refl _)⟩

set_option maxHeartbeats 4000000 in
theorem draw5 (g n cap : Nat) (ao : Option Addr) (f : Nat → Int) (w : World) (hc : Cur w g ao n cap f) :
    Calls Try.prog 38 #[.pointer (some ⟨g, 0, none⟩)] w fun e w' => DrU w.heap.size w' e ∧ CurW w w' g ao n cap f := by
  obtain ⟨i0, hi, hz0, hz1, hz2⟩ := info_parts Try.info3
  have HC := hide hc
  clear hc
  go_enter Try.func38, Try.ntmps38
  go_wp2_with fail
  refine (draw5r g n cap ao f _ ((CurW.refl HC.out).alloc _).1).mono ?_
  rintro e w1 ⟨⟨b, ⟨ro, rc⟩, G, R, L, fi, ol, he, la, rfl, ⟨hG, hL⟩, hdr⟩, hcw⟩
  have HL8 := hide hL
  have HD : Hid (DT w (w1.alloc (.cells #[.slice ro G.length rc, .slice (some ⟨b, 0, none⟩) 3 3, .bool fi, .bool ol, .bool he, .int .i64 la] 27)) g ao n cap f w1.heap.size b (ro, rc) G R L fi ol he la) := by
    have s0 : (w.alloc (.cells #[.slice none 0 0, .slice none 0 0, .bool false, .bool false, .bool false, .int .i64 0] 27)).heap.size = w.heap.size + 1 := by simp
    rw [s0] at hdr
    have h0 := ((CurW.refl HC.out).alloc (.cells #[.slice none 0 0, .slice none 0 0, .bool false, .bool false, .bool false, .int .i64 0] 27)).trans hcw
    have hK0 := (KB.new w 27 none 0 0 none 0 0 false false false 0).cur hcw.2.1 HC.out.lt
    have hlt := hK0.lt
    exact ⟨h0.alloc _, hK0.b (bal1 _ _), KB.new _ _ _ _ _ _ _ _ _ _ _ _, hdr.below (bal1 _ _), hdr.fresh, hlt⟩
  clear hdr hcw hL
  go_wp2_with fail
  refine (below_any g n cap 12 ao f _ (by decide) (by decide) HD.out.1.1).mono ?_
  rintro e w2 ⟨⟨x, rfl, hx0, hx1⟩, hcur, hgr⟩
  have H2 := hide (HD.out.cur hcur hgr)
  clear hcur hgr HD
  generalize w1.heap.size = X at *
  obtain ⟨x0, x1, x2, x3, x4, x5⟩ := H2.out.2.2.1.cells
  have zf := H2.out.2.2.1.froz
  by_cases c0 : x = 0
  · subst c0
    go_wp2_with fail
    have H2d := hide H2.out.drawn
    have D0 : w2.drew.cell? ⟨X, 0, none⟩ = some (.slice ro G.length rc) := H2d.out.2.2.1.cells.1
    have H2a := hide (H2d.out.alloc (.cells #[.int .i64 0, .int .i64 1, .int .i64 9, .int .i64 100001] 3))
    have D0a : (w2.alloc (.cells #[.int .i64 0, .int .i64 1, .int .i64 9, .int .i64 100001] 3)).cell? ⟨X, 0, none⟩ = some (.slice ro G.length rc) := (H2.out.alloc _).2.2.1.cells.1
    refine wp_region_held_drew (S := fun _ => True) (by kernel_rfl) trivial (fun _ => ?_)
    refine wpAnyH_take (i := 0) (oi := { dst := some 10, op := Op.fieldAddr 27 (Operand.tmp 3) 0, type := 0, pos := "l05_meta.go:121", after := #[], guard := none }) (v := ?_) rfl (by kernel_rfl) (by kernel_rfl) (by kernel_rfl) (fun _ _ _ h => h) (Or.inl ⟨by rfl, ?_⟩) trivial ?_
    rotate_left 1
    · (intro wq _; go_simp; try with_reducible rfl)
    try simp only [Act.put, List.setIfInBounds_toArray, List.set_cons_zero, List.set_cons_succ]
    refine wpAnyH_take (i := 2) (oi := { dst := some 12, op := Op.move (Operand.tmp 0), type := 52, pos := "l05_meta.go:121", after := #[], guard := none }) (v := ?_) rfl (by kernel_rfl) (by kernel_rfl) (by kernel_rfl) (fun _ _ _ h => h) (Or.inl ⟨by rfl, ?_⟩) trivial ?_
    rotate_left 1
    · (intro wq _; go_simp; try with_reducible rfl)
    try simp only [Act.put, List.setIfInBounds_toArray, List.set_cons_zero, List.set_cons_succ]
    refine wpAnyH_ready (rs := [1, 3]) (by kernel_rfl) (by simp) ?_
    refine AllReadyH.cons (o := { dst := some 11, op := Op.load 24 (Operand.tmp 10), type := 24, pos := "l05_meta.go:121", after := #[{ on := 0, ground := Ground.data }], guard := none }) rfl (fun K hK => ?_) ?_
    · go_simp
      refine hK.out _ _ trivial (fun _ => ?_)
      clear hK K
      try simp only [Act.put, List.setIfInBounds_toArray, List.set_cons_zero, List.set_cons_succ]
      refine wpAnyH_ready (rs := [3]) (by kernel_rfl) (by simp) ?_
      refine AllReadyH.cons (o := { dst := some 13, op := Op.buildSlice 24 4 #[(0, Operand.const (Value.int IntKind.i64 0)), (1, Operand.const (Value.int IntKind.i64 1)), (2, Operand.const (Value.int IntKind.i64 9)), (3, Operand.const (Value.int IntKind.i64 100001))], type := 24, pos := "l05_meta.go:121", after := #[], guard := none }) rfl (fun K hK => ?_) AllReadyH.nil
      go_simp
      refine hK.out _ _ trivial (fun _ => ?_)
      clear hK K
      try simp only [Act.put, List.setIfInBounds_toArray, List.set_cons_zero, List.set_cons_succ]
      refine wpAnyH_ready (rs := [4]) (by kernel_rfl) (by simp) ?_
      refine AllReadyH.cons (o := { dst := some 14, op := Op.call { callee := Callee.value (Operand.func 51), args := #[Operand.tmp 12, Operand.tmp 13], argTypes := #[52, 24] }, type := 3, pos := "l05_meta.go:121", after := #[{ on := 2, ground := Ground.data }, { on := 3, ground := Ground.data }], guard := none }) rfl (fun K hK => ?_) AllReadyH.nil
      go_simp
      refine (pick_any g n cap 4 4 ao (some ⟨w2.drew.heap.size, 0, none⟩) f (fun i => [0, 1, 9, 100001].getD i 0) _ (by decide) (by decide) H2a.out.1.1 (lit_cells w2.drew [0, 1, 9, 100001] 3 g H2d.out.1.1.lt)).mono ?_
      rintro e w3 ⟨⟨j, hj, rfl⟩, hcur, hgr⟩
      have H3 := hide (H2a.out.cur hcur hgr)
      generalize ([0, 1, 9, 100001] : List Int).getD j 0 = y at *
      have hk3 : w3.cell? ⟨X, 0, none⟩ = some (.slice ro G.length rc) := H3.out.2.2.1.cells.1
      have H3a := hide (H3.out.alloc (.cells #[.int .i64 y] 3))
      have hk3a : (w3.alloc (.cells #[.int .i64 y] 3)).cell? ⟨X, 0, none⟩ = some (.slice ro G.length rc) := H3a.out.2.2.1.cells.1
      clear hcur hgr
      go_wp2_with fail
      refine hK.out _ _ trivial (fun _ => ?_)
      clear hK K
      try simp only [Act.put, List.setIfInBounds_toArray, List.set_cons_zero, List.set_cons_succ]
      refine wpAnyH_ready (rs := [5]) (by kernel_rfl) (by simp) ?_
      refine AllReadyH.cons (o := { dst := some 15, op := Op.buildSlice 24 1 #[(0, Operand.tmp 14)], type := 24, pos := "l05_meta.go:121", after := #[{ on := 4, ground := Ground.data }], guard := none }) rfl (fun K hK => ?_) AllReadyH.nil
      go_simp
      refine hK.out _ _ trivial (fun _ => ?_)
      clear hK K
      try simp only [Act.put, List.setIfInBounds_toArray, List.set_cons_zero, List.set_cons_succ]
      refine wpAnyH_ready (rs := [6]) (by kernel_rfl) (by simp) ?_
      refine AllReadyH.cons (o := { dst := some 16, op := Op.call { callee := Callee.builtin Builtin.append, args := #[Operand.tmp 11, Operand.tmp 15], argTypes := #[24, 24] }, type := 24, pos := "l05_meta.go:121", after := #[{ on := 1, ground := Ground.data }, { on := 5, ground := Ground.data }, { on := 4, ground := Ground.chain }], guard := none }) rfl (fun K hK => ?_) AllReadyH.nil
      refine step_append_lies _ rfl _ _ 24 rfl (w.heap.size + 1) 3 i0 (.int .i64 0) 1 8 Try.underlying24 hi hz0 hz1 hz2 rfl (by decide) _ _ _ rfl H3a.out.2.2.2.1.2.2.1.1 ⟨w3.heap.size, 0, none⟩ 1 1 ([y].map (.int .i64)) rfl rfl (gcells w3 [.int .i64 y] 3) (gones .i64 [y]) (by decide) (by unfold maxLen; omega) (by omega) (by have := H3a.out.2.1.lt; omega) _ rfl ?_
      intro t c w4 ho4 hg4 hat4 hlt4
      have H4 := hide (H3a.out.gens ho4 hg4 hat4)
      have zf4 := H4.out.2.froz
      obtain ⟨s0, s1, s2, s3, s4, s5⟩ := H4.out.2.cells
      have HLl : Hid ((G ++ [y]).length = G.length + 1) := (show _ = _ by simp)
      have hl5 : (G ++ [y]).length ≤ 8 := (by simp; omega)
      have H5 := hide H4.out.1
      clear ho4 hg4 hat4 hlt4 H4
      generalize G ++ [y] = G5 at H5 HLl hl5
      refine hK.out _ _ trivial (fun _ => ?_)
      clear hK K
      try simp only [Act.put, List.setIfInBounds_toArray, List.set_cons_zero, List.set_cons_succ]
      refine wpAnyH_take (i := 7) (oi := { dst := some 17, op := Op.fieldAddr 27 (Operand.tmp 3) 0, type := 0, pos := "l05_meta.go:121", after := #[{ on := 0, ground := Ground.phase }, { on := 1, ground := Ground.phase }, { on := 2, ground := Ground.phase }, { on := 3, ground := Ground.phase }, { on := 4, ground := Ground.phase }, { on := 5, ground := Ground.phase }, { on := 6, ground := Ground.phase }], guard := none }) (v := ?_) rfl (by kernel_rfl) (by kernel_rfl) (by kernel_rfl) (fun _ _ _ h => h) (Or.inl ⟨by rfl, ?_⟩) trivial ?_
      rotate_left 1
      · (intro wq _; go_simp; try with_reducible rfl)
      try simp only [Act.put, List.setIfInBounds_toArray, List.set_cons_zero, List.set_cons_succ]
      refine wpAnyH_ready (rs := [8]) (by kernel_rfl) (by simp) ?_
      refine AllReadyH.cons (o := { dst := none, op := Op.store 24 (Operand.tmp 17) (Operand.tmp 16), type := 0, pos := "l05_meta.go:121", after := #[{ on := 7, ground := Ground.data }, { on := 6, ground := Ground.data }, { on := 6, ground := Ground.chain }, { on := 0, ground := Ground.phase }, { on := 1, ground := Ground.phase }, { on := 2, ground := Ground.phase }, { on := 3, ground := Ground.phase }, { on := 4, ground := Ground.phase }, { on := 5, ground := Ground.phase }, { on := 6, ground := Ground.phase }], guard := none }) rfl (fun K hK => ?_) AllReadyH.nil
      go_simp
      refine hK.out _ _ trivial (fun _ => ?_)
      clear hK K
      try simp only [Act.put, List.setIfInBounds_toArray, List.set_cons_zero, List.set_cons_succ]
      refine wpAnyH_done (by kernel_rfl) ?_ _
      (try simp only [List.length_map, List.length_cons, List.length_nil, Nat.zero_add]); rw [← HLl.out]
      obtain ⟨r0, r1, r2, r3, r4, r5⟩ := H5.out.2.1.cells
      obtain ⟨y0, y1, y2, y3, y4, y5⟩ := H5.out.2.2.1.cells
      have z0 := H5.out.2.1.froz
      go_wp2_with fail
      exact bodyPost_ret (v := .agg #[.slice (some ⟨t, 0, none⟩) G5.length c, .slice (some ⟨b, 0, none⟩) 3 3, .bool fi, .bool ol, .bool he, .int .i64 la]) (by simp [results, Try.results38, go_sem, r0, r1, r2, r3, r4, r5]) rfl
        (ret_u H5.out.1 H5.out.2.2.2.1 ⟨hl5, by omega, HL8.out⟩ (fun w2 h => h.mvs))
    refine AllReadyH.cons (o := { dst := some 13, op := Op.buildSlice 24 4 #[(0, Operand.const (Value.int IntKind.i64 0)), (1, Operand.const (Value.int IntKind.i64 1)), (2, Operand.const (Value.int IntKind.i64 9)), (3, Operand.const (Value.int IntKind.i64 100001))], type := 24, pos := "l05_meta.go:121", after := #[], guard := none }) rfl (fun K hK => ?_) AllReadyH.nil
    · go_simp
      refine hK.out _ _ trivial (fun _ => ?_)
      clear hK K
      try simp only [Act.put, List.setIfInBounds_toArray, List.set_cons_zero, List.set_cons_succ]
      refine wpAnyH_ready (rs := [1, 4]) (by kernel_rfl) (by simp) ?_
      refine AllReadyH.cons (o := { dst := some 11, op := Op.load 24 (Operand.tmp 10), type := 24, pos := "l05_meta.go:121", after := #[{ on := 0, ground := Ground.data }], guard := none }) rfl (fun K hK => ?_) ?_
      · go_simp
        refine hK.out _ _ trivial (fun _ => ?_)
        clear hK K
        try simp only [Act.put, List.setIfInBounds_toArray, List.set_cons_zero, List.set_cons_succ]
        refine wpAnyH_ready (rs := [4]) (by kernel_rfl) (by simp) ?_
        refine AllReadyH.cons (o := { dst := some 14, op := Op.call { callee := Callee.value (Operand.func 51), args := #[Operand.tmp 12, Operand.tmp 13], argTypes := #[52, 24] }, type := 3, pos := "l05_meta.go:121", after := #[{ on := 2, ground := Ground.data }, { on := 3, ground := Ground.data }], guard := none }) rfl (fun K hK => ?_) AllReadyH.nil
        go_simp
        refine (pick_any g n cap 4 4 ao (some ⟨w2.drew.heap.size, 0, none⟩) f (fun i => [0, 1, 9, 100001].getD i 0) _ (by decide) (by decide) H2a.out.1.1 (lit_cells w2.drew [0, 1, 9, 100001] 3 g H2d.out.1.1.lt)).mono ?_
        rintro e w3 ⟨⟨j, hj, rfl⟩, hcur, hgr⟩
        have H3 := hide (H2a.out.cur hcur hgr)
        generalize ([0, 1, 9, 100001] : List Int).getD j 0 = y at *
        have hk3 : w3.cell? ⟨X, 0, none⟩ = some (.slice ro G.length rc) := H3.out.2.2.1.cells.1
        have H3a := hide (H3.out.alloc (.cells #[.int .i64 y] 3))
        have hk3a : (w3.alloc (.cells #[.int .i64 y] 3)).cell? ⟨X, 0, none⟩ = some (.slice ro G.length rc) := H3a.out.2.2.1.cells.1
        clear hcur hgr
        go_wp2_with fail
        refine hK.out _ _ trivial (fun _ => ?_)
        clear hK K
        try simp only [Act.put, List.setIfInBounds_toArray, List.set_cons_zero, List.set_cons_succ]
        refine wpAnyH_ready (rs := [5]) (by kernel_rfl) (by simp) ?_
        refine AllReadyH.cons (o := { dst := some 15, op := Op.buildSlice 24 1 #[(0, Operand.tmp 14)], type := 24, pos := "l05_meta.go:121", after := #[{ on := 4, ground := Ground.data }], guard := none }) rfl (fun K hK => ?_) AllReadyH.nil
        go_simp
        refine hK.out _ _ trivial (fun _ => ?_)
        clear hK K
        try simp only [Act.put, List.setIfInBounds_toArray, List.set_cons_zero, List.set_cons_succ]
        refine wpAnyH_ready (rs := [6]) (by kernel_rfl) (by simp) ?_
        refine AllReadyH.cons (o := { dst := some 16, op := Op.call { callee := Callee.builtin Builtin.append, args := #[Operand.tmp 11, Operand.tmp 15], argTypes := #[24, 24] }, type := 24, pos := "l05_meta.go:121", after := #[{ on := 1, ground := Ground.data }, { on := 5, ground := Ground.data }, { on := 4, ground := Ground.chain }], guard := none }) rfl (fun K hK => ?_) AllReadyH.nil
        refine step_append_lies _ rfl _ _ 24 rfl (w.heap.size + 1) 3 i0 (.int .i64 0) 1 8 Try.underlying24 hi hz0 hz1 hz2 rfl (by decide) _ _ _ rfl H3a.out.2.2.2.1.2.2.1.1 ⟨w3.heap.size, 0, none⟩ 1 1 ([y].map (.int .i64)) rfl rfl (gcells w3 [.int .i64 y] 3) (gones .i64 [y]) (by decide) (by unfold maxLen; omega) (by omega) (by have := H3a.out.2.1.lt; omega) _ rfl ?_
        intro t c w4 ho4 hg4 hat4 hlt4
        have H4 := hide (H3a.out.gens ho4 hg4 hat4)
        have zf4 := H4.out.2.froz
        obtain ⟨s0, s1, s2, s3, s4, s5⟩ := H4.out.2.cells
        have HLl : Hid ((G ++ [y]).length = G.length + 1) := (show _ = _ by simp)
        have hl5 : (G ++ [y]).length ≤ 8 := (by simp; omega)
        have H5 := hide H4.out.1
        clear ho4 hg4 hat4 hlt4 H4
        generalize G ++ [y] = G5 at H5 HLl hl5
        refine hK.out _ _ trivial (fun _ => ?_)
        clear hK K
        try simp only [Act.put, List.setIfInBounds_toArray, List.set_cons_zero, List.set_cons_succ]
        refine wpAnyH_take (i := 7) (oi := { dst := some 17, op := Op.fieldAddr 27 (Operand.tmp 3) 0, type := 0, pos := "l05_meta.go:121", after := #[{ on := 0, ground := Ground.phase }, { on := 1, ground := Ground.phase }, { on := 2, ground := Ground.phase }, { on := 3, ground := Ground.phase }, { on := 4, ground := Ground.phase }, { on := 5, ground := Ground.phase }, { on := 6, ground := Ground.phase }], guard := none }) (v := ?_) rfl (by kernel_rfl) (by kernel_rfl) (by kernel_rfl) (fun _ _ _ h => h) (Or.inl ⟨by rfl, ?_⟩) trivial ?_
        rotate_left 1
        · (intro wq _; go_simp; try with_reducible rfl)
        try simp only [Act.put, List.setIfInBounds_toArray, List.set_cons_zero, List.set_cons_succ]
        refine wpAnyH_ready (rs := [8]) (by kernel_rfl) (by simp) ?_
        refine AllReadyH.cons (o := { dst := none, op := Op.store 24 (Operand.tmp 17) (Operand.tmp 16), type := 0, pos := "l05_meta.go:121", after := #[{ on := 7, ground := Ground.data }, { on := 6, ground := Ground.data }, { on := 6, ground := Ground.chain }, { on := 0, ground := Ground.phase }, { on := 1, ground := Ground.phase }, { on := 2, ground := Ground.phase }, { on := 3, ground := Ground.phase }, { on := 4, ground := Ground.phase }, { on := 5, ground := Ground.phase }, { on := 6, ground := Ground.phase }], guard := none }) rfl (fun K hK => ?_) AllReadyH.nil
        go_simp
        refine hK.out _ _ trivial (fun _ => ?_)
        clear hK K
        try simp only [Act.put, List.setIfInBounds_toArray, List.set_cons_zero, List.set_cons_succ]
        refine wpAnyH_done (by kernel_rfl) ?_ _
        (try simp only [List.length_map, List.length_cons, List.length_nil, Nat.zero_add]); rw [← HLl.out]
        obtain ⟨r0, r1, r2, r3, r4, r5⟩ := H5.out.2.1.cells
        obtain ⟨y0, y1, y2, y3, y4, y5⟩ := H5.out.2.2.1.cells
        have z0 := H5.out.2.1.froz
        go_wp2_with fail
        exact bodyPost_ret (v := .agg #[.slice (some ⟨t, 0, none⟩) G5.length c, .slice (some ⟨b, 0, none⟩) 3 3, .bool fi, .bool ol, .bool he, .int .i64 la]) (by simp [results, Try.results38, go_sem, r0, r1, r2, r3, r4, r5]) rfl
          (ret_u H5.out.1 H5.out.2.2.2.1 ⟨hl5, by omega, HL8.out⟩ (fun w2 h => h.mvs))
      refine AllReadyH.cons (o := { dst := some 14, op := Op.call { callee := Callee.value (Operand.func 51), args := #[Operand.tmp 12, Operand.tmp 13], argTypes := #[52, 24] }, type := 3, pos := "l05_meta.go:121", after := #[{ on := 2, ground := Ground.data }, { on := 3, ground := Ground.data }], guard := none }) rfl (fun K hK => ?_) AllReadyH.nil
      · go_simp
        refine (pick_any g n cap 4 4 ao (some ⟨w2.drew.heap.size, 0, none⟩) f (fun i => [0, 1, 9, 100001].getD i 0) _ (by decide) (by decide) H2a.out.1.1 (lit_cells w2.drew [0, 1, 9, 100001] 3 g H2d.out.1.1.lt)).mono ?_
        rintro e w3 ⟨⟨j, hj, rfl⟩, hcur, hgr⟩
        have H3 := hide (H2a.out.cur hcur hgr)
        generalize ([0, 1, 9, 100001] : List Int).getD j 0 = y at *
        have hk3 : w3.cell? ⟨X, 0, none⟩ = some (.slice ro G.length rc) := H3.out.2.2.1.cells.1
        have H3a := hide (H3.out.alloc (.cells #[.int .i64 y] 3))
        have hk3a : (w3.alloc (.cells #[.int .i64 y] 3)).cell? ⟨X, 0, none⟩ = some (.slice ro G.length rc) := H3a.out.2.2.1.cells.1
        clear hcur hgr
        go_wp2_with fail
        refine hK.out _ _ trivial (fun _ => ?_)
        clear hK K
        try simp only [Act.put, List.setIfInBounds_toArray, List.set_cons_zero, List.set_cons_succ]
        refine wpAnyH_ready (rs := [1, 5]) (by kernel_rfl) (by simp) ?_
        refine AllReadyH.cons (o := { dst := some 11, op := Op.load 24 (Operand.tmp 10), type := 24, pos := "l05_meta.go:121", after := #[{ on := 0, ground := Ground.data }], guard := none }) rfl (fun K hK => ?_) ?_
        · go_simp
          refine hK.out _ _ trivial (fun _ => ?_)
          clear hK K
          try simp only [Act.put, List.setIfInBounds_toArray, List.set_cons_zero, List.set_cons_succ]
          refine wpAnyH_ready (rs := [5]) (by kernel_rfl) (by simp) ?_
          refine AllReadyH.cons (o := { dst := some 15, op := Op.buildSlice 24 1 #[(0, Operand.tmp 14)], type := 24, pos := "l05_meta.go:121", after := #[{ on := 4, ground := Ground.data }], guard := none }) rfl (fun K hK => ?_) AllReadyH.nil
          go_simp
          refine hK.out _ _ trivial (fun _ => ?_)
          clear hK K
          try simp only [Act.put, List.setIfInBounds_toArray, List.set_cons_zero, List.set_cons_succ]
          refine wpAnyH_ready (rs := [6]) (by kernel_rfl) (by simp) ?_
          refine AllReadyH.cons (o := { dst := some 16, op := Op.call { callee := Callee.builtin Builtin.append, args := #[Operand.tmp 11, Operand.tmp 15], argTypes := #[24, 24] }, type := 24, pos := "l05_meta.go:121", after := #[{ on := 1, ground := Ground.data }, { on := 5, ground := Ground.data }, { on := 4, ground := Ground.chain }], guard := none }) rfl (fun K hK => ?_) AllReadyH.nil
          refine step_append_lies _ rfl _ _ 24 rfl (w.heap.size + 1) 3 i0 (.int .i64 0) 1 8 Try.underlying24 hi hz0 hz1 hz2 rfl (by decide) _ _ _ rfl H3a.out.2.2.2.1.2.2.1.1 ⟨w3.heap.size, 0, none⟩ 1 1 ([y].map (.int .i64)) rfl rfl (gcells w3 [.int .i64 y] 3) (gones .i64 [y]) (by decide) (by unfold maxLen; omega) (by omega) (by have := H3a.out.2.1.lt; omega) _ rfl ?_
          intro t c w4 ho4 hg4 hat4 hlt4
          have H4 := hide (H3a.out.gens ho4 hg4 hat4)
          have zf4 := H4.out.2.froz
          obtain ⟨s0, s1, s2, s3, s4, s5⟩ := H4.out.2.cells
          have HLl : Hid ((G ++ [y]).length = G.length + 1) := (show _ = _ by simp)
          have hl5 : (G ++ [y]).length ≤ 8 := (by simp; omega)
          have H5 := hide H4.out.1
          clear ho4 hg4 hat4 hlt4 H4
          generalize G ++ [y] = G5 at H5 HLl hl5
          refine hK.out _ _ trivial (fun _ => ?_)
          clear hK K
          try simp only [Act.put, List.setIfInBounds_toArray, List.set_cons_zero, List.set_cons_succ]
          refine wpAnyH_take (i := 7) (oi := { dst := some 17, op := Op.fieldAddr 27 (Operand.tmp 3) 0, type := 0, pos := "l05_meta.go:121", after := #[{ on := 0, ground := Ground.phase }, { on := 1, ground := Ground.phase }, { on := 2, ground := Ground.phase }, { on := 3, ground := Ground.phase }, { on := 4, ground := Ground.phase }, { on := 5, ground := Ground.phase }, { on := 6, ground := Ground.phase }], guard := none }) (v := ?_) rfl (by kernel_rfl) (by kernel_rfl) (by kernel_rfl) (fun _ _ _ h => h) (Or.inl ⟨by rfl, ?_⟩) trivial ?_
          rotate_left 1
          · (intro wq _; go_simp; try with_reducible rfl)
          try simp only [Act.put, List.setIfInBounds_toArray, List.set_cons_zero, List.set_cons_succ]
          refine wpAnyH_ready (rs := [8]) (by kernel_rfl) (by simp) ?_
          refine AllReadyH.cons (o := { dst := none, op := Op.store 24 (Operand.tmp 17) (Operand.tmp 16), type := 0, pos := "l05_meta.go:121", after := #[{ on := 7, ground := Ground.data }, { on := 6, ground := Ground.data }, { on := 6, ground := Ground.chain }, { on := 0, ground := Ground.phase }, { on := 1, ground := Ground.phase }, { on := 2, ground := Ground.phase }, { on := 3, ground := Ground.phase }, { on := 4, ground := Ground.phase }, { on := 5, ground := Ground.phase }, { on := 6, ground := Ground.phase }], guard := none }) rfl (fun K hK => ?_) AllReadyH.nil
          go_simp
          refine hK.out _ _ trivial (fun _ => ?_)
          clear hK K
          try simp only [Act.put, List.setIfInBounds_toArray, List.set_cons_zero, List.set_cons_succ]
          refine wpAnyH_done (by kernel_rfl) ?_ _
          (try simp only [List.length_map, List.length_cons, List.length_nil, Nat.zero_add]); rw [← HLl.out]
          obtain ⟨r0, r1, r2, r3, r4, r5⟩ := H5.out.2.1.cells
          obtain ⟨y0, y1, y2, y3, y4, y5⟩ := H5.out.2.2.1.cells
          have z0 := H5.out.2.1.froz
          go_wp2_with fail
          exact bodyPost_ret (v := .agg #[.slice (some ⟨t, 0, none⟩) G5.length c, .slice (some ⟨b, 0, none⟩) 3 3, .bool fi, .bool ol, .bool he, .int .i64 la]) (by simp [results, Try.results38, go_sem, r0, r1, r2, r3, r4, r5]) rfl
            (ret_u H5.out.1 H5.out.2.2.2.1 ⟨hl5, by omega, HL8.out⟩ (fun w2 h => h.mvs))
        refine AllReadyH.cons (o := { dst := some 15, op := Op.buildSlice 24 1 #[(0, Operand.tmp 14)], type := 24, pos := "l05_meta.go:121", after := #[{ on := 4, ground := Ground.data }], guard := none }) rfl (fun K hK => ?_) AllReadyH.nil
        · go_simp
          refine hK.out _ _ trivial (fun _ => ?_)
          clear hK K
          try simp only [Act.put, List.setIfInBounds_toArray, List.set_cons_zero, List.set_cons_succ]
          refine wpAnyH_ready (rs := [1]) (by kernel_rfl) (by simp) ?_
          refine AllReadyH.cons (o := { dst := some 11, op := Op.load 24 (Operand.tmp 10), type := 24, pos := "l05_meta.go:121", after := #[{ on := 0, ground := Ground.data }], guard := none }) rfl (fun K hK => ?_) AllReadyH.nil
          go_simp
          refine hK.out _ _ trivial (fun _ => ?_)
          clear hK K
          try simp only [Act.put, List.setIfInBounds_toArray, List.set_cons_zero, List.set_cons_succ]
          refine wpAnyH_ready (rs := [6]) (by kernel_rfl) (by simp) ?_
          refine AllReadyH.cons (o := { dst := some 16, op := Op.call { callee := Callee.builtin Builtin.append, args := #[Operand.tmp 11, Operand.tmp 15], argTypes := #[24, 24] }, type := 24, pos := "l05_meta.go:121", after := #[{ on := 1, ground := Ground.data }, { on := 5, ground := Ground.data }, { on := 4, ground := Ground.chain }], guard := none }) rfl (fun K hK => ?_) AllReadyH.nil
          refine step_append_lies _ rfl _ _ 24 rfl (w.heap.size + 1) 3 i0 (.int .i64 0) 1 8 Try.underlying24 hi hz0 hz1 hz2 rfl (by decide) _ _ _ rfl H3a.out.2.2.2.1.2.2.1.1 ⟨w3.heap.size, 0, none⟩ 1 1 ([y].map (.int .i64)) rfl rfl (gcells w3 [.int .i64 y] 3) (gones .i64 [y]) (by decide) (by unfold maxLen; omega) (by omega) (by have := H3a.out.2.1.lt; omega) _ rfl ?_
          intro t c w4 ho4 hg4 hat4 hlt4
          have H4 := hide (H3a.out.gens ho4 hg4 hat4)
          have zf4 := H4.out.2.froz
          obtain ⟨s0, s1, s2, s3, s4, s5⟩ := H4.out.2.cells
          have HLl : Hid ((G ++ [y]).length = G.length + 1) := (show _ = _ by simp)
          have hl5 : (G ++ [y]).length ≤ 8 := (by simp; omega)
          have H5 := hide H4.out.1
          clear ho4 hg4 hat4 hlt4 H4
          generalize G ++ [y] = G5 at H5 HLl hl5
          refine hK.out _ _ trivial (fun _ => ?_)
          clear hK K
          try simp only [Act.put, List.setIfInBounds_toArray, List.set_cons_zero, List.set_cons_succ]
          refine wpAnyH_take (i := 7) (oi := { dst := some 17, op := Op.fieldAddr 27 (Operand.tmp 3) 0, type := 0, pos := "l05_meta.go:121", after := #[{ on := 0, ground := Ground.phase }, { on := 1, ground := Ground.phase }, { on := 2, ground := Ground.phase }, { on := 3, ground := Ground.phase }, { on := 4, ground := Ground.phase }, { on := 5, ground := Ground.phase }, { on := 6, ground := Ground.phase }], guard := none }) (v := ?_) rfl (by kernel_rfl) (by kernel_rfl) (by kernel_rfl) (fun _ _ _ h => h) (Or.inl ⟨by rfl, ?_⟩) trivial ?_
          rotate_left 1
          · (intro wq _; go_simp; try with_reducible rfl)
          try simp only [Act.put, List.setIfInBounds_toArray, List.set_cons_zero, List.set_cons_succ]
          refine wpAnyH_ready (rs := [8]) (by kernel_rfl) (by simp) ?_
          refine AllReadyH.cons (o := { dst := none, op := Op.store 24 (Operand.tmp 17) (Operand.tmp 16), type := 0, pos := "l05_meta.go:121", after := #[{ on := 7, ground := Ground.data }, { on := 6, ground := Ground.data }, { on := 6, ground := Ground.chain }, { on := 0, ground := Ground.phase }, { on := 1, ground := Ground.phase }, { on := 2, ground := Ground.phase }, { on := 3, ground := Ground.phase }, { on := 4, ground := Ground.phase }, { on := 5, ground := Ground.phase }, { on := 6, ground := Ground.phase }], guard := none }) rfl (fun K hK => ?_) AllReadyH.nil
          go_simp
          refine hK.out _ _ trivial (fun _ => ?_)
          clear hK K
          try simp only [Act.put, List.setIfInBounds_toArray, List.set_cons_zero, List.set_cons_succ]
          refine wpAnyH_done (by kernel_rfl) ?_ _
          (try simp only [List.length_map, List.length_cons, List.length_nil, Nat.zero_add]); rw [← HLl.out]
          obtain ⟨r0, r1, r2, r3, r4, r5⟩ := H5.out.2.1.cells
          obtain ⟨y0, y1, y2, y3, y4, y5⟩ := H5.out.2.2.1.cells
          have z0 := H5.out.2.1.froz
          go_wp2_with fail
          exact bodyPost_ret (v := .agg #[.slice (some ⟨t, 0, none⟩) G5.length c, .slice (some ⟨b, 0, none⟩) 3 3, .bool fi, .bool ol, .bool he, .int .i64 la]) (by simp [results, Try.results38, go_sem, r0, r1, r2, r3, r4, r5]) rfl
            (ret_u H5.out.1 H5.out.2.2.2.1 ⟨hl5, by omega, HL8.out⟩ (fun w2 h => h.mvs))
  by_cases c1 : x = 1
  · subst c1
    go_wp2_with fail
    have H2d := hide H2.out.drawn
    have D1 : w2.drew.cell? ⟨X, 1, none⟩ = some (.slice (some ⟨b, 0, none⟩) 3 3) := H2d.out.2.2.1.cells.2.1
    refine wp_region_held_drew (S := (fun w' => w'.cell? ⟨X, 1, none⟩ = some (.slice (some ⟨b, 0, none⟩) 3 3))) (by kernel_rfl) ?_ (fun hHeld => ?_)
    · exact D1
    refine wpAnyH_take (i := 0) (oi := { dst := some 20, op := Op.fieldAddr 27 (Operand.tmp 3) 1, type := 0, pos := "l05_meta.go:123", after := #[], guard := none }) (v := ?_) rfl (by kernel_rfl) (by kernel_rfl) (by kernel_rfl) (fun _ _ _ h => h) (Or.inl ⟨by rfl, ?_⟩) (by assumption) ?_
    rotate_left 1
    · (intro wq hSw; (try dsimp only at hSw); go_simp; try with_reducible rfl)
    try simp only [Act.put, List.setIfInBounds_toArray, List.set_cons_zero, List.set_cons_succ]
    refine wpAnyH_take (i := 1) (oi := { dst := some 21, op := Op.load 25 (Operand.tmp 20), type := 25, pos := "l05_meta.go:123", after := #[{ on := 0, ground := Ground.data }], guard := none }) (v := ?_) rfl (by kernel_rfl) (by kernel_rfl) (by kernel_rfl) (fun _ _ _ h => h) (Or.inl ⟨by rfl, ?_⟩) (by assumption) ?_
    rotate_left 1
    · (intro wq hSw; (try dsimp only at hSw); go_simp; try with_reducible rfl)
    try simp only [Act.put, List.setIfInBounds_toArray, List.set_cons_zero, List.set_cons_succ]
    refine wpAnyH_take (i := 2) (oi := { dst := some 22, op := Op.move (Operand.tmp 0), type := 52, pos := "l05_meta.go:123", after := #[], guard := none }) (v := ?_) rfl (by kernel_rfl) (by kernel_rfl) (by kernel_rfl) (fun _ _ _ h => h) (Or.inl ⟨by rfl, ?_⟩) (by assumption) ?_
    rotate_left 1
    · (intro wq hSw; (try dsimp only at hSw); go_simp; try with_reducible rfl)
    try simp only [Act.put, List.setIfInBounds_toArray, List.set_cons_zero, List.set_cons_succ]
    refine wpAnyH_take (i := 4) (oi := { dst := some 24, op := Op.move (Operand.tmp 0), type := 52, pos := "l05_meta.go:123", after := #[], guard := none }) (v := ?_) rfl (by kernel_rfl) (by kernel_rfl) (by kernel_rfl) (fun _ _ _ h => h) (Or.inl ⟨by rfl, ?_⟩) (by assumption) ?_
    rotate_left 1
    · (intro wq hSw; (try dsimp only at hSw); go_simp; try with_reducible rfl)
    try simp only [Act.put, List.setIfInBounds_toArray, List.set_cons_zero, List.set_cons_succ]
    refine wpAnyH_ready (rs := [3]) (by kernel_rfl) (by simp) ?_
    refine AllReadyH.cons (o := { dst := some 23, op := Op.call { callee := Callee.value (Operand.func 76), args := #[Operand.tmp 22, Operand.const (Value.int IntKind.i64 3)], argTypes := #[52, 3] }, type := 3, pos := "l05_meta.go:123", after := #[{ on := 2, ground := Ground.data }], guard := none }) rfl (fun K hK => ?_) AllReadyH.nil
    go_simp
    refine (below_any g n cap 3 ao f w2.drew (by decide) (by decide) H2d.out.1.1).mono ?_
    rintro e w6 ⟨⟨y, rfl, hy0, hy1⟩, hcur, hgr⟩
    have H6 := hide (H2d.out.cur hcur hgr)
    obtain ⟨k, rfl⟩ := Int.eq_ofNat_of_zero_le hy0
    have hlt : k < 3 := by omega
    have hk6 : w6.cell? ⟨X, 1, none⟩ = some (.slice (some ⟨b, 0, none⟩) 3 3) := H6.out.2.2.1.cells.2.1
    clear hcur hgr
    go_wp2_with fail
    refine hK.out _ _ ?_ (fun hHeld => ?_)
    · exact hk6
    clear hK K
    try simp only [Act.put, List.setIfInBounds_toArray, List.set_cons_zero, List.set_cons_succ]
    refine wpAnyH_ready (rs := [5]) (by kernel_rfl) (by simp) ?_
    refine AllReadyH.cons (o := { dst := some 25, op := Op.call { callee := Callee.value (Operand.func 77), args := #[Operand.tmp 24], argTypes := #[52] }, type := 24, pos := "l05_meta.go:123", after := #[{ on := 4, ground := Ground.data }, { on := 3, ground := Ground.chain }], guard := none }) rfl (fun K hK => ?_) AllReadyH.nil
    go_simp
    refine (drawmarks g n cap ao f w6 H6.out.1.1).mono ?_
    rintro e w7 ⟨v7, M, rfl, hM7, ho7, hcw7⟩
    obtain ⟨ro7, rc7, rfl⟩ := (Src.of_owns ho7).form
    have H7 := hide (H6.out.cur hcw7.1 hcw7.2.1)
    have hk7 : w7.cell? ⟨X, 1, none⟩ = some (.slice (some ⟨b, 0, none⟩) 3 3) := H7.out.2.2.1.cells.2.1
    have hr7 : w7.cell? ⟨b, k, none⟩ = some (.slice (R k).1 (L k).length (R k).2) := H7.out.2.2.2.1.1.cell hlt
    have zf7 := H7.out.2.2.2.1.1.frozen k
    have H8 : Hid (DT w (w7.setCell ⟨b, k, none⟩ (.slice ro7 M.length rc7)) g ao n cap f X b (ro, rc) G (setr R k (ro7, rc7)) (fun j => if j = k then M else L j) fi ol he la) := H7.out.rowf H6.out hlt ho7
    have hk8 := H8.out.2.2.1.cells.2.1
    clear ho7 hcw7
    go_wp2_with fail
    refine hK.out _ _ ?_ (fun hHeld => ?_)
    · exact hk7
    clear hK K
    try simp only [Act.put, List.setIfInBounds_toArray, List.set_cons_zero, List.set_cons_succ]
    refine wpAnyH_take (i := 6) (oi := { dst := some 26, op := Op.indexAddr 25 (Operand.tmp 21) (Operand.tmp 23), type := 0, pos := "l05_meta.go:123", after := #[{ on := 1, ground := Ground.data }, { on := 3, ground := Ground.data }, { on := 0, ground := Ground.phase }, { on := 1, ground := Ground.phase }, { on := 2, ground := Ground.phase }, { on := 3, ground := Ground.phase }, { on := 4, ground := Ground.phase }, { on := 5, ground := Ground.phase }], guard := none }) (v := ?_) rfl (by kernel_rfl) (by kernel_rfl) (by kernel_rfl) (fun _ _ _ h => h) (Or.inl ⟨by rfl, ?_⟩) (by assumption) ?_
    rotate_left 1
    · (intro wq hSw; (try dsimp only at hSw); go_simp; try with_reducible rfl)
    try simp only [Act.put, List.setIfInBounds_toArray, List.set_cons_zero, List.set_cons_succ]
    refine wpAnyH_ready (rs := [7]) (by kernel_rfl) (by simp) ?_
    refine AllReadyH.cons (o := { dst := none, op := Op.store 24 (Operand.tmp 26) (Operand.tmp 25), type := 0, pos := "l05_meta.go:123", after := #[{ on := 6, ground := Ground.data }, { on := 5, ground := Ground.data }, { on := 5, ground := Ground.chain }, { on := 0, ground := Ground.phase }, { on := 1, ground := Ground.phase }, { on := 2, ground := Ground.phase }, { on := 3, ground := Ground.phase }, { on := 4, ground := Ground.phase }, { on := 5, ground := Ground.phase }], guard := none }) rfl (fun K hK => ?_) AllReadyH.nil
    go_simp
    refine hK.out _ _ ?_ (fun hHeld => ?_)
    · exact hk8
    clear hK K
    try simp only [Act.put, List.setIfInBounds_toArray, List.set_cons_zero, List.set_cons_succ]
    refine wpAnyH_done (by kernel_rfl) ?_ _
    obtain ⟨r0, r1, r2, r3, r4, r5⟩ := H8.out.2.1.cells
    obtain ⟨y0, y1, y2, y3, y4, y5⟩ := H8.out.2.2.1.cells
    have z0 := H8.out.2.1.froz
    have hlen : ∀ i, i < 3 → (if i = k then M else L i).length ≤ 8 := fun i hi => by
      by_cases e : i = k
      · rw [if_pos e]; omega
      · rw [if_neg e]; exact HL8.out i hi
    go_wp2_with fail
    exact bodyPost_ret (v := .agg #[.slice ro G.length rc, .slice (some ⟨b, 0, none⟩) 3 3, .bool fi, .bool ol, .bool he, .int .i64 la]) (by simp [results, Try.results38, go_sem, r0, r1, r2, r3, r4, r5]) rfl
      (ret_u H8.out.1 H8.out.2.2.2.1 ⟨by omega, by omega, hlen⟩ (fun w2 h => h.mvs))
  by_cases c2 : x = 2
  · subst c2
    have hK : KB (w2.setCell ⟨X, 1, none⟩ (.slice (some ⟨b, 0, none⟩) 2 3)) X 27 ro G.length rc (some ⟨b, 0, none⟩) 2 3 fi ol he la := kb_set H2.out.2.2.1 rfl
    have hR : KB (w2.setCell ⟨X, 1, none⟩ (.slice (some ⟨b, 0, none⟩) 2 3)) w.heap.size 27 none 0 0 none 0 0 false false false 0 := (cur_far (by have := H2.out.2.2.2.2.2; omega) _).trans H2.out.2.1
    obtain ⟨r0, r1, r2, r3, r4, r5⟩ := hR.cells
    obtain ⟨y0, y1, y2, y3, y4, y5⟩ := hK.cells
    have z0 := hR.froz
    have HF := hide (And.intro (H2.out.1.set (b := X) (i := 1) (v := .slice (some ⟨b, 0, none⟩) 2 3) (by have := H2.out.2.2.2.2.2; omega)) (H2.out.2.2.2.1.far (i := 1) (v := .slice (some ⟨b, 0, none⟩) 2 3) H2.out.2.2.2.2.1))
    clear hK hR
    go_wp2_with fail
    exact bodyPost_ret (v := .agg #[.slice ro G.length rc, .slice (some ⟨b, 0, none⟩) 2 3, .bool fi, .bool ol, .bool he, .int .i64 la]) (by simp [results, Try.results38, go_sem, r0, r1, r2, r3, r4, r5]) rfl
      (ret_u HF.out.1 HF.out.2 ⟨by omega, by omega, fun i hi => HL8.out i (by omega)⟩ (fun w2 h => ⟨⟨⟨h.mv.1.1, by omega⟩, h.mv.2.1, fun i hi => h.mv.2.2 i (by omega)⟩, h.mvs.2.1, fun i hi => h.mvs.2.2 i (by omega)⟩))
  by_cases c3 : x = 3
  · subst c3
    have H3 := hide (H2.out.set (i := 3) (v := .bool true) rfl)
    have H4 := hide (H3.out.set (i := 4) (v := .bool true) rfl)
    have zf3 := H3.out.2.2.1.froz
    obtain ⟨t0, t1, t2, t3, t4, t5⟩ := H3.out.2.2.1.cells
    obtain ⟨r0, r1, r2, r3, r4, r5⟩ := H4.out.2.1.cells
    obtain ⟨y0, y1, y2, y3, y4, y5⟩ := H4.out.2.2.1.cells
    have z0 := H4.out.2.1.froz
    go_wp2_with fail
    exact bodyPost_ret (v := .agg #[.slice ro G.length rc, .slice (some ⟨b, 0, none⟩) 3 3, .bool fi, .bool true, .bool true, .int .i64 la]) (by simp [results, Try.results38, go_sem, r0, r1, r2, r3, r4, r5]) rfl
      (ret_u H4.out.1 H4.out.2.2.2.1 ⟨by omega, by omega, HL8.out⟩ (fun w2 h => h.mvs))
  by_cases c4 : x = 4
  · subst c4
    go_wp2_with fail
    refine (pick_any g n cap 3 3 ao (some ⟨w2.heap.size, 0, none⟩) f (fun i => [-1, 200, 201].getD i 0) _ (by decide) (by decide) (H2.out.1.alloc _).1 (lit_cells w2 [-1, 200, 201] 3 g H2.out.1.1.lt)).mono ?_
    rintro e w3 ⟨⟨j, hj, rfl⟩, hcur, hgr⟩
    have H3a := hide ((H2.out.alloc (.cells (([-1, 200, 201] : List Int).map (Value.int .i64)).toArray 3)).cur hcur hgr)
    generalize ([-1, 200, 201] : List Int).getD j 0 = z at *
    have H3 := hide (H3a.out.set (i := 5) (v := .int .i64 z) rfl)
    clear hcur hgr H2 x0 x1 x2 x3 x4 x5 zf
    obtain ⟨t0, t1, t2, t3, t4, t5⟩ := H3a.out.2.2.1.cells
    have zf3 := H3a.out.2.2.1.froz
    obtain ⟨r0, r1, r2, r3, r4, r5⟩ := H3.out.2.1.cells
    obtain ⟨y0, y1, y2, y3, y4, y5⟩ := H3.out.2.2.1.cells
    have z0 := H3.out.2.1.froz
    go_wp2_with fail
    exact bodyPost_ret (v := .agg #[.slice ro G.length rc, .slice (some ⟨b, 0, none⟩) 3 3, .bool fi, .bool ol, .bool he, .int .i64 z]) (by simp [results, Try.results38, go_sem, r0, r1, r2, r3, r4, r5]) rfl
      (ret_u H3.out.1 H3.out.2.2.2.1 ⟨by omega, by omega, HL8.out⟩ (fun w2 h => h.mvs))
  by_cases c5 : x = 5
  · subst c5
    have hK : KB (w2.setCell ⟨X, 0, none⟩ (.slice none 0 0)) X 27 none 0 0 (some ⟨b, 0, none⟩) 3 3 fi ol he la := kb_set H2.out.2.2.1 rfl
    have hR : KB (w2.setCell ⟨X, 0, none⟩ (.slice none 0 0)) w.heap.size 27 none 0 0 none 0 0 false false false 0 := (cur_far (by have := H2.out.2.2.2.2.2; omega) _).trans H2.out.2.1
    obtain ⟨r0, r1, r2, r3, r4, r5⟩ := hR.cells
    obtain ⟨y0, y1, y2, y3, y4, y5⟩ := hK.cells
    have z0 := hR.froz
    have HF := hide (And.intro (H2.out.1.set (b := X) (i := 0) (v := .slice none 0 0) (by have := H2.out.2.2.2.2.2; omega)) (H2.out.2.2.2.1.far (i := 0) (v := .slice none 0 0) H2.out.2.2.2.2.1))
    clear hK hR
    go_wp2_with fail
    exact bodyPost_ret (v := .agg #[.slice none 0 0, .slice (some ⟨b, 0, none⟩) 3 3, .bool fi, .bool ol, .bool he, .int .i64 la]) (by simp [results, Try.results38, go_sem, r0, r1, r2, r3, r4, r5]) rfl
      (ret_u (G' := []) HF.out.1 HF.out.2 ⟨by simp, by omega, HL8.out⟩ (fun w2 h => ⟨⟨⟨Nat.le_refl _, by omega⟩, fun i hi => absurd hi (Nat.not_lt_zero _), h.mv.2.2⟩, .inl ⟨rfl, rfl⟩, h.mvs.2.2⟩))
  have d0 : decide (x = 0) = false := by simpa using c0
  have d1 : decide (x = 1) = false := by simpa using c1
  have d2 : decide (x = 2) = false := by simpa using c2
  have d3 : decide (x = 3) = false := by simpa using c3
  have d4 : decide (x = 4) = false := by simpa using c4
  have d5 : decide (x = 5) = false := by simpa using c5
  obtain ⟨r0, r1, r2, r3, r4, r5⟩ := H2.out.2.1.cells
  have z0 := H2.out.2.1.froz
  go_wp2_with fail
  exact bodyPost_ret (v := .agg #[.slice ro G.length rc, .slice (some ⟨b, 0, none⟩) 3 3, .bool fi, .bool ol, .bool he, .int .i64 la]) (by simp [results, Try.results38, go_sem, r0, r1, r2, r3, r4, r5]) rfl
    (ret_u H2.out.1 H2.out.2.2.2.1 ⟨by omega, by omega, HL8.out⟩ (fun w2 h => h.mvs))
end Go.Proofs.Ytjbhgedbkajmdaa

/- l5DrawRight of the model. -/
import Derived.Test.YtjbhgedbkajmdaaGe
import Derived.Deep.Cut

namespace Go.Proofs.Ytjbhgedbkajmdaa
open Go.ChangeShapes Go.WideShapes Go.ChangeAt Go.RowKit
set_option linter.unusedVariables false
set_option linter.unusedSimpArgs false
set_option maxRecDepth 100000

/-- What a draw of a meta hands on. -/
def DrT (N : Nat) (w w' : World) (e : Ending) : Prop := ∃ (b : Nat) (r : Option Addr × Nat) (G : List Int) (R : Nat → Option Addr × Nat) (L : Nat → List Int) (fi ol he : Bool) (la : Int), e = .returned (.agg #[.slice r.1 G.length r.2, .slice (some ⟨b, 0, none⟩) 3 3, .bool fi, .bool ol, .bool he, .int .i64 la]) ∧ (G.length ≤ N ∧ ∀ i, i < 3 → (L i).length ≤ 8) ∧ DMr w.heap.size w' b r G R L
/-- Generations put anew by an append of one, and stored. -/
theorem DT.gens {w wr w1 : World} {g : Nat} {ao : Option Addr} {n cap : Nat} {f : Nat → Int} {X b t c : Nat} {r : Option Addr × Nat} {G : List Int} {y : Int} {R : Nat → Option Addr × Nat} {L : Nat → List Int} {fi ol he : Bool} {la : Int} (d : DT w wr g ao n cap f X b r G R L fi ol he la)
    (ho : w1.ownsRow (w.heap.size + 1) 3 1 (.slice (some ⟨t, 0, none⟩) (G.length + 1) c) (G.length + 1) (G.map (.int .i64) ++ [y].map (.int .i64))) (hg : wr.grownBy w1 (Value.slice r.1 G.length r.2).ownBlock) (hat : (Value.slice r.1 G.length r.2).ownBlock = some t ∨ t = wr.heap.size) :
    DT w (w1.setCell ⟨X, 0, none⟩ (.slice (some ⟨t, 0, none⟩) (G ++ [y]).length c)) g ao n cap f X b (some ⟨t, 0, none⟩, c) (G ++ [y]) R L fi ol he la ∧ KB w1 X 27 r.1 G.length r.2 (some ⟨b, 0, none⟩) 3 3 fi ol he la := by
  obtain ⟨h1, h2, h3, h4, h5, h6⟩ := d
  have hlw : Lw (w.heap.size + 1) w1 (G ++ [y]) (some ⟨t, 0, none⟩, c) := by unfold Lw sv; simpa using ho
  have hXlt := h3.lt
  have hdr := h4.gens hg hlw (fun s hs => by
    simp [sv, Value.ownBlock] at hs
    subst hs
    rcases hat with h | h
    · exact .inl h
    · exact .inr (by omega))
  have hdx : DMx X b (some ⟨t, 0, none⟩, c) (G ++ [y]) R L := by
    refine ⟨h5.1, fun e => ?_, h5.2.2⟩
    simp [sv, Value.ownBlock] at e
    subst e
    rcases hat with h | h
    · exact h5.2.1 h
    · omega
  have hrow : ∀ k, (Value.slice r.1 G.length r.2).ownBlock = some k → w.heap.size + 1 ≤ k := fun k hk => (h4.2.2.1.1.lt (t := k) hk).1
  have hK : KB w1 X 27 r.1 G.length r.2 (some ⟨b, 0, none⟩) 3 3 fi ol he la := (hg.block X h3.lt (fun e => h5.2.1 e.symm)).trans h3
  exact ⟨⟨(h1.app hg (fun k hk => by have := hrow k hk; omega)).set (by omega), (cur_far (by omega) _).trans ((hg.block _ h2.lt (fun e => by have := hrow _ e.symm; omega)).trans h2), kb_set hK rfl, hdr.far hdx, hdx, h6⟩, hK⟩

theorem DMr.res {W0 : Nat} {wr : World} {b i : Nat} {r : Option Addr × Nat} {G : List Int} {R : Nat → Option Addr × Nat} {L : Nat → List Int} {v : Value} (h : DMr (W0 + 1) wr b r G R L) : DMr (W0 + 1) (wr.setCell ⟨W0, i, none⟩ v) b r G R L :=
  h.far ⟨by have := h.2.1; omega, fun e => by have := (h.2.2.1.1.lt e).1; omega, fun i hi e => by have := ((h.2.2.2 i hi).1.lt e).1; omega⟩
/-- Handed back. -/
theorem DT.ret {w wr : World} {g : Nat} {ao : Option Addr} {n cap N : Nat} {f : Nat → Int} {X b : Nat} {r : Option Addr × Nat} {G : List Int} {R : Nat → Option Addr × Nat} {L : Nat → List Int} {fi ol he : Bool} {la : Int} {v0 v1 v2 v3 v4 v5 : Value} (d : DT w wr g ao n cap f X b r G R L fi ol he la) (hG : G.length ≤ N) (hL : ∀ i, i < 3 → (L i).length ≤ 8) :
    DrT N w ((((((wr.setCell ⟨w.heap.size, 0, none⟩ v0).setCell ⟨w.heap.size, 1, none⟩ v1).setCell ⟨w.heap.size, 2, none⟩ v2).setCell ⟨w.heap.size, 3, none⟩ v3).setCell ⟨w.heap.size, 4, none⟩ v4).setCell ⟨w.heap.size, 5, none⟩ v5) (.returned (.agg #[.slice r.1 G.length r.2, .slice (some ⟨b, 0, none⟩) 3 3, .bool fi, .bool ol, .bool he, .int .i64 la])) ∧
      CurW w ((((((wr.setCell ⟨w.heap.size, 0, none⟩ v0).setCell ⟨w.heap.size, 1, none⟩ v1).setCell ⟨w.heap.size, 2, none⟩ v2).setCell ⟨w.heap.size, 3, none⟩ v3).setCell ⟨w.heap.size, 4, none⟩ v4).setCell ⟨w.heap.size, 5, none⟩ v5) g ao n cap f :=
  ⟨⟨b, r, G, R, L, fi, ol, he, la, rfl, ⟨hG, hL⟩, (d.2.2.2.1.res.res.res.res.res.res).mono (by omega)⟩, (((((d.1.set (Nat.le_refl _)).set (Nat.le_refl _)).set (Nat.le_refl _)).set (Nat.le_refl _)).set (Nat.le_refl _)).set (Nat.le_refl _)⟩

set_option maxHeartbeats 4000000 in
theorem draw5r (g n cap : Nat) (ao : Option Addr) (f : Nat → Int) (w : World) (hc : Cur w g ao n cap f) :
    Calls Try.prog 45 #[.pointer (some ⟨g, 0, none⟩)] w fun e w' => DrT 2 w w' e ∧ CurW w w' g ao n cap f := by
  obtain ⟨i0, hi, hz0, hz1, hz2⟩ := info_parts Try.info3
  have HC := hide hc
  clear hc
  go_enter Try.func45, Try.ntmps45
  go_wp2_with fail
  refine (mtnew1 _).mono ?_
  rintro e w1 ⟨rfl, hb1, hr1, b1⟩
  have HD : Hid (DT w (w1.alloc (.cells #[.slice (some ⟨w.heap.size + 1 + 1, 0, none⟩) 1 1, .slice (some ⟨w.heap.size + 1 + 1 + 1, 0, none⟩) 3 3, .bool true, .bool false, .bool false, .int .i64 0] 27)) g ao n cap f w1.heap.size (w.heap.size + 1 + 1 + 1) (some ⟨w.heap.size + 1 + 1, 0, none⟩, 1) [1] (fun _ => (none, 0)) (fun _ => []) true false false 0) := by
    have s0 : (w.alloc (.cells #[.slice none 0 0, .slice none 0 0, .bool false, .bool false, .bool false, .int .i64 0] 27)).heap.size = w.heap.size + 1 := by simp
    rw [s0] at hb1 hr1 b1
    have hK0 : KB w1 w.heap.size 27 none 0 0 none 0 0 false false false 0 := (b1.block _ (by omega)).trans (KB.new w _ _ _ _ _ _ _ _ _ _ _)
    have hlw : Lw (w.heap.size + 1) w1 [1] (some ⟨w.heap.size + 1 + 1, 0, none⟩, 1) := ⟨rfl, .inr ⟨_, _, #[.int .i64 1], rfl, by omega, hb1, by simp, by simp [maxLen], by simp, by simp⟩⟩
    have hdr : DMr (w.heap.size + 1) w1 (w.heap.size + 1 + 1 + 1) (some ⟨w.heap.size + 1 + 1, 0, none⟩, 1) [1] (fun _ => (none, 0)) (fun _ => []) :=
      ⟨hr1, by omega, ⟨hlw, by simp [sv, Value.ownBlock]⟩, fun i hi => ⟨gnil, by simp [sv, Value.ownBlock], fun t _ => by simp [sv, Value.ownBlock]⟩⟩
    have hcw : CurW w w1 g ao n cap f := ((CurW.refl HC.out).alloc _).below (by rw [s0]; exact b1)
    have hlt := hK0.lt
    exact ⟨hcw.alloc _, hK0.b (bal1 _ _), KB.new _ _ _ _ _ _ _ _ _ _ _ _, hdr.below (bal1 _ _), hdr.fresh, hlt⟩
  clear hb1 hr1 b1
  obtain ⟨W, hW⟩ : ∃ W, W = w1.alloc (.cells #[.slice (some ⟨w.heap.size + 1 + 1, 0, none⟩) 1 1, .slice (some ⟨w.heap.size + 1 + 1 + 1, 0, none⟩) 3 3, .bool true, .bool false, .bool false, .int .i64 0] 27) := ⟨_, rfl⟩
  go_wp2_with fail
  rw [← hW] at HD ⊢
  clear hW
  generalize w1.heap.size = X at *
  generalize w.heap.size + 1 + 1 + 1 = b at *
  generalize w.heap.size + 1 + 1 = a at *
  have H2d := hide HD.out.drawn
  have D0 : W.drew.cell? ⟨X, 0, none⟩ = some (.slice (some ⟨a, 0, none⟩) 1 1) := H2d.out.2.2.1.cells.1
  clear HD
  have zf : ∀ i, W.drew.frozen? ⟨X, i, none⟩ = false := H2d.out.2.2.1.froz
  go_cut [] from 7 (fun wc => Hid (∃ t c z, DT w wc g ao n cap f X b (some ⟨t, 0, none⟩, c) [1, z] (fun _ => (none, 0)) (fun _ => []) true false false 0))
  case first =>
    refine wp_region_held_drew (S := fun _ => True) (by kernel_rfl) trivial (fun _ => ?_)
    refine wpAnyH_take (i := 0) (oi := { dst := some 7, op := Op.fieldAddr 27 (Operand.tmp 3) 0, type := 0, pos := "l05_meta.go:104", after := #[], guard := none }) (v := ?_) rfl (by kernel_rfl) (by kernel_rfl) (by kernel_rfl) (fun _ _ _ h => h) (Or.inl ⟨by rfl, ?_⟩) trivial ?_
    rotate_left 1
    · (intro wq _; go_simp; try with_reducible rfl)
    try simp only [Act.put, List.setIfInBounds_toArray, List.set_cons_zero, List.set_cons_succ]
    refine wpAnyH_take (i := 2) (oi := { dst := some 9, op := Op.move (Operand.tmp 0), type := 52, pos := "l05_meta.go:104", after := #[], guard := none }) (v := ?_) rfl (by kernel_rfl) (by kernel_rfl) (by kernel_rfl) (fun _ _ _ h => h) (Or.inl ⟨by rfl, ?_⟩) trivial ?_
    rotate_left 1
    · (intro wq _; go_simp; try with_reducible rfl)
    try simp only [Act.put, List.setIfInBounds_toArray, List.set_cons_zero, List.set_cons_succ]
    refine wpAnyH_ready (rs := [1, 3]) (by kernel_rfl) (by simp) ?_
    refine AllReadyH.cons (o := { dst := some 8, op := Op.load 24 (Operand.tmp 7), type := 24, pos := "l05_meta.go:104", after := #[{ on := 0, ground := Ground.data }], guard := none }) rfl (fun K hK => ?_) ?_
    · go_simp
      refine hK.out _ _ trivial (fun _ => ?_)
      clear hK K
      try simp only [Act.put, List.setIfInBounds_toArray, List.set_cons_zero, List.set_cons_succ]
      refine wpAnyH_ready (rs := [3]) (by kernel_rfl) (by simp) ?_
      refine AllReadyH.cons (o := { dst := some 10, op := Op.call { callee := Callee.value (Operand.func 76), args := #[Operand.tmp 9, Operand.const (Value.int IntKind.i64 3)], argTypes := #[52, 3] }, type := 3, pos := "l05_meta.go:104", after := #[{ on := 2, ground := Ground.data }], guard := none }) rfl (fun K hK => ?_) AllReadyH.nil
      go_simp
      refine (below_any g n cap 3 ao f W.drew (by decide) (by decide) H2d.out.1.1).mono ?_
      rintro e w3 ⟨⟨y, rfl, hy0, hy1⟩, hcur, hgr⟩
      have H3 := hide (H2d.out.cur hcur hgr)
      have hk3 : w3.cell? ⟨X, 0, none⟩ = some (.slice (some ⟨a, 0, none⟩) 1 1) := H3.out.2.2.1.cells.1
      have H3a := hide (H3.out.alloc (.cells #[.int .i64 (IntKind.i64.wrap (2 + y))] 3))
      have hk3a : (w3.alloc (.cells #[.int .i64 (IntKind.i64.wrap (2 + y))] 3)).cell? ⟨X, 0, none⟩ = some (.slice (some ⟨a, 0, none⟩) 1 1) := H3a.out.2.2.1.cells.1
      clear hcur hgr
      go_wp2_with fail
      refine hK.out _ _ trivial (fun _ => ?_)
      clear hK K
      try simp only [Act.put, List.setIfInBounds_toArray, List.set_cons_zero, List.set_cons_succ]
      refine wpAnyH_take (i := 4) (oi := { dst := some 11, op := Op.binOp BinOp.add 3 (Operand.const (Value.int IntKind.i64 2)) (Operand.tmp 10) 3, type := 3, pos := "l05_meta.go:104", after := #[{ on := 3, ground := Ground.data }], guard := none }) (v := ?_) rfl (by kernel_rfl) (by kernel_rfl) (by kernel_rfl) (fun _ _ _ h => h) (Or.inl ⟨by rfl, ?_⟩) trivial ?_
      rotate_left 1
      · (intro wq _; go_simp; try with_reducible rfl)
      try simp only [Act.put, List.setIfInBounds_toArray, List.set_cons_zero, List.set_cons_succ]
      refine wpAnyH_ready (rs := [5]) (by kernel_rfl) (by simp) ?_
      refine AllReadyH.cons (o := { dst := some 12, op := Op.buildSlice 24 1 #[(0, Operand.tmp 11)], type := 24, pos := "l05_meta.go:104", after := #[{ on := 4, ground := Ground.data }], guard := none }) rfl (fun K hK => ?_) AllReadyH.nil
      go_simp
      refine hK.out _ _ trivial (fun _ => ?_)
      clear hK K
      try simp only [Act.put, List.setIfInBounds_toArray, List.set_cons_zero, List.set_cons_succ]
      refine wpAnyH_ready (rs := [6]) (by kernel_rfl) (by simp) ?_
      refine AllReadyH.cons (o := { dst := some 13, op := Op.call { callee := Callee.builtin Builtin.append, args := #[Operand.tmp 8, Operand.tmp 12], argTypes := #[24, 24] }, type := 24, pos := "l05_meta.go:104", after := #[{ on := 1, ground := Ground.data }, { on := 5, ground := Ground.data }, { on := 3, ground := Ground.chain }], guard := none }) rfl (fun K hK => ?_) AllReadyH.nil
      refine step_append_lies _ rfl _ _ 24 rfl (w.heap.size + 1) 3 i0 (.int .i64 0) 1 8 Try.underlying24 hi hz0 hz1 hz2 rfl (by decide) _ _ _ rfl H3a.out.2.2.2.1.2.2.1.1 ⟨w3.heap.size, 0, none⟩ 1 1 ([(IntKind.i64.wrap (2 + y))].map (.int .i64)) rfl rfl (gcells w3 [.int .i64 (IntKind.i64.wrap (2 + y))] 3) (gones .i64 [(IntKind.i64.wrap (2 + y))]) (by decide) (by unfold maxLen; simp) (by simp) (by have := H3a.out.2.1.lt; omega) _ rfl ?_
      intro t c w4 ho4 hg4 hat4 hlt4
      have H4 := hide (H3a.out.gens ho4 hg4 hat4)
      have zf4 := H4.out.2.froz
      obtain ⟨s0, s1, s2, s3, s4, s5⟩ := H4.out.2.cells
      clear ho4 hg4 hat4 hlt4
      refine hK.out _ _ trivial (fun _ => ?_)
      clear hK K
      try simp only [Act.put, List.setIfInBounds_toArray, List.set_cons_zero, List.set_cons_succ]
      refine wpAnyH_take (i := 7) (oi := { dst := some 14, op := Op.fieldAddr 27 (Operand.tmp 3) 0, type := 0, pos := "l05_meta.go:104", after := #[{ on := 0, ground := Ground.phase }, { on := 1, ground := Ground.phase }, { on := 2, ground := Ground.phase }, { on := 3, ground := Ground.phase }, { on := 4, ground := Ground.phase }, { on := 5, ground := Ground.phase }, { on := 6, ground := Ground.phase }], guard := none }) (v := ?_) rfl (by kernel_rfl) (by kernel_rfl) (by kernel_rfl) (fun _ _ _ h => h) (Or.inl ⟨by rfl, ?_⟩) trivial ?_
      rotate_left 1
      · (intro wq _; go_simp; try with_reducible rfl)
      try simp only [Act.put, List.setIfInBounds_toArray, List.set_cons_zero, List.set_cons_succ]
      refine wpAnyH_ready (rs := [8]) (by kernel_rfl) (by simp) ?_
      refine AllReadyH.cons (o := { dst := none, op := Op.store 24 (Operand.tmp 14) (Operand.tmp 13), type := 0, pos := "l05_meta.go:104", after := #[{ on := 7, ground := Ground.data }, { on := 6, ground := Ground.data }, { on := 6, ground := Ground.chain }, { on := 0, ground := Ground.phase }, { on := 1, ground := Ground.phase }, { on := 2, ground := Ground.phase }, { on := 3, ground := Ground.phase }, { on := 4, ground := Ground.phase }, { on := 5, ground := Ground.phase }, { on := 6, ground := Ground.phase }], guard := none }) rfl (fun K hK => ?_) AllReadyH.nil
      go_simp
      refine hK.out _ _ trivial (fun _ => ?_)
      clear hK K
      try simp only [Act.put, List.setIfInBounds_toArray, List.set_cons_zero, List.set_cons_succ]
      refine wpAnyH_done (by kernel_rfl) ?_ _
      go_wp2_with fail
      go_meet
      case rel => exact ⟨t, c, _, H4.out.1⟩
    refine AllReadyH.cons (o := { dst := some 10, op := Op.call { callee := Callee.value (Operand.func 76), args := #[Operand.tmp 9, Operand.const (Value.int IntKind.i64 3)], argTypes := #[52, 3] }, type := 3, pos := "l05_meta.go:104", after := #[{ on := 2, ground := Ground.data }], guard := none }) rfl (fun K hK => ?_) AllReadyH.nil
    · go_simp
      refine (below_any g n cap 3 ao f W.drew (by decide) (by decide) H2d.out.1.1).mono ?_
      rintro e w3 ⟨⟨y, rfl, hy0, hy1⟩, hcur, hgr⟩
      have H3 := hide (H2d.out.cur hcur hgr)
      have hk3 : w3.cell? ⟨X, 0, none⟩ = some (.slice (some ⟨a, 0, none⟩) 1 1) := H3.out.2.2.1.cells.1
      have H3a := hide (H3.out.alloc (.cells #[.int .i64 (IntKind.i64.wrap (2 + y))] 3))
      have hk3a : (w3.alloc (.cells #[.int .i64 (IntKind.i64.wrap (2 + y))] 3)).cell? ⟨X, 0, none⟩ = some (.slice (some ⟨a, 0, none⟩) 1 1) := H3a.out.2.2.1.cells.1
      clear hcur hgr
      go_wp2_with fail
      refine hK.out _ _ trivial (fun _ => ?_)
      clear hK K
      try simp only [Act.put, List.setIfInBounds_toArray, List.set_cons_zero, List.set_cons_succ]
      refine wpAnyH_take (i := 4) (oi := { dst := some 11, op := Op.binOp BinOp.add 3 (Operand.const (Value.int IntKind.i64 2)) (Operand.tmp 10) 3, type := 3, pos := "l05_meta.go:104", after := #[{ on := 3, ground := Ground.data }], guard := none }) (v := ?_) rfl (by kernel_rfl) (by kernel_rfl) (by kernel_rfl) (fun _ _ _ h => h) (Or.inl ⟨by rfl, ?_⟩) trivial ?_
      rotate_left 1
      · (intro wq _; go_simp; try with_reducible rfl)
      try simp only [Act.put, List.setIfInBounds_toArray, List.set_cons_zero, List.set_cons_succ]
      refine wpAnyH_ready (rs := [1, 5]) (by kernel_rfl) (by simp) ?_
      refine AllReadyH.cons (o := { dst := some 8, op := Op.load 24 (Operand.tmp 7), type := 24, pos := "l05_meta.go:104", after := #[{ on := 0, ground := Ground.data }], guard := none }) rfl (fun K hK => ?_) ?_
      · go_simp
        refine hK.out _ _ trivial (fun _ => ?_)
        clear hK K
        try simp only [Act.put, List.setIfInBounds_toArray, List.set_cons_zero, List.set_cons_succ]
        refine wpAnyH_ready (rs := [5]) (by kernel_rfl) (by simp) ?_
        refine AllReadyH.cons (o := { dst := some 12, op := Op.buildSlice 24 1 #[(0, Operand.tmp 11)], type := 24, pos := "l05_meta.go:104", after := #[{ on := 4, ground := Ground.data }], guard := none }) rfl (fun K hK => ?_) AllReadyH.nil
        go_simp
        refine hK.out _ _ trivial (fun _ => ?_)
        clear hK K
        try simp only [Act.put, List.setIfInBounds_toArray, List.set_cons_zero, List.set_cons_succ]
        refine wpAnyH_ready (rs := [6]) (by kernel_rfl) (by simp) ?_
        refine AllReadyH.cons (o := { dst := some 13, op := Op.call { callee := Callee.builtin Builtin.append, args := #[Operand.tmp 8, Operand.tmp 12], argTypes := #[24, 24] }, type := 24, pos := "l05_meta.go:104", after := #[{ on := 1, ground := Ground.data }, { on := 5, ground := Ground.data }, { on := 3, ground := Ground.chain }], guard := none }) rfl (fun K hK => ?_) AllReadyH.nil
        refine step_append_lies _ rfl _ _ 24 rfl (w.heap.size + 1) 3 i0 (.int .i64 0) 1 8 Try.underlying24 hi hz0 hz1 hz2 rfl (by decide) _ _ _ rfl H3a.out.2.2.2.1.2.2.1.1 ⟨w3.heap.size, 0, none⟩ 1 1 ([(IntKind.i64.wrap (2 + y))].map (.int .i64)) rfl rfl (gcells w3 [.int .i64 (IntKind.i64.wrap (2 + y))] 3) (gones .i64 [(IntKind.i64.wrap (2 + y))]) (by decide) (by unfold maxLen; simp) (by simp) (by have := H3a.out.2.1.lt; omega) _ rfl ?_
        intro t c w4 ho4 hg4 hat4 hlt4
        have H4 := hide (H3a.out.gens ho4 hg4 hat4)
        have zf4 := H4.out.2.froz
        obtain ⟨s0, s1, s2, s3, s4, s5⟩ := H4.out.2.cells
        clear ho4 hg4 hat4 hlt4
        refine hK.out _ _ trivial (fun _ => ?_)
        clear hK K
        try simp only [Act.put, List.setIfInBounds_toArray, List.set_cons_zero, List.set_cons_succ]
        refine wpAnyH_take (i := 7) (oi := { dst := some 14, op := Op.fieldAddr 27 (Operand.tmp 3) 0, type := 0, pos := "l05_meta.go:104", after := #[{ on := 0, ground := Ground.phase }, { on := 1, ground := Ground.phase }, { on := 2, ground := Ground.phase }, { on := 3, ground := Ground.phase }, { on := 4, ground := Ground.phase }, { on := 5, ground := Ground.phase }, { on := 6, ground := Ground.phase }], guard := none }) (v := ?_) rfl (by kernel_rfl) (by kernel_rfl) (by kernel_rfl) (fun _ _ _ h => h) (Or.inl ⟨by rfl, ?_⟩) trivial ?_
        rotate_left 1
        · (intro wq _; go_simp; try with_reducible rfl)
        try simp only [Act.put, List.setIfInBounds_toArray, List.set_cons_zero, List.set_cons_succ]
        refine wpAnyH_ready (rs := [8]) (by kernel_rfl) (by simp) ?_
        refine AllReadyH.cons (o := { dst := none, op := Op.store 24 (Operand.tmp 14) (Operand.tmp 13), type := 0, pos := "l05_meta.go:104", after := #[{ on := 7, ground := Ground.data }, { on := 6, ground := Ground.data }, { on := 6, ground := Ground.chain }, { on := 0, ground := Ground.phase }, { on := 1, ground := Ground.phase }, { on := 2, ground := Ground.phase }, { on := 3, ground := Ground.phase }, { on := 4, ground := Ground.phase }, { on := 5, ground := Ground.phase }, { on := 6, ground := Ground.phase }], guard := none }) rfl (fun K hK => ?_) AllReadyH.nil
        go_simp
        refine hK.out _ _ trivial (fun _ => ?_)
        clear hK K
        try simp only [Act.put, List.setIfInBounds_toArray, List.set_cons_zero, List.set_cons_succ]
        refine wpAnyH_done (by kernel_rfl) ?_ _
        go_wp2_with fail
        go_meet
        case rel => exact ⟨t, c, _, H4.out.1⟩
      refine AllReadyH.cons (o := { dst := some 12, op := Op.buildSlice 24 1 #[(0, Operand.tmp 11)], type := 24, pos := "l05_meta.go:104", after := #[{ on := 4, ground := Ground.data }], guard := none }) rfl (fun K hK => ?_) AllReadyH.nil
      · go_simp
        refine hK.out _ _ trivial (fun _ => ?_)
        clear hK K
        try simp only [Act.put, List.setIfInBounds_toArray, List.set_cons_zero, List.set_cons_succ]
        refine wpAnyH_ready (rs := [1]) (by kernel_rfl) (by simp) ?_
        refine AllReadyH.cons (o := { dst := some 8, op := Op.load 24 (Operand.tmp 7), type := 24, pos := "l05_meta.go:104", after := #[{ on := 0, ground := Ground.data }], guard := none }) rfl (fun K hK => ?_) AllReadyH.nil
        go_simp
        refine hK.out _ _ trivial (fun _ => ?_)
        clear hK K
        try simp only [Act.put, List.setIfInBounds_toArray, List.set_cons_zero, List.set_cons_succ]
        refine wpAnyH_ready (rs := [6]) (by kernel_rfl) (by simp) ?_
        refine AllReadyH.cons (o := { dst := some 13, op := Op.call { callee := Callee.builtin Builtin.append, args := #[Operand.tmp 8, Operand.tmp 12], argTypes := #[24, 24] }, type := 24, pos := "l05_meta.go:104", after := #[{ on := 1, ground := Ground.data }, { on := 5, ground := Ground.data }, { on := 3, ground := Ground.chain }], guard := none }) rfl (fun K hK => ?_) AllReadyH.nil
        refine step_append_lies _ rfl _ _ 24 rfl (w.heap.size + 1) 3 i0 (.int .i64 0) 1 8 Try.underlying24 hi hz0 hz1 hz2 rfl (by decide) _ _ _ rfl H3a.out.2.2.2.1.2.2.1.1 ⟨w3.heap.size, 0, none⟩ 1 1 ([(IntKind.i64.wrap (2 + y))].map (.int .i64)) rfl rfl (gcells w3 [.int .i64 (IntKind.i64.wrap (2 + y))] 3) (gones .i64 [(IntKind.i64.wrap (2 + y))]) (by decide) (by unfold maxLen; simp) (by simp) (by have := H3a.out.2.1.lt; omega) _ rfl ?_
        intro t c w4 ho4 hg4 hat4 hlt4
        have H4 := hide (H3a.out.gens ho4 hg4 hat4)
        have zf4 := H4.out.2.froz
        obtain ⟨s0, s1, s2, s3, s4, s5⟩ := H4.out.2.cells
        clear ho4 hg4 hat4 hlt4
        refine hK.out _ _ trivial (fun _ => ?_)
        clear hK K
        try simp only [Act.put, List.setIfInBounds_toArray, List.set_cons_zero, List.set_cons_succ]
        refine wpAnyH_take (i := 7) (oi := { dst := some 14, op := Op.fieldAddr 27 (Operand.tmp 3) 0, type := 0, pos := "l05_meta.go:104", after := #[{ on := 0, ground := Ground.phase }, { on := 1, ground := Ground.phase }, { on := 2, ground := Ground.phase }, { on := 3, ground := Ground.phase }, { on := 4, ground := Ground.phase }, { on := 5, ground := Ground.phase }, { on := 6, ground := Ground.phase }], guard := none }) (v := ?_) rfl (by kernel_rfl) (by kernel_rfl) (by kernel_rfl) (fun _ _ _ h => h) (Or.inl ⟨by rfl, ?_⟩) trivial ?_
        rotate_left 1
        · (intro wq _; go_simp; try with_reducible rfl)
        try simp only [Act.put, List.setIfInBounds_toArray, List.set_cons_zero, List.set_cons_succ]
        refine wpAnyH_ready (rs := [8]) (by kernel_rfl) (by simp) ?_
        refine AllReadyH.cons (o := { dst := none, op := Op.store 24 (Operand.tmp 14) (Operand.tmp 13), type := 0, pos := "l05_meta.go:104", after := #[{ on := 7, ground := Ground.data }, { on := 6, ground := Ground.data }, { on := 6, ground := Ground.chain }, { on := 0, ground := Ground.phase }, { on := 1, ground := Ground.phase }, { on := 2, ground := Ground.phase }, { on := 3, ground := Ground.phase }, { on := 4, ground := Ground.phase }, { on := 5, ground := Ground.phase }, { on := 6, ground := Ground.phase }], guard := none }) rfl (fun K hK => ?_) AllReadyH.nil
        go_simp
        refine hK.out _ _ trivial (fun _ => ?_)
        clear hK K
        try simp only [Act.put, List.setIfInBounds_toArray, List.set_cons_zero, List.set_cons_succ]
        refine wpAnyH_done (by kernel_rfl) ?_ _
        go_wp2_with fail
        go_meet
        case rel => exact ⟨t, c, _, H4.out.1⟩
  case rest =>
    obtain ⟨t, c, z, hdt⟩ := hcut.out
    have HI0 : Hid (DT w wc g ao n cap f X b (some ⟨t, 0, none⟩, c) [1, z] (fun _ => (none, 0)) (fun _ => []) true false false 0) := hdt
    clear hdt hcut H2d D0 zf
    go_wp2_with fail
    go_loopw [4] (fun kv wr => ∃ (k : Nat) (R : Nat → Option Addr × Nat) (L : Nat → List Int), k ≤ 3 ∧ kv = .int .i64 k ∧ Hid (DT w wr g ao n cap f X b (some ⟨t, 0, none⟩, c) [1, z] R L true false false 0 ∧ ∀ i, i < 3 → (L i).length ≤ if i < k then 3 else 0)) (fun kv _ => 3 - (intOf kv).toNat)
    case atStart => exact ⟨0, _, _, by omega, rfl, HI0.out, fun i _ => Nat.zero_le _⟩
    case round =>
      obtain ⟨k, R, L, hk, rfl, HI⟩ := hrel
      clear HI0
      by_cases hlt : k < 3
      · have hlt2 : (k : Int) < 3 := by omega
        have hk0 : (0 : Int) ≤ (k : Int) := by omega
        have HI1 : Hid (DT w wr g ao n cap f X b (some ⟨t, 0, none⟩, c) [1, z] R L true false false 0 ∧ (∀ j, j < 3 → j ≠ k → (L j).length ≤ if j < k then 3 else 0) ∧ (L k).length ≤ 0) := ⟨HI.out.1, fun j hj _ => HI.out.2 j hj, by have := HI.out.2 k hlt; simpa using this⟩
        clear HI
        go_wp2_with fail
        go_loopw [5] (fun iv wr => ∃ (i : Nat) (R : Nat → Option Addr × Nat) (L : Nat → List Int), i ≤ 2 ∧ iv = .int .i64 i ∧ Hid (DT w wr g ao n cap f X b (some ⟨t, 0, none⟩, c) [1, z] R L true false false 0 ∧ (∀ j, j < 3 → j ≠ k → (L j).length ≤ if j < k then 3 else 0) ∧ (L k).length ≤ i)) (fun iv _ => 3 - (intOf iv).toNat)
        case atStart => exact ⟨0, R, L, by omega, rfl, HI1.out⟩
        case round =>
          obtain ⟨i, R, L, hi2, rfl, HJ⟩ := hrel
          clear HI1
          go_wp2_with fail
          refine (below_any g n cap 3 ao f _ (by decide) (by decide) HJ.out.1.1.1).mono ?_
          rintro e w5 ⟨⟨x, rfl, hx0, hx1⟩, hcur, hgr⟩
          have H5 := hide (And.intro (HJ.out.1.cur hcur hgr) HJ.out.2)
          clear hcur hgr HJ
          by_cases hix : (i : Int) < x
          · have hl20 : (L k).length ≤ 20 := by have := H5.out.2.2; omega
            go_wp2_with fail
            have H5d := hide H5.out.1.drawn
            have D1 : w5.drew.cell? ⟨X, 1, none⟩ = some (.slice (some ⟨b, 0, none⟩) 3 3) := H5d.out.2.2.1.cells.2.1
            have D2 : w5.drew.cell? ⟨b, k, none⟩ = some (.slice (R k).1 (L k).length (R k).2) := H5d.out.2.2.2.1.1.cell hlt
            refine wp_region_held_drew (S := (fun w' => w'.cell? ⟨X, 1, none⟩ = some (.slice (some ⟨b, 0, none⟩) 3 3))) (by kernel_rfl) ?_ (fun hHeld => ?_)
            · exact D1
            refine wpAnyH_take (i := 0) (oi := { dst := some 25, op := Op.fieldAddr 27 (Operand.tmp 3) 1, type := 0, pos := "l05_meta.go:107", after := #[], guard := none }) (v := ?_) rfl (by kernel_rfl) (by kernel_rfl) (by kernel_rfl) (fun _ _ _ h => h) (Or.inl ⟨by rfl, ?_⟩) (by assumption) ?_
            rotate_left 1
            · (intro wq hSw; (try dsimp only at hSw); go_simp; try with_reducible rfl)
            try simp only [Act.put, List.setIfInBounds_toArray, List.set_cons_zero, List.set_cons_succ]
            refine wpAnyH_take (i := 1) (oi := { dst := some 26, op := Op.load 25 (Operand.tmp 25), type := 25, pos := "l05_meta.go:107", after := #[{ on := 0, ground := Ground.data }], guard := none }) (v := ?_) rfl (by kernel_rfl) (by kernel_rfl) (by kernel_rfl) (fun _ _ _ h => h) (Or.inl ⟨by rfl, ?_⟩) (by assumption) ?_
            rotate_left 1
            · (intro wq hSw; (try dsimp only at hSw); go_simp; try with_reducible rfl)
            try simp only [Act.put, List.setIfInBounds_toArray, List.set_cons_zero, List.set_cons_succ]
            refine wpAnyH_take (i := 2) (oi := { dst := some 27, op := Op.move (Operand.tmp 4), type := 3, pos := "l05_meta.go:107", after := #[], guard := none }) (v := ?_) rfl (by kernel_rfl) (by kernel_rfl) (by kernel_rfl) (fun _ _ _ h => h) (Or.inl ⟨by rfl, ?_⟩) (by assumption) ?_
            rotate_left 1
            · (intro wq hSw; (try dsimp only at hSw); go_simp; try with_reducible rfl)
            try simp only [Act.put, List.setIfInBounds_toArray, List.set_cons_zero, List.set_cons_succ]
            refine wpAnyH_take (i := 3) (oi := { dst := some 28, op := Op.fieldAddr 27 (Operand.tmp 3) 1, type := 0, pos := "l05_meta.go:107", after := #[], guard := none }) (v := ?_) rfl (by kernel_rfl) (by kernel_rfl) (by kernel_rfl) (fun _ _ _ h => h) (Or.inl ⟨by rfl, ?_⟩) (by assumption) ?_
            rotate_left 1
            · (intro wq hSw; (try dsimp only at hSw); go_simp; try with_reducible rfl)
            try simp only [Act.put, List.setIfInBounds_toArray, List.set_cons_zero, List.set_cons_succ]
            refine wpAnyH_take (i := 4) (oi := { dst := some 29, op := Op.load 25 (Operand.tmp 28), type := 25, pos := "l05_meta.go:107", after := #[{ on := 3, ground := Ground.data }], guard := none }) (v := ?_) rfl (by kernel_rfl) (by kernel_rfl) (by kernel_rfl) (fun _ _ _ h => h) (Or.inl ⟨by rfl, ?_⟩) (by assumption) ?_
            rotate_left 1
            · (intro wq hSw; (try dsimp only at hSw); go_simp; try with_reducible rfl)
            try simp only [Act.put, List.setIfInBounds_toArray, List.set_cons_zero, List.set_cons_succ]
            refine wpAnyH_take (i := 5) (oi := { dst := some 30, op := Op.move (Operand.tmp 4), type := 3, pos := "l05_meta.go:107", after := #[], guard := none }) (v := ?_) rfl (by kernel_rfl) (by kernel_rfl) (by kernel_rfl) (fun _ _ _ h => h) (Or.inl ⟨by rfl, ?_⟩) (by assumption) ?_
            rotate_left 1
            · (intro wq hSw; (try dsimp only at hSw); go_simp; try with_reducible rfl)
            try simp only [Act.put, List.setIfInBounds_toArray, List.set_cons_zero, List.set_cons_succ]
            refine wpAnyH_take (i := 6) (oi := { dst := some 31, op := Op.indexAddr 25 (Operand.tmp 29) (Operand.tmp 30), type := 0, pos := "l05_meta.go:107", after := #[{ on := 4, ground := Ground.data }, { on := 5, ground := Ground.data }], guard := none }) (v := ?_) rfl (by kernel_rfl) (by kernel_rfl) (by kernel_rfl) (fun _ _ _ h => h) (Or.inl ⟨by rfl, ?_⟩) (by assumption) ?_
            rotate_left 1
            · (intro wq hSw; (try dsimp only at hSw); go_simp; try with_reducible rfl)
            try simp only [Act.put, List.setIfInBounds_toArray, List.set_cons_zero, List.set_cons_succ]
            refine wpAnyH_take (i := 8) (oi := { dst := some 33, op := Op.move (Operand.tmp 0), type := 52, pos := "l05_meta.go:107", after := #[], guard := none }) (v := ?_) rfl (by kernel_rfl) (by kernel_rfl) (by kernel_rfl) (fun _ _ _ h => h) (Or.inl ⟨by rfl, ?_⟩) (by assumption) ?_
            rotate_left 1
            · (intro wq hSw; (try dsimp only at hSw); go_simp; try with_reducible rfl)
            try simp only [Act.put, List.setIfInBounds_toArray, List.set_cons_zero, List.set_cons_succ]
            refine wpAnyH_ready (rs := [7, 9]) (by kernel_rfl) (by simp) ?_
            refine AllReadyH.cons (o := { dst := some 32, op := Op.load 24 (Operand.tmp 31), type := 24, pos := "l05_meta.go:107", after := #[{ on := 6, ground := Ground.data }], guard := none }) rfl (fun K hK => ?_) ?_
            · go_simp
              refine hK.out _ _ ?_ (fun hHeld => ?_)
              · exact D1
              clear hK K
              try simp only [Act.put, List.setIfInBounds_toArray, List.set_cons_zero, List.set_cons_succ]
              refine wpAnyH_ready (rs := [9]) (by kernel_rfl) (by simp) ?_
              refine AllReadyH.cons (o := { dst := some 34, op := Op.call { callee := Callee.value (Operand.func 76), args := #[Operand.tmp 33, Operand.const (Value.int IntKind.i64 8)], argTypes := #[52, 3] }, type := 3, pos := "l05_meta.go:107", after := #[{ on := 8, ground := Ground.data }], guard := none }) rfl (fun K hK => ?_) AllReadyH.nil
              go_simp
              refine (below_any g n cap 8 ao f w5.drew (by decide) (by decide) H5d.out.1.1).mono ?_
              rintro e w6 ⟨⟨y, rfl, hy0, hy1⟩, hcur, hgr⟩
              have H6 := hide (H5d.out.cur hcur hgr)
              have hk6 : w6.cell? ⟨X, 1, none⟩ = some (.slice (some ⟨b, 0, none⟩) 3 3) := H6.out.2.2.1.cells.2.1
              have hr6 : w6.cell? ⟨b, k, none⟩ = some (.slice (R k).1 (L k).length (R k).2) := H6.out.2.2.2.1.1.cell hlt
              clear hcur hgr
              go_wp2_with fail
              refine hK.out _ _ ?_ (fun hHeld => ?_)
              · exact hk6
              clear hK K
              try simp only [Act.put, List.setIfInBounds_toArray, List.set_cons_zero, List.set_cons_succ]
              refine wpAnyH_ready (rs := [10]) (by kernel_rfl) (by simp) ?_
              refine AllReadyH.cons (o := { dst := some 35, op := Op.call { callee := Callee.value (Operand.func 83), args := #[Operand.tmp 32, Operand.tmp 34], argTypes := #[24, 3] }, type := 24, pos := "l05_meta.go:107", after := #[{ on := 7, ground := Ground.data }, { on := 9, ground := Ground.data }, { on := 9, ground := Ground.chain }], guard := none }) rfl (fun K hK => ?_) AllReadyH.nil
              go_simp
              refine (mark_weak _ (L k) y _ w6 hl20 (H6.out.2.2.2.1.2.2.2 k hlt).1).mono ?_
              rintro e w7 ⟨v7, M, rfl, hM7, ho7, b7⟩
              obtain ⟨ro, rc, rfl⟩ := (Src.of_owns ho7).form
              have H7 := hide (H6.out.below b7)
              have hk7 : w7.cell? ⟨X, 1, none⟩ = some (.slice (some ⟨b, 0, none⟩) 3 3) := H7.out.2.2.1.cells.2.1
              have hr7 : w7.cell? ⟨b, k, none⟩ = some (.slice (R k).1 (L k).length (R k).2) := H7.out.2.2.2.1.1.cell hlt
              have zf7 := H7.out.2.2.2.1.1.frozen k
              have H8 : Hid (DT w (w7.setCell ⟨b, k, none⟩ (.slice ro M.length rc)) g ao n cap f X b (some ⟨t, 0, none⟩, c) [1, z] (setr R k (ro, rc)) (fun j => if j = k then M else L j) true false false 0) := H7.out.rowf H6.out hlt ho7
              have hk8 := H8.out.2.2.1.cells.2.1
              clear ho7 b7
              go_wp2_with fail
              refine hK.out _ _ ?_ (fun hHeld => ?_)
              · exact hk7
              clear hK K
              try simp only [Act.put, List.setIfInBounds_toArray, List.set_cons_zero, List.set_cons_succ]
              refine wpAnyH_take (i := 11) (oi := { dst := some 36, op := Op.indexAddr 25 (Operand.tmp 26) (Operand.tmp 27), type := 0, pos := "l05_meta.go:107", after := #[{ on := 1, ground := Ground.data }, { on := 2, ground := Ground.data }, { on := 0, ground := Ground.phase }, { on := 1, ground := Ground.phase }, { on := 2, ground := Ground.phase }, { on := 3, ground := Ground.phase }, { on := 4, ground := Ground.phase }, { on := 5, ground := Ground.phase }, { on := 6, ground := Ground.phase }, { on := 7, ground := Ground.phase }, { on := 8, ground := Ground.phase }, { on := 9, ground := Ground.phase }, { on := 10, ground := Ground.phase }], guard := none }) (v := ?_) rfl (by kernel_rfl) (by kernel_rfl) (by kernel_rfl) (fun _ _ _ h => h) (Or.inl ⟨by rfl, ?_⟩) (by assumption) ?_
              rotate_left 1
              · (intro wq hSw; (try dsimp only at hSw); go_simp; try with_reducible rfl)
              try simp only [Act.put, List.setIfInBounds_toArray, List.set_cons_zero, List.set_cons_succ]
              refine wpAnyH_ready (rs := [12]) (by kernel_rfl) (by simp) ?_
              refine AllReadyH.cons (o := { dst := none, op := Op.store 24 (Operand.tmp 36) (Operand.tmp 35), type := 0, pos := "l05_meta.go:107", after := #[{ on := 11, ground := Ground.data }, { on := 10, ground := Ground.data }, { on := 10, ground := Ground.chain }, { on := 0, ground := Ground.phase }, { on := 1, ground := Ground.phase }, { on := 2, ground := Ground.phase }, { on := 3, ground := Ground.phase }, { on := 4, ground := Ground.phase }, { on := 5, ground := Ground.phase }, { on := 6, ground := Ground.phase }, { on := 7, ground := Ground.phase }, { on := 8, ground := Ground.phase }, { on := 9, ground := Ground.phase }, { on := 10, ground := Ground.phase }], guard := none }) rfl (fun K hK => ?_) AllReadyH.nil
              go_simp
              refine hK.out _ _ ?_ (fun hHeld => ?_)
              · exact hk8
              clear hK K
              try simp only [Act.put, List.setIfInBounds_toArray, List.set_cons_zero, List.set_cons_succ]
              refine wpAnyH_done (by kernel_rfl) ?_ _
              go_wp2_with fail
              go_roundw
              case rel => exact ⟨i + 1, _, _, by omega, by go_num, H8.out, fun j hj hne => by simp only [hne, if_false]; exact H5.out.2.1 j hj hne, by simp only [if_true]; have := H5.out.2.2; omega⟩
              case measure => simp [intOf]; omega
            refine AllReadyH.cons (o := { dst := some 34, op := Op.call { callee := Callee.value (Operand.func 76), args := #[Operand.tmp 33, Operand.const (Value.int IntKind.i64 8)], argTypes := #[52, 3] }, type := 3, pos := "l05_meta.go:107", after := #[{ on := 8, ground := Ground.data }], guard := none }) rfl (fun K hK => ?_) AllReadyH.nil
            · go_simp
              refine (below_any g n cap 8 ao f w5.drew (by decide) (by decide) H5d.out.1.1).mono ?_
              rintro e w6 ⟨⟨y, rfl, hy0, hy1⟩, hcur, hgr⟩
              have H6 := hide (H5d.out.cur hcur hgr)
              have hk6 : w6.cell? ⟨X, 1, none⟩ = some (.slice (some ⟨b, 0, none⟩) 3 3) := H6.out.2.2.1.cells.2.1
              have hr6 : w6.cell? ⟨b, k, none⟩ = some (.slice (R k).1 (L k).length (R k).2) := H6.out.2.2.2.1.1.cell hlt
              clear hcur hgr
              go_wp2_with fail
              refine hK.out _ _ ?_ (fun hHeld => ?_)
              · exact hk6
              clear hK K
              try simp only [Act.put, List.setIfInBounds_toArray, List.set_cons_zero, List.set_cons_succ]
              refine wpAnyH_ready (rs := [7]) (by kernel_rfl) (by simp) ?_
              refine AllReadyH.cons (o := { dst := some 32, op := Op.load 24 (Operand.tmp 31), type := 24, pos := "l05_meta.go:107", after := #[{ on := 6, ground := Ground.data }], guard := none }) rfl (fun K hK => ?_) AllReadyH.nil
              go_simp
              refine hK.out _ _ ?_ (fun hHeld => ?_)
              · exact hk6
              clear hK K
              try simp only [Act.put, List.setIfInBounds_toArray, List.set_cons_zero, List.set_cons_succ]
              refine wpAnyH_ready (rs := [10]) (by kernel_rfl) (by simp) ?_
              refine AllReadyH.cons (o := { dst := some 35, op := Op.call { callee := Callee.value (Operand.func 83), args := #[Operand.tmp 32, Operand.tmp 34], argTypes := #[24, 3] }, type := 24, pos := "l05_meta.go:107", after := #[{ on := 7, ground := Ground.data }, { on := 9, ground := Ground.data }, { on := 9, ground := Ground.chain }], guard := none }) rfl (fun K hK => ?_) AllReadyH.nil
              go_simp
              refine (mark_weak _ (L k) y _ w6 hl20 (H6.out.2.2.2.1.2.2.2 k hlt).1).mono ?_
              rintro e w7 ⟨v7, M, rfl, hM7, ho7, b7⟩
              obtain ⟨ro, rc, rfl⟩ := (Src.of_owns ho7).form
              have H7 := hide (H6.out.below b7)
              have hk7 : w7.cell? ⟨X, 1, none⟩ = some (.slice (some ⟨b, 0, none⟩) 3 3) := H7.out.2.2.1.cells.2.1
              have hr7 : w7.cell? ⟨b, k, none⟩ = some (.slice (R k).1 (L k).length (R k).2) := H7.out.2.2.2.1.1.cell hlt
              have zf7 := H7.out.2.2.2.1.1.frozen k
              have H8 : Hid (DT w (w7.setCell ⟨b, k, none⟩ (.slice ro M.length rc)) g ao n cap f X b (some ⟨t, 0, none⟩, c) [1, z] (setr R k (ro, rc)) (fun j => if j = k then M else L j) true false false 0) := H7.out.rowf H6.out hlt ho7
              have hk8 := H8.out.2.2.1.cells.2.1
              clear ho7 b7
              go_wp2_with fail
              refine hK.out _ _ ?_ (fun hHeld => ?_)
              · exact hk7
              clear hK K
              try simp only [Act.put, List.setIfInBounds_toArray, List.set_cons_zero, List.set_cons_succ]
              refine wpAnyH_take (i := 11) (oi := { dst := some 36, op := Op.indexAddr 25 (Operand.tmp 26) (Operand.tmp 27), type := 0, pos := "l05_meta.go:107", after := #[{ on := 1, ground := Ground.data }, { on := 2, ground := Ground.data }, { on := 0, ground := Ground.phase }, { on := 1, ground := Ground.phase }, { on := 2, ground := Ground.phase }, { on := 3, ground := Ground.phase }, { on := 4, ground := Ground.phase }, { on := 5, ground := Ground.phase }, { on := 6, ground := Ground.phase }, { on := 7, ground := Ground.phase }, { on := 8, ground := Ground.phase }, { on := 9, ground := Ground.phase }, { on := 10, ground := Ground.phase }], guard := none }) (v := ?_) rfl (by kernel_rfl) (by kernel_rfl) (by kernel_rfl) (fun _ _ _ h => h) (Or.inl ⟨by rfl, ?_⟩) (by assumption) ?_
              rotate_left 1
              · (intro wq hSw; (try dsimp only at hSw); go_simp; try with_reducible rfl)
              try simp only [Act.put, List.setIfInBounds_toArray, List.set_cons_zero, List.set_cons_succ]
              refine wpAnyH_ready (rs := [12]) (by kernel_rfl) (by simp) ?_
              refine AllReadyH.cons (o := { dst := none, op := Op.store 24 (Operand.tmp 36) (Operand.tmp 35), type := 0, pos := "l05_meta.go:107", after := #[{ on := 11, ground := Ground.data }, { on := 10, ground := Ground.data }, { on := 10, ground := Ground.chain }, { on := 0, ground := Ground.phase }, { on := 1, ground := Ground.phase }, { on := 2, ground := Ground.phase }, { on := 3, ground := Ground.phase }, { on := 4, ground := Ground.phase }, { on := 5, ground := Ground.phase }, { on := 6, ground := Ground.phase }, { on := 7, ground := Ground.phase }, { on := 8, ground := Ground.phase }, { on := 9, ground := Ground.phase }, { on := 10, ground := Ground.phase }], guard := none }) rfl (fun K hK => ?_) AllReadyH.nil
              go_simp
              refine hK.out _ _ ?_ (fun hHeld => ?_)
              · exact hk8
              clear hK K
              try simp only [Act.put, List.setIfInBounds_toArray, List.set_cons_zero, List.set_cons_succ]
              refine wpAnyH_done (by kernel_rfl) ?_ _
              go_wp2_with fail
              go_roundw
              case rel => exact ⟨i + 1, _, _, by omega, by go_num, H8.out, fun j hj hne => by simp only [hne, if_false]; exact H5.out.2.1 j hj hne, by simp only [if_true]; have := H5.out.2.2; omega⟩
              case measure => simp [intOf]; omega
          · go_wp2_with fail
            go_roundw
            case rel =>
              refine ⟨k + 1, R, L, by omega, by go_num, H5.out.1, fun j hj => ?_⟩
              by_cases e : j = k
              · subst e; rw [if_pos (by omega)]; have := H5.out.2.2; omega
              · have := H5.out.2.1 j hj e
                by_cases e2 : j < k
                · rw [if_pos (by omega)]; rw [if_pos e2] at this; exact this
                · rw [if_neg e2] at this; omega
            case measure => simp [intOf]; omega
      · have hlt2 : ¬ (k : Int) < 3 := by omega
        have HL8 : Hid (∀ i, i < 3 → (L i).length ≤ 8) := fun i hi => by have := HI.out.2 i hi; split at this <;> omega
        have H9 := hide HI.out.1
        clear HI
        go_wp2_with fail
        refine (once_any g n cap 2 ao f _ (by decide) (by decide) H9.out.1.1).mono ?_
        rintro e wa ⟨⟨x1, rfl⟩, hcur, hgr⟩
        have Ha := hide (H9.out.cur hcur hgr)
        clear hcur hgr H9
        have zfa := Ha.out.2.2.1.froz
        obtain ⟨a0, a1, a2, a3, a4, a5⟩ := Ha.out.2.2.1.cells
        have Hb := hide (Ha.out.set (i := 2) (v := .bool x1) rfl)
        go_wp2_with fail
        refine (once_any g n cap 3 ao f _ (by decide) (by decide) Hb.out.1.1).mono ?_
        rintro e wb ⟨⟨x2, rfl⟩, hcur, hgr⟩
        clear zfa a0 a1 a2 a3 a4 a5 Ha
        have Hc := hide (Hb.out.cur hcur hgr)
        clear hcur hgr Hb
        have zfb := Hc.out.2.2.1.froz
        obtain ⟨b0, b1, b2, b3, b4, b5⟩ := Hc.out.2.2.1.cells
        have Hd := hide (Hc.out.set (i := 3) (v := .bool x2) rfl)
        obtain ⟨d0, d1, d2, d3, d4, d5⟩ := Hd.out.2.2.1.cells
        have zfd := Hd.out.2.2.1.froz
        cases x2 with
        | true =>
          have He := hide (Hd.out.set (i := 4) (v := .bool false) rfl)
          go_wp2_with fail
          refine (below_any g n cap 9 ao f _ (by decide) (by decide) He.out.1.1).mono ?_
          clear zfb b0 b1 b2 b3 b4 b5 Hc zfd d0 d1 d2 d3 d4 d5 Hd
          rintro e wf ⟨⟨la, rfl, hla0, hla1⟩, hcur, hgr⟩
          have Hf := hide (He.out.cur hcur hgr)
          clear hcur hgr He
          have zff := Hf.out.2.2.1.froz
          obtain ⟨f0, f1, f2, f3, f4, f5⟩ := Hf.out.2.2.1.cells
          have Hg := hide (Hf.out.set (i := 5) (v := .int .i64 la) rfl)
          obtain ⟨r0, r1, r2, r3, r4, r5⟩ := Hg.out.2.1.cells
          obtain ⟨y0, y1, y2, y3, y4, y5⟩ := Hg.out.2.2.1.cells
          have z0 := Hg.out.2.1.froz
          clear Hf
          go_wp2_with fail
          refine bodyPost_ret (v := .agg #[.slice (some ⟨t, 0, none⟩) 2 c, .slice (some ⟨b, 0, none⟩) 3 3, .bool x1, .bool true, .bool false, .int .i64 la]) (by simp [results, Try.results45, go_sem, r0, r1, r2, r3, r4, r5]) rfl (Hg.out.ret (by simp) HL8.out)
        | false =>
          go_wp2_with fail
          refine (once_any g n cap 3 ao f _ (by decide) (by decide) Hd.out.1.1).mono ?_
          rintro e wc2 ⟨⟨x3, rfl⟩, hcur, hgr⟩
          clear zfb b0 b1 b2 b3 b4 b5 Hc zfd d0 d1 d2 d3 d4 d5
          have Hd2 := hide (Hd.out.cur hcur hgr)
          clear hcur hgr Hd
          have zfe := Hd2.out.2.2.1.froz
          obtain ⟨e0, e1, e2, e3, e4, e5⟩ := Hd2.out.2.2.1.cells
          have He := hide (Hd2.out.set (i := 4) (v := .bool x3) rfl)
          go_wp2_with fail
          refine (below_any g n cap 9 ao f _ (by decide) (by decide) He.out.1.1).mono ?_
          clear zfe e0 e1 e2 e3 e4 e5 Hd2
          rintro e wf ⟨⟨la, rfl, hla0, hla1⟩, hcur, hgr⟩
          have Hf := hide (He.out.cur hcur hgr)
          clear hcur hgr He
          have zff := Hf.out.2.2.1.froz
          obtain ⟨f0, f1, f2, f3, f4, f5⟩ := Hf.out.2.2.1.cells
          have Hg := hide (Hf.out.set (i := 5) (v := .int .i64 la) rfl)
          obtain ⟨r0, r1, r2, r3, r4, r5⟩ := Hg.out.2.1.cells
          obtain ⟨y0, y1, y2, y3, y4, y5⟩ := Hg.out.2.2.1.cells
          have z0 := Hg.out.2.1.froz
          clear Hf
          go_wp2_with fail
          refine bodyPost_ret (v := .agg #[.slice (some ⟨t, 0, none⟩) 2 c, .slice (some ⟨b, 0, none⟩) 3 3, .bool x1, .bool false, .bool x3, .int .i64 la]) (by simp [results, Try.results45, go_sem, r0, r1, r2, r3, r4, r5]) rfl (Hg.out.ret (by simp) HL8.out)
end Go.Proofs.Ytjbhgedbkajmdaa

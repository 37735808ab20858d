/- l7DrawRight, l4DrawRight of the model. -/
import Derived.Test.YtkeojhnifnkpiaaDrawMZ

namespace Go.Proofs.Ytkeojhnifnkpiaa
open Go.ChangeShapes Go.WideShapes Go.ChangeAt Go.RowKit
set_option linter.unusedVariables false
set_option linter.unusedSimpArgs false
set_option maxRecDepth 100000

theorem draw7 (g n cap : Nat) (ao : Option Addr) (f : Nat → Int) (w : World) (hc : Cur w g ao n cap f) :
    Calls Try.prog 127 #[.pointer (some ⟨g, 0, none⟩)] w fun e w' => ∃ (v : Value) (L : List Int), e = .returned v ∧ L.length ≤ 4 ∧ w'.ownsRow w.heap.size 3 1 v L.length (L.map (.int .i64)) ∧ CurW w w' g ao n cap f := by
  have HC := hide hc
  clear hc
  go_enter Try.func127, Try.ntmps127
  go_wp2
  go_loopw [3, 4] (fun v i wr => ∃ (k : Nat) (L : List Int), k ≤ 4 ∧ i = .int .i64 k ∧ L.length ≤ k ∧ Hid (wr.ownsRow w.heap.size 3 1 v L.length (L.map (.int .i64)) ∧ CurW w wr g ao n cap f)) (fun _ i _ => 4 - (intOf i).toNat)
  case atStart => exact ⟨0, [], by omega, rfl, by simp, gempty (Nat.le_refl _), (CurW.refl HC.out).alloc _⟩
  case round =>
    obtain ⟨k, L, hk, rfl, hL, HI⟩ := hrel
    go_wp2_with fail
    refine (below_any g n cap 4 ao f _ (by decide) (by decide) HI.out.2.1).mono ?_
    rintro e w1 ⟨⟨x, rfl, hx0, hx1⟩, hcur, hgr⟩
    have H1 : Hid (w1.ownsRow w.heap.size 3 1 u3 L.length (L.map (.int .i64)) ∧ CurW w w1 g ao n cap f) := ⟨owns_cur HI.out.1 hgr HI.out.2.2.2, HI.out.2.step hcur hgr⟩
    clear hcur hgr HI
    by_cases hlt : (k : Int) < x
    · go_wp2_with fail
      refine (below_any g n cap 6 ao f _ (by decide) (by decide) H1.out.2.1).mono ?_
      rintro e w2 ⟨⟨y, rfl, hy0, hy1⟩, hcur, hgr⟩
      have H2 : Hid (w2.ownsRow w.heap.size 3 1 u3 L.length (L.map (.int .i64)) ∧ CurW w w2 g ao n cap f) := ⟨owns_cur H1.out.1 hgr H1.out.2.2.2, H1.out.2.step hcur hgr⟩
      clear hcur hgr H1
      go_wp2_with fail
      refine (genpush_spec u3 L (1 + y) _ (by omega) (Src.of_owns H2.out.1)).mono ?_
      rintro e w3 ⟨v3, L3, rfl, hL3, ho3, b3⟩
      have H3 : Hid (w3.ownsRow w.heap.size 3 1 v3 L3.length (L3.map (.int .i64)) ∧ CurW w w3 g ao n cap f) := ⟨gmono ho3 H2.out.2.2.1.size, H2.out.2.below b3⟩
      clear ho3 b3 H2
      go_wp2
      go_roundw
      case rel => exact ⟨k + 1, L3, by omega, by go_num, by omega, H3.out⟩
      case measure => simp [intOf]; omega
    · go_wp2
      go_ret
      exact ⟨_, L, rfl, by omega, H1.out⟩

/-- A message that a draw has made. -/
def DrM (N : Nat) (w w' : World) (e : Ending) : Prop := ∃ (m : Mg) (ro : Option Addr) (rc : Nat), e = .returned (.agg #[.int .i64 m.k, .int .i64 m.c, .int .i64 m.v, .int .i64 m.h, .slice ro m.g.length rc]) ∧ m.g.length ≤ N ∧ w'.ownsRow w.heap.size 3 1 (.slice ro m.g.length rc) m.g.length (m.g.map (.int .i64))
theorem MB.cur {w w1 : World} {X g : Nat} {t : TypeId} {k c v d : Int} {ao : Option Addr} {n cap : Nat} (h : MB w X t k c v d ao n cap) (hg : w.grownBy w1 (some g)) (hne : g < X) : MB w1 X t k c v d ao n cap :=
  (hg.block X h.lt (by simp; omega)).trans h
theorem MB.set1 {w : World} {X : Nat} {t : TypeId} {k c v d : Int} {ao : Option Addr} {n cap : Nat} (h : MB w X t k c v d ao n cap) (x : Int) : MB (w.setCell ⟨X, 1, none⟩ (.int .i64 x)) X t k x v d ao n cap := set_blk _ h
theorem MB.set2 {w : World} {X : Nat} {t : TypeId} {k c v d : Int} {ao : Option Addr} {n cap : Nat} (h : MB w X t k c v d ao n cap) (x : Int) : MB (w.setCell ⟨X, 2, none⟩ (.int .i64 x)) X t k c x d ao n cap := set_blk _ h
theorem MB.set3 {w : World} {X : Nat} {t : TypeId} {k c v d : Int} {ao : Option Addr} {n cap : Nat} (h : MB w X t k c v d ao n cap) (x : Int) : MB (w.setCell ⟨X, 3, none⟩ (.int .i64 x)) X t k c v x ao n cap := set_blk _ h
theorem MB.set4 {w : World} {X : Nat} {t : TypeId} {k c v d : Int} {ao ao' : Option Addr} {n cap n' cap' : Nat} (h : MB w X t k c v d ao n cap) : MB (w.setCell ⟨X, 4, none⟩ (.slice ao' n' cap')) X t k c v d ao' n' cap' := set_blk _ h
theorem MB.set0 {w : World} {X : Nat} {t : TypeId} {k c v d : Int} {ao : Option Addr} {n cap : Nat} (h : MB w X t k c v d ao n cap) (x : Int) : MB (w.setCell ⟨X, 0, none⟩ (.int .i64 x)) X t x c v d ao n cap := set_blk _ h
theorem MB.far {w : World} {X Y i : Nat} {t : TypeId} {k c v d : Int} {ao : Option Addr} {n cap : Nat} {x : Value} (h : MB w X t k c v d ao n cap) (hne : ¬ X = Y) : MB (w.setCell ⟨Y, i, none⟩ x) X t k c v d ao n cap := (heap_far hne x).trans h
theorem MB.froz {w : World} {X : Nat} {t : TypeId} {k c v d : Int} {ao : Option Addr} {n cap : Nat} (h : MB w X t k c v d ao n cap) : ∀ i, w.frozen? ⟨X, i, none⟩ = false := fun i => by simp [World.frozen?, show w.heap[X]? = _ from h]
/-- The result's block, the cursor, and the message at X. -/
def DS (w wr : World) (g : Nat) (ao : Option Addr) (n cap : Nat) (f : Nat → Int) (X : Nat) (k c v h : Int) (ro : Option Addr) (rc : Nat) (G : List Int) : Prop :=
  CurW w wr g ao n cap f ∧ MB wr w.heap.size 40 0 0 0 0 none 0 0 ∧ MB wr X 40 k c v h ro G.length rc ∧ w.heap.size < X ∧ wr.ownsRow (w.heap.size + 1) 3 1 (.slice ro G.length rc) G.length (G.map (.int .i64)) ∧ (Value.slice ro G.length rc).ownBlock ≠ some X
theorem owns_far {w : World} {B X i : Nat} {t : TypeId} {v x : Value} {l : Nat} {xs : List Value} (h : w.ownsRow B t 1 v l xs) (hne : v.ownBlock ≠ some X) : (w.setCell ⟨X, i, none⟩ x).ownsRow B t 1 v l xs := by
  obtain ⟨h1, h2⟩ := h
  refine ⟨h1, ?_⟩
  rcases h2 with h2 | ⟨b, c, cur, e, hb, hh, r⟩
  · exact .inl h2
  · exact .inr ⟨b, c, cur, e, hb, (heap_far (fun e2 => hne (by rw [e, e2]; rfl)) x).trans hh, r⟩
theorem DS.cur {w wr w1 : World} {g : Nat} {ao : Option Addr} {n cap : Nat} {f : Nat → Int} {X : Nat} {k c v h : Int} {ro : Option Addr} {rc : Nat} {G : List Int} (d : DS w wr g ao n cap f X k c v h ro rc G) (hc : Cur w1 g ao n cap f) (hg : wr.grownBy w1 (some g)) : DS w w1 g ao n cap f X k c v h ro rc G := by
  have hgl := d.1.2.2
  exact ⟨d.1.step hc hg, d.2.1.cur hg hgl, d.2.2.1.cur hg (by have := d.2.2.2.1; omega), d.2.2.2.1, owns_cur d.2.2.2.2.1 hg (by omega), d.2.2.2.2.2⟩
theorem DS.set {w wr : World} {g : Nat} {ao : Option Addr} {n cap : Nat} {f : Nat → Int} {X i : Nat} {k c v h k' c' v' h' : Int} {ro : Option Addr} {rc : Nat} {G : List Int} {x : Value} (d : DS w wr g ao n cap f X k c v h ro rc G) (hm : MB (wr.setCell ⟨X, i, none⟩ x) X 40 k' c' v' h' ro G.length rc) : DS w (wr.setCell ⟨X, i, none⟩ x) g ao n cap f X k' c' v' h' ro rc G :=
  ⟨d.1.set (Nat.le_of_lt d.2.2.2.1), d.2.1.far (by have := d.2.2.2.1; omega), hm, d.2.2.2.1, owns_far d.2.2.2.2.1 d.2.2.2.2.2, d.2.2.2.2.2⟩
/-- Its numbers put anew. -/
theorem DS.gens {w wr : World} {g : Nat} {ao : Option Addr} {n cap : Nat} {f : Nat → Int} {X : Nat} {k c v h : Int} {ro ro' : Option Addr} {rc rc' l : Nat} {G' : List Int} (hcw : CurW w wr g ao n cap f) (hR : MB wr w.heap.size 40 0 0 0 0 none 0 0) (hM : MB wr X 40 k c v h ro l rc) (hX : w.heap.size < X)
    (ho : wr.ownsRow (w.heap.size + 1) 3 1 (.slice ro' G'.length rc') G'.length (G'.map (.int .i64))) (hne : (Value.slice ro' G'.length rc').ownBlock ≠ some X) : DS w (wr.setCell ⟨X, 4, none⟩ (.slice ro' G'.length rc')) g ao n cap f X k c v h ro' rc' G' :=
  ⟨hcw.set (Nat.le_of_lt hX), hR.far (by omega), hM.set4, hX, owns_far ho hne, hne⟩
/-- The message handed back. -/
theorem DS.ret {w wr : World} {g : Nat} {ao : Option Addr} {n cap : Nat} {f : Nat → Int} {X : Nat} {k c v h : Int} {ro : Option Addr} {rc : Nat} {G : List Int} (d : DS w wr g ao n cap f X k c v h ro rc G) {N : Nat} (hG : G.length ≤ N) :
    DrM N w (put5 wr w.heap.size 0 (.int .i64 k) (.int .i64 c) (.int .i64 v) (.int .i64 h) (.slice ro G.length rc)) (.returned (.agg #[.int .i64 k, .int .i64 c, .int .i64 v, .int .i64 h, .slice ro G.length rc])) ∧ CurW w (put5 wr w.heap.size 0 (.int .i64 k) (.int .i64 c) (.int .i64 v) (.int .i64 h) (.slice ro G.length rc)) g ao n cap f := by
  refine ⟨⟨⟨k, c, v, h, G⟩, ro, rc, rfl, hG, ?_⟩, ((((d.1.set (Nat.le_refl _)).set (Nat.le_refl _)).set (Nat.le_refl _)).set (Nat.le_refl _)).set (Nat.le_refl _)⟩
  obtain ⟨h1, h2⟩ := d.2.2.2.2.1
  refine ⟨h1, ?_⟩
  rcases h2 with h2 | ⟨b, cp, cur, e, hb, hh, r⟩
  · exact .inl h2
  · exact .inr ⟨b, cp, cur, e, by omega, (put5_far _ _ _ _ _ (by omega)).trans hh, r⟩

theorem draw4r (g n cap : Nat) (ao : Option Addr) (f : Nat → Int) (w : World) (hc : Cur w g ao n cap f) :
    Calls Try.prog 83 #[.pointer (some ⟨g, 0, none⟩)] w fun e w' => DrM 4 w w' e ∧ CurW w w' g ao n cap f := by
  have HC := hide hc
  clear hc
  go_enter Try.func83, Try.ntmps83
  go_wp2_with fail
  refine (below_any g n cap 5 ao f _ (by decide) (by decide) ((CurW.refl HC.out).alloc _).1).mono ?_
  rintro e w1 ⟨⟨x, rfl, hx0, hx1⟩, hcur, hgr⟩
  have H1 : Hid (CurW w w1 g ao n cap f ∧ MB w1 w.heap.size 40 0 0 0 0 none 0 0) := ⟨((CurW.refl HC.out).alloc _).step hcur hgr, (MB.new w 40 0 0 0 0 none 0 0).cur hgr HC.out.lt⟩
  clear hcur hgr
  have hsz1 : Hid (w.heap.size < w1.heap.size) := H1.out.2.lt
  by_cases h5 : x = 4
  · subst h5
    have HD : Hid (DS w (w1.alloc (.cells #[.int .i64 5, .int .i64 0, .int .i64 0, .int .i64 0, .slice none 0 0] 40)) g ao n cap f w1.heap.size 5 0 0 0 none 0 []) := ⟨H1.out.1.alloc _, H1.out.2.below ((Below.refl _ _).alloc (Nat.le_refl _) _) H1.out.2.lt, MB.new _ _ _ _ _ _ _ _ _, H1.out.2.lt, gnil, by simp [Value.ownBlock]⟩
    clear H1
    go_wp2_with fail
    refine (draw7 g n cap ao f _ HD.out.1.1).mono ?_
    rintro e w2 ⟨v7, L, rfl, hL, ho7, hcw⟩
    obtain ⟨ro, rc, rfl⟩ := (Src.of_owns ho7).form
    have D2 := HD.out.cur hcw.1 hcw.2.1
    have hX2 := D2.2.2.1
    have ho7' : w2.ownsRow (w1.heap.size + 1) 3 1 (.slice ro L.length rc) L.length (L.map (.int .i64)) := by simpa using ho7
    have H2 : Hid (DS w (w2.setCell ⟨w1.heap.size, 4, none⟩ (.slice ro L.length rc)) g ao n cap f w1.heap.size 5 0 0 0 ro rc L) := DS.gens D2.1 D2.2.1 hX2 hsz1.out (gmono ho7' (by have := hsz1.out; omega)) (fun e => by have := (World.ownsRow.lt ho7' _ e).1; omega)
    obtain ⟨x0, x1, x2, x3, x4⟩ := hX2.cells
    have zf := hX2.froz
    clear ho7 hcw ho7' D2 hX2 HD
    go_wp2_with fail
    refine (below_any g n cap 9 ao f _ (by decide) (by decide) H2.out.1.1).mono ?_
    rintro e w3 ⟨⟨y, rfl, hy0, hy1⟩, hcur, hgr⟩
    have H3a := hide (H2.out.cur hcur hgr)
    have H3 := hide (H3a.out.set (H3a.out.2.2.1.set2 y))
    obtain ⟨t0, t1, t2, t3, t4⟩ := H3a.out.2.2.1.cells
    have zf3 := H3a.out.2.2.1.froz
    clear hcur hgr H2 x0 x1 x2 x3 x4 zf
    obtain ⟨r0, r1, r2, r3, r4⟩ := H3.out.2.1.cells
    obtain ⟨y0, y1, y2, y3, y4⟩ := H3.out.2.2.1.cells
    have z0 := H3.out.2.1.froz
    go_wp2_with fail
    exact bodyPost_ret (v := .agg #[.int .i64 5, .int .i64 0, .int .i64 y, .int .i64 0, .slice ro L.length rc]) (by simp [results, Try.results83, go_sem, r0, r1, r2, r3, r4]) rfl (H3.out.ret (by first | omega | simp))
  · have HD : Hid (DS w (w1.alloc (.cells #[.int .i64 (1 + x), .int .i64 0, .int .i64 0, .int .i64 0, .slice none 0 0] 40)) g ao n cap f w1.heap.size (1 + x) 0 0 0 none 0 []) := ⟨H1.out.1.alloc _, H1.out.2.below ((Below.refl _ _).alloc (Nat.le_refl _) _) H1.out.2.lt, MB.new _ _ _ _ _ _ _ _ _, H1.out.2.lt, gnil, by simp [Value.ownBlock]⟩
    have hd5 : decide (1 + x = 5) = false := by simp; omega
    have hd5' : ¬ 1 + x = 5 := by omega
    clear H1
    go_wp2_with fail
    refine (below_any g n cap 8 ao f _ (by decide) (by decide) HD.out.1.1).mono ?_
    rintro e w2 ⟨⟨y, rfl, hy0, hy1⟩, hcur, hgr⟩
    have H2a := hide (HD.out.cur hcur hgr)
    have H2 := hide (H2a.out.set (H2a.out.2.2.1.set1 y))
    obtain ⟨x0, x1, x2, x3, x4⟩ := H2a.out.2.2.1.cells
    have zf := H2a.out.2.2.1.froz
    clear hcur hgr HD
    go_wp2_with fail
    refine (below_any g n cap 9 ao f _ (by decide) (by decide) H2.out.1.1).mono ?_
    rintro e w3 ⟨⟨z, rfl, hz0, hz1⟩, hcur, hgr⟩
    have H3a := hide (H2.out.cur hcur hgr)
    have H3 := hide (H3a.out.set (H3a.out.2.2.1.set2 (1 + z)))
    clear hcur hgr H2 x0 x1 x2 x3 x4 zf H2a
    obtain ⟨t0, t1, t2, t3, t4⟩ := H3a.out.2.2.1.cells
    have zf3 := H3a.out.2.2.1.froz
    by_cases h3 : x = 2
    · subst h3
      go_wp2_with fail
      refine (below_any g n cap 3 ao f _ (by decide) (by decide) H3.out.1.1).mono ?_
      rintro e w4 ⟨⟨q, rfl, hq0, hq1⟩, hcur, hgr⟩
      have H4a := hide (H3.out.cur hcur hgr)
      have H4 := hide (H4a.out.set (H4a.out.2.2.1.set3 q))
      clear hcur hgr H3 H3a t0 t1 t2 t3 t4 zf3
      obtain ⟨t0, t1, t2, t3, t4⟩ := H4a.out.2.2.1.cells
      have zf4 := H4a.out.2.2.1.froz
      obtain ⟨r0, r1, r2, r3, r4⟩ := H4.out.2.1.cells
      obtain ⟨y0, y1, y2, y3, y4⟩ := H4.out.2.2.1.cells
      have z0 := H4.out.2.1.froz
      go_wp2_with fail
      exact bodyPost_ret (v := .agg #[.int .i64 (1 + 2), .int .i64 y, .int .i64 (1 + z), .int .i64 q, .slice none 0 0]) (by simp [results, Try.results83, go_sem, r0, r1, r2, r3, r4]) rfl (H4.out.ret (by first | omega | simp))
    · have hd3 : decide (1 + x = 3) = false := by simp; omega
      have hd3' : ¬ 1 + x = 3 := by omega
      obtain ⟨r0, r1, r2, r3, r4⟩ := H3.out.2.1.cells
      obtain ⟨y0, y1, y2, y3, y4⟩ := H3.out.2.2.1.cells
      have z0 := H3.out.2.1.froz
      go_wp2_with fail
      exact bodyPost_ret (v := .agg #[.int .i64 (1 + x), .int .i64 y, .int .i64 (1 + z), .int .i64 0, .slice none 0 0]) (by simp [results, Try.results83, go_sem, r0, r1, r2, r3, r4]) rfl (H3.out.ret (by first | omega | simp))
end Go.Proofs.Ytkeojhnifnkpiaa

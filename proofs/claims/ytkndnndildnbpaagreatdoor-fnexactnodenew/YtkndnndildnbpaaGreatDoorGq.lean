/- What stays as it was from a block on. -/
import Derived.Test.YtkndnndildnbpaaGreatDoorGa
import Derived.Test.YtkndnndildnbpaaGreatDoorGh
import Derived.Test.YtkndnndildnbpaaGreatDoorGd
import Derived.Test.YtkndnndildnbpaaGreatDoorMtNZ
import Derived.Test.YtkndnndildnbpaaGreatDoorGi
import Derived.Deep.Cut
import Derived.Deep.RegionHeld3
import Derived.Deep.AppendLies
import Derived.Test.YtkndnndildnbpaaGreatDoorNdCZ

namespace Go.Proofs.YtkndnndildnbpaaGreatDoor
open Go.ChangeShapes Go.WideShapes Go.ChangeAt Go.RowKit
set_option linter.unusedVariables false
set_option linter.unusedSimpArgs false

theorem cur_far {w : World} {R g j : Nat} (h : ¬ g = R) (v : Value) : (w.setCell ⟨R, j, none⟩ v).heap[g]? = w.heap[g]? := by
  simp only [World.setCell, Array.getElem?_modify]
  rw [if_neg (fun e => h e.symm)]
theorem grown_of_below {w w' : World} (h : Below w.heap.size w w') (row : Option Nat) : w.grownBy w' row := ⟨h.os, h.tape, h.output, h.size, fun k hk _ => h.block k hk⟩
/-- From block B on all that was there is as it was. -/
def Kp (B : Nat) (w w2 : World) : Prop := w.heap.size ≤ w2.heap.size ∧ ∀ j, B ≤ j → j < w.heap.size → w2.heap[j]? = w.heap[j]?
theorem Kp.refl (B : Nat) (w : World) : Kp B w w := ⟨Nat.le_refl _, fun _ _ _ => rfl⟩
theorem Kp.trans {B : Nat} {w w1 w2 : World} (h : Kp B w w1) (h' : Kp B w1 w2) : Kp B w w2 := ⟨Nat.le_trans h.1 h'.1, fun j a b => (h'.2 j a (Nat.lt_of_lt_of_le b h.1)).trans (h.2 j a b)⟩
theorem Kp.grown {B g : Nat} {w w1 : World} (hg : w.grownBy w1 (some g)) (h : g < B) : Kp B w w1 := ⟨hg.size, fun j a b => hg.block j b (fun e => by cases e; omega)⟩
theorem Kp.below {B : Nat} {w w1 : World} (hb : Below w.heap.size w w1) : Kp B w w1 := ⟨hb.size, fun j _ b => hb.block j b⟩
theorem Kp.set {B b i : Nat} {w : World} {v : Value} (h : b < B) : Kp B w (w.setCell ⟨b, i, none⟩ v) := ⟨by simp [World.setCell], fun j a _ => cur_far (by omega) v⟩
/-- A row's slice. -/
def sv (l : List Int) (r : Option Addr × Nat) : Value := .slice r.1 l.length r.2
/-- A list in memory from B on. -/
def Lw (B : Nat) (wr : World) (l : List Int) (r : Option Addr × Nat) : Prop := wr.ownsRow B 3 1 (sv l r) l.length (l.map (.int .i64))
/-- Generations and three rows of marks, in memory from B on, the rows' slices at block b. -/
def DMr (B : Nat) (wr : World) (b : Nat) (r : Option Addr × Nat) (g : List Int) (R : Nat → Option Addr × Nat) (L : Nat → List Int) : Prop :=
  wr.rowIs b 22 3 (fun i => sv (L i) (R i)) ∧ B ≤ b ∧ (Lw B wr g r ∧ (sv g r).ownBlock ≠ some b) ∧
  ∀ i, i < 3 → Lw B wr (L i) (R i) ∧ (sv (L i) (R i)).ownBlock ≠ some b ∧ ∀ t, (sv g r).ownBlock = some t → (sv (L i) (R i)).ownBlock ≠ some t
/-- Block X is none of them. -/
def DMx (X b : Nat) (r : Option Addr × Nat) (g : List Int) (R : Nat → Option Addr × Nat) (L : Nat → List Int) : Prop :=
  X ≠ b ∧ (sv g r).ownBlock ≠ some X ∧ ∀ i, i < 3 → (sv (L i) (R i)).ownBlock ≠ some X
theorem Lw.grown {B : Nat} {wr w1 : World} {l : List Int} {r : Option Addr × Nat} {row : Option Nat} (h : Lw B wr l r) (hg : wr.grownBy w1 row) (hr : ∀ k, row = some k → (sv l r).ownBlock ≠ some k) : Lw B w1 l r := by
  obtain ⟨h1, h2⟩ := h
  refine ⟨h1, ?_⟩
  rcases h2 with h2 | ⟨b, c, cur, e, hb, hh, q⟩
  · exact .inl h2
  · refine .inr ⟨b, c, cur, e, hb, (hg.block b (Array.getElem?_eq_some_iff.1 hh).1 (fun e2 => hr b e2.symm ?_)).trans hh, q⟩
    rw [e]; rfl
theorem Lw.lt {B : Nat} {wr : World} {l : List Int} {r : Option Addr × Nat} (h : Lw B wr l r) {t : Nat} (ht : (sv l r).ownBlock = some t) : B ≤ t ∧ t < wr.heap.size := World.ownsRow.lt h t ht
theorem DMr.grown {B : Nat} {wr w1 : World} {b : Nat} {r : Option Addr × Nat} {g : List Int} {R : Nat → Option Addr × Nat} {L : Nat → List Int} {row : Option Nat} (h : DMr B wr b r g R L) (hg : wr.grownBy w1 row) (hr : ∀ k, row = some k → k < B) : DMr B w1 b r g R L := by
  obtain ⟨h1, h2, h3, h4⟩ := h
  have key : ∀ l r', Lw B wr l r' → Lw B w1 l r' := fun l r' hl => hl.grown hg (fun k hk e => by have := (hl.lt e).1; have := hr k hk; omega)
  exact ⟨h1.of_block (hg.block b h1.lt (fun e => by have := hr b e.symm; omega)), h2, ⟨key _ _ h3.1, h3.2⟩, fun i hi => ⟨key _ _ (h4 i hi).1, (h4 i hi).2⟩⟩
theorem DMr.below {B : Nat} {wr w1 : World} {b : Nat} {r : Option Addr × Nat} {g : List Int} {R : Nat → Option Addr × Nat} {L : Nat → List Int} (h : DMr B wr b r g R L) (hb : Below wr.heap.size wr w1) : DMr B w1 b r g R L := h.grown (grown_of_below hb none) (fun k hk => by cases hk)
/-- A store into block X. -/
theorem DMr.far {B X i : Nat} {wr : World} {b : Nat} {r : Option Addr × Nat} {g : List Int} {R : Nat → Option Addr × Nat} {L : Nat → List Int} {v : Value} (h : DMr B wr b r g R L) (hx : DMx X b r g R L) : DMr B (wr.setCell ⟨X, i, none⟩ v) b r g R L := by
  obtain ⟨h1, h2, h3, h4⟩ := h
  have hg : wr.grownBy (wr.setCell ⟨X, i, none⟩ v) (some X) := ⟨rfl, rfl, rfl, by simp [World.setCell], fun k hk hne => cur_far (fun e => hne (by rw [e])) v⟩
  exact ⟨h1.of_block (cur_far (fun e => hx.1 e.symm) v), h2, ⟨h3.1.grown hg (fun k hk => by cases hk; exact hx.2.1), h3.2⟩, fun j hj => ⟨(h4 j hj).1.grown hg (fun k hk => by cases hk; exact hx.2.2 j hj), (h4 j hj).2⟩⟩
theorem DMr.fresh {B : Nat} {wr : World} {b : Nat} {r : Option Addr × Nat} {g : List Int} {R : Nat → Option Addr × Nat} {L : Nat → List Int} (h : DMr B wr b r g R L) : DMx wr.heap.size b r g R L := by
  refine ⟨fun e => ?_, fun e => ?_, fun i hi e => ?_⟩
  · have := h.1.lt; omega
  · have := (h.2.2.1.1.lt e).2; omega
  · have := ((h.2.2.2 i hi).1.lt e).2; omega
theorem DMr.mono {B B' : Nat} {wr : World} {b : Nat} {r : Option Addr × Nat} {g : List Int} {R : Nat → Option Addr × Nat} {L : Nat → List Int} (h : DMr B wr b r g R L) (hB : B' ≤ B) : DMr B' wr b r g R L :=
  ⟨h.1, Nat.le_trans hB h.2.1, ⟨gmono h.2.2.1.1 hB, h.2.2.1.2⟩, fun i hi => ⟨gmono (h.2.2.2 i hi).1 hB, (h.2.2.2 i hi).2⟩⟩
theorem Lw.sl {B : Nat} {wr : World} {l : List Int} {r : Option Addr × Nat} (h : Lw B wr l r) : SL .i64 wr r.1 l.length (fun i => l.getD i 0) ∧ l.length ≤ r.2 := by
  refine ⟨(Src.of_owns h).slu, ?_⟩
  rcases h.2 with ⟨e, h0⟩ | ⟨b, c, cur, e, hb, hh, hn, _⟩
  · omega
  · injection e with _ _ e3
    rw [e3]; exact hn
theorem DMr.mv {B : Nat} {wr : World} {b : Nat} {r : Option Addr × Nat} {g : List Int} {R : Nat → Option Addr × Nat} {L : Nat → List Int} (h : DMr B wr b r g R L) : MV wr r.1 r.2 (some ⟨b, 0, none⟩) 3 g 3 L :=
  ⟨⟨h.2.2.1.1.sl.2, Nat.le_refl _⟩, h.2.2.1.1.sl.1, fun i hi => ⟨b, 0, (R i).1, (R i).2, rfl, by simpa [sv] using h.1.cell hi, (h.2.2.2 i hi).1.sl.2, (h.2.2.2 i hi).1.sl.1⟩⟩
/-- A row put anew, of memory that is new. -/
theorem DMr.put {B k : Nat} {wr : World} {b : Nat} {r r' : Option Addr × Nat} {g M : List Int} {R : Nat → Option Addr × Nat} {L : Nat → List Int} (h : DMr B wr b r g R L) (hk : k < 3) (hM : Lw B wr M r') (hb : (sv M r').ownBlock ≠ some b) (hgn : ∀ t, (sv g r).ownBlock = some t → (sv M r').ownBlock ≠ some t) :
    DMr B (wr.setCell ⟨b, k, none⟩ (sv M r')) b r g (setr R k r') (fun i => if i = k then M else L i) := by
  obtain ⟨h1, h2, h3, h4⟩ := h
  have hg : wr.grownBy (wr.setCell ⟨b, k, none⟩ (sv M r')) (some b) := ⟨rfl, rfl, rfl, by simp [World.setCell], fun j hj hne => cur_far (fun e => hne (by rw [e])) _⟩
  refine ⟨(h1.set k (sv M r')).congr fun i hi => ?_, h2, ⟨h3.1.grown hg (fun t ht => by cases ht; exact h3.2), h3.2⟩, fun i hi => ?_⟩
  · by_cases e : i = k
    · subst e; simp [setr_at]
    · simp [e, setr_ne _ _ _ e]
  · by_cases e : i = k
    · subst e
      simp only [setr_at, if_true]
      exact ⟨hM.grown hg (fun t ht => by cases ht; exact hb), hb, hgn⟩
    · simp only [setr_ne _ _ _ e, e, if_false]
      exact ⟨(h4 i hi).1.grown hg (fun t ht => by cases ht; exact (h4 i hi).2.1), (h4 i hi).2⟩
theorem DMx.put {X b k : Nat} {r r' : Option Addr × Nat} {g M : List Int} {R : Nat → Option Addr × Nat} {L : Nat → List Int} (h : DMx X b r g R L) (hX : (sv M r').ownBlock ≠ some X) : DMx X b r g (setr R k r') (fun i => if i = k then M else L i) := by
  refine ⟨h.1, h.2.1, fun i hi => ?_⟩
  by_cases e : i = k
  · subst e; simp only [setr_at, if_true]; exact hX
  · simp only [setr_ne _ _ _ e, e, if_false]; exact h.2.2 i hi
theorem Lw.kp {B : Nat} {wr w1 : World} {l : List Int} {r : Option Addr × Nat} (h : Lw B wr l r) (hk : Kp B wr w1) : Lw B w1 l r := by
  obtain ⟨h1, h2⟩ := h
  refine ⟨h1, ?_⟩
  rcases h2 with h2 | ⟨b, c, cur, e, hb, hh, q⟩
  · exact .inl h2
  · exact .inr ⟨b, c, cur, e, hb, (hk.2 b hb (Array.getElem?_eq_some_iff.1 hh).1).trans hh, q⟩
theorem DMr.kp {B : Nat} {wr w1 : World} {b : Nat} {r : Option Addr × Nat} {g : List Int} {R : Nat → Option Addr × Nat} {L : Nat → List Int} (h : DMr B wr b r g R L) (hk : Kp B wr w1) : DMr B w1 b r g R L :=
  ⟨h.1.of_block (hk.2 b h.2.1 h.1.lt), h.2.1, ⟨h.2.2.1.1.kp hk, h.2.2.1.2⟩, fun i hi => ⟨(h.2.2.2 i hi).1.kp hk, (h.2.2.2 i hi).2⟩⟩
theorem kb_set {w : World} {X i : Nat} {t : TypeId} {c c' : Array Value} {v : Value} (h : w.heap[X]? = some (.cells c t (0, 0))) (e : c.setIfInBounds i v = c') : (w.setCell ⟨X, i, none⟩ v).heap[X]? = some (.cells c' t (0, 0)) := by
  simp [World.setCell, Array.getElem?_modify, h, e]
/-- The copy under way: what is copied at block w, the result's block, the copy's at the third. -/
def CpS (w wr : World) (go : Option Addr) (gc : Nat) (bo : Option Addr) (bc : Nat) (G : List Int) (k : Nat) (L : Nat → List Int) (fi ol he : Bool) (la : Int) (i : Nat) (r : Option Addr × Nat) (bv : Value) (R : Nat → Option Addr × Nat) : Prop :=
  Below w.heap.size w wr ∧ KB wr w.heap.size 25 go G.length gc bo k bc fi ol he la ∧ KB wr (w.heap.size + 1) 25 none 0 0 none 0 0 false false false 0 ∧
  wr.heap[w.heap.size + 1 + 1]? = some (.cells #[.slice r.1 G.length r.2, bv, .bool fi, .bool ol, .bool he, .int .i64 la] 25 (0, 0)) ∧ Lw (w.heap.size + 3) wr G r ∧ wr.ownsRow (w.heap.size + 3) 22 1 bv i (scs L R i) ∧ ∀ j, j < i → Lw (w.heap.size + 3) wr (L j) (R j)
section
variable {w wr w1 : World} {go bo : Option Addr} {gc bc k i : Nat} {G : List Int} {L : Nat → List Int} {fi ol he : Bool} {la : Int} {r : Option Addr × Nat} {bv : Value} {R : Nat → Option Addr × Nat}
theorem CpS.below (h : CpS w wr go gc bo bc G k L fi ol he la i r bv R) (hb : Below wr.heap.size wr w1) : CpS w w1 go gc bo bc G k L fi ol he la i r bv R := by
  obtain ⟨h1, h2, h3, h4, h5, h6, h7⟩ := h
  have hk : Kp (w.heap.size + 3) wr w1 := Kp.below hb
  refine ⟨h1.trans (hb.mono h1.size), h2.b hb, h3.b hb, (hb.block _ (Array.getElem?_eq_some_iff.1 h4).1).trans h4, h5.kp hk, ?_, fun j hj => (h7 j hj).kp hk⟩
  refine ⟨h6.1, ?_⟩
  rcases h6.2 with h | ⟨b, c, cur, e, hb', hh, q⟩
  · exact .inl h
  · exact .inr ⟨b, c, cur, e, hb', (hk.2 b hb' (Array.getElem?_eq_some_iff.1 hh).1).trans hh, q⟩
theorem CpS.cells (h : CpS w wr go gc bo bc G k L fi ol he la i r bv R) : wr.cell? ⟨w.heap.size + 1 + 1, 0, none⟩ = some (.slice r.1 G.length r.2) ∧ wr.cell? ⟨w.heap.size + 1 + 1, 1, none⟩ = some bv ∧ wr.cell? ⟨w.heap.size + 1 + 1, 2, none⟩ = some (.bool fi) ∧ wr.cell? ⟨w.heap.size + 1 + 1, 3, none⟩ = some (.bool ol) ∧ wr.cell? ⟨w.heap.size + 1 + 1, 4, none⟩ = some (.bool he) ∧ wr.cell? ⟨w.heap.size + 1 + 1, 5, none⟩ = some (.int .i64 la) :=
  ⟨mblk h.2.2.2.1 rfl, mblk h.2.2.2.1 rfl, mblk h.2.2.2.1 rfl, mblk h.2.2.2.1 rfl, mblk h.2.2.2.1 rfl, mblk h.2.2.2.1 rfl⟩
theorem CpS.froz (h : CpS w wr go gc bo bc G k L fi ol he la i r bv R) : ∀ j, wr.frozen? ⟨w.heap.size + 1 + 1, j, none⟩ = false := fun j => by simp [World.frozen?, h.2.2.2.1]
theorem Lw.ty {B : Nat} {wr : World} {l : List Int} {r : Option Addr × Nat} (h : Lw B wr l r) {t : Nat} (ht : (sv l r).ownBlock = some t) : ∃ c : Array Value, wr.heap[t]? = some (.cells c 3 (0, 0)) := by
  rcases h.2 with ⟨e, _⟩ | ⟨b, c, cur, e, hb, hh, q⟩
  · rw [e] at ht; cases ht
  · rw [e] at ht; simp [Value.ownBlock] at ht; subst ht; exact ⟨cur, hh⟩
/-- One row more. -/
theorem CpS.push {w4 : World} {ro : Option Addr} {rc t4 c4 : Nat} (h : CpS w w1 go gc bo bc G k L fi ol he la i r bv R) (hn : w1.ownsRow (w.heap.size + 3) 3 1 (.slice ro (L i).length rc) (L i).length ((L i).map (.int .i64)))
    (hown : w4.ownsRow (w.heap.size + 3) 22 1 (.slice (some ⟨t4, 0, none⟩) (i + 1) c4) (i + 1) (scs L R i ++ [.slice ro (L i).length rc])) (hg : (w1.alloc (.cells #[.slice ro (L i).length rc] 22)).grownBy w4 bv.ownBlock) :
    CpS w (w4.setCell ⟨w.heap.size + 1 + 1, 1, none⟩ (.slice (some ⟨t4, 0, none⟩) (i + 1) c4)) go gc bo bc G k L fi ol he la (i + 1) r (.slice (some ⟨t4, 0, none⟩) (i + 1) c4) (setr R i (ro, rc)) ∧ (w4.cell? ⟨w.heap.size + 1 + 1, 1, none⟩ = some bv ∧ ∀ j, w4.frozen? ⟨w.heap.size + 1 + 1, j, none⟩ = false) ∧ Below w.heap.size w w4 ∧ KB w4 w.heap.size 25 go G.length gc bo k bc fi ol he la := by
  have hn1 : Lw (w.heap.size + 3) w1 (L i) (ro, rc) := hn
  have hb2 := bal1 w1 (.cells #[.slice ro (L i).length rc] 22)
  have h' := h.below hb2
  have hn' := hn1.kp (Kp.below hb2)
  obtain ⟨h1, h2, h3, h4, h5, h6, h7⟩ := h'
  generalize hW : w1.alloc (.cells #[.slice ro (L i).length rc] 22) = W at *
  have hlo : ∀ j, bv.ownBlock = some j → w.heap.size + 3 ≤ j ∧ ∃ c : Array Value, W.heap[j]? = some (.cells c 22 (0, 0)) := fun j e => by
    refine ⟨(World.ownsRow.lt h6 j e).1, ?_⟩
    rcases h6.2 with ⟨e1, _⟩ | ⟨γ, cp, cur, e1, hge, hh, q⟩
    · rw [e1] at e; cases e
    · rw [e1] at e; simp [Value.ownBlock] at e; subst e; exact ⟨cur, hh⟩
  have hblk : ∀ j, j < w.heap.size + 3 → j < W.heap.size → w4.heap[j]? = W.heap[j]? := fun j hj hl => hg.block j hl (fun e => by have := (hlo j e.symm).1; omega)
  have hrow : ∀ l r', Lw (w.heap.size + 3) W l r' → Lw (w.heap.size + 3) (w4.setCell ⟨w.heap.size + 1 + 1, 1, none⟩ (.slice (some ⟨t4, 0, none⟩) (i + 1) c4)) l r' := fun l r' hl =>
    (hl.grown hg (fun t ht e => by
      obtain ⟨c, hc⟩ := (hlo t ht).2
      obtain ⟨c', hc'⟩ := hl.ty e
      rw [hc] at hc'
      cases hc')).kp (Kp.set (by omega))
  have hX := (hblk _ (by omega) (Array.getElem?_eq_some_iff.1 h4).1).trans h4
  refine ⟨⟨(h1.grown hg h1.size (fun j hj => by have := (hlo j hj).1; omega)).setCell (p := ⟨w.heap.size + 1 + 1, 1, none⟩) (by simp; omega) _, (cur_far (by omega) _).trans ((hblk _ (by omega) h2.lt).trans h2), (cur_far (by omega) _).trans ((hblk _ (by omega) h3.lt).trans h3), kb_set hX rfl, hrow _ _ h5, ?_, fun j hj => ?_⟩, ⟨mblk hX rfl, fun j => by simp [World.frozen?, hX]⟩, h1.grown hg h1.size (fun j hj => by have := (hlo j hj).1; omega), (hblk _ (by omega) h2.lt).trans h2⟩
  · have e : scs L (setr R i (ro, rc)) (i + 1) = scs L R i ++ [.slice ro (L i).length rc] := by
      have := scs_set L R i (L i) (ro, rc)
      rw [← this]
      congr 1
      funext j
      by_cases e : j = i
      · subst e; rw [setl_at]
      · rw [setl_ne _ _ _ e]
    rw [e]
    refine ⟨hown.1, ?_⟩
    rcases hown.2 with h | ⟨γ, cp, cur, e, hge, hh, q⟩
    · exact .inl h
    · exact .inr ⟨γ, cp, cur, e, hge, (cur_far (by omega) _).trans hh, q⟩
  · by_cases e : j = i
    · subst e; rw [setr_at]; exact hrow _ _ hn'
    · rw [setr_ne _ _ _ e]; exact hrow _ _ (h7 j (by omega))
/-- Handed back. -/
theorem CpS.ret {v0 v1 v2 v3 v4 v5 : Value} (h : CpS w wr go gc bo bc G k L fi ol he la k r bv R) : ∃ bo' bc', bv = .slice bo' k bc' ∧
    (Below w.heap.size w ((((((wr.setCell ⟨w.heap.size + 1, 0, none⟩ v0).setCell ⟨w.heap.size + 1, 1, none⟩ v1).setCell ⟨w.heap.size + 1, 2, none⟩ v2).setCell ⟨w.heap.size + 1, 3, none⟩ v3).setCell ⟨w.heap.size + 1, 4, none⟩ v4).setCell ⟨w.heap.size + 1, 5, none⟩ v5) ∧
      ∀ w2, Kp (w.heap.size + 3) ((((((wr.setCell ⟨w.heap.size + 1, 0, none⟩ v0).setCell ⟨w.heap.size + 1, 1, none⟩ v1).setCell ⟨w.heap.size + 1, 2, none⟩ v2).setCell ⟨w.heap.size + 1, 3, none⟩ v3).setCell ⟨w.heap.size + 1, 4, none⟩ v4).setCell ⟨w.heap.size + 1, 5, none⟩ v5) w2 → MV w2 r.1 r.2 bo' bc' G k L) := by
  obtain ⟨h1, h2, h3, h4, h5, h6, h7⟩ := h
  have hk : Kp (w.heap.size + 3) wr ((((((wr.setCell ⟨w.heap.size + 1, 0, none⟩ v0).setCell ⟨w.heap.size + 1, 1, none⟩ v1).setCell ⟨w.heap.size + 1, 2, none⟩ v2).setCell ⟨w.heap.size + 1, 3, none⟩ v3).setCell ⟨w.heap.size + 1, 4, none⟩ v4).setCell ⟨w.heap.size + 1, 5, none⟩ v5) :=
    (((((Kp.set (by omega)).trans (Kp.set (by omega))).trans (Kp.set (by omega))).trans (Kp.set (by omega))).trans (Kp.set (by omega))).trans (Kp.set (by omega))
  have hB : Below w.heap.size w ((((((wr.setCell ⟨w.heap.size + 1, 0, none⟩ v0).setCell ⟨w.heap.size + 1, 1, none⟩ v1).setCell ⟨w.heap.size + 1, 2, none⟩ v2).setCell ⟨w.heap.size + 1, 3, none⟩ v3).setCell ⟨w.heap.size + 1, 4, none⟩ v4).setCell ⟨w.heap.size + 1, 5, none⟩ v5) := by
    repeat (refine Below.setCell ?_ (by show w.heap.size ≤ w.heap.size + 1; omega) _)
    exact h1
  generalize ((((((wr.setCell ⟨w.heap.size + 1, 0, none⟩ v0).setCell ⟨w.heap.size + 1, 1, none⟩ v1).setCell ⟨w.heap.size + 1, 2, none⟩ v2).setCell ⟨w.heap.size + 1, 3, none⟩ v3).setCell ⟨w.heap.size + 1, 4, none⟩ v4).setCell ⟨w.heap.size + 1, 5, none⟩ v5) = F at *
  rcases h6.2 with ⟨e, h0⟩ | ⟨γ, cp, cur, e, hge, hh, hn, hm, hsz, ht⟩
  · subst h0
    refine ⟨none, 0, e, hB, fun w2 h2 => ?_⟩
    have hg := (h5.kp (hk.trans h2)).sl
    exact ⟨⟨hg.2, Nat.le_refl _⟩, hg.1, fun i hi => absurd hi (Nat.not_lt_zero _)⟩
  · refine ⟨some ⟨γ, 0, none⟩, cp, e, hB, fun w2 h2 => ?_⟩
    have hk2 := hk.trans h2
    have hg := (h5.kp hk2).sl
    refine ⟨⟨hg.2, hn⟩, hg.1, fun i hi => ⟨γ, 0, (R i).1, (R i).2, rfl, ?_, ((h7 i hi).kp hk2).sl.2, ((h7 i hi).kp hk2).sl.1⟩⟩
    have hc := (hk2.2 γ hge (Array.getElem?_eq_some_iff.1 hh).1).trans hh
    have e2 : (cur.toList.take (k * 1))[i]? = (scs L R k)[i]? := by rw [ht]
    rw [List.getElem?_take, if_pos (by omega), Array.getElem?_toList] at e2
    simp only [World.cell?, hc, Nat.zero_add]
    rw [e2]
    simp [scs, hi]
theorem cbal3 (w : World) (o1 o2 o3 : Obj) : (((w.alloc o1).alloc o2).alloc o3).heap[w.heap.size]? = some o1 ∧ (((w.alloc o1).alloc o2).alloc o3).heap[w.heap.size + 1]? = some o2 ∧ (((w.alloc o1).alloc o2).alloc o3).heap[w.heap.size + 1 + 1]? = some o3 ∧ (((w.alloc o1).alloc o2).alloc o3).heap.size = w.heap.size + 1 + 1 + 1 := by
  have e : ∀ (w : World) (o : Obj), (w.alloc o).heap = w.heap.push o := fun _ _ => rfl
  refine ⟨?_, ?_, ?_, ?_⟩
  · simp only [e, Array.getElem?_push, Array.size_push]
    rw [if_neg (by omega), if_neg (by omega), if_pos trivial]
  · simp only [e, Array.getElem?_push, Array.size_push]
    rw [if_neg (by omega), if_pos trivial]
  · simp only [e, Array.getElem?_push, Array.size_push]
    rw [if_pos trivial]
  · simp only [e, Array.size_push]
end
theorem wpList_append_cs {P : Program} {w : World} {ops : Array Oper} {rest : List Oper} {o : Oper} {a : Act} {Q : Exit → Act → World → Prop} (hgd : o.guard = none) (s x : Operand) (t : TypeId)
    (ho : o.op = .call { callee := .builtin .append, args := #[s, x], argTypes := #[t, t] })
    (base : Nat) (e : TypeId) (i : TypeInfo) (z : Value) (bytes : Nat) (ht : P.underlying t = some (.slice e)) (hi : P.info? e = some i) (hz : i.zero = some z)
    (hsize : i.size = 1) (hby : i.bytes = bytes) (hzs : z.cells.size = 1)
    (v : Value) (M : List Value) (hs : a.eval s = v) (hown : w.ownsRow base e 1 v M.length M)
    (p : Option Addr) (n c : Nat) (cs : List Value) (hn : cs.length = n) (hx : a.eval x = .slice p n c) (hsrc : Cs w p cs)
    (h63 : M.length + n ≤ maxLen) (hbytes : (M.length + n) * bytes ≤ 140737488355328) (hbase : base ≤ w.heap.size)
    (h : ∀ v' w', w'.ownsRow base e 1 v' (M.length + n) (M ++ cs) → w.grownBy w' v.ownBlock → wpList P ops Q rest (a.put o.dst v') w') : wpList P ops Q (o :: rest) a w := by
  subst hn
  cases p with
  | none =>
    have hc := hsrc.nil
    subst hc
    refine wpList_plain hgd fun K hK => ?_
    have hrun : (Builtin.append_ #[t, t] o.type #[v, .slice none 0 c]).run P w = .ok v w := run_append_owned_none (P := P) (w := w) base t o.type e i 1 ht hi v M.length M hown
    have hfin := hK _ _ (h v w (by simpa using hown) (grownBy_refl _ _))
    have hx' : a.eval x = .slice none 0 c := hx
    unfold Oper.wp
    simp [execOp, ho, resolve, invoke, builtin, hs, hx', hrun, Result.andThen]
    exact hfin
  | some ad =>
    refine wpList_append_own w hgd s x t ho base e i z 1 bytes ht hi hz hsize hby hzs (by decide) v M.length M hs hown ad cs.length c cs hx (by simp) ?_ hsrc.2 h63 hbytes hbase ?_
    · intro j u hj
      have hlt : j < cs.length := (List.getElem?_eq_some_iff.1 hj).1
      obtain ⟨b, off, e', _, hc⟩ := hsrc.1 j hlt
      cases e'
      rw [Addr.add_lit, hc, hj]
    · intro v' w' h1 h2 _
      exact h v' w' h1 h2
/-- .. a step of a region that draws its order. -/
theorem step_append_cs {P : Program} {w : World} {ops : Array Oper} {o : Oper} {a : Act} {K : Act → World → Prop} {Q : Exit → Act → World → Prop} {E : Prop} (hgd : o.guard = none) (s x : Operand) (t : TypeId)
    (ho : o.op = .call { callee := .builtin .append, args := #[s, x], argTypes := #[t, t] })
    (base : Nat) (e : TypeId) (i : TypeInfo) (z : Value) (bytes : Nat) (ht : P.underlying t = some (.slice e)) (hi : P.info? e = some i) (hz : i.zero = some z)
    (hsize : i.size = 1) (hby : i.bytes = bytes) (hzs : z.cells.size = 1)
    (v : Value) (M : List Value) (hs : a.eval s = v) (hown : w.ownsRow base e 1 v M.length M)
    (p : Option Addr) (n c : Nat) (cs : List Value) (hn : cs.length = n) (hx : a.eval x = .slice p n c) (hsrc : Cs w p cs)
    (h63 : M.length + n ≤ maxLen) (hbytes : (M.length + n) * bytes ≤ 140737488355328) (hbase : base ≤ w.heap.size)
    (h : ∀ v' w', w'.ownsRow base e 1 v' (M.length + n) (M ++ cs) → w.grownBy w' v.ownBlock → K (a.put o.dst v') w') :
    if Region.wanted o (yielded ops a.tmps) = true then Oper.wp P o a w K Q else E := by
  have hw : Region.wanted o (yielded ops a.tmps) = true := by simp [Region.wanted, hgd]
  rw [if_pos hw]
  subst hn
  cases p with
  | none =>
    have hc := hsrc.nil
    subst hc
    have hrun : (Builtin.append_ #[t, t] o.type #[v, .slice none 0 c]).run P w = .ok v w := run_append_owned_none (P := P) (w := w) base t o.type e i 1 ht hi v M.length M hown
    have hx' : a.eval x = .slice none 0 c := hx
    unfold Oper.wp execOp
    simp only [ho, resolve, invoke, builtin, Sem.run_bind, Sem.run_pure, Result.andThen_ok, List.map_toArray, List.map_cons, List.map_nil, hs, hx', hrun]
    exact h v w (by simpa using hown) (grownBy_refl _ _)
  | some ad =>
    refine wp_append_own w s x t ho base e i z 1 bytes ht hi hz hsize hby hzs (by decide) v M.length M hs hown ad cs.length c cs hx (by simp) ?_ hsrc.2 h63 hbytes hbase ?_
    · intro j u hj
      have hlt : j < cs.length := (List.getElem?_eq_some_iff.1 hj).1
      obtain ⟨b, off, e', _, hc⟩ := hsrc.1 j hlt
      cases e'
      rw [Addr.add_lit, hc, hj]
    · intro v' w' h1 h2 _
      exact h v' w' h1 h2
/-- What append built, as a row. -/
theorem rs_owns {w : World} {B : Nat} {t : TypeId} {v : Value} {cs : List Value} (h : w.ownsRow B t 1 v cs.length cs) : ∃ p c, v = .slice p cs.length c ∧ RS w B w.heap.size [⟨t, p, c, cs⟩] := by
  obtain ⟨hl, h⟩ := h
  rcases h with ⟨rfl, h0⟩ | ⟨g, cap, cur, rfl, hB, hc, hn, hm, hs, ht⟩
  · have e : cs = [] := List.length_eq_zero_iff.1 h0
    subst e
    exact ⟨none, 0, rfl, RS.one ⟨Nat.le_refl _, .inl rfl⟩⟩
  · refine ⟨_, cap, rfl, RS.one ⟨hn, .inr ⟨g, rfl, ⟨hB, (Array.getElem?_eq_some_iff.1 hc).1⟩, cur, hc, ?_, fun i hi => ?_⟩⟩⟩
    · show cs.length ≤ cur.size
      have := congrArg List.length ht
      simp at this
      omega
    · have hi' : i < cs.length := hi
      have e : (cur.toList.take (cs.length * 1))[i]? = cs[i]? := by rw [ht]
      rw [List.getElem?_take, if_pos (by omega)] at e
      simpa using e
end Go.Proofs.YtkndnndildnbpaaGreatDoor
namespace Go.Proofs.YtkndnndildnbpaaGreatDoor
end Go.Proofs.YtkndnndildnbpaaGreatDoor

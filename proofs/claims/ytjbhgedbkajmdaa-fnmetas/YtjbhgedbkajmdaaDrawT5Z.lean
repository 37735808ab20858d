/- l5Copy of the model. -/
import Derived.Test.YtjbhgedbkajmdaaDrawT4Z
import Derived.Test.YtjbhgedbkajmdaaMtOS2Z

namespace Go.Proofs.Ytjbhgedbkajmdaa
open Go.ChangeShapes Go.WideShapes Go.ChangeAt Go.RowKit
set_option linter.unusedVariables false
set_option linter.unusedSimpArgs false
set_option maxRecDepth 100000

theorem istep_append {P : Program} {w : World} {ops : Array Oper} {o : Oper} {a : Act} {K : Act → World → Prop} {Q : Exit → Act → World → Prop} {E : Prop} (hgd : o.guard = none) (s x : Operand) (t : TypeId)
    (ho : o.op = .call { callee := .builtin .append, args := #[s, x], argTypes := #[t, t] })
    (base : Nat) (e : TypeId) (i : TypeInfo) (z : Value) (bytes : Nat) (ht : P.underlying t = some (.slice e)) (hi : P.info? e = some i) (hz : i.zero = some z)
    (hsize : i.size = 1) (hby : i.bytes = bytes) (hzs : z.cells.size = 1)
    (v : Value) (M : List Int) (hs : a.eval s = v) (hown : w.ownsRow base e 1 v M.length (M.map (.int .i64)))
    (xv : Value) (L : List Int) (hx : a.eval x = xv) (hsrc : Src .i64 w xv L)
    (h63 : M.length + L.length ≤ maxLen) (hbytes : (M.length + L.length) * bytes ≤ 140737488355328) (hbase : base ≤ w.heap.size)
    (h : ∀ v' w', w'.ownsRow base e 1 v' (M ++ L).length ((M ++ L).map (.int .i64)) → w.grownBy w' v.ownBlock → K (a.put o.dst v') w') :
    if Region.wanted o (yielded ops a.tmps) = true then Oper.wp P o a w K Q else E := by
  have hw : Region.wanted o (yielded ops a.tmps) = true := by simp [Region.wanted, hgd]
  rw [if_pos hw]
  rcases hsrc with ⟨e1, rfl⟩ | ⟨ad, c, e1, hc⟩
  · have hr := run_append_owned_none (P := P) (w := w) base t o.type e i 1 ht hi v M.length (M.map (.int .i64)) hown
    unfold Oper.wp execOp
    simp only [ho, resolve, invoke, builtin, Sem.run_bind, Sem.run_pure, Result.andThen_ok, List.map_toArray, List.map_cons, List.map_nil, hs, hx.trans e1, hr]
    exact h v w (by simpa using hown) (grownBy_refl _ _)
  · refine wp_append_own w s x t ho base e i z 1 bytes ht hi hz hsize hby hzs (by decide) v M.length (M.map (.int .i64)) hs hown ad L.length c (L.map (.int .i64)) (hx.trans e1) (by simp) hc (gones _ _) h63 hbytes hbase ?_
    intro v' w' h1 h2 _
    exact h v' w' (by simpa using h1) h2

/-- The copy under way: what is copied at block w, the result's block, the copy's at the third. -/
def CpS (w wr : World) (go : Option Addr) (gc : Nat) (bo : Option Addr) (bc : Nat) (G : List Int) (k : Nat) (L : Nat → List Int) (fi ol he : Bool) (la : Int) (i : Nat) (r : Option Addr × Nat) (bv : Value) (R : Nat → Option Addr × Nat) : Prop :=
  Below w.heap.size w wr ∧ KB wr w.heap.size 27 go G.length gc bo k bc fi ol he la ∧ KB wr (w.heap.size + 1) 27 none 0 0 none 0 0 false false false 0 ∧
  wr.heap[w.heap.size + 1 + 1]? = some (.cells #[.slice r.1 G.length r.2, bv, .bool fi, .bool ol, .bool he, .int .i64 la] 27 (0, 0)) ∧ Lw (w.heap.size + 3) wr G r ∧ wr.ownsRow (w.heap.size + 3) 24 1 bv i (scs L R i) ∧ ∀ j, j < i → Lw (w.heap.size + 3) wr (L j) (R j)
section
variable {w wr w1 : World} {go bo : Option Addr} {gc bc k i : Nat} {G : List Int} {L : Nat → List Int} {fi ol he : Bool} {la : Int} {r : Option Addr × Nat} {bv : Value} {R : Nat → Option Addr × Nat}
theorem CpS.below (h : CpS w wr go gc bo bc G k L fi ol he la i r bv R) (hb : Below wr.heap.size wr w1) : CpS w w1 go gc bo bc G k L fi ol he la i r bv R := by
  obtain ⟨h1, h2, h3, h4, h5, h6, h7⟩ := h
  have hk : Kp (w.heap.size + 3) wr w1 := Kp.below hb
  refine ⟨h1.trans (hb.mono h1.size), h2.b hb, h3.b hb, (hb.block _ (Array.getElem?_eq_some_iff.1 h4).1).trans h4, h5.kp hk, ?_, fun j hj => (h7 j hj).kp hk⟩
  refine ⟨h6.1, ?_⟩
  rcases h6.2 with h | ⟨b, c, cur, e, hb', hh, q⟩
  · exact .inl h
  · exact .inr ⟨b, c, cur, e, hb', (hk.2 b hb' (Array.getElem?_eq_some_iff.1 hh).1).trans hh, q⟩
theorem CpS.cells (h : CpS w wr go gc bo bc G k L fi ol he la i r bv R) : wr.cell? ⟨w.heap.size + 1 + 1, 0, none⟩ = some (.slice r.1 G.length r.2) ∧ wr.cell? ⟨w.heap.size + 1 + 1, 1, none⟩ = some bv ∧ wr.cell? ⟨w.heap.size + 1 + 1, 2, none⟩ = some (.bool fi) ∧ wr.cell? ⟨w.heap.size + 1 + 1, 3, none⟩ = some (.bool ol) ∧ wr.cell? ⟨w.heap.size + 1 + 1, 4, none⟩ = some (.bool he) ∧ wr.cell? ⟨w.heap.size + 1 + 1, 5, none⟩ = some (.int .i64 la) :=
  ⟨mblk h.2.2.2.1 rfl, mblk h.2.2.2.1 rfl, mblk h.2.2.2.1 rfl, mblk h.2.2.2.1 rfl, mblk h.2.2.2.1 rfl, mblk h.2.2.2.1 rfl⟩
theorem CpS.froz (h : CpS w wr go gc bo bc G k L fi ol he la i r bv R) : ∀ j, wr.frozen? ⟨w.heap.size + 1 + 1, j, none⟩ = false := fun j => by simp [World.frozen?, h.2.2.2.1]
theorem Lw.ty {B : Nat} {wr : World} {l : List Int} {r : Option Addr × Nat} (h : Lw B wr l r) {t : Nat} (ht : (sv l r).ownBlock = some t) : ∃ c : Array Value, wr.heap[t]? = some (.cells c 3 (0, 0)) := by
  rcases h.2 with ⟨e, _⟩ | ⟨b, c, cur, e, hb, hh, q⟩
  · rw [e] at ht; cases ht
  · rw [e] at ht; simp [Value.ownBlock] at ht; subst ht; exact ⟨cur, hh⟩
/-- One row more. -/
theorem CpS.push {w4 : World} {ro : Option Addr} {rc t4 c4 : Nat} (h : CpS w w1 go gc bo bc G k L fi ol he la i r bv R) (hn : w1.ownsRow (w.heap.size + 3) 3 1 (.slice ro (L i).length rc) (L i).length ((L i).map (.int .i64)))
    (hown : w4.ownsRow (w.heap.size + 3) 24 1 (.slice (some ⟨t4, 0, none⟩) (i + 1) c4) (i + 1) (scs L R i ++ [.slice ro (L i).length rc])) (hg : (w1.alloc (.cells #[.slice ro (L i).length rc] 24)).grownBy w4 bv.ownBlock) :
    CpS w (w4.setCell ⟨w.heap.size + 1 + 1, 1, none⟩ (.slice (some ⟨t4, 0, none⟩) (i + 1) c4)) go gc bo bc G k L fi ol he la (i + 1) r (.slice (some ⟨t4, 0, none⟩) (i + 1) c4) (setr R i (ro, rc)) ∧ (w4.cell? ⟨w.heap.size + 1 + 1, 1, none⟩ = some bv ∧ ∀ j, w4.frozen? ⟨w.heap.size + 1 + 1, j, none⟩ = false) ∧ Below w.heap.size w w4 ∧ KB w4 w.heap.size 27 go G.length gc bo k bc fi ol he la := by
  have hn1 : Lw (w.heap.size + 3) w1 (L i) (ro, rc) := hn
  have hb2 := bal1 w1 (.cells #[.slice ro (L i).length rc] 24)
  have h' := h.below hb2
  have hn' := hn1.kp (Kp.below hb2)
  obtain ⟨h1, h2, h3, h4, h5, h6, h7⟩ := h'
  generalize hW : w1.alloc (.cells #[.slice ro (L i).length rc] 24) = W at *
  have hlo : ∀ j, bv.ownBlock = some j → w.heap.size + 3 ≤ j ∧ ∃ c : Array Value, W.heap[j]? = some (.cells c 24 (0, 0)) := fun j e => by
    refine ⟨(World.ownsRow.lt h6 j e).1, ?_⟩
    rcases h6.2 with ⟨e1, _⟩ | ⟨γ, cp, cur, e1, hge, hh, q⟩
    · rw [e1] at e; cases e
    · rw [e1] at e; simp [Value.ownBlock] at e; subst e; exact ⟨cur, hh⟩
  have hblk : ∀ j, j < w.heap.size + 3 → j < W.heap.size → w4.heap[j]? = W.heap[j]? := fun j hj hl => hg.block j hl (fun e => by have := (hlo j e.symm).1; omega)
  have hrow : ∀ l r', Lw (w.heap.size + 3) W l r' → Lw (w.heap.size + 3) (w4.setCell ⟨w.heap.size + 1 + 1, 1, none⟩ (.slice (some ⟨t4, 0, none⟩) (i + 1) c4)) l r' := fun l r' hl =>
    (hl.grown hg (fun t ht e => by
      obtain ⟨c, hc⟩ := (hlo t ht).2
      obtain ⟨c', hc'⟩ := hl.ty e
      rw [hc] at hc'
      cases hc')).kp (Kp.set (by omega))
  have hX := (hblk _ (by omega) (Array.getElem?_eq_some_iff.1 h4).1).trans h4
  refine ⟨⟨(h1.grown hg h1.size (fun j hj => by have := (hlo j hj).1; omega)).setCell (p := ⟨w.heap.size + 1 + 1, 1, none⟩) (by simp; omega) _, (cur_far (by omega) _).trans ((hblk _ (by omega) h2.lt).trans h2), (cur_far (by omega) _).trans ((hblk _ (by omega) h3.lt).trans h3), kb_set hX rfl, hrow _ _ h5, ?_, fun j hj => ?_⟩, ⟨mblk hX rfl, fun j => by simp [World.frozen?, hX]⟩, h1.grown hg h1.size (fun j hj => by have := (hlo j hj).1; omega), (hblk _ (by omega) h2.lt).trans h2⟩
  · have e : scs L (setr R i (ro, rc)) (i + 1) = scs L R i ++ [.slice ro (L i).length rc] := by
      have := scs_set L R i (L i) (ro, rc)
      rw [← this]
      congr 1
      funext j
      by_cases e : j = i
      · subst e; rw [setl_at]
      · rw [setl_ne _ _ _ e]
    rw [e]
    refine ⟨hown.1, ?_⟩
    rcases hown.2 with h | ⟨γ, cp, cur, e, hge, hh, q⟩
    · exact .inl h
    · exact .inr ⟨γ, cp, cur, e, hge, (cur_far (by omega) _).trans hh, q⟩
  · by_cases e : j = i
    · subst e; rw [setr_at]; exact hrow _ _ hn'
    · rw [setr_ne _ _ _ e]; exact hrow _ _ (h7 j (by omega))
/-- Handed back. -/
theorem CpS.ret {v0 v1 v2 v3 v4 v5 : Value} (h : CpS w wr go gc bo bc G k L fi ol he la k r bv R) : ∃ bo' bc', bv = .slice bo' k bc' ∧
    (Below w.heap.size w ((((((wr.setCell ⟨w.heap.size + 1, 0, none⟩ v0).setCell ⟨w.heap.size + 1, 1, none⟩ v1).setCell ⟨w.heap.size + 1, 2, none⟩ v2).setCell ⟨w.heap.size + 1, 3, none⟩ v3).setCell ⟨w.heap.size + 1, 4, none⟩ v4).setCell ⟨w.heap.size + 1, 5, none⟩ v5) ∧
      ∀ w2, Kp (w.heap.size + 3) ((((((wr.setCell ⟨w.heap.size + 1, 0, none⟩ v0).setCell ⟨w.heap.size + 1, 1, none⟩ v1).setCell ⟨w.heap.size + 1, 2, none⟩ v2).setCell ⟨w.heap.size + 1, 3, none⟩ v3).setCell ⟨w.heap.size + 1, 4, none⟩ v4).setCell ⟨w.heap.size + 1, 5, none⟩ v5) w2 → MV w2 r.1 r.2 bo' bc' G k L) := by
  obtain ⟨h1, h2, h3, h4, h5, h6, h7⟩ := h
  have hk : Kp (w.heap.size + 3) wr ((((((wr.setCell ⟨w.heap.size + 1, 0, none⟩ v0).setCell ⟨w.heap.size + 1, 1, none⟩ v1).setCell ⟨w.heap.size + 1, 2, none⟩ v2).setCell ⟨w.heap.size + 1, 3, none⟩ v3).setCell ⟨w.heap.size + 1, 4, none⟩ v4).setCell ⟨w.heap.size + 1, 5, none⟩ v5) :=
    (((((Kp.set (by omega)).trans (Kp.set (by omega))).trans (Kp.set (by omega))).trans (Kp.set (by omega))).trans (Kp.set (by omega))).trans (Kp.set (by omega))
  have hB : Below w.heap.size w ((((((wr.setCell ⟨w.heap.size + 1, 0, none⟩ v0).setCell ⟨w.heap.size + 1, 1, none⟩ v1).setCell ⟨w.heap.size + 1, 2, none⟩ v2).setCell ⟨w.heap.size + 1, 3, none⟩ v3).setCell ⟨w.heap.size + 1, 4, none⟩ v4).setCell ⟨w.heap.size + 1, 5, none⟩ v5) := by
    repeat (refine Below.setCell ?_ (by show w.heap.size ≤ w.heap.size + 1; omega) _)
    exact h1
  generalize ((((((wr.setCell ⟨w.heap.size + 1, 0, none⟩ v0).setCell ⟨w.heap.size + 1, 1, none⟩ v1).setCell ⟨w.heap.size + 1, 2, none⟩ v2).setCell ⟨w.heap.size + 1, 3, none⟩ v3).setCell ⟨w.heap.size + 1, 4, none⟩ v4).setCell ⟨w.heap.size + 1, 5, none⟩ v5) = F at *
  rcases h6.2 with ⟨e, h0⟩ | ⟨γ, cp, cur, e, hge, hh, hn, hm, hsz, ht⟩
  · subst h0
    refine ⟨none, 0, e, hB, fun w2 h2 => ?_⟩
    have hg := (h5.kp (hk.trans h2)).sl
    exact ⟨⟨hg.2, Nat.le_refl _⟩, hg.1, fun i hi => absurd hi (Nat.not_lt_zero _)⟩
  · refine ⟨some ⟨γ, 0, none⟩, cp, e, hB, fun w2 h2 => ?_⟩
    have hk2 := hk.trans h2
    have hg := (h5.kp hk2).sl
    refine ⟨⟨hg.2, hn⟩, hg.1, fun i hi => ⟨γ, 0, (R i).1, (R i).2, rfl, ?_, ((h7 i hi).kp hk2).sl.2, ((h7 i hi).kp hk2).sl.1⟩⟩
    have hc := (hk2.2 γ hge (Array.getElem?_eq_some_iff.1 hh).1).trans hh
    have e2 : (cur.toList.take (k * 1))[i]? = (scs L R k)[i]? := by rw [ht]
    rw [List.getElem?_take, if_pos (by omega), Array.getElem?_toList] at e2
    simp only [World.cell?, hc, Nat.zero_add]
    rw [e2]
    simp [scs, hi]
theorem cbal3 (w : World) (o1 o2 o3 : Obj) : (((w.alloc o1).alloc o2).alloc o3).heap[w.heap.size]? = some o1 ∧ (((w.alloc o1).alloc o2).alloc o3).heap[w.heap.size + 1]? = some o2 ∧ (((w.alloc o1).alloc o2).alloc o3).heap[w.heap.size + 1 + 1]? = some o3 ∧ (((w.alloc o1).alloc o2).alloc o3).heap.size = w.heap.size + 1 + 1 + 1 := by
  have e : ∀ (w : World) (o : Obj), (w.alloc o).heap = w.heap.push o := fun _ _ => rfl
  refine ⟨?_, ?_, ?_, ?_⟩
  · simp only [e, Array.getElem?_push, Array.size_push]
    rw [if_neg (by omega), if_neg (by omega), if_pos trivial]
  · simp only [e, Array.getElem?_push, Array.size_push]
    rw [if_neg (by omega), if_pos trivial]
  · simp only [e, Array.getElem?_push, Array.size_push]
    rw [if_pos trivial]
  · simp only [e, Array.size_push]
end
end Go.Proofs.Ytjbhgedbkajmdaa

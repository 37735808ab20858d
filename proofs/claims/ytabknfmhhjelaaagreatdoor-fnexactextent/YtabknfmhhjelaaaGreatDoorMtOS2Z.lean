/- What is known, being read by the model: how memory lies. -/
import Derived.Test.YtabknfmhhjelaaaGreatDoorMtOSZ
import Derived.Test.YtabknfmhhjelaaaGreatDoorMtNZ
import Derived.Deep.AppendLies

namespace Go.Proofs.YtabknfmhhjelaaaGreatDoor
open Go.ChangeShapes Go.WideShapes Go.ChangeAt Go.RowKit
set_option linter.unusedVariables false
set_option linter.unusedSimpArgs false
set_option maxRecDepth 100000

theorem Rt.grown {w w' : World} {B T : Nat} {ao : Option Addr} {n : Nat} {F : Nat → Value} {ob : Option Nat} (h : Rt w B T ao n F) (hT : T ≤ w.heap.size) (hg : w.grownBy w' ob) (hb : ∀ β, ob = some β → ∃ c : Array Value, w.heap[β]? = some (.cells c 22 (0, 0))) : Rt w' B T ao n F := by
  rcases h with h | ⟨g, e, hB, c, hc, r⟩
  · exact .inl h
  · refine .inr ⟨g, e, hB, c, (hg.block g (by omega) (fun e2 => ?_)).trans hc, r⟩
    obtain ⟨c', hc'⟩ := hb g e2.symm
    rw [hc] at hc'
    simp at hc'
theorem OR.grown {w w' : World} {B T n : Nat} {L : Nat → List Int} {R : Nat → Option Addr × Nat} {ob : Option Nat} (h : OR w B T n L R) (hT : T ≤ w.heap.size) (hg : w.grownBy w' ob) (hb : ∀ β, ob = some β → ∃ c : Array Value, w.heap[β]? = some (.cells c 22 (0, 0))) : OR w' B T n L R := fun i hi =>
  ⟨(h i hi).1, (h i hi).2.1.grown hT hg hb, (h i hi).2.2⟩
def scs (L : Nat → List Int) (R : Nat → Option Addr × Nat) (k : Nat) : List Value := (List.range k).map fun i => .slice (R i).1 (L i).length (R i).2
theorem scs_len (L : Nat → List Int) (R : Nat → Option Addr × Nat) (k : Nat) : (scs L R k).length = k := by simp [scs]
def setl (L : Nat → List Int) (k : Nat) (l : List Int) (i : Nat) : List Int := if i = k then l else L i
theorem setl_at (L : Nat → List Int) (k : Nat) (l : List Int) : setl L k l k = l := if_pos rfl
theorem setl_ne (L : Nat → List Int) (k : Nat) (l : List Int) {i : Nat} (h : i ≠ k) : setl L k l i = L i := if_neg h
theorem scs_set (L : Nat → List Int) (R : Nat → Option Addr × Nat) (k : Nat) (l : List Int) (r : Option Addr × Nat) : scs (setl L k l) (setr R k r) (k + 1) = scs L R k ++ [.slice r.1 l.length r.2] := by
  unfold scs
  rw [List.range_succ, List.map_append]
  congr 1
  · refine List.map_congr_left fun i hi => ?_
    have : i < k := by simpa using hi
    rw [setl_ne _ _ _ (by omega), setr_ne _ _ _ (by omega)]
  · simp [setl_at, setr_at]

/-- The result's block, a cursor behind it, what is read behind that; marks for k nodes. -/
def MoK (w wr : World) (ao : Option Addr) (n cap : Nat) (st : Option Int) (go : Option Addr) (gc : Nat) (G : List Int) (k : Nat) (L : Nat → List Int) (R : Nat → Option Addr × Nat) (bv : Value) (fi ol he : Bool) (la : Int) : Prop :=
  KB wr w.heap.size 34 none 0 0 none 0 0 false false false 0 ∧ Cu wr (w.heap.size + 1) ao n cap st ∧
  wr.heap[w.heap.size + 1 + 1]? = some (.cells #[.slice go G.length gc, bv, .bool fi, .bool ol, .bool he, .int .i64 la] 34 (0, 0)) ∧
  OR wr (w.heap.size + 1 + 1 + 1) wr.heap.size (k + 1) (rows G L) (rws (go, gc) R) ∧ wr.ownsRow (w.heap.size + 1 + 1 + 1) 22 1 bv k (scs L R k) ∧
  w.heap.size + 1 + 1 + 1 ≤ wr.heap.size ∧ Below w.heap.size w wr
section
variable {w wr w' : World} {ao : Option Addr} {n cap : Nat} {st st' : Option Int} {go : Option Addr} {gc : Nat} {G : List Int} {k : Nat} {L : Nat → List Int} {R : Nat → Option Addr × Nat} {bv : Value} {fi ol he : Bool} {la : Int}
theorem owns_far {B s m : Nat} {t : TypeId} {v : Value} {xs : List Value} {g : Nat} (h : wr.ownsRow B t s v m xs) (ho : OnlyG g wr w') (hg : g < B) : w'.ownsRow B t s v m xs := by
  refine ⟨h.1, ?_⟩
  rcases h.2 with h | ⟨γ, cp, cur, e, hge, hh, r⟩
  · exact .inl h
  · exact .inr ⟨γ, cp, cur, e, hge, (ho.2 γ (Array.getElem?_eq_some_iff.1 hh).1 (by omega)).trans hh, r⟩
theorem MoK.read (h : MoK w wr ao n cap st go gc G k L R bv fi ol he la) (ho : OnlyG (w.heap.size + 1) wr w') (hc : Cu w' (w.heap.size + 1) ao n cap st') : MoK w w' ao n cap st' go gc G k L R bv fi ol he la := by
  obtain ⟨h1, h2, h3, h4, h5, h6, h7⟩ := h
  refine ⟨(ho.2 _ (by omega) (by omega)).trans h1, hc, (ho.2 _ (by omega) (by omega)).trans h3, (h4.kept (fun j a b => ho.2 j b (by omega))).wide (Nat.le_refl _) ho.1.size, owns_far h5 ho (by omega), Nat.le_trans h6 ho.1.size, h7.trans (ho.1.mono (by omega))⟩
theorem MoK.below (h : MoK w wr ao n cap st go gc G k L R bv fi ol he la) (hb : Below wr.heap.size wr w') : MoK w w' ao n cap st go gc G k L R bv fi ol he la := by
  have hl : w.heap.size + 1 < wr.heap.size := by have := h.2.2.2.2.2.1; omega
  exact h.read (OnlyG.of_below hb (by omega)) (h.2.1.kept (hb.block _ hl))
theorem MoK.cells (h : MoK w wr ao n cap st go gc G k L R bv fi ol he la) : (wr.cell? ⟨w.heap.size + 1 + 1, 0, none⟩ = some (.slice go G.length gc) ∧ wr.cell? ⟨w.heap.size + 1 + 1, 1, none⟩ = some bv ∧ wr.cell? ⟨w.heap.size + 1 + 1, 2, none⟩ = some (.bool fi) ∧ wr.cell? ⟨w.heap.size + 1 + 1, 3, none⟩ = some (.bool ol) ∧ wr.cell? ⟨w.heap.size + 1 + 1, 4, none⟩ = some (.bool he) ∧ wr.cell? ⟨w.heap.size + 1 + 1, 5, none⟩ = some (.int .i64 la)) ∧ (∀ i, wr.frozen? ⟨w.heap.size + 1 + 1, i, none⟩ = false) :=
  ⟨⟨mblk h.2.2.1 rfl, mblk h.2.2.1 rfl, mblk h.2.2.1 rfl, mblk h.2.2.1 rfl, mblk h.2.2.1 rfl, mblk h.2.2.1 rfl⟩, fun i => by simp [World.frozen?, h.2.2.1]⟩
theorem MoK.cur (h : MoK w wr ao n cap st go gc G k L R bv fi ol he la) : wr.cell? ⟨w.heap.size + 1, 2, none⟩ = some (.bool st.isSome) := by
  obtain ⟨_, ⟨p, h2, _⟩, _⟩ := h
  exact mblk h2 rfl
/-- A cell of what is read, written. -/
theorem mok_set {fi' ol' he' : Bool} {la' : Int} (h : MoK w wr ao n cap st go gc G k L R bv fi ol he la) (i : Nat) (x : Value) (hx : (#[.slice go G.length gc, bv, .bool fi, .bool ol, .bool he, .int .i64 la] : Array Value).setIfInBounds i x = #[.slice go G.length gc, bv, .bool fi', .bool ol', .bool he', .int .i64 la']) :
    MoK w (wr.setCell ⟨w.heap.size + 1 + 1, i, none⟩ x) ao n cap st go gc G k L R bv fi' ol' he' la' := by
  obtain ⟨h1, h2, h3, h4, h5, h6, h7⟩ := h
  have hs : (wr.setCell ⟨w.heap.size + 1 + 1, i, none⟩ x).heap.size = wr.heap.size := by simp [World.setCell]
  refine ⟨(hfar (by omega) _).trans h1, h2.kept (hfar (by omega) _), ?_, ?_, ⟨h5.1, ?_⟩, by rw [hs]; exact h6, h7.setCell (p := ⟨w.heap.size + 1 + 1, i, none⟩) (by simp; omega) _⟩
  · rw [sblk x h3, hx]
  · rw [hs]; exact h4.kept (fun j a _ => hfar (by omega) _)
  · rcases h5.2 with h | ⟨γ, cp, cur, e, hge, hh, r⟩
    · exact .inl h
    · exact .inr ⟨γ, cp, cur, e, hge, (hfar (by omega) _).trans hh, r⟩
theorem rws_set (r0 : Option Addr × Nat) (R : Nat → Option Addr × Nat) (k : Nat) (r : Option Addr × Nat) : rws r0 (setr R k r) = setr (rws r0 R) (k + 1) r := by
  funext i
  match i with
  | 0 => unfold setr; rw [if_neg (by omega)]; rfl
  | i + 1 =>
    unfold setr
    by_cases e : i = k
    · subst e; rw [if_pos rfl]; simp [rws]
    · rw [if_neg (by omega)]; simp [rws, e]
theorem mok_start (ro : Option Addr) (rc : Nat) {W w1 : World} (b0 : KB W w.heap.size 34 none 0 0 none 0 0 false false false 0) (b2 : KB W (w.heap.size + 1 + 1) 34 none 0 0 none 0 0 false false false 0) (b4 : W.heap.size = w.heap.size + 1 + 1 + 1) (hB : Below w.heap.size w W) (ho : OnlyG (w.heap.size + 1) W w1) (hc : Cu w1 (w.heap.size + 1) ao n cap st) (hO : Own w1 W.heap.size 3 ro G.length (fun j => .int .i64 (G.getD j 0))) (hrc : G.length ≤ rc) :
    MoK w (w1.setCell ⟨w.heap.size + 1 + 1, 0, none⟩ (.slice ro G.length rc)) ao n cap st ro rc G 0 (fun _ => []) (fun _ => (none, 0)) (.slice none 0 0) false false false 0 := by
  have hs : (w1.setCell ⟨w.heap.size + 1 + 1, 0, none⟩ (.slice ro G.length rc)).heap.size = w1.heap.size := by simp [World.setCell]
  have hz := ho.1.size
  have h2 := (ho.2 (w.heap.size + 1 + 1) (by omega) (by omega)).trans b2
  refine ⟨(hfar (by omega) _).trans ((ho.2 _ (by omega) (by omega)).trans b0), hc.kept (hfar (by omega) _), ?_, ?_, ⟨rfl, .inl ⟨rfl, rfl⟩⟩, by rw [hs]; omega, (hB.trans (ho.1.mono (by omega))).setCell (p := ⟨w.heap.size + 1 + 1, 0, none⟩) (by simp; omega) _⟩
  · rw [sblk _ h2]; rfl
  · rw [hs]
    intro i hi
    obtain rfl : i = 0 := by omega
    refine ⟨hrc, ?_, fun γ e hp j hj hne => absurd hne (by omega)⟩
    rw [b4] at hO
    exact (Rt.of hO).kept (fun j a _ => hfar (by omega) _)
theorem mok_app {w1 w4 : World} {ro : Option Addr} {rc g4 c4 : Nat} {G' : List Int} (h : MoK w wr ao n cap st go gc G k L R bv fi ol he la) (ho : OnlyG (w.heap.size + 1) wr w1) (hc : Cu w1 (w.heap.size + 1) ao n cap st') (hO : Own w1 wr.heap.size 3 ro G'.length (fun j => .int .i64 (G'.getD j 0))) (hrc : G'.length ≤ rc)
    (hown : w4.ownsRow (w.heap.size + 1 + 1 + 1) 22 1 (.slice (some ⟨g4, 0, none⟩) (k + 1) c4) (k + 1) (scs L R k ++ [.slice ro G'.length rc])) (hg : (w1.alloc (.cells #[.slice ro G'.length rc] 22)).grownBy w4 bv.ownBlock) :
    MoK w (w4.setCell ⟨w.heap.size + 1 + 1, 1, none⟩ (.slice (some ⟨g4, 0, none⟩) (k + 1) c4)) ao n cap st' go gc G (k + 1) (setl L k G') (setr R k (ro, rc)) (.slice (some ⟨g4, 0, none⟩) (k + 1) c4) fi ol he la := by
  have hq := h.read ho hc
  have hb2 := bal1 w1 (.cells #[.slice ro G'.length rc] 22)
  have hq2 := hq.below hb2
  have e2 := alsz w1 (.cells #[.slice ro G'.length rc] 22)
  have hz1 := ho.1.size
  have hz0 := h.2.2.2.2.2.1
  have hz4 := hg.size
  have hlo : ∀ j, j < w.heap.size + 1 + 1 + 1 → some j ≠ bv.ownBlock := fun j hj e => by have := (World.ownsRow.lt hq2.2.2.2.2.1) j e.symm; omega
  have hblk : ∀ j, j < w.heap.size + 1 + 1 + 1 → w4.heap[j]? = (w1.alloc (.cells #[.slice ro G'.length rc] 22)).heap[j]? := fun j hj => hg.block j (by omega) (hlo j hj)
  have hty : ∀ β, bv.ownBlock = some β → ∃ c : Array Value, (w1.alloc (.cells #[.slice ro G'.length rc] 22)).heap[β]? = some (.cells c 22 (0, 0)) := fun β e => by
    rcases hq2.2.2.2.2.1.2 with ⟨e1, _⟩ | ⟨γ, cp, cur, e1, hge, hh, r⟩
    · rw [e1] at e; cases e
    · rw [e1] at e; simp [Value.ownBlock] at e; subst e; exact ⟨cur, hh⟩
  have hs : (w4.setCell ⟨w.heap.size + 1 + 1, 1, none⟩ (.slice (some ⟨g4, 0, none⟩) (k + 1) c4)).heap.size = w4.heap.size := by simp [World.setCell]
  have o1 : OR w1 (w.heap.size + 1 + 1 + 1) wr.heap.size (k + 1) (rows G (setl L k G')) (rws (go, gc) R) := (h.2.2.2.1.kept (fun j a b => ho.2 j b (by omega))).congr fun i hi => by
    match i with
    | 0 => rfl
    | i + 1 => show L i = setl L k G' i; rw [setl_ne _ _ _ (by omega)]
  have o2 : OR w1 (w.heap.size + 1 + 1 + 1) w1.heap.size (k + 1 + 1) (rows G (setl L k G')) (rws (go, gc) (setr R k (ro, rc))) := by
    rw [rws_set]
    refine o1.push (by omega) hz1 ?_ ?_
    · show (setl L k G' k).length ≤ rc; rw [setl_at]; exact hrc
    · show Rt w1 wr.heap.size w1.heap.size ro (setl L k G' k).length (lv (setl L k G' k)); rw [setl_at]; exact Rt.of hO
  have o3 := ((o2.kept (w' := w1.alloc (.cells #[.slice ro G'.length rc] 22)) (fun j _ b => hb2.block j b)).wide (B' := w.heap.size + 1 + 1 + 1) (T' := (w1.alloc (.cells #[.slice ro G'.length rc] 22)).heap.size) (Nat.le_refl _) (by omega)).grown (Nat.le_refl _) hg hty
  refine ⟨(hfar (by omega) _).trans ((hblk _ (by omega)).trans hq2.1), (hq2.2.1.kept (hblk _ (by omega))).kept (hfar (by omega) _), ?_, ?_, ?_, by rw [hs]; omega, ?_⟩
  · rw [sblk _ ((hblk _ (by omega)).trans hq2.2.2.1)]; rfl
  · rw [hs]; exact (o3.wide (Nat.le_refl _) hz4).kept (fun j a _ => hfar (by omega) _)
  · rw [scs_set]
    refine ⟨hown.1, ?_⟩
    rcases hown.2 with h | ⟨γ, cp, cur, e, hge, hh, r⟩
    · exact .inl h
    · exact .inr ⟨γ, cp, cur, e, hge, (hfar (by omega) _).trans hh, r⟩
  · exact (hq2.2.2.2.2.2.2.grown hg hq2.2.2.2.2.2.2.size (fun j hj => by have := (World.ownsRow.lt hq2.2.2.2.2.1) j hj; omega)).setCell (p := ⟨w.heap.size + 1 + 1, 1, none⟩) (by simp; omega) _
/-- What was read, as a whole. -/
theorem MoK.okm {bo : Option Addr} {bc : Nat} (h : MoK w wr ao n cap st go gc G k L R (.slice bo k bc) fi ol he la) : OKm wr (w.heap.size + 1 + 1 + 1) wr.heap.size go gc bo bc G k L := by
  obtain ⟨h1, h2, h3, h4, h5, h6, h7⟩ := h
  rcases h5.2 with ⟨e, h0⟩ | ⟨γ, cp, cur, e, hge, hh, hn, hm, hsz, ht⟩
  · cases e
    exact ⟨⟨h6, Nat.le_refl _⟩, Nat.le_refl _, R, h4, .inl h0⟩
  · cases e
    refine ⟨⟨h6, Nat.le_refl _⟩, hn, R, h4, .inr ⟨γ, cur, rfl, ⟨hge, (Array.getElem?_eq_some_iff.1 hh).1⟩, hh, by omega, fun i hi => ?_⟩⟩
    have e : (cur.toList.take (k * 1))[i]? = (scs L R k)[i]? := by rw [ht]
    rw [List.getElem?_take, if_pos (by omega)] at e
    rw [← Array.getElem?_toList, e]
    simp [scs, hi]
theorem MoK.form (h : MoK w wr ao n cap st go gc G k L R bv fi ol he la) : ∃ bo bc, bv = .slice bo k bc := by
  rcases h.2.2.2.2.1.2 with ⟨e, h0⟩ | ⟨γ, cp, cur, e, _⟩
  · exact ⟨none, 0, by rw [e, h0]⟩
  · exact ⟨_, _, e⟩
end
end Go.Proofs.YtabknfmhhjelaaaGreatDoor

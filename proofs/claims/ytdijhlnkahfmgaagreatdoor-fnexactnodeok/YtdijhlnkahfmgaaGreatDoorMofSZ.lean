/- MsgOf of the model. -/
import Derived.Test.YtdijhlnkahfmgaaGreatDoorGo
import Derived.Test.YtdijhlnkahfmgaaGreatDoorConvZ
import Derived.Test.YtdijhlnkahfmgaaGreatDoorGb
import Derived.Deep.QuietTactic

namespace Go.Proofs.YtdijhlnkahfmgaaGreatDoor
open Go.ChangeShapes Go.WideShapes Go.ChangeAt Go.RowKit
set_option linter.unusedVariables false
set_option linter.unusedSimpArgs false

/-- What MsgOf hands back. -/
def MsgOut (w w' : World) (n : Nat) (f : Nat → Int) (p : Int) (e : Ending) : Prop :=
  ((∃ k c v d G ro rc, Begins n f p k c v d G ∧ e = .returned (.tuple #[.agg #[.int .i64 k, .int .i64 c, .int .i64 v, .int .i64 d, .slice ro G.length rc], .int .i64 (p + (mb k c v d (fun i => G.getD i 0) G.length).length), .bool true]) ∧ G.length ≤ rc ∧ Own w' w.heap.size 3 ro G.length (fun i => .int .i64 (G.getD i 0))) ∨
   ((¬ ∃ k c v d G, Begins n f p k c v d G) ∧ e = .returned (.tuple #[.agg #[.int .i64 0, .int .i64 0, .int .i64 0, .int .i64 0, .slice none 0 0], .int .i64 0, .bool false]))) ∧ Below w.heap.size w w'

/-- The result's block, a cursor behind it, a message behind that. -/
def MoS (w0 wr : World) (ao : Option Addr) (n cap : Nat) (st : Option Int) (k c v d : Int) (gv : Value) (G : List Int) : Prop :=
  MB wr w0.heap.size 227 0 0 0 0 none 0 0 ∧ Cu wr (w0.heap.size + 1) ao n cap st ∧ wr.heap[w0.heap.size + 1 + 1]? = some (.cells #[.int .i64 k, .int .i64 c, .int .i64 v, .int .i64 d, gv] 227 (0, 0)) ∧
  wr.ownsRow (w0.heap.size + 1 + 1 + 1) 3 1 gv G.length (G.map (.int .i64)) ∧ w0.heap.size + 1 + 1 + 1 ≤ wr.heap.size ∧ Below w0.heap.size w0 wr

theorem MoS.num {w0 wr w' : World} {ao : Option Addr} {n cap : Nat} {st st' : Option Int} {k c v d : Int} {gv : Value} {G : List Int} (h : MoS w0 wr ao n cap st k c v d gv G) (ho : Only (w0.heap.size + 1) wr w') (hc : Cu w' (w0.heap.size + 1) ao n cap st') :
    MoS w0 w' ao n cap st' k c v d gv G := by
  obtain ⟨h1, h2, h3, h4, h5, h6⟩ := h
  refine ⟨(ho.2.2 _ (by omega)).trans h1, hc, (ho.2.2 _ (by omega)).trans h3, ⟨h4.1, ?_⟩, by rw [ho.2.1]; exact h5, h6.trans (ho.1.mono (by omega))⟩
  rcases h4.2 with e | ⟨g, cp, cur, e, hge, hh, r⟩
  · exact .inl e
  · exact .inr ⟨g, cp, cur, e, hge, (ho.2.2 g (by omega)).trans hh, r⟩
theorem mo_put {w0 wr : World} {ao : Option Addr} {n cap : Nat} {st : Option Int} {k c v d k' c' v' d' : Int} {gv gv' : Value} {G' : List Int}
    (h1 : MB wr w0.heap.size 227 0 0 0 0 none 0 0) (h2 : Cu wr (w0.heap.size + 1) ao n cap st) (h3 : wr.heap[w0.heap.size + 1 + 1]? = some (.cells #[.int .i64 k, .int .i64 c, .int .i64 v, .int .i64 d, gv] 227 (0, 0)))
    (h5 : w0.heap.size + 1 + 1 + 1 ≤ wr.heap.size) (h6 : Below w0.heap.size w0 wr) (i : Nat) (x : Value)
    (hx : (#[.int .i64 k, .int .i64 c, .int .i64 v, .int .i64 d, gv] : Array Value).setIfInBounds i x = #[.int .i64 k', .int .i64 c', .int .i64 v', .int .i64 d', gv'])
    (hg : wr.ownsRow (w0.heap.size + 1 + 1 + 1) 3 1 gv' G'.length (G'.map (.int .i64))) :
    MoS w0 (wr.setCell ⟨w0.heap.size + 1 + 1, i, none⟩ x) ao n cap st k' c' v' d' gv' G' := by
  obtain ⟨p, h2, h2'⟩ := h2
  have far : ∀ j, j ≠ w0.heap.size + 1 + 1 → (wr.setCell ⟨w0.heap.size + 1 + 1, i, none⟩ x).heap[j]? = wr.heap[j]? := fun j hj => by
    simp only [World.setCell, Array.getElem?_modify]
    rw [if_neg (fun e => hj e.symm)]
  refine ⟨(far _ (by omega)).trans h1, ⟨p, (far _ (by omega)).trans h2, h2'⟩, ?_, ⟨hg.1, ?_⟩, by simpa [World.setCell] using h5, h6.setCell (p := ⟨w0.heap.size + 1 + 1, i, none⟩) (by simp; omega) _⟩
  · simp only [World.setCell, Array.getElem?_modify, if_true, h3, Option.map_some]
    rw [← hx]
    rfl
  · rcases hg.2 with e | ⟨g, cp, cur, e, hge, hh, r⟩
    · exact .inl e
    · exact .inr ⟨g, cp, cur, e, hge, (far g (by omega)).trans hh, r⟩
theorem MoS.put {w0 wr : World} {ao : Option Addr} {n cap : Nat} {st : Option Int} {k c v d k' c' v' d' : Int} {gv : Value} {G : List Int} (h : MoS w0 wr ao n cap st k c v d gv G) (i : Nat) (x : Value)
    (hx : (#[.int .i64 k, .int .i64 c, .int .i64 v, .int .i64 d, gv] : Array Value).setIfInBounds i x = #[.int .i64 k', .int .i64 c', .int .i64 v', .int .i64 d', gv]) :
    MoS w0 (wr.setCell ⟨w0.heap.size + 1 + 1, i, none⟩ x) ao n cap st k' c' v' d' gv G := mo_put h.1 h.2.1 h.2.2.1 h.2.2.2.2.1 h.2.2.2.2.2 i x hx h.2.2.2.1
theorem MoS.alloc {w0 wr : World} {ao : Option Addr} {n cap : Nat} {st : Option Int} {k c v d : Int} {gv : Value} {G : List Int} (h : MoS w0 wr ao n cap st k c v d gv G) (o : Obj) : MoS w0 (wr.alloc o) ao n cap st k c v d gv G := by
  have ba : Below wr.heap.size wr (wr.alloc o) := (Below.refl _ _).alloc (Nat.le_refl _) _
  obtain ⟨h1, ⟨p, h2, h2'⟩, h3, h4, h5, h6⟩ := h
  exact ⟨h1.below ba h1.lt, ⟨p, (ba.block _ (by omega)).trans h2, h2'⟩, (ba.block _ (by omega)).trans h3, h4.alloc o, Nat.le_trans h5 ba.size, h6.trans (ba.mono h6.size)⟩
theorem MoS.step {w0 wr w' : World} {ao : Option Addr} {n cap : Nat} {st : Option Int} {k c v d : Int} {gv : Value} {G : List Int} (h : MoS w0 wr ao n cap st k c v d gv G) (ba : Below wr.heap.size wr w') : MoS w0 w' ao n cap st k c v d gv G := by
  obtain ⟨h1, ⟨p, h2, h2'⟩, h3, h4, h5, h6⟩ := h
  exact ⟨h1.below ba h1.lt, ⟨p, (ba.block _ (by omega)).trans h2, h2'⟩, (ba.block _ (by omega)).trans h3, gbelow h4 ba, Nat.le_trans h5 ba.size, h6.trans (ba.mono h6.size)⟩
theorem MoS.grow {w0 wr w' : World} {ao : Option Addr} {n cap : Nat} {st : Option Int} {k c v d : Int} {gv gv' : Value} {G G' : List Int} (h : MoS w0 wr ao n cap st k c v d gv G) (hg : wr.grownBy w' gv.ownBlock)
    (hn : w'.ownsRow (w0.heap.size + 1 + 1 + 1) 3 1 gv' G'.length (G'.map (.int .i64))) : MB w' w0.heap.size 227 0 0 0 0 none 0 0 ∧ Cu w' (w0.heap.size + 1) ao n cap st ∧ w'.heap[w0.heap.size + 1 + 1]? = some (.cells #[.int .i64 k, .int .i64 c, .int .i64 v, .int .i64 d, gv] 227 (0, 0)) ∧
      w'.ownsRow (w0.heap.size + 1 + 1 + 1) 3 1 gv' G'.length (G'.map (.int .i64)) ∧ w0.heap.size + 1 + 1 + 1 ≤ w'.heap.size ∧ Below w0.heap.size w0 w' := by
  obtain ⟨h1, ⟨p, h2, h2'⟩, h3, h4, h5, h6⟩ := h
  have hne : ∀ j, j < w0.heap.size + 1 + 1 + 1 → some j ≠ gv.ownBlock := fun j hj e => by have := (World.ownsRow.lt h4) j e.symm; omega
  refine ⟨(hg.block _ (by omega) (hne _ (by omega))).trans h1, ⟨p, (hg.block _ (by omega) (hne _ (by omega))).trans h2, h2'⟩, (hg.block _ (by omega) (hne _ (by omega))).trans h3, hn, Nat.le_trans h5 hg.size, h6.grown hg h6.size ?_⟩
  intro j hj
  have := (World.ownsRow.lt h4) j hj
  omega
theorem MoS.cells {w0 wr : World} {ao : Option Addr} {n cap : Nat} {st : Option Int} {k c v d : Int} {gv : Value} {G : List Int} (h : MoS w0 wr ao n cap st k c v d gv G) :
    (wr.cell? ⟨w0.heap.size + 1 + 1, 0, none⟩ = some (.int .i64 k) ∧ wr.cell? ⟨w0.heap.size + 1 + 1, 1, none⟩ = some (.int .i64 c) ∧ wr.cell? ⟨w0.heap.size + 1 + 1, 2, none⟩ = some (.int .i64 v) ∧ wr.cell? ⟨w0.heap.size + 1 + 1, 3, none⟩ = some (.int .i64 d) ∧ wr.cell? ⟨w0.heap.size + 1 + 1, 4, none⟩ = some gv) ∧
    (∀ i, wr.frozen? ⟨w0.heap.size + 1 + 1, i, none⟩ = false) :=
  ⟨⟨blk_cell h.2.2.1 rfl, blk_cell h.2.2.1 rfl, blk_cell h.2.2.1 rfl, blk_cell h.2.2.1 rfl, blk_cell h.2.2.1 rfl⟩, fun i => by simp [World.frozen?, h.2.2.1]⟩
theorem MoS.cur {w0 wr : World} {ao : Option Addr} {n cap : Nat} {st : Option Int} {k c v d : Int} {gv : Value} {G : List Int} (h : MoS w0 wr ao n cap st k c v d gv G) :
    wr.cell? ⟨w0.heap.size + 1, 2, none⟩ = some (.bool st.isSome) := by
  obtain ⟨_, ⟨p, h2, _⟩, _⟩ := h
  exact blk_cell h2 rfl

theorem sts_pos {n : Nat} {f : Nat → Int} {p : Int} (j : Nat) : ∀ {q : Int}, sts n f (some p) j = some q → p + j ≤ q ∧ (0 < j → q ≤ n) := by
  induction j with
  | zero => intro q h; cases h; exact ⟨by omega, fun h => absurd h (by omega)⟩
  | succ j ih =>
    intro q h
    rw [sts] at h
    cases hs : sts n f (some p) j with
    | none => rw [hs] at h; cases h
    | some q' =>
      rw [hs] at h
      have h1 := (ih hs).1
      simp only [nx] at h
      cases hr : rdI n f q' with
      | none => rw [hr] at h; cases h
      | some xy =>
        rw [hr] at h
        simp at h
        obtain ⟨x, y⟩ := xy
        have := rdI_pos hr
        simp at h
        omega
theorem rdv_pos (n : Nat) (f : Nat → Int) (st : Option Int) : 0 ≤ rdv n f st ∧ rdv n f st ≤ 2147483647 := by
  cases st with
  | none => simp [rdv]
  | some p =>
    simp only [rdv]
    cases hr : rdI n f p with
    | none => simp
    | some xy => obtain ⟨x, y⟩ := xy; have := rdI_pos hr; simp; omega

theorem mb_byte (k c v h : Int) (f : Nat → Int) (n : Nat) : ∀ z ∈ mb k c v h f n, 0 ≤ z ∧ z ≤ 255 := by
  unfold mb
  split
  · next hok =>
    obtain ⟨hn12, hfb, hkb, hcb, hvb, hhb⟩ := mok_bd hok
    have hl := mbody_len (k := k) (c := c) (v := v) (h := h) (f := f) hn12
    intro z hz
    simp only [framed, List.mem_append] at hz
    rcases hz with (hz | hz) | hz
    · exact pb_byte _ (by omega) (by omega) z hz
    · refine nums_byte ([k, c, v, h, (n : Int)] ++ (List.range n).map f) ?_ z hz
      intro x hx
      simp at hx
      rcases hx with rfl | rfl | rfl | rfl | rfl | ⟨j, hj, rfl⟩
      · exact hkb
      · exact hcb
      · exact hvb
      · exact hhb
      · omega
      · exact hfb j hj
    · simp [s4] at hz
      omega
  · simp
theorem bstr_inj {L M : List Int} (hL : ∀ z ∈ L, 0 ≤ z ∧ z ≤ 255) (hM : ∀ z ∈ M, 0 ≤ z ∧ z ≤ 255) (h : bstr L = bstr M) : L = M := by
  have back : ∀ N : List Int, (∀ z ∈ N, 0 ≤ z ∧ z ≤ 255) → (N.map fun z => UInt8.ofNat z.toNat).map (fun u => ((u.toNat : Nat) : Int)) = N := by
    intro N hN
    rw [List.map_map]
    conv => rhs; rw [← List.map_id N]
    refine List.map_congr_left fun z hz => ?_
    have := hN z hz
    simp [UInt8.toNat_ofNat']
    omega
  have e : (L.map fun z => UInt8.ofNat z.toNat) = (M.map fun z => UInt8.ofNat z.toNat) := by
    have := congrArg (fun b : ByteArray => b.data.toList) h
    simpa [bstr] using this
  rw [← back L hL, ← back M hM, e]

theorem bytes_ne {a b : ByteArray} (h : ¬ a = b) : (a.toList == b.toList) = false := by
  rw [beq_eq_false_iff_ne]
  intro e
  rw [ByteArray.toList_eq, ByteArray.toList_eq] at e
  exact h (WideShapes.bytes_inj e)
theorem own_set {w : World} {B g i n : Nat} {t : TypeId} {ao : Option Addr} {F : Nat → Value} (h : Own w B t ao n F) (hg : g < B) (v : Value) : Own (w.setCell ⟨g, i, none⟩ v) B t ao n F := by
  rcases h with h | ⟨g', ea, hB', c, hc, hs, hF⟩
  · exact .inl h
  · refine .inr ⟨g', ea, hB', c, ?_, hs, hF⟩
    simp only [World.setCell, Array.getElem?_modify]
    rw [if_neg (by omega)]
    exact hc
theorem own_put5 {w : World} {R B B' n : Nat} {t : TypeId} {ao : Option Addr} {F : Nat → Value} (h : Own w B t ao n F) (hR : R < B) (hB : B' ≤ B) (a b c d e : Value) :
    Own (((((w.setCell ⟨R, 0, none⟩ a).setCell ⟨R, 1, none⟩ b).setCell ⟨R, 2, none⟩ c).setCell ⟨R, 3, none⟩ d).setCell ⟨R, 4, none⟩ e) B' t ao n F := by
  have := own_set (i := 4) (own_set (i := 3) (own_set (i := 2) (own_set (i := 1) (own_set (i := 0) h hR a) hR b) hR c) hR d) hR e
  rcases this with h | ⟨g', ea, hB', c, hc, hs, hF⟩
  · exact .inl h
  · exact .inr ⟨g', ea, by omega, c, hc, hs, hF⟩

theorem below_put5 {w wr : World} (h : Below w.heap.size w wr) (a b c d e : Value) : Below w.heap.size w (((((wr.setCell ⟨w.heap.size, 0, none⟩ a).setCell ⟨w.heap.size, 1, none⟩ b).setCell ⟨w.heap.size, 2, none⟩ c).setCell ⟨w.heap.size, 3, none⟩ d).setCell ⟨w.heap.size, 4, none⟩ e) :=
  ((((h.setCell (p := ⟨w.heap.size, 0, none⟩) (Nat.le_refl _) a).setCell (p := ⟨w.heap.size, 1, none⟩) (Nat.le_refl _) b).setCell (p := ⟨w.heap.size, 2, none⟩) (Nat.le_refl _) c).setCell (p := ⟨w.heap.size, 3, none⟩) (Nat.le_refl _) d).setCell (p := ⟨w.heap.size, 4, none⟩) (Nat.le_refl _) e

set_option maxHeartbeats 4000000 in
set_option maxRecDepth 100000 in
theorem msgof_spec (ao : Option Addr) (n cap : Nat) (p : Int) (f : Nat → Int) (w : World) (hn : n ≤ 1048576) (hcap : n ≤ cap) (hp0 : -9223372036854775808 ≤ p) (hp : p ≤ 9223372036854775807) (hs : SL .u8 w ao n f) (hf : ∀ i, i < n → 0 ≤ f i ∧ f i ≤ 255) :
    Calls Tryz.prog 253 #[.slice ao n cap, .int .i64 p] w fun e w' => MsgOut w w' n f p e := by
  obtain ⟨i0, hi, hz0, hz1, hz2⟩ := info_parts Tryz.info3
  have HS := hide hs
  have HF := hide hf
  clear hs hf
  go_enter Tryz.func253, Tryz.ntmps253
  go_wp2_with fail
  have hb2 : Below w.heap.size w ((w.alloc (.cells #[.int .i64 0, .int .i64 0, .int .i64 0, .int .i64 0, .slice none 0 0] 227)).alloc (.cells #[.slice ao n cap, .int .i64 p, .bool true] 143)) := ((Below.refl _ _).alloc (Nat.le_refl _) _).alloc (by simp) _
  have hR := (MB.new w 227 0 0 0 0 none 0 0)
  have hC : ((w.alloc (.cells #[.int .i64 0, .int .i64 0, .int .i64 0, .int .i64 0, .slice none 0 0] 227)).alloc (.cells #[.slice ao n cap, .int .i64 p, .bool true] 143)).heap[w.heap.size + 1]? = some (.cells #[.slice ao n cap, .int .i64 p, .bool true] 143 (0, 0)) := by
    have := Deep.blk_alloc_new (w.alloc (.cells #[.int .i64 0, .int .i64 0, .int .i64 0, .int .i64 0, .slice none 0 0] 227)) (.cells #[.slice ao n cap, .int .i64 p, .bool true] 143)
    simpa using this
  refine (num_any (w.heap.size + 1) ao n cap f (some p) _ hn (HS.out.below hb2) HF.out ⟨p, hC, (fun _ e => by cases e; rfl), hp⟩).mono ?_
  rintro e w1 ⟨rfl, hc1, ho1⟩
  have hR1 : MB w1 w.heap.size 227 0 0 0 0 none 0 0 := (ho1.2.2 _ (by omega)).trans ((hR.below ((Below.refl _ _).alloc (Nat.le_refl _) _) (by simp) : MB ((w.alloc (.cells #[.int .i64 0, .int .i64 0, .int .i64 0, .int .i64 0, .slice none 0 0] 227)).alloc (.cells #[.slice ao n cap, .int .i64 p, .bool true] 143)) w.heap.size 227 0 0 0 0 none 0 0))
  have hsz1 : w1.heap.size = w.heap.size + 1 + 1 := by rw [ho1.2.1]; simp
  have B1 := hide (hb2.trans (ho1.1.mono (by omega)))
  have HR1 := hide hR1
  have HC1 := hide hc1
  clear hb2 hR hC hR1 hc1 ho1
  cases hs1 : nx n f (some p) with
  | none =>
    have hno : Hid (¬ ∃ k c v d G, Begins n f p k c v d G) := fun ⟨k, c, v, d, G, hB⟩ => by
      obtain ⟨⟨q, hq, _⟩, _⟩ := begins_read hB
      rw [show sts n f (some p) 1 = nx n f (some p) from rfl, hs1] at hq
      cases hq
    obtain ⟨q, hblk, _, _⟩ := HC1.out
    rw [hs1] at hblk
    have c2 := blk_cell (i := 2) hblk rfl
    change w1.cell? ⟨w.heap.size + 1, 2, none⟩ = some (.bool false) at c2
    obtain ⟨r0, r1, r2, r3, r4⟩ := HR1.out.cells
    have zr : ∀ i, w1.frozen? ⟨w.heap.size, i, none⟩ = false := fun i => by have := HR1.out; unfold MB at this; simp [World.frozen?, this]
    clear hblk hs1 HC1
    go_wp2_with fail
    refine bodyPost_ret (v := .tuple #[.agg #[.int .i64 0, .int .i64 0, .int .i64 0, .int .i64 0, .slice none 0 0], .int .i64 0, .bool false]) (by simp [results, Tryz.results253, go_sem, r0, r1, r2, r3, r4]) rfl ?_
    exact ⟨.inr ⟨hno.out, rfl⟩, below_put5 B1.out _ _ _ _ _⟩
  | some q1 =>
    obtain ⟨q, hblk, hq, _⟩ := HC1.out
    rw [hs1] at hblk hq HC1
    obtain rfl : q = q1 := hq q1 rfl
    obtain ⟨x, hx⟩ : ∃ x, rdI n f p = some (x, q) := by
      simp only [nx] at hs1
      cases hr : rdI n f p with
      | none => rw [hr] at hs1; cases hs1
      | some xy => rw [hr] at hs1; simp at hs1; exact ⟨xy.1, by rw [← hs1]⟩
    have hxp := rdI_pos hx
    have hxv : rdv n f (some p) = x := by simp [rdv, hx]
    have HX1 := hide (And.intro hs1 hxv)
    have HXP := hide hxp
    rw [hxv]
    have c1 := blk_cell (i := 1) hblk rfl
    have c2 := blk_cell (i := 2) hblk rfl
    change w1.cell? ⟨w.heap.size + 1, 1, none⟩ = some (.int .i64 q) at c1
    change w1.cell? ⟨w.heap.size + 1, 2, none⟩ = some (.bool true) at c2
    clear hblk hq hs1 hx hxv
    by_cases hbig : (n : Int) - q - 4 < x
    · have hno : Hid (¬ ∃ k c v d G, Begins n f p k c v d G) := fun ⟨k, c, v, d, G, hB⟩ => by
        obtain ⟨⟨q', hq', hle⟩, _⟩ := begins_read hB
        rw [show sts n f (some p) 1 = nx n f (some p) from rfl, HX1.out.1] at hq'
        cases hq'
        rw [HX1.out.2] at hle
        omega
      obtain ⟨r0, r1, r2, r3, r4⟩ := HR1.out.cells
      have zr : ∀ i, w1.frozen? ⟨w.heap.size, i, none⟩ = false := fun i => by have := HR1.out; unfold MB at this; simp [World.frozen?, this]
      clear HC1
      go_wp2_with fail
      refine bodyPost_ret (v := .tuple #[.agg #[.int .i64 0, .int .i64 0, .int .i64 0, .int .i64 0, .slice none 0 0], .int .i64 0, .bool false]) (by simp [results, Tryz.results253, go_sem, r0, r1, r2, r3, r4]) rfl ?_
      exact ⟨.inr ⟨hno.out, rfl⟩, below_put5 B1.out _ _ _ _ _⟩
    · have hM0 : Hid (MoS w (w1.alloc (.cells #[.int .i64 0, .int .i64 0, .int .i64 0, .int .i64 0, .slice none 0 0] 227)) ao n cap (sts n f (some p) 1) 0 0 0 0 (.slice none 0 0) []) := by
        have ba : Below w1.heap.size w1 (w1.alloc (.cells #[.int .i64 0, .int .i64 0, .int .i64 0, .int .i64 0, .slice none 0 0] 227)) := (Below.refl _ _).alloc (Nat.le_refl _) _
        rw [show sts n f (some p) 1 = nx n f (some p) from rfl, HX1.out.1]
        obtain ⟨q', hb', hq', hle'⟩ := HC1.out
        refine ⟨HR1.out.below ba HR1.out.lt, ⟨q', (ba.block _ (by omega)).trans hb', hq', hle'⟩, ?_, gnil, by simp; omega, B1.out.trans (ba.mono B1.out.size)⟩
        have := Deep.blk_alloc_new w1 (.cells #[.int .i64 0, .int .i64 0, .int .i64 0, .int .i64 0, .slice none 0 0] 227)
        rw [hsz1] at this
        exact this
      clear HC1 HR1 B1
      go_wp2_with fail
      refine (num_any (w.heap.size + 1) ao n cap f (sts n f (some p) 1) _ hn (HS.out.below hM0.out.2.2.2.2.2) HF.out hM0.out.2.1).mono ?_
      rintro e wN1 ⟨rfl, hcN, hoN⟩
      have hN1 := hide (hM0.out.num hoN (show Cu wN1 (w.heap.size + 1) ao n cap (sts n f (some p) 2) from hcN))
      obtain ⟨⟨m0, m1, m2, m3, m4⟩, mz⟩ := hN1.out.cells
      have HK1 : Hid (∃ K1, rdv n f (sts n f (some p) 1) = K1) := ⟨_, rfl⟩
      obtain ⟨K1, hK1⟩ := HK1.out
      have HE1 := hide hK1
      rw [hK1]
      have hM1 := hide (hN1.out.put 0 (.int .i64 K1) rfl)
      clear hcN hoN hM0 hK1 HK1 hN1
      go_wp2_with fail
      clear m0 m1 m2 m3 m4 mz
      refine (num_any (w.heap.size + 1) ao n cap f (sts n f (some p) 2) _ hn (HS.out.below hM1.out.2.2.2.2.2) HF.out hM1.out.2.1).mono ?_
      rintro e wN2 ⟨rfl, hcN, hoN⟩
      have hN2 := hide (hM1.out.num hoN (show Cu wN2 (w.heap.size + 1) ao n cap (sts n f (some p) 3) from hcN))
      obtain ⟨⟨m0, m1, m2, m3, m4⟩, mz⟩ := hN2.out.cells
      have HK2 : Hid (∃ K2, rdv n f (sts n f (some p) 2) = K2) := ⟨_, rfl⟩
      obtain ⟨K2, hK2⟩ := HK2.out
      have HE2 := hide hK2
      rw [hK2]
      have hM2 := hide (hN2.out.put 1 (.int .i64 K2) rfl)
      clear hcN hoN hM1 hK2 HK2 hN2
      go_wp2_with fail
      clear m0 m1 m2 m3 m4 mz
      refine (num_any (w.heap.size + 1) ao n cap f (sts n f (some p) 3) _ hn (HS.out.below hM2.out.2.2.2.2.2) HF.out hM2.out.2.1).mono ?_
      rintro e wN3 ⟨rfl, hcN, hoN⟩
      have hN3 := hide (hM2.out.num hoN (show Cu wN3 (w.heap.size + 1) ao n cap (sts n f (some p) 4) from hcN))
      obtain ⟨⟨m0, m1, m2, m3, m4⟩, mz⟩ := hN3.out.cells
      have HK3 : Hid (∃ K3, rdv n f (sts n f (some p) 3) = K3) := ⟨_, rfl⟩
      obtain ⟨K3, hK3⟩ := HK3.out
      have HE3 := hide hK3
      rw [hK3]
      have hM3 := hide (hN3.out.put 2 (.int .i64 K3) rfl)
      clear hcN hoN hM2 hK3 HK3 hN3
      go_wp2_with fail
      clear m0 m1 m2 m3 m4 mz
      refine (num_any (w.heap.size + 1) ao n cap f (sts n f (some p) 4) _ hn (HS.out.below hM3.out.2.2.2.2.2) HF.out hM3.out.2.1).mono ?_
      rintro e wN4 ⟨rfl, hcN, hoN⟩
      have hN4 := hide (hM3.out.num hoN (show Cu wN4 (w.heap.size + 1) ao n cap (sts n f (some p) 5) from hcN))
      obtain ⟨⟨m0, m1, m2, m3, m4⟩, mz⟩ := hN4.out.cells
      have HK4 : Hid (∃ K4, rdv n f (sts n f (some p) 4) = K4) := ⟨_, rfl⟩
      obtain ⟨K4, hK4⟩ := HK4.out
      have HE4 := hide hK4
      rw [hK4]
      have hM4 := hide (hN4.out.put 3 (.int .i64 K4) rfl)
      clear hcN hoN hM3 hK4 HK4 hN4
      go_wp2_with fail
      clear m0 m1 m2 m3 m4 mz c1 c2
      refine (num_any (w.heap.size + 1) ao n cap f (sts n f (some p) 5) _ hn (HS.out.below hM4.out.2.2.2.2.2) HF.out hM4.out.2.1).mono ?_
      rintro e w6 ⟨rfl, hcN, hoN⟩
      have hM6 := hide (hM4.out.num hoN (show Cu w6 (w.heap.size + 1) ao n cap (sts n f (some p) 6) from hcN))
      obtain ⟨hct0, hct1⟩ := rdv_pos n f (sts n f (some p) 5)
      have HK5 : Hid (∃ K5, rdv n f (sts n f (some p) 5) = K5) := ⟨_, rfl⟩
      obtain ⟨cnt, hK5⟩ := HK5.out
      have HE5 := hide hK5
      rw [hK5] at hct0 hct1 ⊢
      clear hcN hoN hM4 hK5 HK5
      clear hbig
      go_wp2
      go_loopw [11, 12] (fun i _ wr => ∃ (j : Nat) (gv : Value) (G : List Int), j ≤ n ∧ (j : Int) ≤ cnt ∧ i = .int .i64 j ∧ Hid (G = (List.range j).map (fun i => rdv n f (sts n f (some p) (6 + i)))) ∧ Hid (MoS w wr ao n cap (sts n f (some p) (6 + j)) K1 K2 K3 K4 gv G)) (fun i _ _ => cnt.toNat - (intOf i).toNat)
      case atStart => exact ⟨0, _, [], by omega, by omega, rfl, rfl, hM6.out⟩
      case round =>
        clear hM6
        obtain ⟨j, gv, G, hjn, hjc, rfl, HG, HM⟩ := hrel
        have HGL : Hid (G.length = j) := (show _ = _ by rw [HG.out]; simp)
        have hcur := HM.out.cur
        cases hst : sts n f (some p) (6 + j) with
        | none =>
          rw [hst] at hcur HM
          simp only [Option.isSome_none] at hcur
          have hno : Hid (¬ ∃ k c v d G, Begins n f p k c v d G) := fun ⟨k, c, v, d, G0, hB⟩ => by
            obtain ⟨_, hs, _, _, _, _, h5, _⟩ := begins_read hB
            have h := hs (6 + j) (by rw [HE5.out] at h5; omega)
            rw [hst] at h
            cases h
          clear hst
          by_cases hjl : (j : Int) < cnt
          · skip
            obtain ⟨ro, rc, rfl, ⟨_, hrc, _⟩, hOw⟩ := Own.of_owns HM.out.2.2.2.1
            obtain ⟨⟨m0, m1, m2, m3, m4⟩, _⟩ := HM.out.cells
            have hGl := HGL.out
            have HOW := hide (And.intro hrc hOw.sl)
            clear hrc hOw hGl
            go_wp2_with fail
            refine (msgbytes_spec ro G.length rc (fun i => G.getD i 0) K1 K2 K3 K4 _ (by have := HGL.out; omega) HOW.out.1 HOW.out.2).mono ?_
            rintro e w9 ⟨v9, rfl, ho9, hb9⟩
            obtain ⟨bo, bc, rfl, ⟨_, hbc, _⟩, hO9⟩ := Own.of_owns ho9
            have HM9 := hide (HM.out.step hb9)
            have hcur9 := HM9.out.cur
            obtain ⟨r0, r1, r2, r3, r4⟩ := HM9.out.1.cells
            have zr : ∀ i, w9.frozen? ⟨w.heap.size, i, none⟩ = false := fun i => by have := HM9.out.1; unfold MB at this; simp [World.frozen?, this]
            clear m0 m1 m2 m3 m4 hcur HM
            simp only [Option.isSome_none] at hcur9
            clear ho9 hb9 hO9 hbc HOW
            go_wp2_with fail
            go_quiet (fail)
            go_wp2_with fail
            refine bodyPost_ret (v := .tuple #[.agg #[.int .i64 0, .int .i64 0, .int .i64 0, .int .i64 0, .slice none 0 0], .int .i64 0, .bool false]) (by simp [results, Tryz.results253, go_sem, r0, r1, r2, r3, r4]) rfl ?_
            exact ⟨.inr ⟨hno.out, rfl⟩, below_put5 (Below.drawn HM9.out.2.2.2.2.2 _) _ _ _ _ _⟩
          · skip
            obtain ⟨ro, rc, rfl, ⟨_, hrc, _⟩, hOw⟩ := Own.of_owns HM.out.2.2.2.1
            obtain ⟨⟨m0, m1, m2, m3, m4⟩, _⟩ := HM.out.cells
            have hGl := HGL.out
            have HOW := hide (And.intro hrc hOw.sl)
            clear hrc hOw hGl
            go_wp2_with fail
            refine (msgbytes_spec ro G.length rc (fun i => G.getD i 0) K1 K2 K3 K4 _ (by have := HGL.out; omega) HOW.out.1 HOW.out.2).mono ?_
            rintro e w9 ⟨v9, rfl, ho9, hb9⟩
            obtain ⟨bo, bc, rfl, ⟨_, hbc, _⟩, hO9⟩ := Own.of_owns ho9
            have HM9 := hide (HM.out.step hb9)
            have hcur9 := HM9.out.cur
            obtain ⟨r0, r1, r2, r3, r4⟩ := HM9.out.1.cells
            have zr : ∀ i, w9.frozen? ⟨w.heap.size, i, none⟩ = false := fun i => by have := HM9.out.1; unfold MB at this; simp [World.frozen?, this]
            clear m0 m1 m2 m3 m4 hcur HM
            simp only [Option.isSome_none] at hcur9
            clear ho9 hb9 hO9 hbc HOW
            go_wp2_with fail
            go_quiet (fail)
            go_wp2_with fail
            refine bodyPost_ret (v := .tuple #[.agg #[.int .i64 0, .int .i64 0, .int .i64 0, .int .i64 0, .slice none 0 0], .int .i64 0, .bool false]) (by simp [results, Tryz.results253, go_sem, r0, r1, r2, r3, r4]) rfl ?_
            exact ⟨.inr ⟨hno.out, rfl⟩, below_put5 (Below.drawn HM9.out.2.2.2.2.2 _) _ _ _ _ _⟩
        | some q6 =>
          rw [hst] at hcur
          simp only [Option.isSome_some] at hcur
          have hq6 := sts_pos (6 + j) hst
          by_cases hjl : (j : Int) < cnt
          · have hjn' : j + 1 ≤ n := by have := hq6.2 (by omega); omega
            clear hst hq6
            go_wp2_with fail
            refine (num_any (w.heap.size + 1) ao n cap f (sts n f (some p) (6 + j)) _ hn (HS.out.below HM.out.2.2.2.2.2) HF.out HM.out.2.1).mono ?_
            rintro e w7 ⟨rfl, hcN, hoN⟩
            have hN := hide (HM.out.num hoN (show Cu w7 (w.heap.size + 1) ao n cap (sts n f (some p) (6 + (j + 1))) from hcN))
            obtain ⟨⟨m0, m1, m2, m3, m4⟩, mz⟩ := hN.out.cells
            have hnx : Hid (G ++ [rdv n f (sts n f (some p) (6 + j))] = (List.range (j + 1)).map (fun i => rdv n f (sts n f (some p) (6 + i)))) := (show _ = _ by rw [List.range_succ, List.map_append, ← HG.out]; rfl)
            generalize rdv n f (sts n f (some p) (6 + j)) = z at *
            have hGl := HGL.out
            clear hcN hoN HM hcur
            go_wp2_with (first | (at_builtin; refine wpList_append_lies _ rfl _ _ 26 rfl (w.heap.size + 1 + 1 + 1) 3 i0 (.int .i64 0) 1 8 Tryz.underlying26 hi hz0 hz1 hz2 rfl (by decide) _ _ _ rfl (hN.out.2.2.2.1.alloc _) ⟨w7.heap.size, 0, none⟩ 1 1 ([z].map (.int .i64)) rfl rfl (gcells _ _ _) (gones _ _) (by omega) (glens (by omega)) (by omega) (by have := hN.out.2.2.2.2.1; simp; omega) _ rfl ?_; intro g8 c8 w8 hown8 hgrow8 hat8 hlt8; have H8 := hide ((hN.out.alloc _).grow (G' := G ++ [z]) (gv' := .slice (some ⟨g8, 0, none⟩) (G.length + 1) c8) hgrow8 (by simpa using hown8)); have c84 : w8.cell? ⟨w.heap.size + 1 + 1, 4, none⟩ = some gv := blk_cell H8.out.2.2.1 rfl; have z84 : w8.frozen? ⟨w.heap.size + 1 + 1, 4, none⟩ = false := (by have := H8.out.2.2.1; simp [World.frozen?, this]); clear hown8 hgrow8 hat8 hlt8 m0 m1 m2 m3 m4 mz))
            have HM8 := hide (mo_put H8.out.1 H8.out.2.1 H8.out.2.2.1 H8.out.2.2.2.2.1 H8.out.2.2.2.2.2 4 (.slice (some ⟨g8, 0, none⟩) (G.length + 1) c8) rfl H8.out.2.2.2.1)
            go_roundw
            case rel => exact ⟨j + 1, _, G ++ [z], hjn', by omega, by go_num, hnx.out, (by have h := HM8.out; rw [hGl] at h; exact h)⟩
            case measure => simp [intOf]; omega
          · skip
            obtain ⟨ro, rc, rfl, ⟨_, hrc, _⟩, hOw⟩ := Own.of_owns HM.out.2.2.2.1
            obtain ⟨⟨m0, m1, m2, m3, m4⟩, _⟩ := HM.out.cells
            have hGl := HGL.out
            have HOW := hide (And.intro hrc hOw.sl)
            clear hrc hOw hGl
            go_wp2_with fail
            refine (msgbytes_spec ro G.length rc (fun i => G.getD i 0) K1 K2 K3 K4 _ (by have := HGL.out; omega) HOW.out.1 HOW.out.2).mono ?_
            rintro e w9 ⟨v9, rfl, ho9, hb9⟩
            obtain ⟨bo, bc, rfl, ⟨_, hbc, _⟩, hO9⟩ := Own.of_owns ho9
            have HM9 := hide (HM.out.step hb9)
            have hcur9 := HM9.out.cur
            obtain ⟨r0, r1, r2, r3, r4⟩ := HM9.out.1.cells
            have zr : ∀ i, w9.frozen? ⟨w.heap.size, i, none⟩ = false := fun i => by have := HM9.out.1; unfold MB at this; simp [World.frozen?, this]
            clear m0 m1 m2 m3 m4 hcur HM
            rw [hst] at hcur9
            simp only [Option.isSome_some] at hcur9
            have hjc' : (j : Int) = cnt := by omega
            have hpar : Hid (∀ k c v d G0, Begins n f p k c v d G0 → K1 = k ∧ K2 = c ∧ K3 = v ∧ K4 = d ∧ G = G0) := fun k c v d G0 hB => by
              obtain ⟨_, _, e1, e2, e3, e4, e5, e6⟩ := begins_read hB
              rw [HE1.out] at e1
              rw [HE2.out] at e2
              rw [HE3.out] at e3
              rw [HE4.out] at e4
              rw [HE5.out] at e5
              refine ⟨e1, e2, e3, e4, ?_⟩
              have ej : j = G0.length := by omega
              rw [HG.out, ej]
              conv => rhs; rw [← range_getD G0]
              refine List.map_congr_left fun i hi => ?_
              simp at hi
              rw [e6 i hi]
            have HB9 := hide HM9.out.2.2.2.2.2
            have hq0 := hq6.1
            have hq1 := hq6.2 (by omega)
            clear hb9 hst hjc' HOW ho9 hq6
            by_cases hok : MOk K1 K2 K3 K4 (fun i => G.getD i 0) G.length
            · have hmbl : 0 < (mb K1 K2 K3 K4 (fun i => G.getD i 0) G.length).length := by
                unfold mb
                rw [if_pos hok]
                simp [framed, s4]
                omega
              have hmb1 := mb_len K1 K2 K3 K4 (fun i => G.getD i 0) G.length
              have hbyt := hide (mb_byte K1 K2 K3 K4 (fun i => G.getD i 0) G.length)
              generalize hMB : mb K1 K2 K3 K4 (fun i => G.getD i 0) G.length = L at *
              have HMB := hide hMB
              clear hMB
              have d0 : decide ((L.length : Int) = 0) = false := decide_eq_false (by omega)
              have d1 : ((L.length : Int) == 0) = false := by rw [beq_eq_false_iff_ne]; omega
              by_cases hlong : (n : Int) - p < (L.length : Int)
              · have hno : Hid (¬ ∃ k c v d G, Begins n f p k c v d G) := fun ⟨k, c, v, d, G0, hB⟩ => by
                  obtain ⟨rfl, rfl, rfl, rfl, rfl⟩ := hpar.out k c v d G0 hB
                  have := hB.2.2.1
                  rw [HMB.out] at this
                  omega
                clear hpar
                go_wp2_with fail
                go_quiet (fail)
                go_wp2_with fail
                refine bodyPost_ret (v := .tuple #[.agg #[.int .i64 0, .int .i64 0, .int .i64 0, .int .i64 0, .slice none 0 0], .int .i64 0, .bool false]) (by simp [results, Tryz.results253, go_sem, r0, r1, r2, r3, r4]) rfl ?_
                exact ⟨.inr ⟨hno.out, rfl⟩, below_put5 (Below.drawn HM9.out.2.2.2.2.2 _) _ _ _ _ _⟩
              · obtain ⟨a, rfl⟩ : ∃ a : Nat, p = a := ⟨p.toNat, by have := HXP.out; omega⟩
                obtain ⟨b, off, rfl, hb, _⟩ := HS.out 0 (by have := HXP.out; omega)
                have HSb := hide (HS.out.below HB9.out)
                have hLbl : Hid (((List.range L.length).map (fun i => f (a + i))).length = L.length) := (show _ = _ by simp)
                have hLbb : Hid (∀ z ∈ (List.range L.length).map (fun i => f (a + i)), 0 ≤ z ∧ z ≤ 255) := fun z hz => by
                  simp at hz
                  obtain ⟨i, hi, rfl⟩ := hz
                  exact HF.out (a + i) (by omega)
                have hcv1 : ∀ q, (convert 22 9 (.slice bo L.length bc)).run Tryz.prog (w9.drewN q) = .ok (.string (bstr L)) (w9.drewN q) := fun q => conv_str (hO9.drawn q).sl hbyt.out
                have hcv2 : ∀ q c, (convert 22 9 (.slice (some ⟨b, off + a, none⟩) L.length c)).run Tryz.prog (w9.drewN q) = .ok (.string (bstr ((List.range L.length).map (fun i => f (a + i))))) (w9.drewN q) := fun q c => by
                  have h := conv_str (w := w9.drewN q) (ao := some ⟨b, off + a, none⟩) (cap := c) (L := (List.range L.length).map (fun i => f (a + i))) (fun i hi => by
                    have hi' : i < L.length := by simpa using hi
                    obtain ⟨b', off', e', hb', hc'⟩ := HSb.out (a + i) (by omega)
                    simp only [Option.some.injEq, Addr.mk.injEq] at e'
                    obtain ⟨rfl, rfl, _⟩ := e'
                    refine ⟨b, off + a, rfl, hb', ?_⟩
                    rw [Nat.add_assoc]
                    simp [List.getD, hi']
                    exact hc') hLbb.out
                  rw [hLbl.out] at h
                  exact h
                have HTR : Hid (bstr L = bstr ((List.range L.length).map (fun i => f (a + i))) ↔ Has n f a L) := ⟨fun h => by
                    have e := bstr_inj hbyt.out hLbb.out h
                    refine ⟨by omega, fun i hi => ?_⟩
                    have this : L.getD i 0 = ((List.range L.length).map (fun i => f (a + i))).getD i 0 := congrArg (fun l => l.getD i 0) e
                    rw [this]
                    simp [List.getD, hi], fun h => by
                    congr 1
                    refine List.ext_getElem (by simp) fun i h1 h2 => ?_
                    have := h.2 i h1
                    simp [List.getD, h1] at this
                    simp [this]⟩
                generalize bstr ((List.range L.length).map (fun i => f (a + i))) = sb at *
                generalize bstr L = sl at *
                have t1 : IntKind.i64.wrap ((a : Int) + (L.length : Int)) = (a : Int) + (L.length : Int) := by rw [IntKind.wrap_i64]; omega
                have t2 : (0 : Int) ≤ (a : Int) := by omega
                have t3 : (a : Int) ≤ (a : Int) + (L.length : Int) := by omega
                have t4 : (a : Int) + (L.length : Int) ≤ (cap : Int) := by omega
                have t5 : ((a : Int) + (L.length : Int)).toNat = a + L.length := by omega
                have t7 : IntKind.i64.wrap ((n : Int) - (a : Int)) = (n : Int) - (a : Int) := by rw [IntKind.wrap_i64]; omega
                have t6 : decide ((n : Int) - (a : Int) < (L.length : Int)) = false := decide_eq_false hlong
                clear hLbl hLbb hbyt HSb HF HS hO9 hbc
                have t8 : ¬ cap = a := by omega
                by_cases hEq : sl = sb
                · have hHas := hide (HTR.out.1 hEq)
                  subst hEq
                  obtain ⟨⟨m0, m1, m2, m3, m4⟩, _⟩ := HM9.out.cells
                  have hgl : Hid (G.length ≤ rc ∧ Own w9 (w.heap.size + 1 + 1 + 1) 3 ro G.length (fun i => .int .i64 (G.getD i 0))) := by
                    obtain ⟨ro', rc', e', ⟨_, h2, _⟩, h3⟩ := Own.of_owns HM9.out.2.2.2.1
                    cases e'
                    exact ⟨h2, h3⟩
                  go_wp2_with fail
                  go_quiet (fail)
                  go_wp2_with fail
                  refine bodyPost_ret (v := .tuple #[.agg #[.int .i64 K1, .int .i64 K2, .int .i64 K3, .int .i64 K4, .slice ro G.length rc], .int .i64 ((a : Int) + (L.length : Int)), .bool true]) (by simp [results, Tryz.results253, go_sem, r0, r1, r2, r3, r4]) rfl ?_
                  refine ⟨.inl ⟨K1, K2, K3, K4, G, ro, rc, ⟨by omega, hok, ?_⟩, by rw [HMB.out], hgl.out.1, own_put5 (hgl.out.2.drawn _) (by omega) (by omega) _ _ _ _ _⟩, below_put5 (Below.drawn HM9.out.2.2.2.2.2 _) _ _ _ _ _⟩
                  rw [HMB.out]
                  exact hHas.out
                · have hno : Hid (¬ ∃ k c v d G, Begins n f (a : Int) k c v d G) := fun ⟨k, c, v, d, G0, hB⟩ => by
                    obtain ⟨rfl, rfl, rfl, rfl, rfl⟩ := hpar.out k c v d G0 hB
                    have h := hB.2.2
                    rw [HMB.out] at h
                    exact hEq (HTR.out.2 h)
                  have hne : (sl.toList == sb.toList) = false := bytes_ne hEq
                  clear hpar
                  go_wp2_with fail
                  go_quiet (fail)
                  go_wp2_with fail
                  refine bodyPost_ret (v := .tuple #[.agg #[.int .i64 0, .int .i64 0, .int .i64 0, .int .i64 0, .slice none 0 0], .int .i64 0, .bool false]) (by simp [results, Tryz.results253, go_sem, r0, r1, r2, r3, r4]) rfl ?_
                  exact ⟨.inr ⟨hno.out, rfl⟩, below_put5 (Below.drawn HM9.out.2.2.2.2.2 _) _ _ _ _ _⟩
            · have hmb : mb K1 K2 K3 K4 (fun i => G.getD i 0) G.length = [] := by unfold mb; rw [if_neg hok]
              have hno : Hid (¬ ∃ k c v d G, Begins n f p k c v d G) := fun ⟨k, c, v, d, G0, hB⟩ => by
                obtain ⟨rfl, rfl, rfl, rfl, rfl⟩ := hpar.out k c v d G0 hB
                exact hok hB.2.1
              rw [hmb] at hbc hO9 ⊢
              clear hmb hok hpar hO9 hbc
              simp only [List.length_nil] at *
              go_wp2_with fail
              go_quiet (fail)
              go_wp2_with fail
              refine bodyPost_ret (v := .tuple #[.agg #[.int .i64 0, .int .i64 0, .int .i64 0, .int .i64 0, .slice none 0 0], .int .i64 0, .bool false]) (by simp [results, Tryz.results253, go_sem, r0, r1, r2, r3, r4]) rfl ?_
              exact ⟨.inr ⟨hno.out, rfl⟩, below_put5 (Below.drawn HM9.out.2.2.2.2.2 _) _ _ _ _ _⟩
end Go.Proofs.YtdijhlnkahfmgaaGreatDoor

/- MsgOf of the model. -/
import Derived.Test.YtkndnndildnbpaaGreatDoorGo
import Derived.Test.YtkndnndildnbpaaGreatDoorConvZ
import Derived.Test.YtkndnndildnbpaaGreatDoorGb
import Derived.Deep.QuietTactic

namespace Go.Proofs.YtkndnndildnbpaaGreatDoor
open Go.ChangeShapes Go.WideShapes Go.ChangeAt Go.RowKit
set_option linter.unusedVariables false
set_option linter.unusedSimpArgs false

/-- The result's block, a cursor behind it, a message behind that. -/
def MoS (w0 wr : World) (ao : Option Addr) (n cap : Nat) (st : Option Int) (k c v d : Int) (gv : Value) (G : List Int) : Prop :=
  MB wr w0.heap.size 53 0 0 0 0 none 0 0 ∧ Cu wr (w0.heap.size + 1) ao n cap st ∧ wr.heap[w0.heap.size + 1 + 1]? = some (.cells #[.int .i64 k, .int .i64 c, .int .i64 v, .int .i64 d, gv] 53 (0, 0)) ∧
  wr.ownsRow (w0.heap.size + 1 + 1 + 1) 3 1 gv G.length (G.map (.int .i64)) ∧ w0.heap.size + 1 + 1 + 1 ≤ wr.heap.size ∧ Below w0.heap.size w0 wr

theorem MoS.num {w0 wr w' : World} {ao : Option Addr} {n cap : Nat} {st st' : Option Int} {k c v d : Int} {gv : Value} {G : List Int} (h : MoS w0 wr ao n cap st k c v d gv G) (ho : Only (w0.heap.size + 1) wr w') (hc : Cu w' (w0.heap.size + 1) ao n cap st') :
    MoS w0 w' ao n cap st' k c v d gv G := by
  obtain ⟨h1, h2, h3, h4, h5, h6⟩ := h
  refine ⟨(ho.2.2 _ (by omega)).trans h1, hc, (ho.2.2 _ (by omega)).trans h3, ⟨h4.1, ?_⟩, by rw [ho.2.1]; exact h5, h6.trans (ho.1.mono (by omega))⟩
  rcases h4.2 with e | ⟨g, cp, cur, e, hge, hh, r⟩
  · exact .inl e
  · exact .inr ⟨g, cp, cur, e, hge, (ho.2.2 g (by omega)).trans hh, r⟩
theorem mo_put {w0 wr : World} {ao : Option Addr} {n cap : Nat} {st : Option Int} {k c v d k' c' v' d' : Int} {gv gv' : Value} {G' : List Int}
    (h1 : MB wr w0.heap.size 53 0 0 0 0 none 0 0) (h2 : Cu wr (w0.heap.size + 1) ao n cap st) (h3 : wr.heap[w0.heap.size + 1 + 1]? = some (.cells #[.int .i64 k, .int .i64 c, .int .i64 v, .int .i64 d, gv] 53 (0, 0)))
    (h5 : w0.heap.size + 1 + 1 + 1 ≤ wr.heap.size) (h6 : Below w0.heap.size w0 wr) (i : Nat) (x : Value)
    (hx : (#[.int .i64 k, .int .i64 c, .int .i64 v, .int .i64 d, gv] : Array Value).setIfInBounds i x = #[.int .i64 k', .int .i64 c', .int .i64 v', .int .i64 d', gv'])
    (hg : wr.ownsRow (w0.heap.size + 1 + 1 + 1) 3 1 gv' G'.length (G'.map (.int .i64))) :
    MoS w0 (wr.setCell ⟨w0.heap.size + 1 + 1, i, none⟩ x) ao n cap st k' c' v' d' gv' G' := by
  obtain ⟨p, h2, h2'⟩ := h2
  have far : ∀ j, j ≠ w0.heap.size + 1 + 1 → (wr.setCell ⟨w0.heap.size + 1 + 1, i, none⟩ x).heap[j]? = wr.heap[j]? := fun j hj => by
    simp only [World.setCell, Array.getElem?_modify]
    rw [if_neg (fun e => hj e.symm)]
  refine ⟨(far _ (by omega)).trans h1, ⟨p, (far _ (by omega)).trans h2, h2'⟩, ?_, ⟨hg.1, ?_⟩, by simpa [World.setCell] using h5, h6.setCell (p := ⟨w0.heap.size + 1 + 1, i, none⟩) (by simp; omega) _⟩
  · simp only [World.setCell, Array.getElem?_modify, if_true, h3, Option.map_some]
    rw [← hx]
    rfl
  · rcases hg.2 with e | ⟨g, cp, cur, e, hge, hh, r⟩
    · exact .inl e
    · exact .inr ⟨g, cp, cur, e, hge, (far g (by omega)).trans hh, r⟩
theorem MoS.put {w0 wr : World} {ao : Option Addr} {n cap : Nat} {st : Option Int} {k c v d k' c' v' d' : Int} {gv : Value} {G : List Int} (h : MoS w0 wr ao n cap st k c v d gv G) (i : Nat) (x : Value)
    (hx : (#[.int .i64 k, .int .i64 c, .int .i64 v, .int .i64 d, gv] : Array Value).setIfInBounds i x = #[.int .i64 k', .int .i64 c', .int .i64 v', .int .i64 d', gv]) :
    MoS w0 (wr.setCell ⟨w0.heap.size + 1 + 1, i, none⟩ x) ao n cap st k' c' v' d' gv G := mo_put h.1 h.2.1 h.2.2.1 h.2.2.2.2.1 h.2.2.2.2.2 i x hx h.2.2.2.1
theorem MoS.alloc {w0 wr : World} {ao : Option Addr} {n cap : Nat} {st : Option Int} {k c v d : Int} {gv : Value} {G : List Int} (h : MoS w0 wr ao n cap st k c v d gv G) (o : Obj) : MoS w0 (wr.alloc o) ao n cap st k c v d gv G := by
  have ba : Below wr.heap.size wr (wr.alloc o) := (Below.refl _ _).alloc (Nat.le_refl _) _
  obtain ⟨h1, ⟨p, h2, h2'⟩, h3, h4, h5, h6⟩ := h
  exact ⟨h1.below ba h1.lt, ⟨p, (ba.block _ (by omega)).trans h2, h2'⟩, (ba.block _ (by omega)).trans h3, h4.alloc o, Nat.le_trans h5 ba.size, h6.trans (ba.mono h6.size)⟩
theorem MoS.step {w0 wr w' : World} {ao : Option Addr} {n cap : Nat} {st : Option Int} {k c v d : Int} {gv : Value} {G : List Int} (h : MoS w0 wr ao n cap st k c v d gv G) (ba : Below wr.heap.size wr w') : MoS w0 w' ao n cap st k c v d gv G := by
  obtain ⟨h1, ⟨p, h2, h2'⟩, h3, h4, h5, h6⟩ := h
  exact ⟨h1.below ba h1.lt, ⟨p, (ba.block _ (by omega)).trans h2, h2'⟩, (ba.block _ (by omega)).trans h3, gbelow h4 ba, Nat.le_trans h5 ba.size, h6.trans (ba.mono h6.size)⟩
theorem MoS.cells {w0 wr : World} {ao : Option Addr} {n cap : Nat} {st : Option Int} {k c v d : Int} {gv : Value} {G : List Int} (h : MoS w0 wr ao n cap st k c v d gv G) :
    (wr.cell? ⟨w0.heap.size + 1 + 1, 0, none⟩ = some (.int .i64 k) ∧ wr.cell? ⟨w0.heap.size + 1 + 1, 1, none⟩ = some (.int .i64 c) ∧ wr.cell? ⟨w0.heap.size + 1 + 1, 2, none⟩ = some (.int .i64 v) ∧ wr.cell? ⟨w0.heap.size + 1 + 1, 3, none⟩ = some (.int .i64 d) ∧ wr.cell? ⟨w0.heap.size + 1 + 1, 4, none⟩ = some gv) ∧
    (∀ i, wr.frozen? ⟨w0.heap.size + 1 + 1, i, none⟩ = false) :=
  ⟨⟨blk_cell h.2.2.1 rfl, blk_cell h.2.2.1 rfl, blk_cell h.2.2.1 rfl, blk_cell h.2.2.1 rfl, blk_cell h.2.2.1 rfl⟩, fun i => by simp [World.frozen?, h.2.2.1]⟩
theorem MoS.cur {w0 wr : World} {ao : Option Addr} {n cap : Nat} {st : Option Int} {k c v d : Int} {gv : Value} {G : List Int} (h : MoS w0 wr ao n cap st k c v d gv G) :
    wr.cell? ⟨w0.heap.size + 1, 2, none⟩ = some (.bool st.isSome) := by
  obtain ⟨_, ⟨p, h2, _⟩, _⟩ := h
  exact blk_cell h2 rfl

theorem bstr_inj {L M : List Int} (hL : ∀ z ∈ L, 0 ≤ z ∧ z ≤ 255) (hM : ∀ z ∈ M, 0 ≤ z ∧ z ≤ 255) (h : bstr L = bstr M) : L = M := by
  have back : ∀ N : List Int, (∀ z ∈ N, 0 ≤ z ∧ z ≤ 255) → (N.map fun z => UInt8.ofNat z.toNat).map (fun u => ((u.toNat : Nat) : Int)) = N := by
    intro N hN
    rw [List.map_map]
    conv => rhs; rw [← List.map_id N]
    refine List.map_congr_left fun z hz => ?_
    have := hN z hz
    simp [UInt8.toNat_ofNat']
    omega
  have e : (L.map fun z => UInt8.ofNat z.toNat) = (M.map fun z => UInt8.ofNat z.toNat) := by
    have := congrArg (fun b : ByteArray => b.data.toList) h
    simpa [bstr] using this
  rw [← back L hL, ← back M hM, e]

end Go.Proofs.YtkndnndildnbpaaGreatDoor

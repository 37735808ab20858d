/- More on the cursor of the draws. -/
import Derived.Test.YtjbhgedbkajmdaaDraw
namespace Go.Proofs.Ytjbhgedbkajmdaa
open Go.ChangeShapes Go.WideShapes Go.ChangeAt Go.RowKit
set_option linter.unusedVariables false
set_option linter.unusedSimpArgs false
set_option maxRecDepth 100000

theorem Cur.alloc {w : World} {g n cap : Nat} {ao : Option Addr} {f : Nat → Int} (h : Cur w g ao n cap f) (o : Obj) : Cur (w.alloc o) g ao n cap f := by
  obtain ⟨i, x, hb, h0, h1, hn, hs, hf⟩ := h
  have hg : g < w.heap.size := (Array.getElem?_eq_some_iff.1 hb).1
  refine ⟨i, x, (Below.heap_alloc w o g hg).trans hb, h0, h1, hn, fun j hj => ?_, hf⟩
  obtain ⟨b, off, e, hlt, hc⟩ := hs j hj
  exact ⟨b, off, e, hlt, (World.cell?_of_block (w := w) (Below.heap_alloc w o b (by omega))).trans hc⟩

theorem Cur.lt {w : World} {g n cap : Nat} {ao : Option Addr} {f : Nat → Int} (h : Cur w g ao n cap f) : g < w.heap.size := by
  obtain ⟨i, x, hb, _⟩ := h
  exact (Array.getElem?_eq_some_iff.1 hb).1

theorem cell_blk {w : World} {b i : Nat} {c : Array Value} {t : TypeId} (hb : w.heap[b]? = some (.cells c t (0, 0))) : w.cell? ⟨b, i, none⟩ = c[i]? := by
  simp [World.cell?, hb]

/-- A list of ints that the call has just built. -/
theorem lit_cells (w : World) (zs : List Int) (t : TypeId) (g : Nat) (hg : g < w.heap.size) :
    ∀ i, i < zs.length → ∃ b off, (some ⟨w.heap.size, 0, none⟩ : Option Addr) = some ⟨b, off, none⟩ ∧ b < (w.alloc (.cells (zs.map (Value.int .i64)).toArray t)).heap.size ∧ b ≠ g ∧
      (w.alloc (.cells (zs.map (Value.int .i64)).toArray t)).cell? ⟨b, off + i, none⟩ = some (.int .i64 (zs.getD i 0)) := by
  intro i hi
  refine ⟨w.heap.size, 0, rfl, by simp, by omega, ?_⟩
  have hb : (w.alloc (.cells (zs.map (Value.int .i64)).toArray t)).heap[w.heap.size]? = some (.cells (zs.map (Value.int .i64)).toArray t (0, 0)) := Deep.blk_alloc_new _ _
  rw [Nat.zero_add, cell_blk hb]
  simp [List.getD, hi]

theorem lit_bd (zs : List Int) (h : zs.all (fun z => decide (-9223372036854775808 ≤ z) && decide (z ≤ 9223372036854775807)) = true) (i : Nat) (hi : i < zs.length) :
    -9223372036854775808 ≤ zs.getD i 0 ∧ zs.getD i 0 ≤ 9223372036854775807 := by
  have := List.all_eq_true.1 h (zs.getD i 0) (by simp [List.getD, hi])
  simpa using this

theorem draw_end {w w1 w2 : World} {o : Obj} (b1 : Below w.heap.size w w1) (hg : (w1.alloc o).grownBy w2 (some w.heap.size)) : Below w.heap.size w w2 :=
  (b1.alloc b1.size o).grown hg (by have := b1.size; simp; omega) (fun k hk => by simp at hk; omega)

theorem Cur.grown {w w' : World} {g n cap : Nat} {ao : Option Addr} {f : Nat → Int} {row : Option Nat} (h : Cur w g ao n cap f) (hg : w.grownBy w' row) (hr : ∀ k, row = some k → g < k) : Cur w' g ao n cap f := by
  obtain ⟨i, x, hb, h0, h1, hn, hs, hf⟩ := h
  have hlt : g < w.heap.size := (Array.getElem?_eq_some_iff.1 hb).1
  refine ⟨i, x, (hg.block g hlt (fun e => by have := hr g e.symm; omega)).trans hb, h0, h1, hn, fun j hj => ?_, hf⟩
  obtain ⟨b, off, e, hl, hc⟩ := hs j hj
  exact ⟨b, off, e, hl, (World.cell?_of_block (w := w) (hg.block b (by omega) (fun e => by have := hr b e.symm; omega))).trans hc⟩

theorem grown_alloc (w : World) (o : Obj) (g : Option Nat) : w.grownBy (w.alloc o) g := ⟨rfl, rfl, rfl, by simp, fun k hk _ => Below.heap_alloc w o k hk⟩

end Go.Proofs.Ytjbhgedbkajmdaa

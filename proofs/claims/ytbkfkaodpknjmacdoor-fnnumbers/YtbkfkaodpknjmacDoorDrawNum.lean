/- DrawPutNum and DrawDigits hand on some int. -/
import Derived.Test.YtbkfkaodpknjmacDoorDraw
namespace Go.Proofs.YtbkfkaodpknjmacDoor
open Go.ChangeShapes Go.WideShapes Go.ChangeAt Go.RowKit

theorem Cur.alloc {w : World} {g n cap : Nat} {ao : Option Addr} {f : Nat → Int} (h : Cur w g ao n cap f) (o : Obj) : Cur (w.alloc o) g ao n cap f := by
  obtain ⟨i, x, hb, h0, h1, hn, hs, hf⟩ := h
  have hg : g < w.heap.size := (Array.getElem?_eq_some_iff.1 hb).1
  refine ⟨i, x, (Below.heap_alloc w o g hg).trans hb, h0, h1, hn, fun j hj => ?_, hf⟩
  obtain ⟨b, off, e, hlt, hc⟩ := hs j hj
  exact ⟨b, off, e, hlt, (World.cell?_of_block (w := w) (Below.heap_alloc w o b (by omega))).trans hc⟩

theorem Cur.lt {w : World} {g n cap : Nat} {ao : Option Addr} {f : Nat → Int} (h : Cur w g ao n cap f) : g < w.heap.size := by
  obtain ⟨i, x, hb, _⟩ := h
  exact (Array.getElem?_eq_some_iff.1 hb).1

theorem cell_blk {w : World} {b i : Nat} {c : Array Value} {t : TypeId} (hb : w.heap[b]? = some (.cells c t (0, 0))) : w.cell? ⟨b, i, none⟩ = c[i]? := by
  simp [World.cell?, hb]

/-- A list of ints that the call has just built. -/
theorem lit_cells (w : World) (zs : List Int) (t : TypeId) (g : Nat) (hg : g < w.heap.size) :
    ∀ i, i < zs.length → ∃ b off, (some ⟨w.heap.size, 0, none⟩ : Option Addr) = some ⟨b, off, none⟩ ∧ b < (w.alloc (.cells (zs.map (Value.int .i64)).toArray t)).heap.size ∧ b ≠ g ∧
      (w.alloc (.cells (zs.map (Value.int .i64)).toArray t)).cell? ⟨b, off + i, none⟩ = some (.int .i64 (zs.getD i 0)) := by
  intro i hi
  refine ⟨w.heap.size, 0, rfl, by simp, by omega, ?_⟩
  have hb : (w.alloc (.cells (zs.map (Value.int .i64)).toArray t)).heap[w.heap.size]? = some (.cells (zs.map (Value.int .i64)).toArray t (0, 0)) := Deep.blk_alloc_new _ _
  rw [Nat.zero_add, cell_blk hb]
  simp [List.getD, hi]

theorem lit_bd (zs : List Int) (h : zs.all (fun z => decide (-9223372036854775808 ≤ z) && decide (z ≤ 9223372036854775807)) = true) (i : Nat) (hi : i < zs.length) :
    -9223372036854775808 ≤ zs.getD i 0 ∧ zs.getD i 0 ≤ 9223372036854775807 := by
  have := List.all_eq_true.1 h (zs.getD i 0) (by simp [List.getD, hi])
  simpa using this

theorem draw_end {w w1 w2 : World} {o : Obj} (b1 : Below w.heap.size w w1) (hg : (w1.alloc o).grownBy w2 (some w.heap.size)) : Below w.heap.size w w2 :=
  (b1.alloc b1.size o).grown hg (by have := b1.size; simp; omega) (fun k hk => by simp at hk; omega)

theorem draw_put (ao : Option Addr) (n cap : Nat) (f : Nat → Int) (w : World) (hn : n ≤ 1048576) (hs : SL .u8 w ao n f) (hf : ∀ i, i < n → 0 ≤ f i ∧ f i ≤ 255) :
    Calls Tryd.prog 5 #[.slice ao n cap] w fun e w' => (∃ x : Int, e = .returned (.int .i64 x) ∧ -9223372036854775808 ≤ x ∧ x ≤ 9223372036854775807) ∧ Below w.heap.size w w' := by
  have HS : Hid (SL .u8 w ao n f) := hs
  have HF : Hid (∀ i, i < n → 0 ≤ f i ∧ f i ≤ 255) := hf
  clear hs hf
  go_enter Tryd.func5, Tryd.ntmps5
  go_wp2_with fail
  refine (new_any ao n cap f _ hn HS.out HF.out).mono ?_
  rintro e w1 ⟨rfl, hc, b1⟩
  have HC : Hid (Cur w1 w.heap.size ao n cap f) := hc
  have HB : Hid (Below w.heap.size w w1) := b1
  clear hc b1
  go_wp2_with fail
  refine (pick_any w.heap.size n cap 10 10 ao (some ⟨w1.heap.size, 0, none⟩) f (fun i => [0, 1, 127, 128, 300, 16384, 2147483647, 2147483648, -1, 9223372036854775807].getD i 0) _ (by decide) (by decide) (HC.out.alloc _) (lit_cells w1 [0, 1, 127, 128, 300, 16384, 2147483647, 2147483648, -1, 9223372036854775807] 3 w.heap.size HC.out.lt)).mono ?_
  rintro e w2 ⟨⟨i, hi, rfl⟩, hc2, hg2⟩
  have HX : Hid (Below w.heap.size w w2) := draw_end HB.out hg2
  have HI : Hid (i < 10) := hi
  generalize hz : ([0, 1, 127, 128, 300, 16384, 2147483647, 2147483648, -1, 9223372036854775807] : List Int).getD i 0 = z
  have HZ : Hid (([0, 1, 127, 128, 300, 16384, 2147483647, 2147483648, -1, 9223372036854775807] : List Int).getD i 0 = z) := hz
  clear hc2 hg2 hz hi
  go_wp2
  go_ret
  exact ⟨⟨z, rfl, HZ.out ▸ lit_bd _ (by decide) i HI.out⟩, HX.out⟩

theorem draw_digits (ao : Option Addr) (n cap : Nat) (f : Nat → Int) (w : World) (hn : n ≤ 1048576) (hs : SL .u8 w ao n f) (hf : ∀ i, i < n → 0 ≤ f i ∧ f i ≤ 255) :
    Calls Tryd.prog 7 #[.slice ao n cap] w fun e w' => (∃ x : Int, e = .returned (.int .i64 x) ∧ -9223372036854775808 ≤ x ∧ x ≤ 9223372036854775807) ∧ Below w.heap.size w w' := by
  have HS : Hid (SL .u8 w ao n f) := hs
  have HF : Hid (∀ i, i < n → 0 ≤ f i ∧ f i ≤ 255) := hf
  clear hs hf
  go_enter Tryd.func7, Tryd.ntmps7
  go_wp2_with fail
  refine (new_any ao n cap f _ hn HS.out HF.out).mono ?_
  rintro e w1 ⟨rfl, hc, b1⟩
  have HC : Hid (Cur w1 w.heap.size ao n cap f) := hc
  have HB : Hid (Below w.heap.size w w1) := b1
  clear hc b1
  go_wp2_with fail
  refine (pick_any w.heap.size n cap 6 6 ao (some ⟨w1.heap.size, 0, none⟩) f (fun i => [0, 7, -12, 100000, 9223372036854775807, -9223372036854775808].getD i 0) _ (by decide) (by decide) (HC.out.alloc _) (lit_cells w1 [0, 7, -12, 100000, 9223372036854775807, -9223372036854775808] 3 w.heap.size HC.out.lt)).mono ?_
  rintro e w2 ⟨⟨i, hi, rfl⟩, hc2, hg2⟩
  have HX : Hid (Below w.heap.size w w2) := draw_end HB.out hg2
  have HI : Hid (i < 6) := hi
  generalize hz : ([0, 7, -12, 100000, 9223372036854775807, -9223372036854775808] : List Int).getD i 0 = z
  have HZ : Hid (([0, 7, -12, 100000, 9223372036854775807, -9223372036854775808] : List Int).getD i 0 = z) := hz
  clear hc2 hg2 hz hi
  go_wp2
  go_ret
  exact ⟨⟨z, rfl, HZ.out ▸ lit_bd _ (by decide) i HI.out⟩, HX.out⟩
end Go.Proofs.YtbkfkaodpknjmacDoor

/- What l4Dent of the model keeps while it puts a byte in. -/
import Derived.Test.YtjbhgedbkajmdaaGa
import Derived.Test.YtjbhgedbkajmdaaBelowBZ
import Derived.Test.YtjbhgedbkajmdaaGc
import Derived.Deep.RegionHeld3
import Derived.Deep.AppendLies

namespace Go.Proofs.Ytjbhgedbkajmdaa
open Go.ChangeShapes Go.WideShapes Go.ChangeAt Go.RowKit
set_option linter.unusedVariables false
set_option linter.unusedSimpArgs false
set_option maxRecDepth 100000

theorem below_every (g n cap : Nat) (m : Int) (ao : Option Addr) (f : Nat → Int) (w : World) (h0 : 1 ≤ m) (h1 : m ≤ 1000000) (hc : Cur w g ao n cap f) :
    Calls Try.prog 76 #[.pointer (some ⟨g, 0, none⟩), .int .i64 m] w fun e w' => (∃ x : Int, e = .returned (.int .i64 x) ∧ 0 ≤ x ∧ x < m) ∧ Cur w' g ao n cap f ∧ w.grownBy w' (some g) := by
  by_cases h : m ≤ 256
  · exact below_any g n cap m ao f w h0 h hc
  · exact below_big g n cap m ao f w (by omega) h1 hc

/-- Bytes that a slice shows, somewhere. -/
def Sr (w : World) (x : Value) (L : List Int) : Prop := ∃ ad c, x = .slice (some ad) L.length c ∧ ∀ j u, (L.map (Value.int .u8))[j]? = some u → w.cell? (ad.add j) = some u

theorem step_append_src {P : Program} {w : World} {ops : Array Oper} {o : Oper} {a : Act} {K : Act → World → Prop} {Q : Exit → Act → World → Prop} {E : Prop} (hgd : o.guard = none) (s x : Operand) (t : TypeId)
    (ho : o.op = .call { callee := .builtin .append, args := #[s, x], argTypes := #[t, t] })
    (base : Nat) (e : TypeId) (i : TypeInfo) (z : Value) (bytes : Nat) (ht : P.underlying t = some (.slice e)) (hi : P.info? e = some i) (hz : i.zero = some z)
    (hsize : i.size = 1) (hby : i.bytes = bytes) (hzs : z.cells.size = 1)
    (v : Value) (M : List Int) (hs : a.eval s = v) (hown : w.ownsRow base e 1 v M.length (M.map (.int .u8)))
    (xv : Value) (L : List Int) (hx : a.eval x = xv) (hsrc : Sr w xv L)
    (h63 : M.length + L.length ≤ maxLen) (hbytes : (M.length + L.length) * bytes ≤ 140737488355328) (hbase : base ≤ w.heap.size)
    (h : ∀ v' w', w'.ownsRow base e 1 v' (M ++ L).length ((M ++ L).map (.int .u8)) → w.grownBy w' v.ownBlock → K (a.put o.dst v') w') :
    if Region.wanted o (yielded ops a.tmps) = true then Oper.wp P o a w K Q else E := by
  have hw : Region.wanted o (yielded ops a.tmps) = true := by simp [Region.wanted, hgd]
  rw [if_pos hw]
  obtain ⟨ad, c, e1, hc⟩ := hsrc
  refine wp_append_own w s x t ho base e i z 1 bytes ht hi hz hsize hby hzs (by decide) v M.length (M.map (.int .u8)) hs hown ad L.length c (L.map (.int .u8)) (hx.trans e1) (by simp) hc (gones _ _) h63 hbytes hbase ?_
  intro v' w' h1 h2 _
  exact h v' w' (by simpa using h1) h2

/-- The world while l4Dent builds: what is drawn from, the bytes given, and from Z on what is new. -/
def DE (w wr : World) (g : Nat) (ao : Option Addr) (n cap : Nat) (f : Nat → Int) (b Z : Nat) (L : List Int) : Prop :=
  CurW w wr g ao n cap f ∧ Z ≤ wr.heap.size ∧ w.heap.size ≤ Z ∧ b < Z ∧ g < b ∧ ∀ j u, (L.map (Value.int .u8))[j]? = some u → wr.cell? ⟨b, j, none⟩ = some u
section
variable {w wr w1 : World} {g n cap b Z rc t lb : Nat} {ao : Option Addr} {f : Nat → Int} {L : List Int}
theorem DE.far (h : DE w wr g ao n cap f b Z L) {row : Option Nat} (hg : wr.grownBy w1 row) (hb : some b ≠ row) (hc : CurW w w1 g ao n cap f) : DE w w1 g ao n cap f b Z L :=
  ⟨hc, Nat.le_trans h.2.1 hg.size, h.2.2.1, h.2.2.2.1, h.2.2.2.2.1, fun j u hu => (World.cell?_of_block (hg.block b (Nat.lt_of_lt_of_le h.2.2.2.1 h.2.1) hb)).trans (h.2.2.2.2.2 j u hu)⟩
theorem DE.cur (h : DE w wr g ao n cap f b Z L) (hc : Cur w1 g ao n cap f) (hg : wr.grownBy w1 (some g)) : DE w w1 g ao n cap f b Z L :=
  h.far hg (fun e => by have := h.2.2.2.2.1; cases e; omega) (h.1.step hc hg)
theorem DE.alloc (h : DE w wr g ao n cap f b Z L) (o : Obj) : DE w (wr.alloc o) g ao n cap f b Z L := h.cur (h.1.1.alloc o) (grown_alloc _ _ _)
theorem DE.app (h : DE w wr g ao n cap f b Z L) {row : Option Nat} (hg : wr.grownBy w1 row) (hr : ∀ k, row = some k → Z ≤ k) : DE w w1 g ao n cap f b Z L :=
  h.far hg (fun e => by have := hr b e.symm; have := h.2.2.2.1; omega) (h.1.app hg (fun k hk => Nat.le_trans h.2.2.1 (hr k hk)))
theorem DE.drawn (h : DE w wr g ao n cap f b Z L) : DE w wr.drew g ao n cap f b Z L := h.cur (h.1.1.grown (grown_of_below (Below.drawn (Below.refl _ _) 1) none) (fun k hk => by cases hk)) (grown_of_below (Below.drawn (Below.refl _ _) 1) _)
theorem DE.new {B : Nat} (ho : wr.ownsRow B 5 1 (.slice (some ⟨b, 0, none⟩) L.length rc) L.length (L.map (.int .u8))) (hg : g < B) (hc : CurW w wr g ao n cap f) : DE w wr g ao n cap f b wr.heap.size L :=
  have hl := World.ownsRow.lt ho b rfl
  ⟨hc, Nat.le_refl _, hc.2.1.size, hl.2, by omega, fun j u hu => by have := ho.cells (g := b) rfl j u hu; rwa [Addr.add_lit, Nat.zero_add] at this⟩
theorem DE.lt (h : DE w wr g ao n cap f b Z L) : g < Z := Nat.lt_trans h.2.2.2.2.1 h.2.2.2.1
theorem DE.head (h : DE w wr g ao n cap f b Z L) (ht : t ≤ L.length) : Sr wr (.slice (some ⟨b, 0, none⟩) t rc) (L.take t) := by
  refine ⟨⟨b, 0, none⟩, rc, by simp [Nat.min_eq_left ht], fun j u hu => ?_⟩
  rw [Addr.add_lit, Nat.zero_add]
  refine h.2.2.2.2.2 j u ?_
  rw [List.map_take, List.getElem?_take] at hu
  split at hu
  · exact hu
  · cases hu
theorem DE.tail (h : DE w wr g ao n cap f b Z L) : Sr wr (.slice (some ⟨b, t, none⟩) (L.length - t) rc) (L.drop t) := by
  refine ⟨⟨b, t, none⟩, rc, by simp, fun j u hu => ?_⟩
  rw [Addr.add_lit]
  refine h.2.2.2.2.2 (t + j) u ?_
  rw [List.map_drop, List.getElem?_drop] at hu
  exact hu
theorem DE.nothing (_h : DE w wr g ao n cap f b Z L) (ht : L.length ≤ t) : Sr wr (.slice (some ⟨b, 0, none⟩) 0 0) (L.drop t) := by
  rw [List.drop_eq_nil_of_le ht]
  exact ⟨⟨b, 0, none⟩, 0, rfl, fun j u hu => by simp at hu⟩

/-- The list that is picked from. -/
def PL (g lb : Nat) (wr : World) : Prop := lb < wr.heap.size ∧ g < lb ∧ wr.heap[lb]? = some (.cells #[.int .i64 0, .int .i64 1, .int .i64 128, .int .i64 3] 3 (0, 0))
theorem PL.new (wr : World) (h : g < wr.heap.size) : PL g wr.heap.size (wr.alloc (.cells #[.int .i64 0, .int .i64 1, .int .i64 128, .int .i64 3] 3)) := ⟨by simp, h, Deep.blk_alloc_new _ _⟩
theorem PL.far (h : PL g lb wr) {row : Option Nat} (hg : wr.grownBy w1 row) (hb : some lb ≠ row) : PL g lb w1 := ⟨Nat.lt_of_lt_of_le h.1 hg.size, h.2.1, (hg.block lb h.1 hb).trans h.2.2⟩
theorem PL.cells (h : PL g lb wr) : ∀ i, i < 4 → ∃ b off, (some ⟨lb, 0, none⟩ : Option Addr) = some ⟨b, off, none⟩ ∧ b < wr.heap.size ∧ b ≠ g ∧ wr.cell? ⟨b, off + i, none⟩ = some (.int .i64 (([0, 1, 128, 3] : List Int).getD i 0)) := by
  intro i hi
  refine ⟨lb, 0, rfl, h.1, by have := h.2.1; omega, ?_⟩
  rw [cell_of_row wr lb (0 + i) _ _ _ h.2.2]
  match i, hi with
  | 0, _ => rfl
  | 1, _ => rfl
  | 2, _ => rfl
  | 3, _ => rfl
theorem emp (w2 : World) : (w2.alloc (.cells #[] 5)).drew.ownsRow w2.heap.size 5 1 (.slice (some ⟨w2.heap.size, 0, none⟩) 0 0) ([] : List Int).length (([] : List Int).map (.int .u8)) := gbelow (gempty (Nat.le_refl _)) (Below.drawn (Below.refl _ _) 1)
theorem emp06 (w2 : World) (h : g < w2.heap.size) : ((w2.alloc (.cells #[] 5)).alloc (.cells #[.int .i64 0, .int .i64 1, .int .i64 128, .int .i64 3] 3)).drew.ownsRow w2.heap.size 5 1 (.slice (some ⟨w2.heap.size, 0, none⟩) 0 0) ([] : List Int).length (([] : List Int).map (.int .u8)) ∧
    PL g (w2.heap.size + 1) ((w2.alloc (.cells #[] 5)).alloc (.cells #[.int .i64 0, .int .i64 1, .int .i64 128, .int .i64 3] 3)).drew := by
  have e : (w2.alloc (.cells #[] 5)).heap.size = w2.heap.size + 1 := by simp
  have p := PL.new (g := g) (w2.alloc (.cells #[] 5)) (by omega)
  rw [e] at p
  exact ⟨gbelow ((gempty (Nat.le_refl _)).alloc _) (Below.drawn (Below.refl _ _) 1), p.far (grown_of_below (Below.drawn (Below.refl _ _) 1) none) (by simp)⟩
theorem emp60 (w2 : World) (h : g < w2.heap.size) : ((w2.alloc (.cells #[.int .i64 0, .int .i64 1, .int .i64 128, .int .i64 3] 3)).alloc (.cells #[] 5)).drew.ownsRow w2.heap.size 5 1 (.slice (some ⟨w2.heap.size + 1, 0, none⟩) 0 0) ([] : List Int).length (([] : List Int).map (.int .u8)) ∧
    PL g w2.heap.size ((w2.alloc (.cells #[.int .i64 0, .int .i64 1, .int .i64 128, .int .i64 3] 3)).alloc (.cells #[] 5)).drew := by
  have e : (w2.alloc (.cells #[.int .i64 0, .int .i64 1, .int .i64 128, .int .i64 3] 3)).heap.size = w2.heap.size + 1 := by simp
  have q := gempty (B := w2.heap.size) (w := w2.alloc (.cells #[.int .i64 0, .int .i64 1, .int .i64 128, .int .i64 3] 3)) (t := 5) (ik := .u8) (by omega)
  rw [e] at q
  exact ⟨gbelow q (Below.drawn (Below.refl _ _) 1), ((PL.new w2 h).far (grown_alloc _ _ none) (by simp)).far (grown_of_below (Below.drawn (Below.refl _ _) 1) none) (by simp)⟩
theorem pick4 (j : Nat) (hj : j < 4) : (0 ≤ ([0, 1, 128, 3] : List Int).getD j 0 ∧ ([0, 1, 128, 3] : List Int).getD j 0 ≤ 255) ∧ IntKind.u8.wrap (([0, 1, 128, 3] : List Int).getD j 0) = ([0, 1, 128, 3] : List Int).getD j 0 := by
  match j, hj with
  | 0, _ => decide
  | 1, _ => decide
  | 2, _ => decide
  | 3, _ => decide
theorem put_in {t : Nat} {z u : Int} (hb : ∀ z ∈ L, 0 ≤ z ∧ z ≤ 255) (hz : 0 ≤ z ∧ z ≤ 255) (hu : u ∈ L.take t ++ ([z] ++ L.drop t)) : 0 ≤ u ∧ u ≤ 255 := by
  rcases List.mem_append.1 hu with h | h
  · exact hb u (List.mem_of_mem_take h)
  · rcases List.mem_append.1 h with h | h
    · rw [List.mem_singleton.1 h]; exact hz
    · exact hb u (List.mem_of_mem_drop h)
theorem gone1 (wr : World) (z : Int) (h : Z ≤ wr.heap.size) : (wr.alloc (.cells #[.int .u8 z] 5)).ownsRow Z 5 1 (.slice (some ⟨wr.heap.size, 0, none⟩) 1 1) [z].length ([z].map (.int .u8)) :=
  ⟨rfl, .inr ⟨_, _, #[.int .u8 z], rfl, h, Deep.blk_alloc_new _ _, by simp, by unfold maxLen; omega, by simp, by simp⟩⟩
theorem Sr.of_owns {v : Value} (h : wr.ownsRow Z 5 1 v L.length (L.map (.int .u8))) (h0 : 0 < L.length) : Sr wr v L := by
  rcases h.2 with ⟨_, e⟩ | ⟨k, c, cur, e, _⟩
  · omega
  · exact ⟨⟨k, 0, .none⟩, c, e, h.cells (by rw [e]; rfl)⟩
end
end Go.Proofs.Ytjbhgedbkajmdaa

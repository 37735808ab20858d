/- Slices of integers, read as functions of the place. -/
import Derived.Test.YtjbhgedbkajmdaaRows
import Derived.WalkKit
import Derived.ProofKit
import Derived.OpenShut
import Derived.ShutString
import Derived.ChangeOld
import Derived.Below
import Derived.Deep.OwnRows
import Derived.Deep.QuietTactic
import Derived.BigQuiet
import Derived.Laws.BitsAllLaws

namespace Go.Proofs.Ytjbhgedbkajmdaa
open Go.ChangeShapes Go.WideShapes Go.ChangeAt Go.RowKit
set_option linter.unusedVariables false
set_option linter.unusedSimpArgs false

/-- The first n cells of a slice that begins at 'ao' hold the numbers f 0, f 1, .. -/
def SL (k : IntKind) (w : World) (ao : Option Addr) (n : Nat) (f : Nat → Int) : Prop :=
  ∀ i, i < n → ∃ b off, ao = some ⟨b, off, none⟩ ∧ b < w.heap.size ∧ w.cell? ⟨b, off + i, none⟩ = some (.int k (f i))

theorem SL.below {k : IntKind} {w w' : World} {ao : Option Addr} {n : Nat} {f : Nat → Int} (h : SL k w ao n f) (hb : Below w.heap.size w w') : SL k w' ao n f := by
  intro i hi
  obtain ⟨b, off, e, hlt, hc⟩ := h i hi
  exact ⟨b, off, e, Nat.lt_of_lt_of_le hlt hb.size, (hb.cell hlt).trans hc⟩

theorem SL.row {k : IntKind} {w : World} {g n : Nat} {t : TypeId} {f : Nat → Int} (h : w.rowIs g t n (fun i => .int k (f i))) : SL k w (some ⟨g, 0, none⟩) n f := by
  intro i hi
  exact ⟨g, 0, rfl, h.lt, by simpa using h.cell hi⟩

theorem row_below {w w' : World} {g n : Nat} {t : TypeId} {f : Nat → Value} {B : Nat} (h : w.rowIs g t n f) (hb : Below B w w') (hg : g < B) : w'.rowIs g t n f :=
  h.of_block (hb.block g hg)

theorem Try.info5 : (Try.prog.info? 5).map (fun i => (i.zero, i.size, i.bytes)) = some (some (.int .u8 0), 1, 1) := by kernel_rfl

theorem lt_of_cell {w : World} {a : Addr} {v : Value} (h : w.cell? a = some v) : a.block < w.heap.size := by
  cases hb : w.heap[a.block]? with
  | none => simp [World.cell?, hb] at h
  | some o => exact (Array.getElem?_eq_some_iff.1 hb).1

/-- A slice of integers that came in, as the frame of a law's proof tells it, read as a function of the place. -/
theorem view {k : IntKind} {w : World} {a : Option Addr} {len cap : Nat} {zs : List Int}
    (h : (a = none ∧ len = 0 ∧ cap = 0 ∧ zs = []) ∨
      ∃ x, a = some x ∧ len ≤ cap ∧ cap ≤ maxLen ∧ zs.length = cap ∧ (∀ i, i < zs.length → w.cell? (x.add i) = some (.int k (zs.getD i 0))) ∧ ∀ n ∈ zs, (Lit.int k n).wf = true) :
    ∃ f : Nat → Int, SL k w a len f ∧ (∀ i, i < len → (Lit.int k (f i)).wf = true) := by
  refine ⟨fun i => zs.getD i 0, ?_⟩
  rcases h with ⟨rfl, rfl, rfl, rfl⟩ | ⟨x, rfl, hl, hm, hz, hcell, hwz⟩
  · exact ⟨fun i hi => absurd hi (Nat.not_lt_zero _), fun i hi => absurd hi (Nat.not_lt_zero _)⟩
  · refine ⟨fun i hi => ?_, fun i hi => ?_⟩
    · have hc := hcell i (by omega)
      have h0 := hcell 0 (by omega)
      obtain ⟨b, off, spot⟩ := x
      have hspot : spot = none := by simpa [Addr.add] using World.cell?_spot h0
      subst hspot
      rw [Addr.add_lit] at hc
      exact ⟨b, off, rfl, lt_of_cell hc, hc⟩
    · have hi' : i < zs.length := by omega
      exact hwz (zs.getD i 0) (by simp [List.getD, hi'])

theorem view_u8 {f : Nat → Int} {n : Nat} (h : ∀ i, i < n → (Lit.int .u8 (f i)).wf = true) : ∀ i, i < n → 0 ≤ f i ∧ f i ≤ 255 := fun i hi => bounds_u8 (h i hi)

theorem Below.drawn {B : Nat} {a w : World} (h : Below B a w) (q : Nat) : Below B a (w.drewN q) := h.trans ⟨rfl, rfl, rfl, Nat.le_refl _, fun _ _ => rfl⟩
end Go.Proofs.Ytjbhgedbkajmdaa

/- Memory that a call made itself and handed back. -/
namespace Go.Proofs.Ytjbhgedbkajmdaa
open Go.ChangeShapes Go.WideShapes Go.ChangeAt Go.RowKit
set_option linter.unusedVariables false
set_option linter.unusedSimpArgs false

/-- A slice of n cells that lies at the head of a block from B on, which may be written; cell i holds F i. -/
def Own (w : World) (B : Nat) (t : TypeId) (ao : Option Addr) (n : Nat) (F : Nat → Value) : Prop :=
  n = 0 ∨ ∃ g, ao = some ⟨g, 0, none⟩ ∧ B ≤ g ∧ ∃ c : Array Value, w.heap[g]? = some (.cells c t (0, 0)) ∧ n ≤ c.size ∧ ∀ i, i < n → c[i]? = some (F i)

theorem Own.at {w : World} {B : Nat} {t : TypeId} {ao : Option Addr} {n : Nat} {F : Nat → Value} (h : Own w B t ao n F) {i : Nat} (hi : i < n) :
    ∃ g, ao = some ⟨g, 0, none⟩ ∧ B ≤ g ∧ g < w.heap.size ∧ w.cell? ⟨g, i, none⟩ = some (F i) ∧ w.frozen? ⟨g, i, none⟩ = false := by
  rcases h with rfl | ⟨g, e, hB, c, hc, hs, hF⟩
  · omega
  · exact ⟨g, e, hB, (Array.getElem?_eq_some_iff.1 hc).1, by simp [World.cell?, hc, hF i hi], by simp [World.frozen?, hc]⟩

theorem Own.congr {w : World} {B : Nat} {t : TypeId} {ao : Option Addr} {n : Nat} {F G : Nat → Value} (h : Own w B t ao n F) (e : ∀ i, i < n → F i = G i) : Own w B t ao n G := by
  rcases h with h | ⟨g, ea, hB, c, hc, hs, hF⟩
  · exact .inl h
  · exact .inr ⟨g, ea, hB, c, hc, hs, fun i hi => by rw [hF i hi, e i hi]⟩

theorem Own.set {w : World} {B : Nat} {t : TypeId} {g n : Nat} {F : Nat → Value} (h : Own w B t (some ⟨g, 0, none⟩) n F) (i : Nat) (v : Value) :
    Own (w.setCell ⟨g, i, none⟩ v) B t (some ⟨g, 0, none⟩) n (fun j => if j = i then v else F j) := by
  rcases h with h | ⟨g', ea, hB, c, hc, hs, hF⟩
  · exact .inl h
  · simp at ea
    subst ea
    refine .inr ⟨g, rfl, hB, c.setIfInBounds i v, ?_, by simpa using hs, fun j hj => ?_⟩
    · simp [World.setCell, Array.getElem?_modify, hc]
    · show (c.setIfInBounds i v)[j]? = some (if j = i then v else F j)
      rw [Array.getElem?_setIfInBounds]
      by_cases e : j = i
      · subst e
        rw [if_pos rfl, if_pos rfl, if_pos (by omega)]
      · rw [if_neg (fun h => e h.symm), if_neg e]
        exact hF j hj

theorem Own.below {w w' : World} {B : Nat} {t : TypeId} {ao : Option Addr} {n : Nat} {F : Nat → Value} (h : Own w B t ao n F) (hb : Below w.heap.size w w') : Own w' B t ao n F := by
  rcases h with h | ⟨g, ea, hB, c, hc, hs, hF⟩
  · exact .inl h
  · exact .inr ⟨g, ea, hB, c, (hb.block g (Array.getElem?_eq_some_iff.1 hc).1).trans hc, hs, hF⟩

theorem Own.drawn {w : World} {B : Nat} {t : TypeId} {ao : Option Addr} {n : Nat} {F : Nat → Value} (h : Own w B t ao n F) (q : Nat) : Own (w.drewN q) B t ao n F := h

theorem Own.sl {w : World} {B : Nat} {t : TypeId} {ao : Option Addr} {n : Nat} {k : IntKind} {f : Nat → Int} (h : Own w B t ao n (fun i => .int k (f i))) : SL k w ao n f := by
  intro i hi
  obtain ⟨g, e, _, hlt, hc, _⟩ := h.at hi
  exact ⟨g, 0, e, hlt, by simpa using hc⟩

theorem Own.of_row {w : World} {B g n : Nat} {t : TypeId} {F : Nat → Value} (h : w.rowIs g t n F) (hB : B ≤ g) : Own w B t (some ⟨g, 0, none⟩) n F := by
  obtain ⟨c, hc, hn, hF⟩ := h
  exact .inr ⟨g, rfl, hB, c, hc, by omega, hF⟩

/-- What append has built. -/
theorem Own.of_owns {w : World} {B : Nat} {t : TypeId} {v : Value} {n : Nat} {k : IntKind} {L : List Int} (h : w.ownsRow B t 1 v n (L.map (.int k))) :
    ∃ ao cap, v = .slice ao n cap ∧ (n = L.length ∧ n ≤ cap ∧ cap ≤ maxLen) ∧ Own w B t ao n (fun i => .int k (L.getD i 0)) := by
  obtain ⟨hl, h⟩ := h
  have hl' : L.length = n := by simpa using hl
  rcases h with ⟨rfl, rfl⟩ | ⟨g, cap, cur, rfl, hB, hc, hn, hm, hs, ht⟩
  · exact ⟨none, 0, rfl, ⟨hl'.symm, Nat.le_refl _, Nat.zero_le _⟩, .inl rfl⟩
  · refine ⟨_, cap, rfl, ⟨hl'.symm, hn, hm⟩, .inr ⟨g, rfl, hB, cur, hc, by omega, fun i hi => ?_⟩⟩
    have e : (cur.toList.take (n * 1))[i]? = (L.map (Value.int k))[i]? := by rw [ht]
    rw [List.getElem?_take, if_pos (by omega)] at e
    have hi' : i < L.length := by omega
    simpa [List.getD, hi'] using e

end Go.Proofs.Ytjbhgedbkajmdaa

/- The cursor of the draws: what it hands on is within its bounds; it writes into its own cells alone. -/
namespace Go.Proofs.Ytjbhgedbkajmdaa
open Go.ChangeShapes Go.WideShapes Go.ChangeAt Go.RowKit
set_option linter.unusedVariables false
set_option linter.unusedSimpArgs false

/-- Block g is a cursor over the bytes of a slice. -/
def Cur (w : World) (g : Nat) (ao : Option Addr) (n cap : Nat) (f : Nat → Int) : Prop :=
  ∃ i h : Int, w.heap[g]? = some (.cells #[.slice ao n cap, .int .i64 i, .int .i64 h] 88 (0, 0)) ∧ 0 ≤ i ∧ i ≤ n ∧ n ≤ 1048576 ∧
    (∀ j, j < n → ∃ b off, ao = some ⟨b, off, none⟩ ∧ b < g ∧ w.cell? ⟨b, off + j, none⟩ = some (.int .u8 (f j))) ∧ (∀ j, j < n → 0 ≤ f j ∧ f j ≤ 255)

theorem and255 (a : Int) : 0 ≤ bits .and .i64 a 255 ∧ bits .and .i64 a 255 ≤ 255 := by
  have h : (BitVec.ofInt 64 a &&& BitVec.ofInt 64 255).toNat ≤ 255 := by
    rw [BitVec.toNat_and]
    exact Nat.le_trans Nat.and_le_right (by decide)
  show 0 ≤ IntKind.i64.wrap (((BitVec.ofInt 64 a &&& BitVec.ofInt 64 255).toNat : Nat) : Int) ∧ IntKind.i64.wrap (((BitVec.ofInt 64 a &&& BitVec.ofInt 64 255).toNat : Nat) : Int) ≤ 255
  generalize (BitVec.ofInt 64 a &&& BitVec.ofInt 64 255).toNat = c at h ⊢
  rw [IntKind.wrap_i64]
  omega

theorem blk_set {w : World} {g o : Nat} {c : Array Value} {t : TypeId} {v : Value} (hb : w.heap[g]? = some (.cells c t (0, 0))) :
    (w.setCell ⟨g, o, none⟩ v).heap[g]? = some (.cells (c.setIfInBounds o v) t (0, 0)) := by
  simp [World.setCell, Array.getElem?_modify, hb]
theorem blk_oth {w : World} {g o k : Nat} {v : Value} (hk : k ≠ g) : (w.setCell ⟨g, o, none⟩ v).heap[k]? = w.heap[k]? :=
  Below.heap_setCell w ⟨g, o, none⟩ v k hk

theorem cur_mk {w w' : World} {g n cap : Nat} {ao : Option Addr} {f : Nat → Int} {A B : Int} (hb : w'.heap[g]? = some (.cells #[.slice ao n cap, .int .i64 B, .int .i64 A] 88 (0, 0)))
    (hg : w.grownBy w' (some g)) (h0 : 0 ≤ B) (h1 : B ≤ n) (hn : n ≤ 1048576) (hgs : g < w.heap.size) (hs : ∀ j, j < n → ∃ b off, ao = some ⟨b, off, none⟩ ∧ b < g ∧ w.cell? ⟨b, off + j, none⟩ = some (.int .u8 (f j))) (hf : ∀ j, j < n → 0 ≤ f j ∧ f j ≤ 255) : Cur w' g ao n cap f := by
  refine ⟨B, A, hb, h0, h1, hn, fun j hj => ?_, hf⟩
  obtain ⟨b, off, e, hlt, hc⟩ := hs j hj
  refine ⟨b, off, e, hlt, ?_⟩
  rw [← hc]
  exact World.cell?_of_block (w := w) (hg.block b (by omega) (by simp; omega))

theorem byte_any (g n cap : Nat) (ao : Option Addr) (f : Nat → Int) (w : World) (hc : Cur w g ao n cap f) :
    Calls Try.prog 92 #[.pointer (some ⟨g, 0, none⟩)] w fun e w' => (∃ x : Int, e = .returned (.int .i64 x) ∧ 0 ≤ x ∧ x ≤ 255) ∧ Cur w' g ao n cap f ∧ w.grownBy w' (some g) := by
  obtain ⟨i, h, hb, hi0, hi1, hn, hs, hf⟩ := hc
  have c0 : w.cell? ⟨g, 0, none⟩ = some (.slice ao n cap) := by simp [World.cell?, hb]
  have c1 : w.cell? ⟨g, 1, none⟩ = some (.int .i64 i) := by simp [World.cell?, hb]
  have c2 : w.cell? ⟨g, 2, none⟩ = some (.int .i64 h) := by simp [World.cell?, hb]
  have f1 : w.frozen? ⟨g, 1, none⟩ = false := by simp [World.frozen?, hb]
  have f2 : w.frozen? ⟨g, 2, none⟩ = false := by simp [World.frozen?, hb]
  have hgs : g < w.heap.size := (Array.getElem?_eq_some_iff.1 hb).1
  have HS : Hid (∀ j, j < n → ∃ b off, ao = some ⟨b, off, none⟩ ∧ b < g ∧ w.cell? ⟨b, off + j, none⟩ = some (.int .u8 (f j))) := hs
  have HF : Hid (∀ j, j < n → 0 ≤ f j ∧ f j ≤ 255) := hf
  have HB : Hid (w.heap[g]? = some (.cells #[.slice ao n cap, .int .i64 i, .int .i64 h] 88 (0, 0))) := hb
  by_cases hlt : i < n
  · obtain ⟨j, rfl⟩ := Int.eq_ofNat_of_zero_le hi0
    obtain ⟨b, off, rfl, hbg, hcell⟩ := hs j (by omega)
    have hz := hf j (by omega)
    have hne : ¬ g = b := by omega
    clear hs hf hb
    go_enter Try.func92, Try.ntmps92
    go_wp2
    go_quiet (fail)
    go_wp2
    go_quiet (fail)
    go_wp2
    go_quiet (fail)
    go_wp2
    go_ret
    refine ⟨⟨_, rfl, and255 _⟩, ?_⟩
    refine (fun (hg : w.grownBy _ (some g)) => ⟨cur_mk (w := w) ((blk_set (o := 1) (w := (w.setCell _ _).drewN _) (blk_set HB.out)).trans rfl) hg (by omega) (by omega) hn hgs HS.out HF.out, hg⟩) ?_
    exact ⟨rfl, rfl, rfl, by simp, fun k _ hk => (blk_oth (w := (w.setCell _ _).drewN _) (by simpa using hk)).trans (blk_oth (by simpa using hk))⟩
  · clear hs hf hb
    go_enter Try.func92, Try.ntmps92
    go_wp2
    go_quiet (fail)
    go_wp2
    go_quiet (fail)
    go_wp2
    go_ret
    refine ⟨⟨_, rfl, and255 _⟩, ?_⟩
    refine (fun (hg : w.grownBy _ (some g)) => ⟨cur_mk (w := w) ((blk_set HB.out).trans rfl) hg (by omega) (by omega) hn hgs HS.out HF.out, hg⟩) ?_
    exact ⟨rfl, rfl, rfl, by simp, fun k _ hk => blk_oth (by simpa using hk)⟩

theorem grown_trans {a b c : World} {g : Option Nat} (h : a.grownBy b g) (k : b.grownBy c g) : a.grownBy c g :=
  ⟨k.os.trans h.os, k.tape.trans h.tape, k.output.trans h.output, Nat.le_trans h.size k.size, fun i hi hn => (k.block i (Nat.lt_of_lt_of_le hi h.size) hn).trans (h.block i hi hn)⟩

theorem below_any (g n cap : Nat) (m : Int) (ao : Option Addr) (f : Nat → Int) (w : World) (h0 : 1 ≤ m) (h1 : m ≤ 256) (hc : Cur w g ao n cap f) :
    Calls Try.prog 76 #[.pointer (some ⟨g, 0, none⟩), .int .i64 m] w fun e w' => (∃ x : Int, e = .returned (.int .i64 x) ∧ 0 ≤ x ∧ x < m) ∧ Cur w' g ao n cap f ∧ w.grownBy w' (some g) := by
  have HC : Hid (Cur w g ao n cap f) := hc
  clear hc
  go_enter Try.func76, Try.ntmps76
  go_wp2_with fail
  refine (byte_any g n cap ao f _ HC.out).mono ?_
  rintro e w1 ⟨⟨x, rfl, hx0, hx1⟩, hcur, hgr⟩
  have HC1 : Hid (Cur w1 g ao n cap f ∧ w.grownBy w1 (some g)) := ⟨hcur, hgr⟩
  clear hcur hgr
  go_wp2
  go_ret
  exact ⟨⟨_, rfl, Int.emod_nonneg _ (by omega), Int.emod_lt_of_pos _ (by omega)⟩, HC1.out⟩

theorem pick_any (g n cap m c2 : Nat) (ao lo : Option Addr) (f F : Nat → Int) (w : World) (h0 : 1 ≤ m) (h1 : m ≤ 256) (hc : Cur w g ao n cap f)
    (hl : ∀ i, i < m → ∃ b off, lo = some ⟨b, off, none⟩ ∧ b < w.heap.size ∧ b ≠ g ∧ w.cell? ⟨b, off + i, none⟩ = some (.int .i64 (F i))) :
    Calls Try.prog 51 #[.pointer (some ⟨g, 0, none⟩), .slice lo m c2] w fun e w' => (∃ i, i < m ∧ e = .returned (.int .i64 (F i))) ∧ Cur w' g ao n cap f ∧ w.grownBy w' (some g) := by
  have HC : Hid (Cur w g ao n cap f) := hc
  clear hc
  go_enter Try.func51, Try.ntmps51
  go_wp2_with fail
  refine (below_any g n cap m ao f _ (by omega) (by omega) HC.out).mono ?_
  rintro e w1 ⟨⟨x, rfl, hx0, hx1⟩, hcur, hgr⟩
  have HC1 : Hid (Cur w1 g ao n cap f ∧ w.grownBy w1 (some g)) := ⟨hcur, hgr⟩
  obtain ⟨i, rfl⟩ := Int.eq_ofNat_of_zero_le hx0
  obtain ⟨b, off, rfl, hb, hne, hcell⟩ := hl i (by omega)
  have hcell1 : w1.cell? ⟨b, off + i, none⟩ = some (.int .i64 (F i)) := (World.cell?_of_block (w := w) (hgr.block b hb (by simpa using hne))).trans hcell
  clear hcur hgr hl hcell
  go_wp2
  go_ret
  exact ⟨⟨i, by omega, rfl⟩, HC1.out⟩

theorem once_any (g n cap : Nat) (m : Int) (ao : Option Addr) (f : Nat → Int) (w : World) (h0 : 1 ≤ m) (h1 : m ≤ 256) (hc : Cur w g ao n cap f) :
    Calls Try.prog 52 #[.pointer (some ⟨g, 0, none⟩), .int .i64 m] w fun e w' => (∃ x : Bool, e = .returned (.bool x)) ∧ Cur w' g ao n cap f ∧ w.grownBy w' (some g) := by
  have HC : Hid (Cur w g ao n cap f) := hc
  clear hc
  go_enter Try.func52, Try.ntmps52
  go_wp2_with fail
  refine (below_any g n cap m ao f _ h0 h1 HC.out).mono ?_
  rintro e w1 ⟨⟨x, rfl, hx0, hx1⟩, hcur, hgr⟩
  have HC1 : Hid (Cur w1 g ao n cap f ∧ w.grownBy w1 (some g)) := ⟨hcur, hgr⟩
  clear hcur hgr
  go_wp2
  go_ret
  exact ⟨⟨_, rfl⟩, HC1.out⟩

theorem cur_new {w : World} {ao : Option Addr} {n cap : Nat} {f : Nat → Int} {x : Int} (hs : SL .u8 w ao n f) (hf : ∀ i, i < n → 0 ≤ f i ∧ f i ≤ 255) (hn : n ≤ 1048576) :
    Cur (w.alloc (.cells #[.slice ao n cap, .int .i64 0, .int .i64 x] 88)) w.heap.size ao n cap f := by
  refine ⟨0, x, Deep.blk_alloc_new _ _, by omega, by omega, hn, fun j hj => ?_, hf⟩
  obtain ⟨b, off, e, hlt, hc⟩ := hs j hj
  exact ⟨b, off, e, hlt, (World.cell?_of_block (w := w) (Below.heap_alloc w _ b hlt)).trans hc⟩

set_option maxRecDepth 100000 in
theorem new_any (ao : Option Addr) (n cap : Nat) (f : Nat → Int) (w : World) (hn : n ≤ 1048576) (hs : SL .u8 w ao n f) (hf : ∀ i, i < n → 0 ≤ f i ∧ f i ≤ 255) :
    Calls Try.prog 39 #[.slice ao n cap] w fun e w' => e = .returned (.pointer (some ⟨w.heap.size, 0, none⟩)) ∧ Cur w' w.heap.size ao n cap f ∧ Below w.heap.size w w' := by
  go_enter Try.func39, Try.ntmps39
  go_wp2
  go_loop [3, 4] (fun h i => ∃ (k : Nat) (x : Int), k ≤ n ∧ i = .int .i64 k ∧ h = .int .i64 x) (fun _ i => n - (intOf i).toNat)
  case atStart => exact ⟨0, _, Nat.zero_le _, rfl, rfl⟩
  case round =>
    obtain ⟨k, x, hk, rfl, rfl⟩ := hrel
    have HS : Hid (SL .u8 w ao n f) := hs
    have HF : Hid (∀ i, i < n → 0 ≤ f i ∧ f i ≤ 255) := hf
    by_cases hlt : k < n
    · by_cases h4 : k < 4000
      · obtain ⟨b, off, rfl, hbs, hc⟩ := hs k hlt
        have hz := hf k hlt
        clear hs hf
        go_wp2
        go_round
        case rel => exact ⟨k + 1, _, by omega, by go_num, rfl⟩
        case measure => simp [intOf]; omega
      · clear hs hf
        have h4' : decide ((k : Int) < 4000) = false := by simp; omega
        go_wp2
        go_ret
        exact ⟨rfl, cur_new HS.out HF.out hn, (Below.refl _ _).alloc (Nat.le_refl _) _⟩
    · clear hs hf
      go_wp2
      go_ret
      exact ⟨rfl, cur_new HS.out HF.out hn, (Below.refl _ _).alloc (Nat.le_refl _) _⟩
end Go.Proofs.Ytjbhgedbkajmdaa

/- More on the cursor of the draws. -/
namespace Go.Proofs.Ytjbhgedbkajmdaa
open Go.ChangeShapes Go.WideShapes Go.ChangeAt Go.RowKit
set_option linter.unusedVariables false
set_option linter.unusedSimpArgs false
set_option maxRecDepth 100000

theorem Cur.alloc {w : World} {g n cap : Nat} {ao : Option Addr} {f : Nat → Int} (h : Cur w g ao n cap f) (o : Obj) : Cur (w.alloc o) g ao n cap f := by
  obtain ⟨i, x, hb, h0, h1, hn, hs, hf⟩ := h
  have hg : g < w.heap.size := (Array.getElem?_eq_some_iff.1 hb).1
  refine ⟨i, x, (Below.heap_alloc w o g hg).trans hb, h0, h1, hn, fun j hj => ?_, hf⟩
  obtain ⟨b, off, e, hlt, hc⟩ := hs j hj
  exact ⟨b, off, e, hlt, (World.cell?_of_block (w := w) (Below.heap_alloc w o b (by omega))).trans hc⟩

theorem Cur.lt {w : World} {g n cap : Nat} {ao : Option Addr} {f : Nat → Int} (h : Cur w g ao n cap f) : g < w.heap.size := by
  obtain ⟨i, x, hb, _⟩ := h
  exact (Array.getElem?_eq_some_iff.1 hb).1

theorem cell_blk {w : World} {b i : Nat} {c : Array Value} {t : TypeId} (hb : w.heap[b]? = some (.cells c t (0, 0))) : w.cell? ⟨b, i, none⟩ = c[i]? := by
  simp [World.cell?, hb]

/-- A list of ints that the call has just built. -/
theorem lit_cells (w : World) (zs : List Int) (t : TypeId) (g : Nat) (hg : g < w.heap.size) :
    ∀ i, i < zs.length → ∃ b off, (some ⟨w.heap.size, 0, none⟩ : Option Addr) = some ⟨b, off, none⟩ ∧ b < (w.alloc (.cells (zs.map (Value.int .i64)).toArray t)).heap.size ∧ b ≠ g ∧
      (w.alloc (.cells (zs.map (Value.int .i64)).toArray t)).cell? ⟨b, off + i, none⟩ = some (.int .i64 (zs.getD i 0)) := by
  intro i hi
  refine ⟨w.heap.size, 0, rfl, by simp, by omega, ?_⟩
  have hb : (w.alloc (.cells (zs.map (Value.int .i64)).toArray t)).heap[w.heap.size]? = some (.cells (zs.map (Value.int .i64)).toArray t (0, 0)) := Deep.blk_alloc_new _ _
  rw [Nat.zero_add, cell_blk hb]
  simp [List.getD, hi]

theorem lit_bd (zs : List Int) (h : zs.all (fun z => decide (-9223372036854775808 ≤ z) && decide (z ≤ 9223372036854775807)) = true) (i : Nat) (hi : i < zs.length) :
    -9223372036854775808 ≤ zs.getD i 0 ∧ zs.getD i 0 ≤ 9223372036854775807 := by
  have := List.all_eq_true.1 h (zs.getD i 0) (by simp [List.getD, hi])
  simpa using this

theorem draw_end {w w1 w2 : World} {o : Obj} (b1 : Below w.heap.size w w1) (hg : (w1.alloc o).grownBy w2 (some w.heap.size)) : Below w.heap.size w w2 :=
  (b1.alloc b1.size o).grown hg (by have := b1.size; simp; omega) (fun k hk => by simp at hk; omega)

theorem Cur.grown {w w' : World} {g n cap : Nat} {ao : Option Addr} {f : Nat → Int} {row : Option Nat} (h : Cur w g ao n cap f) (hg : w.grownBy w' row) (hr : ∀ k, row = some k → g < k) : Cur w' g ao n cap f := by
  obtain ⟨i, x, hb, h0, h1, hn, hs, hf⟩ := h
  have hlt : g < w.heap.size := (Array.getElem?_eq_some_iff.1 hb).1
  refine ⟨i, x, (hg.block g hlt (fun e => by have := hr g e.symm; omega)).trans hb, h0, h1, hn, fun j hj => ?_, hf⟩
  obtain ⟨b, off, e, hl, hc⟩ := hs j hj
  exact ⟨b, off, e, hl, (World.cell?_of_block (w := w) (hg.block b (by omega) (fun e => by have := hr b e.symm; omega))).trans hc⟩

theorem grown_alloc (w : World) (o : Obj) (g : Option Nat) : w.grownBy (w.alloc o) g := ⟨rfl, rfl, rfl, by simp, fun k hk _ => Below.heap_alloc w o k hk⟩

end Go.Proofs.Ytjbhgedbkajmdaa

/- append to a row of the call's own, of whatever integers. -/
namespace Go.Proofs.Ytjbhgedbkajmdaa
open Go.ChangeShapes Go.WideShapes Go.ChangeAt Go.RowKit
set_option linter.unusedVariables false
set_option linter.unusedSimpArgs false

theorem hide {p : Prop} (h : p) : Hid p := h
theorem gcells (wr : World) (us : List Value) (t : TypeId) : ∀ j u', us[j]? = some u' → (wr.alloc (.cells us.toArray t)).cell? ((⟨wr.heap.size, 0, none⟩ : Addr).add j) = some u' := by
  intro j u' hj
  have hb : (wr.alloc (.cells us.toArray t)).heap[wr.heap.size]? = some (.cells us.toArray t (0, 0)) := Deep.blk_alloc_new _ _
  rw [Addr.add_lit, Nat.zero_add]
  simp only [World.cell?, hb]
  simpa using hj
theorem gones (k : IntKind) (L : List Int) : ∀ u ∈ L.map (Value.int k), u.oneCell' = true := by
  intro u hu; simp at hu; obtain ⟨x, _, rfl⟩ := hu; rfl
theorem glens {k m : Nat} (h : k + m ≤ 8388608) : k + m ≤ maxLen := by unfold maxLen; omega
theorem ggrown {B : Nat} {w wr w0 w1 : World} {v : Value} {k : Nat} {e : TypeId} {xs : List Value} (hb : Below B w w0) (hw : B ≤ w0.heap.size) (ho : wr.ownsRow B e 1 v k xs) (hg : w0.grownBy w1 v.ownBlock) : Below B w w1 := by
  refine hb.grown hg hw ?_
  intro g hgv
  rcases ho.2 with ⟨rfl, _⟩ | ⟨g', cap, cur, rfl, hge, _⟩
  · simp [Value.ownBlock] at hgv
  · simp [Value.ownBlock] at hgv; omega
/-- Behind an append of what was just laid. -/
theorem gpush {B : Nat} {w wr w1 : World} {v v' : Value} {k m : Nat} {ik : IntKind} {t : TypeId} {L M : List Int} {o : Obj} (hb : Below B w wr) (hw : B ≤ wr.heap.size) (ho : wr.ownsRow B t 1 v k (L.map (.int ik)))
    (h1 : w1.ownsRow B t 1 v' (k + m) (L.map (.int ik) ++ M.map (.int ik))) (hg : (wr.alloc o).grownBy w1 v.ownBlock) :
    w1.ownsRow B t 1 v' (k + m) ((L ++ M).map (.int ik)) ∧ Below B w w1 :=
  ⟨by simpa using h1, ggrown (hb.alloc hw _) (by simp; omega) ho hg⟩
theorem gnil {B : Nat} {w : World} {t : TypeId} {ik : IntKind} : w.ownsRow B t 1 (.slice none 0 0) 0 (([] : List Int).map (.int ik)) := ⟨rfl, .inl ⟨rfl, rfl⟩⟩
theorem gempty {B : Nat} {w : World} {t : TypeId} {ik : IntKind} (hB : B ≤ w.heap.size) : (w.alloc (.cells #[] t)).ownsRow B t 1 (.slice (some ⟨w.heap.size, 0, none⟩) 0 0) 0 (([] : List Int).map (.int ik)) :=
  ⟨rfl, .inr ⟨_, _, #[], rfl, hB, Deep.blk_alloc_new _ _, by simp, by simp, by simp, by simp⟩⟩
theorem gmono {B B' n s : Nat} {w : World} {e : TypeId} {v : Value} {xs : List Value} (h : w.ownsRow B e s v n xs) (hB : B' ≤ B) : w.ownsRow B' e s v n xs := by
  refine ⟨h.1, ?_⟩
  rcases h.2 with h | ⟨g, cap, cur, e1, hge, h⟩
  · exact .inl h
  · exact .inr ⟨g, cap, cur, e1, Nat.le_trans hB hge, h⟩
theorem gdrawn {B n s : Nat} {w : World} {e : TypeId} {v : Value} {xs : List Value} (h : w.ownsRow B e s v n xs) (q : Nat) : (w.drewN q).ownsRow B e s v n xs := h
end Go.Proofs.Ytjbhgedbkajmdaa

/- What is made beside a cursor. -/
namespace Go.Proofs.Ytjbhgedbkajmdaa
open Go.ChangeShapes Go.WideShapes Go.ChangeAt Go.RowKit
set_option linter.unusedVariables false
set_option linter.unusedSimpArgs false
set_option maxRecDepth 100000

theorem cur_far {w : World} {R g j : Nat} (h : ¬ g = R) (v : Value) : (w.setCell ⟨R, j, none⟩ v).heap[g]? = w.heap[g]? := by
  simp only [World.setCell, Array.getElem?_modify]
  rw [if_neg (fun e => h e.symm)]
/-- From w on nothing but the cursor at g was written, and what is new. -/
def CurW (w wr : World) (g : Nat) (ao : Option Addr) (n cap : Nat) (f : Nat → Int) : Prop := Cur wr g ao n cap f ∧ w.grownBy wr (some g) ∧ g < w.heap.size
theorem CurW.refl {w : World} {g n cap : Nat} {ao : Option Addr} {f : Nat → Int} (h : Cur w g ao n cap f) : CurW w w g ao n cap f := ⟨h, ⟨rfl, rfl, rfl, Nat.le_refl _, fun _ _ _ => rfl⟩, h.lt⟩
theorem CurW.step {w wr w1 : World} {g n cap : Nat} {ao : Option Addr} {f : Nat → Int} (h : CurW w wr g ao n cap f) (hc : Cur w1 g ao n cap f) (hg : wr.grownBy w1 (some g)) : CurW w w1 g ao n cap f := ⟨hc, grown_trans h.2.1 hg, h.2.2⟩
theorem CurW.trans {w wr w1 : World} {g n cap : Nat} {ao : Option Addr} {f : Nat → Int} (h : CurW w wr g ao n cap f) (h' : CurW wr w1 g ao n cap f) : CurW w w1 g ao n cap f := h.step h'.1 h'.2.1
theorem CurW.alloc {w wr : World} {g n cap : Nat} {ao : Option Addr} {f : Nat → Int} (h : CurW w wr g ao n cap f) (o : Obj) : CurW w (wr.alloc o) g ao n cap f := h.step (h.1.alloc o) (grown_alloc _ _ _)
theorem grown_of_below {w w' : World} (h : Below w.heap.size w w') (row : Option Nat) : w.grownBy w' row := ⟨h.os, h.tape, h.output, h.size, fun k hk _ => h.block k hk⟩
theorem CurW.below {w wr w1 : World} {g n cap : Nat} {ao : Option Addr} {f : Nat → Int} (h : CurW w wr g ao n cap f) (hb : Below wr.heap.size wr w1) : CurW w w1 g ao n cap f :=
  h.step (h.1.grown (grown_of_below hb none) (fun k hk => by cases hk)) (grown_of_below hb _)
theorem CurW.app {w wr w1 : World} {g n cap : Nat} {ao : Option Addr} {f : Nat → Int} {row : Option Nat} (h : CurW w wr g ao n cap f) (hg : wr.grownBy w1 row) (hr : ∀ k, row = some k → w.heap.size ≤ k) : CurW w w1 g ao n cap f :=
  ⟨h.1.grown hg (fun k hk => by have := hr k hk; have := h.2.2; omega), ⟨hg.os.trans h.2.1.os, hg.tape.trans h.2.1.tape, hg.output.trans h.2.1.output, Nat.le_trans h.2.1.size hg.size, fun i hi hn => (hg.block i (Nat.lt_of_lt_of_le hi h.2.1.size) (fun e => by have := hr i e.symm; omega)).trans (h.2.1.block i hi hn)⟩, h.2.2⟩
theorem CurW.set {w wr : World} {g n cap b i : Nat} {ao : Option Addr} {f : Nat → Int} {v : Value} (h : CurW w wr g ao n cap f) (hb : w.heap.size ≤ b) : CurW w (wr.setCell ⟨b, i, none⟩ v) g ao n cap f :=
  h.app (row := some b) ⟨rfl, rfl, rfl, by simp [World.setCell], fun k hk hne => cur_far (fun e => hne (by rw [e])) v⟩ (fun k hk => by cases hk; exact hb)
/-- Memory from B on stays where only the cursor below B and what is new is written. -/
theorem own_cur {w w1 : World} {B g : Nat} {t : TypeId} {ao : Option Addr} {l : Nat} {F : Nat → Value} (h : Own w B t ao l F) (hg : w.grownBy w1 (some g)) (hB : g < B) : Own w1 B t ao l F := by
  rcases h with h | ⟨b, e, hb, c, hc, r⟩
  · exact .inl h
  · exact .inr ⟨b, e, hb, c, (hg.block b (Array.getElem?_eq_some_iff.1 hc).1 (by simp; omega)).trans hc, r⟩
theorem owns_cur {w w' : World} {B g s : Nat} {t : TypeId} {v : Value} {n : Nat} {xs : List Value} (h : w.ownsRow B t s v n xs) (hg : w.grownBy w' (some g)) (hB : g < B) : w'.ownsRow B t s v n xs := by
  obtain ⟨h1, h2⟩ := h
  refine ⟨h1, ?_⟩
  rcases h2 with h2 | ⟨b, c, cur, e, hb, hh, r⟩
  · exact .inl h2
  · exact .inr ⟨b, c, cur, e, hb, (hg.block b (Array.getElem?_eq_some_iff.1 hh).1 (by simp; omega)).trans hh, r⟩

end Go.Proofs.Ytjbhgedbkajmdaa

/- l1In: whether a number lies between two. -/
namespace Go.Proofs.Ytjbhgedbkajmdaa
open Go.ChangeShapes Go.WideShapes Go.ChangeAt Go.RowKit
set_option linter.unusedVariables false
set_option linter.unusedSimpArgs false

/-- A callee that draws nothing, met in a quiet region whose world has drawn already. -/
theorem quiet_q {P : Program} {f : FuncId} {args : Array Value} {w : World} {q n : Nat} {v : Value}
    (h : Calls P f args (w.drewN (q + n)) fun e w' => e = .returned v ∧ w' = w.drewN (q + n)) : Calls P f args (w.drewN (q + n)) fun e w'' => e = .returned v ∧ ∃ m, w'' = w.drewN (q + m) :=
  h.mono fun _ _ ⟨he, hm⟩ => ⟨he, n, hm⟩
/-- .. that may draw. -/
theorem quiet_qq {P : Program} {f : FuncId} {args : Array Value} {w : World} {q n : Nat} {v : Value}
    (h : Calls P f args (w.drewN (q + n)) fun e w' => e = .returned v ∧ ∃ m, w' = (w.drewN (q + n)).drewN m) : Calls P f args (w.drewN (q + n)) fun e w'' => e = .returned v ∧ ∃ m, w'' = w.drewN (q + m) :=
  h.mono fun _ _ ⟨he, m, hm⟩ => ⟨he, n + m, by rw [hm, World.drewN_drewN, Nat.add_assoc]⟩

theorem in_yes (x lo hi : Int) (w : World) (h0 : lo ≤ x) (h1 : x ≤ hi) : Calls Try.prog 63 #[.int .i64 x, .int .i64 lo, .int .i64 hi] w fun e w' => e = .returned (.bool true) ∧ w' = w := by
  go_enter Try.func63, Try.ntmps63
  go_wp2
  go_ret
  exact ⟨rfl, rfl⟩
theorem in_no (x lo hi : Int) (w : World) (h : x < lo ∨ hi < x) : Calls Try.prog 63 #[.int .i64 x, .int .i64 lo, .int .i64 hi] w fun e w' => e = .returned (.bool false) ∧ w' = w := by
  by_cases h0 : x < lo
  · go_enter Try.func63, Try.ntmps63
    go_wp2
    go_ret
    exact ⟨rfl, rfl⟩
  · have h1 : hi < x := by omega
    have h2 : decide (x ≤ hi) = false := by simpa using h1
    go_enter Try.func63, Try.ntmps63
    go_wp2
    go_ret
    exact ⟨by simp, rfl⟩

end Go.Proofs.Ytjbhgedbkajmdaa

/- GensOk of the model. -/
namespace Go.Proofs.Ytjbhgedbkajmdaa
open Go.ChangeShapes Go.WideShapes Go.ChangeAt Go.RowKit
set_option linter.unusedVariables false
set_option linter.unusedSimpArgs false

theorem has_yes (ao : Option Addr) (n cap : Nat) (f : Nat → Int) (x : Int) (w : World) (hn : n ≤ 1048576) (hs : SL .i64 w ao n f) (h : ∃ i, i < n ∧ f i = x) :
    Calls Try.prog 73 #[.slice ao n cap, .int .i64 x] w fun e w' => e = .returned (.bool true) ∧ w' = w := by
  have H := hide h
  clear h
  go_enter Try.func73, Try.ntmps73
  go_wp2
  go_loop [5] (fun i => ∃ k : Nat, k ≤ n ∧ i = .int .i64 k ∧ Hid (∀ j, j < k → f j ≠ x)) (fun i => n - (intOf i).toNat)
  case atStart => exact ⟨0, by omega, rfl, fun j hj => absurd hj (by omega)⟩
  case round =>
    obtain ⟨k, hk, rfl, A⟩ := hrel
    by_cases hlt : k < n
    · obtain ⟨b, off, rfl, hb, hc⟩ := hs k hlt
      clear hs
      generalize hy : f k = y at *
      have B := hide hy
      clear hy
      by_cases he : y = x
      · subst he
        go_wp2
        go_ret
        exact ⟨rfl, rfl⟩
      · have hd : decide (y = x) = false := by simpa using he
        go_wp2
        go_round
        case rel =>
          refine ⟨k + 1, by omega, by go_num, fun j hj => ?_⟩
          by_cases e : j = k
          · subst e; rw [B.out]; exact he
          · exact A.out j (by omega)
        case measure => simp [intOf]; omega
    · obtain rfl : k = n := by omega
      obtain ⟨i, hi, e⟩ := H.out
      exact absurd e (A.out i hi)

theorem has_no (ao : Option Addr) (n cap : Nat) (f : Nat → Int) (x : Int) (w : World) (hn : n ≤ 1048576) (hs : SL .i64 w ao n f) (h : ∀ i, i < n → f i ≠ x) :
    Calls Try.prog 73 #[.slice ao n cap, .int .i64 x] w fun e w' => e = .returned (.bool false) ∧ w' = w := by
  have H := hide h
  clear h
  go_enter Try.func73, Try.ntmps73
  go_wp2
  go_loop [5] (fun i => ∃ k : Nat, k ≤ n ∧ i = .int .i64 k) (fun i => n - (intOf i).toNat)
  case atStart => exact ⟨0, by omega, rfl⟩
  case round =>
    obtain ⟨k, hk, rfl⟩ := hrel
    by_cases hlt : k < n
    · obtain ⟨b, off, rfl, hb, hc⟩ := hs k hlt
      have he := H.out k hlt
      clear hs
      generalize f k = y at *
      have hd : decide (y = x) = false := by simpa using he
      go_wp2
      go_round
      case rel => exact ⟨k + 1, by omega, by go_num⟩
      case measure => simp [intOf]; omega
    · obtain rfl : k = n := by omega
      go_wp2
      go_ret
      exact ⟨rfl, rfl⟩

/-- Generations: twelve at most, each from 1 to 100000, no two alike. -/
def GIn (f : Nat → Int) (n : Nat) : Prop := ∀ i, i < n → (1 ≤ f i ∧ f i ≤ 100000) ∧ ∀ j, j < i → f j ≠ f i
def GOk (f : Nat → Int) (n : Nat) : Prop := n ≤ 12 ∧ GIn f n

theorem gens_any (ao : Option Addr) (n cap : Nat) (f : Nat → Int) (w : World) (hn : n ≤ 1048576) (hcap : n ≤ cap) (hs : SL .i64 w ao n f) :
    Calls Try.prog 32 #[.slice ao n cap] w fun e w' => ((GOk f n ∧ e = .returned (.bool true)) ∨ (¬ GOk f n ∧ e = .returned (.bool false))) ∧ ∃ q, w' = w.drewN q := by
  have HS := hide hs
  clear hs
  go_enter Try.func32, Try.ntmps32
  go_wp2
  go_loopw [3] (fun i wr => ∃ k : Nat, k ≤ n ∧ i = .int .i64 k ∧ Hid (GIn f k) ∧ ∃ q, wr = w.drewN q) (fun i _ => n - (intOf i).toNat)
  case atStart => exact ⟨0, by omega, rfl, fun j hj => absurd hj (by omega), 0, rfl⟩
  case round =>
    obtain ⟨k, hk, rfl, A, q, rfl⟩ := hrel
    by_cases hlt : k < n
    · obtain ⟨b, off, rfl, hb, hc⟩ := HS.out k hlt
      have hpre : Hid (∀ q, SL .i64 (w.drewN q) (some ⟨b, off, none⟩) k f) := fun q i hi => HS.out i (by omega)
      generalize hy : f k = y at *
      have B := hide hy
      clear hy
      have hk0 : (0 : Int) ≤ (k : Int) := by omega
      have hkn : (k : Int) ≤ (n : Int) := by omega
      have hkc : (k : Int) ≤ (cap : Int) := by omega
      by_cases h1 : 1 ≤ y ∧ y ≤ 100000
      · by_cases h2 : ∃ j, j < k ∧ f j = y
        · have hbad : Hid (¬ GOk f n) := fun h => by obtain ⟨j, hj, e⟩ := h2; exact (h.2 k hlt).2 j hj (e.trans B.out.symm)
          have H2 := hide h2
          clear h2
          go_wp2
          go_quiet (first
            | (go_at_call 63; refine quiet_q (in_yes _ _ _ _ h1.1 h1.2))
            | (go_at_call 73; refine quiet_q (has_yes _ _ _ f _ _ (by omega) (hpre.out _) H2.out)))
          go_wp2
          go_ret
          exact ⟨.inr ⟨hbad.out, rfl⟩, _, World.drewN_drewN ..⟩
        · have H2 : Hid (∀ j, j < k → f j ≠ y) := fun j hj e => h2 ⟨j, hj, e⟩
          clear h2
          go_wp2
          go_quiet (first
            | (go_at_call 63; refine quiet_q (in_yes _ _ _ _ h1.1 h1.2))
            | (go_at_call 73; refine quiet_q (has_no _ _ _ f _ _ (by omega) (hpre.out _) H2.out)))
          go_wp2
          go_roundw
          case rel =>
            refine ⟨k + 1, by omega, by go_num, fun i hi => ?_, _, rfl⟩
            by_cases e : i = k
            · subst e; exact ⟨by rw [B.out]; exact h1, fun j hj => by rw [B.out]; exact H2.out j hj⟩
            · exact A.out i (by omega)
          case measure => simp [intOf]; omega
      · have hno : y < 1 ∨ 100000 < y := by omega
        have hbad : Hid (¬ GOk f n) := fun h => h1 (B.out ▸ (h.2 k hlt).1)
        go_wp2
        go_quiet (first | (go_at_call 63; refine quiet_q (in_no _ _ _ _ hno)))
        go_wp2
        go_ret
        exact ⟨.inr ⟨hbad.out, rfl⟩, _, World.drewN_drewN ..⟩
    · obtain rfl : k = n := by omega
      by_cases h12 : k ≤ 12
      · have hd : (k : Int) ≤ 12 := by omega
        go_wp2
        go_ret
        exact ⟨.inl ⟨⟨h12, A.out⟩, rfl⟩, q, rfl⟩
      · have hd : ¬ (k : Int) ≤ 12 := by omega
        go_wp2
        go_ret
        exact ⟨.inr ⟨fun h => h12 h.1, rfl⟩, q, rfl⟩
end Go.Proofs.Ytjbhgedbkajmdaa

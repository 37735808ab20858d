/- Slices of integers, read as functions of the place. -/
import Derived.Test.YtkeojhnifnkpiaaRows
import Derived.WalkKit
import Derived.ProofKit
import Derived.OpenShut
import Derived.ShutString
import Derived.ChangeOld
import Derived.Below
import Derived.Deep.OwnRows
import Derived.Deep.QuietTactic
import Derived.BigQuiet
import Derived.Laws.BitsAllLaws
import Derived.Defers
import Derived.Recover

namespace Go.Proofs.Ytkeojhnifnkpiaa
open Go.ChangeShapes Go.WideShapes Go.ChangeAt Go.RowKit
set_option linter.unusedVariables false
set_option linter.unusedSimpArgs false

/-- The first n cells of a slice that begins at 'ao' hold the numbers f 0, f 1, .. -/
def SL (k : IntKind) (w : World) (ao : Option Addr) (n : Nat) (f : Nat → Int) : Prop :=
  ∀ i, i < n → ∃ b off, ao = some ⟨b, off, none⟩ ∧ b < w.heap.size ∧ w.cell? ⟨b, off + i, none⟩ = some (.int k (f i))

theorem SL.below {k : IntKind} {w w' : World} {ao : Option Addr} {n : Nat} {f : Nat → Int} (h : SL k w ao n f) (hb : Below w.heap.size w w') : SL k w' ao n f := by
  intro i hi
  obtain ⟨b, off, e, hlt, hc⟩ := h i hi
  exact ⟨b, off, e, Nat.lt_of_lt_of_le hlt hb.size, (hb.cell hlt).trans hc⟩

theorem SL.row {k : IntKind} {w : World} {g n : Nat} {t : TypeId} {f : Nat → Int} (h : w.rowIs g t n (fun i => .int k (f i))) : SL k w (some ⟨g, 0, none⟩) n f := by
  intro i hi
  exact ⟨g, 0, rfl, h.lt, by simpa using h.cell hi⟩

theorem row_below {w w' : World} {g n : Nat} {t : TypeId} {f : Nat → Value} {B : Nat} (h : w.rowIs g t n f) (hb : Below B w w') (hg : g < B) : w'.rowIs g t n f :=
  h.of_block (hb.block g hg)

theorem Try.info5 : (Try.prog.info? 5).map (fun i => (i.zero, i.size, i.bytes)) = some (some (.int .u8 0), 1, 1) := by kernel_rfl

theorem lt_of_cell {w : World} {a : Addr} {v : Value} (h : w.cell? a = some v) : a.block < w.heap.size := by
  cases hb : w.heap[a.block]? with
  | none => simp [World.cell?, hb] at h
  | some o => exact (Array.getElem?_eq_some_iff.1 hb).1

/-- A slice of integers that came in, as the frame of a law's proof tells it, read as a function of the place. -/
theorem view {k : IntKind} {w : World} {a : Option Addr} {len cap : Nat} {zs : List Int}
    (h : (a = none ∧ len = 0 ∧ cap = 0 ∧ zs = []) ∨
      ∃ x, a = some x ∧ len ≤ cap ∧ cap ≤ maxLen ∧ zs.length = cap ∧ (∀ i, i < zs.length → w.cell? (x.add i) = some (.int k (zs.getD i 0))) ∧ ∀ n ∈ zs, (Lit.int k n).wf = true) :
    ∃ f : Nat → Int, SL k w a len f ∧ (∀ i, i < len → (Lit.int k (f i)).wf = true) := by
  refine ⟨fun i => zs.getD i 0, ?_⟩
  rcases h with ⟨rfl, rfl, rfl, rfl⟩ | ⟨x, rfl, hl, hm, hz, hcell, hwz⟩
  · exact ⟨fun i hi => absurd hi (Nat.not_lt_zero _), fun i hi => absurd hi (Nat.not_lt_zero _)⟩
  · refine ⟨fun i hi => ?_, fun i hi => ?_⟩
    · have hc := hcell i (by omega)
      have h0 := hcell 0 (by omega)
      obtain ⟨b, off, spot⟩ := x
      have hspot : spot = none := by simpa [Addr.add] using World.cell?_spot h0
      subst hspot
      rw [Addr.add_lit] at hc
      exact ⟨b, off, rfl, lt_of_cell hc, hc⟩
    · have hi' : i < zs.length := by omega
      exact hwz (zs.getD i 0) (by simp [List.getD, hi'])

theorem view_u8 {f : Nat → Int} {n : Nat} (h : ∀ i, i < n → (Lit.int .u8 (f i)).wf = true) : ∀ i, i < n → 0 ≤ f i ∧ f i ≤ 255 := fun i hi => bounds_u8 (h i hi)

theorem Below.drawn {B : Nat} {a w : World} (h : Below B a w) (q : Nat) : Below B a (w.drewN q) := h.trans ⟨rfl, rfl, rfl, Nat.le_refl _, fun _ _ => rfl⟩
end Go.Proofs.Ytkeojhnifnkpiaa

/- Memory that a call made itself and handed back. -/
namespace Go.Proofs.Ytkeojhnifnkpiaa
open Go.ChangeShapes Go.WideShapes Go.ChangeAt Go.RowKit
set_option linter.unusedVariables false
set_option linter.unusedSimpArgs false

/-- A slice of n cells that lies at the head of a block from B on, which may be written; cell i holds F i. -/
def Own (w : World) (B : Nat) (t : TypeId) (ao : Option Addr) (n : Nat) (F : Nat → Value) : Prop :=
  n = 0 ∨ ∃ g, ao = some ⟨g, 0, none⟩ ∧ B ≤ g ∧ ∃ c : Array Value, w.heap[g]? = some (.cells c t (0, 0)) ∧ n ≤ c.size ∧ ∀ i, i < n → c[i]? = some (F i)

theorem Own.at {w : World} {B : Nat} {t : TypeId} {ao : Option Addr} {n : Nat} {F : Nat → Value} (h : Own w B t ao n F) {i : Nat} (hi : i < n) :
    ∃ g, ao = some ⟨g, 0, none⟩ ∧ B ≤ g ∧ g < w.heap.size ∧ w.cell? ⟨g, i, none⟩ = some (F i) ∧ w.frozen? ⟨g, i, none⟩ = false := by
  rcases h with rfl | ⟨g, e, hB, c, hc, hs, hF⟩
  · omega
  · exact ⟨g, e, hB, (Array.getElem?_eq_some_iff.1 hc).1, by simp [World.cell?, hc, hF i hi], by simp [World.frozen?, hc]⟩

theorem Own.congr {w : World} {B : Nat} {t : TypeId} {ao : Option Addr} {n : Nat} {F G : Nat → Value} (h : Own w B t ao n F) (e : ∀ i, i < n → F i = G i) : Own w B t ao n G := by
  rcases h with h | ⟨g, ea, hB, c, hc, hs, hF⟩
  · exact .inl h
  · exact .inr ⟨g, ea, hB, c, hc, hs, fun i hi => by rw [hF i hi, e i hi]⟩

theorem Own.set {w : World} {B : Nat} {t : TypeId} {g n : Nat} {F : Nat → Value} (h : Own w B t (some ⟨g, 0, none⟩) n F) (i : Nat) (v : Value) :
    Own (w.setCell ⟨g, i, none⟩ v) B t (some ⟨g, 0, none⟩) n (fun j => if j = i then v else F j) := by
  rcases h with h | ⟨g', ea, hB, c, hc, hs, hF⟩
  · exact .inl h
  · simp at ea
    subst ea
    refine .inr ⟨g, rfl, hB, c.setIfInBounds i v, ?_, by simpa using hs, fun j hj => ?_⟩
    · simp [World.setCell, Array.getElem?_modify, hc]
    · show (c.setIfInBounds i v)[j]? = some (if j = i then v else F j)
      rw [Array.getElem?_setIfInBounds]
      by_cases e : j = i
      · subst e
        rw [if_pos rfl, if_pos rfl, if_pos (by omega)]
      · rw [if_neg (fun h => e h.symm), if_neg e]
        exact hF j hj

theorem Own.below {w w' : World} {B : Nat} {t : TypeId} {ao : Option Addr} {n : Nat} {F : Nat → Value} (h : Own w B t ao n F) (hb : Below w.heap.size w w') : Own w' B t ao n F := by
  rcases h with h | ⟨g, ea, hB, c, hc, hs, hF⟩
  · exact .inl h
  · exact .inr ⟨g, ea, hB, c, (hb.block g (Array.getElem?_eq_some_iff.1 hc).1).trans hc, hs, hF⟩

theorem Own.drawn {w : World} {B : Nat} {t : TypeId} {ao : Option Addr} {n : Nat} {F : Nat → Value} (h : Own w B t ao n F) (q : Nat) : Own (w.drewN q) B t ao n F := h

theorem Own.sl {w : World} {B : Nat} {t : TypeId} {ao : Option Addr} {n : Nat} {k : IntKind} {f : Nat → Int} (h : Own w B t ao n (fun i => .int k (f i))) : SL k w ao n f := by
  intro i hi
  obtain ⟨g, e, _, hlt, hc, _⟩ := h.at hi
  exact ⟨g, 0, e, hlt, by simpa using hc⟩

theorem Own.of_row {w : World} {B g n : Nat} {t : TypeId} {F : Nat → Value} (h : w.rowIs g t n F) (hB : B ≤ g) : Own w B t (some ⟨g, 0, none⟩) n F := by
  obtain ⟨c, hc, hn, hF⟩ := h
  exact .inr ⟨g, rfl, hB, c, hc, by omega, hF⟩

/-- What append has built. -/
theorem Own.of_owns {w : World} {B : Nat} {t : TypeId} {v : Value} {n : Nat} {k : IntKind} {L : List Int} (h : w.ownsRow B t 1 v n (L.map (.int k))) :
    ∃ ao cap, v = .slice ao n cap ∧ (n = L.length ∧ n ≤ cap ∧ cap ≤ maxLen) ∧ Own w B t ao n (fun i => .int k (L.getD i 0)) := by
  obtain ⟨hl, h⟩ := h
  have hl' : L.length = n := by simpa using hl
  rcases h with ⟨rfl, rfl⟩ | ⟨g, cap, cur, rfl, hB, hc, hn, hm, hs, ht⟩
  · exact ⟨none, 0, rfl, ⟨hl'.symm, Nat.le_refl _, Nat.zero_le _⟩, .inl rfl⟩
  · refine ⟨_, cap, rfl, ⟨hl'.symm, hn, hm⟩, .inr ⟨g, rfl, hB, cur, hc, by omega, fun i hi => ?_⟩⟩
    have e : (cur.toList.take (n * 1))[i]? = (L.map (Value.int k))[i]? := by rw [ht]
    rw [List.getElem?_take, if_pos (by omega)] at e
    have hi' : i < L.length := by omega
    simpa [List.getD, hi'] using e

end Go.Proofs.Ytkeojhnifnkpiaa

/- The cursor of the draws: what it hands on is within its bounds; it writes into its own cells alone. -/
namespace Go.Proofs.Ytkeojhnifnkpiaa
open Go.ChangeShapes Go.WideShapes Go.ChangeAt Go.RowKit
set_option linter.unusedVariables false
set_option linter.unusedSimpArgs false

/-- Block g is a cursor over the bytes of a slice. -/
def Cur (w : World) (g : Nat) (ao : Option Addr) (n cap : Nat) (f : Nat → Int) : Prop :=
  ∃ i h : Int, w.heap[g]? = some (.cells #[.slice ao n cap, .int .i64 i, .int .i64 h] 113 (0, 0)) ∧ 0 ≤ i ∧ i ≤ n ∧ n ≤ 1048576 ∧
    (∀ j, j < n → ∃ b off, ao = some ⟨b, off, none⟩ ∧ b < g ∧ w.cell? ⟨b, off + j, none⟩ = some (.int .u8 (f j))) ∧ (∀ j, j < n → 0 ≤ f j ∧ f j ≤ 255)

theorem and255 (a : Int) : 0 ≤ bits .and .i64 a 255 ∧ bits .and .i64 a 255 ≤ 255 := by
  have h : (BitVec.ofInt 64 a &&& BitVec.ofInt 64 255).toNat ≤ 255 := by
    rw [BitVec.toNat_and]
    exact Nat.le_trans Nat.and_le_right (by decide)
  show 0 ≤ IntKind.i64.wrap (((BitVec.ofInt 64 a &&& BitVec.ofInt 64 255).toNat : Nat) : Int) ∧ IntKind.i64.wrap (((BitVec.ofInt 64 a &&& BitVec.ofInt 64 255).toNat : Nat) : Int) ≤ 255
  generalize (BitVec.ofInt 64 a &&& BitVec.ofInt 64 255).toNat = c at h ⊢
  rw [IntKind.wrap_i64]
  omega

theorem blk_set {w : World} {g o : Nat} {c : Array Value} {t : TypeId} {v : Value} (hb : w.heap[g]? = some (.cells c t (0, 0))) :
    (w.setCell ⟨g, o, none⟩ v).heap[g]? = some (.cells (c.setIfInBounds o v) t (0, 0)) := by
  simp [World.setCell, Array.getElem?_modify, hb]
theorem blk_oth {w : World} {g o k : Nat} {v : Value} (hk : k ≠ g) : (w.setCell ⟨g, o, none⟩ v).heap[k]? = w.heap[k]? :=
  Below.heap_setCell w ⟨g, o, none⟩ v k hk

theorem cur_mk {w w' : World} {g n cap : Nat} {ao : Option Addr} {f : Nat → Int} {A B : Int} (hb : w'.heap[g]? = some (.cells #[.slice ao n cap, .int .i64 B, .int .i64 A] 113 (0, 0)))
    (hg : w.grownBy w' (some g)) (h0 : 0 ≤ B) (h1 : B ≤ n) (hn : n ≤ 1048576) (hgs : g < w.heap.size) (hs : ∀ j, j < n → ∃ b off, ao = some ⟨b, off, none⟩ ∧ b < g ∧ w.cell? ⟨b, off + j, none⟩ = some (.int .u8 (f j))) (hf : ∀ j, j < n → 0 ≤ f j ∧ f j ≤ 255) : Cur w' g ao n cap f := by
  refine ⟨B, A, hb, h0, h1, hn, fun j hj => ?_, hf⟩
  obtain ⟨b, off, e, hlt, hc⟩ := hs j hj
  refine ⟨b, off, e, hlt, ?_⟩
  rw [← hc]
  exact World.cell?_of_block (w := w) (hg.block b (by omega) (by simp; omega))

theorem byte_any (g n cap : Nat) (ao : Option Addr) (f : Nat → Int) (w : World) (hc : Cur w g ao n cap f) :
    Calls Try.prog 135 #[.pointer (some ⟨g, 0, none⟩)] w fun e w' => (∃ x : Int, e = .returned (.int .i64 x) ∧ 0 ≤ x ∧ x ≤ 255) ∧ Cur w' g ao n cap f ∧ w.grownBy w' (some g) := by
  obtain ⟨i, h, hb, hi0, hi1, hn, hs, hf⟩ := hc
  have c0 : w.cell? ⟨g, 0, none⟩ = some (.slice ao n cap) := by simp [World.cell?, hb]
  have c1 : w.cell? ⟨g, 1, none⟩ = some (.int .i64 i) := by simp [World.cell?, hb]
  have c2 : w.cell? ⟨g, 2, none⟩ = some (.int .i64 h) := by simp [World.cell?, hb]
  have f1 : w.frozen? ⟨g, 1, none⟩ = false := by simp [World.frozen?, hb]
  have f2 : w.frozen? ⟨g, 2, none⟩ = false := by simp [World.frozen?, hb]
  have hgs : g < w.heap.size := (Array.getElem?_eq_some_iff.1 hb).1
  have HS : Hid (∀ j, j < n → ∃ b off, ao = some ⟨b, off, none⟩ ∧ b < g ∧ w.cell? ⟨b, off + j, none⟩ = some (.int .u8 (f j))) := hs
  have HF : Hid (∀ j, j < n → 0 ≤ f j ∧ f j ≤ 255) := hf
  have HB : Hid (w.heap[g]? = some (.cells #[.slice ao n cap, .int .i64 i, .int .i64 h] 113 (0, 0))) := hb
  by_cases hlt : i < n
  · obtain ⟨j, rfl⟩ := Int.eq_ofNat_of_zero_le hi0
    obtain ⟨b, off, rfl, hbg, hcell⟩ := hs j (by omega)
    have hz := hf j (by omega)
    have hne : ¬ g = b := by omega
    clear hs hf hb
    go_enter Try.func135, Try.ntmps135
    go_wp2
    go_quiet (fail)
    go_wp2
    go_quiet (fail)
    go_wp2
    go_quiet (fail)
    go_wp2
    go_ret
    refine ⟨⟨_, rfl, and255 _⟩, ?_⟩
    refine (fun (hg : w.grownBy _ (some g)) => ⟨cur_mk (w := w) ((blk_set (o := 1) (w := (w.setCell _ _).drewN _) (blk_set HB.out)).trans rfl) hg (by omega) (by omega) hn hgs HS.out HF.out, hg⟩) ?_
    exact ⟨rfl, rfl, rfl, by simp, fun k _ hk => (blk_oth (w := (w.setCell _ _).drewN _) (by simpa using hk)).trans (blk_oth (by simpa using hk))⟩
  · clear hs hf hb
    go_enter Try.func135, Try.ntmps135
    go_wp2
    go_quiet (fail)
    go_wp2
    go_quiet (fail)
    go_wp2
    go_ret
    refine ⟨⟨_, rfl, and255 _⟩, ?_⟩
    refine (fun (hg : w.grownBy _ (some g)) => ⟨cur_mk (w := w) ((blk_set HB.out).trans rfl) hg (by omega) (by omega) hn hgs HS.out HF.out, hg⟩) ?_
    exact ⟨rfl, rfl, rfl, by simp, fun k _ hk => blk_oth (by simpa using hk)⟩

theorem grown_trans {a b c : World} {g : Option Nat} (h : a.grownBy b g) (k : b.grownBy c g) : a.grownBy c g :=
  ⟨k.os.trans h.os, k.tape.trans h.tape, k.output.trans h.output, Nat.le_trans h.size k.size, fun i hi hn => (k.block i (Nat.lt_of_lt_of_le hi h.size) hn).trans (h.block i hi hn)⟩

theorem below_any (g n cap : Nat) (m : Int) (ao : Option Addr) (f : Nat → Int) (w : World) (h0 : 1 ≤ m) (h1 : m ≤ 256) (hc : Cur w g ao n cap f) :
    Calls Try.prog 111 #[.pointer (some ⟨g, 0, none⟩), .int .i64 m] w fun e w' => (∃ x : Int, e = .returned (.int .i64 x) ∧ 0 ≤ x ∧ x < m) ∧ Cur w' g ao n cap f ∧ w.grownBy w' (some g) := by
  have HC : Hid (Cur w g ao n cap f) := hc
  clear hc
  go_enter Try.func111, Try.ntmps111
  go_wp2_with fail
  refine (byte_any g n cap ao f _ HC.out).mono ?_
  rintro e w1 ⟨⟨x, rfl, hx0, hx1⟩, hcur, hgr⟩
  have HC1 : Hid (Cur w1 g ao n cap f ∧ w.grownBy w1 (some g)) := ⟨hcur, hgr⟩
  clear hcur hgr
  go_wp2
  go_ret
  exact ⟨⟨_, rfl, Int.emod_nonneg _ (by omega), Int.emod_lt_of_pos _ (by omega)⟩, HC1.out⟩

theorem pick_any (g n cap m c2 : Nat) (ao lo : Option Addr) (f F : Nat → Int) (w : World) (h0 : 1 ≤ m) (h1 : m ≤ 256) (hc : Cur w g ao n cap f)
    (hl : ∀ i, i < m → ∃ b off, lo = some ⟨b, off, none⟩ ∧ b < w.heap.size ∧ b ≠ g ∧ w.cell? ⟨b, off + i, none⟩ = some (.int .i64 (F i))) :
    Calls Try.prog 63 #[.pointer (some ⟨g, 0, none⟩), .slice lo m c2] w fun e w' => (∃ i, i < m ∧ e = .returned (.int .i64 (F i))) ∧ Cur w' g ao n cap f ∧ w.grownBy w' (some g) := by
  have HC : Hid (Cur w g ao n cap f) := hc
  clear hc
  go_enter Try.func63, Try.ntmps63
  go_wp2_with fail
  refine (below_any g n cap m ao f _ (by omega) (by omega) HC.out).mono ?_
  rintro e w1 ⟨⟨x, rfl, hx0, hx1⟩, hcur, hgr⟩
  have HC1 : Hid (Cur w1 g ao n cap f ∧ w.grownBy w1 (some g)) := ⟨hcur, hgr⟩
  obtain ⟨i, rfl⟩ := Int.eq_ofNat_of_zero_le hx0
  obtain ⟨b, off, rfl, hb, hne, hcell⟩ := hl i (by omega)
  have hcell1 : w1.cell? ⟨b, off + i, none⟩ = some (.int .i64 (F i)) := (World.cell?_of_block (w := w) (hgr.block b hb (by simpa using hne))).trans hcell
  clear hcur hgr hl hcell
  go_wp2
  go_ret
  exact ⟨⟨i, by omega, rfl⟩, HC1.out⟩

theorem once_any (g n cap : Nat) (m : Int) (ao : Option Addr) (f : Nat → Int) (w : World) (h0 : 1 ≤ m) (h1 : m ≤ 256) (hc : Cur w g ao n cap f) :
    Calls Try.prog 64 #[.pointer (some ⟨g, 0, none⟩), .int .i64 m] w fun e w' => (∃ x : Bool, e = .returned (.bool x)) ∧ Cur w' g ao n cap f ∧ w.grownBy w' (some g) := by
  have HC : Hid (Cur w g ao n cap f) := hc
  clear hc
  go_enter Try.func64, Try.ntmps64
  go_wp2_with fail
  refine (below_any g n cap m ao f _ h0 h1 HC.out).mono ?_
  rintro e w1 ⟨⟨x, rfl, hx0, hx1⟩, hcur, hgr⟩
  have HC1 : Hid (Cur w1 g ao n cap f ∧ w.grownBy w1 (some g)) := ⟨hcur, hgr⟩
  clear hcur hgr
  go_wp2
  go_ret
  exact ⟨⟨_, rfl⟩, HC1.out⟩

theorem cur_new {w : World} {ao : Option Addr} {n cap : Nat} {f : Nat → Int} {x : Int} (hs : SL .u8 w ao n f) (hf : ∀ i, i < n → 0 ≤ f i ∧ f i ≤ 255) (hn : n ≤ 1048576) :
    Cur (w.alloc (.cells #[.slice ao n cap, .int .i64 0, .int .i64 x] 113)) w.heap.size ao n cap f := by
  refine ⟨0, x, Deep.blk_alloc_new _ _, by omega, by omega, hn, fun j hj => ?_, hf⟩
  obtain ⟨b, off, e, hlt, hc⟩ := hs j hj
  exact ⟨b, off, e, hlt, (World.cell?_of_block (w := w) (Below.heap_alloc w _ b hlt)).trans hc⟩

set_option maxRecDepth 100000 in
theorem new_any (ao : Option Addr) (n cap : Nat) (f : Nat → Int) (w : World) (hn : n ≤ 1048576) (hs : SL .u8 w ao n f) (hf : ∀ i, i < n → 0 ≤ f i ∧ f i ≤ 255) :
    Calls Try.prog 51 #[.slice ao n cap] w fun e w' => e = .returned (.pointer (some ⟨w.heap.size, 0, none⟩)) ∧ Cur w' w.heap.size ao n cap f ∧ Below w.heap.size w w' := by
  go_enter Try.func51, Try.ntmps51
  go_wp2
  go_loop [3, 4] (fun h i => ∃ (k : Nat) (x : Int), k ≤ n ∧ i = .int .i64 k ∧ h = .int .i64 x) (fun _ i => n - (intOf i).toNat)
  case atStart => exact ⟨0, _, Nat.zero_le _, rfl, rfl⟩
  case round =>
    obtain ⟨k, x, hk, rfl, rfl⟩ := hrel
    have HS : Hid (SL .u8 w ao n f) := hs
    have HF : Hid (∀ i, i < n → 0 ≤ f i ∧ f i ≤ 255) := hf
    by_cases hlt : k < n
    · by_cases h4 : k < 4000
      · obtain ⟨b, off, rfl, hbs, hc⟩ := hs k hlt
        have hz := hf k hlt
        clear hs hf
        go_wp2
        go_round
        case rel => exact ⟨k + 1, _, by omega, by go_num, rfl⟩
        case measure => simp [intOf]; omega
      · clear hs hf
        have h4' : decide ((k : Int) < 4000) = false := by simp; omega
        go_wp2
        go_ret
        exact ⟨rfl, cur_new HS.out HF.out hn, (Below.refl _ _).alloc (Nat.le_refl _) _⟩
    · clear hs hf
      go_wp2
      go_ret
      exact ⟨rfl, cur_new HS.out HF.out hn, (Below.refl _ _).alloc (Nat.le_refl _) _⟩
end Go.Proofs.Ytkeojhnifnkpiaa

/- More on the cursor of the draws. -/
namespace Go.Proofs.Ytkeojhnifnkpiaa
open Go.ChangeShapes Go.WideShapes Go.ChangeAt Go.RowKit
set_option linter.unusedVariables false
set_option linter.unusedSimpArgs false
set_option maxRecDepth 100000

theorem Cur.alloc {w : World} {g n cap : Nat} {ao : Option Addr} {f : Nat → Int} (h : Cur w g ao n cap f) (o : Obj) : Cur (w.alloc o) g ao n cap f := by
  obtain ⟨i, x, hb, h0, h1, hn, hs, hf⟩ := h
  have hg : g < w.heap.size := (Array.getElem?_eq_some_iff.1 hb).1
  refine ⟨i, x, (Below.heap_alloc w o g hg).trans hb, h0, h1, hn, fun j hj => ?_, hf⟩
  obtain ⟨b, off, e, hlt, hc⟩ := hs j hj
  exact ⟨b, off, e, hlt, (World.cell?_of_block (w := w) (Below.heap_alloc w o b (by omega))).trans hc⟩

theorem Cur.lt {w : World} {g n cap : Nat} {ao : Option Addr} {f : Nat → Int} (h : Cur w g ao n cap f) : g < w.heap.size := by
  obtain ⟨i, x, hb, _⟩ := h
  exact (Array.getElem?_eq_some_iff.1 hb).1

theorem cell_blk {w : World} {b i : Nat} {c : Array Value} {t : TypeId} (hb : w.heap[b]? = some (.cells c t (0, 0))) : w.cell? ⟨b, i, none⟩ = c[i]? := by
  simp [World.cell?, hb]

/-- A list of ints that the call has just built. -/
theorem lit_cells (w : World) (zs : List Int) (t : TypeId) (g : Nat) (hg : g < w.heap.size) :
    ∀ i, i < zs.length → ∃ b off, (some ⟨w.heap.size, 0, none⟩ : Option Addr) = some ⟨b, off, none⟩ ∧ b < (w.alloc (.cells (zs.map (Value.int .i64)).toArray t)).heap.size ∧ b ≠ g ∧
      (w.alloc (.cells (zs.map (Value.int .i64)).toArray t)).cell? ⟨b, off + i, none⟩ = some (.int .i64 (zs.getD i 0)) := by
  intro i hi
  refine ⟨w.heap.size, 0, rfl, by simp, by omega, ?_⟩
  have hb : (w.alloc (.cells (zs.map (Value.int .i64)).toArray t)).heap[w.heap.size]? = some (.cells (zs.map (Value.int .i64)).toArray t (0, 0)) := Deep.blk_alloc_new _ _
  rw [Nat.zero_add, cell_blk hb]
  simp [List.getD, hi]

theorem lit_bd (zs : List Int) (h : zs.all (fun z => decide (-9223372036854775808 ≤ z) && decide (z ≤ 9223372036854775807)) = true) (i : Nat) (hi : i < zs.length) :
    -9223372036854775808 ≤ zs.getD i 0 ∧ zs.getD i 0 ≤ 9223372036854775807 := by
  have := List.all_eq_true.1 h (zs.getD i 0) (by simp [List.getD, hi])
  simpa using this

theorem draw_end {w w1 w2 : World} {o : Obj} (b1 : Below w.heap.size w w1) (hg : (w1.alloc o).grownBy w2 (some w.heap.size)) : Below w.heap.size w w2 :=
  (b1.alloc b1.size o).grown hg (by have := b1.size; simp; omega) (fun k hk => by simp at hk; omega)

theorem Cur.grown {w w' : World} {g n cap : Nat} {ao : Option Addr} {f : Nat → Int} {row : Option Nat} (h : Cur w g ao n cap f) (hg : w.grownBy w' row) (hr : ∀ k, row = some k → g < k) : Cur w' g ao n cap f := by
  obtain ⟨i, x, hb, h0, h1, hn, hs, hf⟩ := h
  have hlt : g < w.heap.size := (Array.getElem?_eq_some_iff.1 hb).1
  refine ⟨i, x, (hg.block g hlt (fun e => by have := hr g e.symm; omega)).trans hb, h0, h1, hn, fun j hj => ?_, hf⟩
  obtain ⟨b, off, e, hl, hc⟩ := hs j hj
  exact ⟨b, off, e, hl, (World.cell?_of_block (w := w) (hg.block b (by omega) (fun e => by have := hr b e.symm; omega))).trans hc⟩

theorem grown_alloc (w : World) (o : Obj) (g : Option Nat) : w.grownBy (w.alloc o) g := ⟨rfl, rfl, rfl, by simp, fun k hk _ => Below.heap_alloc w o k hk⟩

end Go.Proofs.Ytkeojhnifnkpiaa

/- Numbers as bytes, seven bits a byte: plain arithmetic, no program. -/
namespace Go.Proofs.Ytkeojhnifnkpiaa
open Go.RowKit

/-- What the first k bytes from a on tell. -/
def gacc (f : Nat → Int) (a : Nat) : Nat → Int
  | 0 => 0
  | k + 1 => gacc f a k + f (a + k) % 128 * 128 ^ k

/-- The number that begins at a, read from its byte k on, 'fuel' bytes at most. -/
def gr (n : Nat) (f : Nat → Int) (a : Nat) : Nat → Nat → Option (Int × Int)
  | 0, _ => none
  | fuel + 1, k =>
    if a + k < n then
      if f (a + k) < 128 then
        if (0 < k ∧ f (a + k) = 0) ∨ 2147483647 < gacc f a (k + 1) then none else some (gacc f a (k + 1), a + k + 1)
      else gr n f a fuel (k + 1)
    else none

theorem i64_or_nat (a b : Nat) (ha : a < 4611686018427387904) (hb : b < 4611686018427387904) : bits .or .i64 (a : Int) (b : Int) = ((a ||| b : Nat) : Int) := by
  have h : a ||| b < 2 ^ 62 := Nat.or_lt_two_pow (by omega) (by omega)
  have e : (BitVec.ofInt 64 (a : Int) ||| BitVec.ofInt 64 (b : Int)).toNat = a ||| b := by
    rw [BitVec.toNat_or, ofInt_u64 a (by omega), ofInt_u64 b (by omega)]
  show IntKind.i64.wrap (((BitVec.ofInt 64 (a : Int) ||| BitVec.ofInt 64 (b : Int)).toNat : Nat) : Int) = _
  rw [e]
  generalize a ||| b = c at h ⊢
  rw [IntKind.wrap_i64]
  omega

theorem or_mul (a b i m : Nat) (hm : m = 2 ^ i) (h : a < m) : a ||| (b * m) = b * m + a := by
  subst hm
  rw [Nat.or_comm, ← Nat.shiftLeft_eq, Nat.shiftLeft_add_eq_or_of_lt h]

theorem gacc_bd (f : Nat → Int) (a k : Nat) : 0 ≤ gacc f a k ∧ gacc f a k < 128 ^ k := by
  induction k with
  | zero => simp [gacc]
  | succ k ih =>
    have h1 : 0 ≤ f (a + k) % 128 := by omega
    have h2 : f (a + k) % 128 ≤ 127 := by omega
    have hp : (0 : Int) < 128 ^ k := Int.pow_pos (by decide)
    rw [gacc, Int.pow_succ]
    generalize f (a + k) % 128 = x at h1 h2 ⊢
    generalize (128 : Int) ^ k = P at ih hp ⊢
    have e1 : 0 ≤ x * P := Int.mul_nonneg h1 (Int.le_of_lt hp)
    have e2 : x * P ≤ 127 * P := Int.mul_le_mul_of_nonneg_right h2 (Int.le_of_lt hp)
    omega

theorem pow7 (k : Nat) : (2 : Int) ^ (7 * k) = 128 ^ k := by
  rw [Int.pow_mul]; rfl

theorem shl_step (f : Nat → Int) (a k : Nat) (hk : k < 5) : wrap64 (f (a + k) % 128 * 2 ^ (7 * k)) = f (a + k) % 128 * 128 ^ k := by
  rw [pow7]
  have h1 : 0 ≤ f (a + k) % 128 := by omega
  have h2 : f (a + k) % 128 ≤ 127 := by omega
  generalize f (a + k) % 128 = x at h1 h2 ⊢
  rcases (show k = 0 ∨ k = 1 ∨ k = 2 ∨ k = 3 ∨ k = 4 by omega) with rfl | rfl | rfl | rfl | rfl <;> (unfold wrap64; omega)

theorem shl_bd (f : Nat → Int) (a k : Nat) (hk : k < 5) : 0 ≤ f (a + k) % 128 * 128 ^ k ∧ f (a + k) % 128 * 128 ^ k < 34359738368 ∧ gacc f a k < 34359738368 := by
  have hb := gacc_bd f a k
  have h1 : 0 ≤ f (a + k) % 128 := by omega
  have h2 : f (a + k) % 128 ≤ 127 := by omega
  generalize f (a + k) % 128 = x at h1 h2 ⊢
  generalize gacc f a k = y at hb ⊢
  rcases (show k = 0 ∨ k = 1 ∨ k = 2 ∨ k = 3 ∨ k = 4 by omega) with rfl | rfl | rfl | rfl | rfl <;> omega

theorem or_step (f : Nat → Int) (a k : Nat) (hk : k < 5) : bits .or .i64 (gacc f a k) (wrap64 (f (a + k) % 128 * 2 ^ (7 * k))) = gacc f a (k + 1) := by
  rw [shl_step f a k hk]
  have hb := gacc_bd f a k
  simp only [gacc]
  have h1 : 0 ≤ f (a + k) % 128 := by omega
  have h2 : f (a + k) % 128 ≤ 127 := by omega
  generalize f (a + k) % 128 = x at h1 h2 ⊢
  generalize gacc f a k = y at hb ⊢
  obtain ⟨hb0, hb⟩ := hb
  obtain ⟨x, rfl⟩ := Int.eq_ofNat_of_zero_le h1
  obtain ⟨y, rfl⟩ := Int.eq_ofNat_of_zero_le hb0
  rcases (show k = 0 ∨ k = 1 ∨ k = 2 ∨ k = 3 ∨ k = 4 by omega) with rfl | rfl | rfl | rfl | rfl
  · rw [show ((x : Int) * 128 ^ 0) = ((x * 1 : Nat) : Int) by simp, i64_or_nat _ _ (by omega) (by omega), or_mul y x 0 1 rfl (by omega)]; omega
  · rw [show ((x : Int) * 128 ^ 1) = ((x * 128 : Nat) : Int) by omega, i64_or_nat _ _ (by omega) (by omega), or_mul y x 7 128 rfl (by omega)]; omega
  · rw [show ((x : Int) * 128 ^ 2) = ((x * 16384 : Nat) : Int) by omega, i64_or_nat _ _ (by omega) (by omega), or_mul y x 14 16384 rfl (by omega)]; omega
  · rw [show ((x : Int) * 128 ^ 3) = ((x * 2097152 : Nat) : Int) by omega, i64_or_nat _ _ (by omega) (by omega), or_mul y x 21 2097152 rfl (by omega)]; omega
  · rw [show ((x : Int) * 128 ^ 4) = ((x * 268435456 : Nat) : Int) by omega, i64_or_nat _ _ (by omega) (by omega), or_mul y x 28 268435456 rfl (by omega)]; omega

theorem gr_in {n a fuel k : Nat} {f : Nat → Int} (h : a + k < n) : gr n f a (fuel + 1) k =
    if f (a + k) < 128 then (if (0 < k ∧ f (a + k) = 0) ∨ 2147483647 < gacc f a (k + 1) then none else some (gacc f a (k + 1), (a : Int) + k + 1)) else gr n f a fuel (k + 1) := by
  rw [gr, if_pos h]
theorem gr_out {n a fuel k : Nat} {f : Nat → Int} (h : ¬ a + k < n) : gr n f a (fuel + 1) k = none := by
  rw [gr, if_neg h]
end Go.Proofs.Ytkeojhnifnkpiaa

/- GetNum, of the program and of its model, answers the same. -/
namespace Go.Proofs.Ytkeojhnifnkpiaa
open Go.ChangeShapes Go.WideShapes Go.ChangeAt Go.RowKit
set_option linter.unusedVariables false
set_option linter.unusedSimpArgs false

theorem byte_no (ao : Option Addr) (n cap : Nat) (at' : Int) (w : World) (h : at' < 0 ∨ (n : Int) ≤ at') :
    Calls Try.prog 141 #[.slice ao n cap, .int .i64 at'] w fun e w' => (∃ pv, e = .panicked [{ v := .iface 143 pv, recovered := false }]) ∧ w' = w := by
  by_cases h0 : at' < 0
  · go_enter Try.func141, Try.ntmps141
    go_wp2
    exact ⟨rfl, ⟨_, rfl⟩, rfl⟩
  · have h1 : (n : Int) ≤ at' := by omega
    go_enter Try.func141, Try.ntmps141
    go_wp2
    exact ⟨rfl, ⟨_, rfl⟩, rfl⟩

theorem byte_yes (b off n cap a : Nat) (p x : Int) (w : World) (hp : p = a) (h : a < n) (_hn : n ≤ 1048576) (hc : w.cell? ⟨b, off + a, none⟩ = some (.int .u8 x)) (hx : 0 ≤ x ∧ x ≤ 255) :
    Calls Try.prog 141 #[.slice (some ⟨b, off, none⟩) n cap, .int .i64 p] w fun e w' => e = .returned (.int .i64 x) ∧ w' = w := by
  subst hp
  go_enter Try.func141, Try.ntmps141
  go_wp2
  go_ret
  exact ⟨rfl, rfl⟩
theorem num_yes (x : Int) (w : World) (h : 0 ≤ x ∧ x ≤ 2147483647) :
    Calls Try.prog 117 #[.int .i64 x] w fun e w' => e = .returned (.int .i64 x) ∧ w' = w := by
  go_enter Try.func117, Try.ntmps117
  go_wp2
  go_ret
  exact ⟨rfl, rfl⟩
theorem num_no (x : Int) (w : World) (h : x < 0 ∨ 2147483647 < x) :
    Calls Try.prog 117 #[.int .i64 x] w fun e w' => (∃ pv, e = .panicked [{ v := .iface 143 pv, recovered := false }]) ∧ w' = w := by
  by_cases h0 : x < 0
  · go_enter Try.func117, Try.ntmps117
    go_wp2
    exact ⟨rfl, ⟨_, rfl⟩, rfl⟩
  · have h1 : 2147483647 < x := by omega
    go_enter Try.func117, Try.ntmps117
    go_wp2
    exact ⟨rfl, ⟨_, rfl⟩, rfl⟩
theorem short_no (x k : Int) (w : World) (hx : x = 0) (h : 0 < k) :
    Calls Try.prog 142 #[.int .i64 x, .int .i64 k] w fun e w' => (∃ pv, e = .panicked [{ v := .iface 143 pv, recovered := false }]) ∧ w' = w := by
  subst hx
  go_enter Try.func142, Try.ntmps142
  go_wp2
  exact ⟨rfl, ⟨_, rfl⟩, rfl⟩
theorem short_yes (x k : Int) (w : World) (h : ¬ (0 < k ∧ x = 0)) :
    Calls Try.prog 142 #[.int .i64 x, .int .i64 k] w fun e w' => e = .returned (.tuple #[]) ∧ w' = w := by
  by_cases h0 : x = 0
  · subst h0
    have h1 : k ≤ 0 := by omega
    go_enter Try.func142, Try.ntmps142
    go_wp2
    go_end0
    exact ⟨rfl, rfl⟩
  · have hx : (x == 0) = false := by simpa using h0
    go_enter Try.func142, Try.ntmps142
    go_wp2
    go_end0
    exact ⟨rfl, rfl⟩
end Go.Proofs.Ytkeojhnifnkpiaa

/- GetNum of the model tells the number that begins at a place, or that there is none. -/
namespace Go.Proofs.Ytkeojhnifnkpiaa
open Go.ChangeShapes Go.WideShapes Go.ChangeAt Go.RowKit
set_option linter.unusedVariables false
set_option linter.unusedSimpArgs false

/-- What GetNum hands back. -/
def gres : Option (Int × Int) → Value
  | some (x, y) => .tuple #[.int .i64 x, .int .i64 y, .bool true]
  | none => .tuple #[.int .i64 0, .int .i64 0, .bool false]

theorem get_spec_neg (ao : Option Addr) (n cap : Nat) (x : Int) (w : World) (hx : x < 0) :
    Calls Try.prog 121 #[.slice ao n cap, .int .i64 x] w fun e w' => e = .returned (gres none) ∧ w' = w := by
  go_enter Try.func121, Try.ntmps121
  go_wp2
  refine wp_loop_rounds 1 ?_
  rw [rounds_succ]
  go_wp2
  go_ret3
  exact ⟨rfl, rfl⟩

set_option maxHeartbeats 1000000 in
theorem get_spec (ao : Option Addr) (n cap a : Nat) (f : Nat → Int) (w : World) (hn : n ≤ 1048576) (ha : (a : Int) ≤ 9223372036854775807) (hs : SL .u8 w ao n f) (hf : ∀ i, i < n → 0 ≤ f i ∧ f i ≤ 255) :
    Calls Try.prog 121 #[.slice ao n cap, .int .i64 a] w fun e w' => e = .returned (gres (gr n f a 5 0)) ∧ w' = w := by
  go_enter Try.func121, Try.ntmps121
  go_wp2
  go_loop [7, 8] (fun x i => ∃ k : Nat, k ≤ 5 ∧ i = .int .i64 k ∧ x = .int .i64 (gacc f a k) ∧ Hid (gr n f a 5 0 = gr n f a (5 - k) k)) (fun _ i => 5 - (intOf i).toNat)
  case atStart => exact ⟨0, Nat.zero_le _, rfl, rfl, rfl⟩
  case round =>
    obtain ⟨k, hk, rfl, rfl, hg⟩ := hrel
    have hb := (gacc_bd f a k).1
    by_cases hk5 : k < 5
    · have e5 : 5 - k = (5 - (k + 1)) + 1 := by omega
      by_cases hin : a + k < n
      · obtain ⟨b, off, rfl, hbs, hc⟩ := hs (a + k) hin
        have hz := hf (a + k) hin
        have hor := or_step f a k hk5
        have hg2 := hg.out
        rw [e5, gr_in hin] at hg2
        have hG := (gacc_bd f a (k + 1)).1
        generalize hd : f (a + k) = d at hc hz hor hg2
        generalize hGG : gacc f a (k + 1) = G at hor hg2 hG
        have HG : Hid (gacc f a (k + 1) = G) := hGG
        clear hs hf hd hGG hg e5
        by_cases hd : d < 128
        · rw [if_pos hd] at hg2
          by_cases hno : (0 < k ∧ d = 0) ∨ 2147483647 < G
          · rw [if_pos hno] at hg2
            have fin : Hid (gr n f a 5 0 = none) := hg2
            clear hg2 HG
            by_cases h0 : 0 < k
            · by_cases h1 : d = 0
              · clear hno
                subst h1
                go_wp2
                go_ret3
                exact ⟨by rw [fin.out]; rfl, rfl⟩
              · have h2 : 2147483647 < G := hno.resolve_left (fun x => h1 x.2)
                have h1' : (d == 0) = false := by simpa using h1
                clear hno
                go_wp2
                go_ret3
                exact ⟨by rw [fin.out]; rfl, rfl⟩
            · have h2 : 2147483647 < G := hno.resolve_left (fun x => h0 x.1)
              clear hno
              go_wp2
              go_ret3
              exact ⟨by rw [fin.out]; rfl, rfl⟩
          · rw [if_neg hno] at hg2
            have fin : Hid (gr n f a 5 0 = some (G, (a : Int) + k + 1)) := hg2
            have h2 : ¬ 2147483647 < G := fun x => hno (.inr x)
            clear hg2 HG
            by_cases h0 : 0 < k
            · have h1 : ¬ d = 0 := fun x => hno (.inl ⟨h0, x⟩)
              have h1' : (d == 0) = false := by simpa using h1
              clear hno
              go_wp2
              go_ret3
              exact ⟨by rw [fin.out]; rfl, rfl⟩
            · clear hno
              go_wp2
              go_ret3
              exact ⟨by rw [fin.out]; rfl, rfl⟩
        · rw [if_neg hd] at hg2
          have Hg2 : Hid _ := hg2
          clear hg2
          go_wp2
          go_round
          case rel => exact ⟨k + 1, by omega, by go_num, by rw [HG.out], Hg2⟩
          case measure => simp [intOf]; omega
      · have hg2 := hg.out
        rw [e5, gr_out hin] at hg2
        have fin : Hid (gr n f a 5 0 = none) := hg2
        clear hg2 hg hs hf e5
        go_wp2
        go_ret3
        exact ⟨by rw [fin.out]; rfl, rfl⟩
    · have e5 : k = 5 := by omega
      subst e5
      have fin : Hid (gr n f a 5 0 = none) := hg.out
      clear hs hf hg
      go_wp2
      go_ret3
      exact ⟨by rw [fin.out]; rfl, rfl⟩
end Go.Proofs.Ytkeojhnifnkpiaa

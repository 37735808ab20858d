/- The cursor of the draws: what it hands on is within its bounds; it writes into its own cells alone. -/
import Derived.Test.YtjbhgedbkajmdaaOwn2
import Derived.Laws.BitsAllLaws
namespace Go.Proofs.Ytjbhgedbkajmdaa
open Go.ChangeShapes Go.WideShapes Go.ChangeAt Go.RowKit
set_option linter.unusedVariables false
set_option linter.unusedSimpArgs false

/-- Block g is a cursor over the bytes of a slice. -/
def Cur (w : World) (g : Nat) (ao : Option Addr) (n cap : Nat) (f : Nat → Int) : Prop :=
  ∃ i h : Int, w.heap[g]? = some (.cells #[.slice ao n cap, .int .i64 i, .int .i64 h] 88 (0, 0)) ∧ 0 ≤ i ∧ i ≤ n ∧ n ≤ 1048576 ∧
    (∀ j, j < n → ∃ b off, ao = some ⟨b, off, none⟩ ∧ b < g ∧ w.cell? ⟨b, off + j, none⟩ = some (.int .u8 (f j))) ∧ (∀ j, j < n → 0 ≤ f j ∧ f j ≤ 255)

theorem and255 (a : Int) : 0 ≤ bits .and .i64 a 255 ∧ bits .and .i64 a 255 ≤ 255 := by
  have h : (BitVec.ofInt 64 a &&& BitVec.ofInt 64 255).toNat ≤ 255 := by
    rw [BitVec.toNat_and]
    exact Nat.le_trans Nat.and_le_right (by decide)
  show 0 ≤ IntKind.i64.wrap (((BitVec.ofInt 64 a &&& BitVec.ofInt 64 255).toNat : Nat) : Int) ∧ IntKind.i64.wrap (((BitVec.ofInt 64 a &&& BitVec.ofInt 64 255).toNat : Nat) : Int) ≤ 255
  generalize (BitVec.ofInt 64 a &&& BitVec.ofInt 64 255).toNat = c at h ⊢
  rw [IntKind.wrap_i64]
  omega

theorem blk_set {w : World} {g o : Nat} {c : Array Value} {t : TypeId} {v : Value} (hb : w.heap[g]? = some (.cells c t (0, 0))) :
    (w.setCell ⟨g, o, none⟩ v).heap[g]? = some (.cells (c.setIfInBounds o v) t (0, 0)) := by
  simp [World.setCell, Array.getElem?_modify, hb]
theorem blk_oth {w : World} {g o k : Nat} {v : Value} (hk : k ≠ g) : (w.setCell ⟨g, o, none⟩ v).heap[k]? = w.heap[k]? :=
  Below.heap_setCell w ⟨g, o, none⟩ v k hk

theorem cur_mk {w w' : World} {g n cap : Nat} {ao : Option Addr} {f : Nat → Int} {A B : Int} (hb : w'.heap[g]? = some (.cells #[.slice ao n cap, .int .i64 B, .int .i64 A] 88 (0, 0)))
    (hg : w.grownBy w' (some g)) (h0 : 0 ≤ B) (h1 : B ≤ n) (hn : n ≤ 1048576) (hgs : g < w.heap.size) (hs : ∀ j, j < n → ∃ b off, ao = some ⟨b, off, none⟩ ∧ b < g ∧ w.cell? ⟨b, off + j, none⟩ = some (.int .u8 (f j))) (hf : ∀ j, j < n → 0 ≤ f j ∧ f j ≤ 255) : Cur w' g ao n cap f := by
  refine ⟨B, A, hb, h0, h1, hn, fun j hj => ?_, hf⟩
  obtain ⟨b, off, e, hlt, hc⟩ := hs j hj
  refine ⟨b, off, e, hlt, ?_⟩
  rw [← hc]
  exact World.cell?_of_block (w := w) (hg.block b (by omega) (by simp; omega))

theorem byte_any (g n cap : Nat) (ao : Option Addr) (f : Nat → Int) (w : World) (hc : Cur w g ao n cap f) :
    Calls Try.prog 92 #[.pointer (some ⟨g, 0, none⟩)] w fun e w' => (∃ x : Int, e = .returned (.int .i64 x) ∧ 0 ≤ x ∧ x ≤ 255) ∧ Cur w' g ao n cap f ∧ w.grownBy w' (some g) := by
  obtain ⟨i, h, hb, hi0, hi1, hn, hs, hf⟩ := hc
  have c0 : w.cell? ⟨g, 0, none⟩ = some (.slice ao n cap) := by simp [World.cell?, hb]
  have c1 : w.cell? ⟨g, 1, none⟩ = some (.int .i64 i) := by simp [World.cell?, hb]
  have c2 : w.cell? ⟨g, 2, none⟩ = some (.int .i64 h) := by simp [World.cell?, hb]
  have f1 : w.frozen? ⟨g, 1, none⟩ = false := by simp [World.frozen?, hb]
  have f2 : w.frozen? ⟨g, 2, none⟩ = false := by simp [World.frozen?, hb]
  have hgs : g < w.heap.size := (Array.getElem?_eq_some_iff.1 hb).1
  have HS : Hid (∀ j, j < n → ∃ b off, ao = some ⟨b, off, none⟩ ∧ b < g ∧ w.cell? ⟨b, off + j, none⟩ = some (.int .u8 (f j))) := hs
  have HF : Hid (∀ j, j < n → 0 ≤ f j ∧ f j ≤ 255) := hf
  have HB : Hid (w.heap[g]? = some (.cells #[.slice ao n cap, .int .i64 i, .int .i64 h] 88 (0, 0))) := hb
  by_cases hlt : i < n
  · obtain ⟨j, rfl⟩ := Int.eq_ofNat_of_zero_le hi0
    obtain ⟨b, off, rfl, hbg, hcell⟩ := hs j (by omega)
    have hz := hf j (by omega)
    have hne : ¬ g = b := by omega
    clear hs hf hb
    go_enter Try.func92, Try.ntmps92
    go_wp2
    go_quiet (fail)
    go_wp2
    go_quiet (fail)
    go_wp2
    go_quiet (fail)
    go_wp2
    go_ret
    refine ⟨⟨_, rfl, and255 _⟩, ?_⟩
    refine (fun (hg : w.grownBy _ (some g)) => ⟨cur_mk (w := w) ((blk_set (o := 1) (w := (w.setCell _ _).drewN _) (blk_set HB.out)).trans rfl) hg (by omega) (by omega) hn hgs HS.out HF.out, hg⟩) ?_
    exact ⟨rfl, rfl, rfl, by simp, fun k _ hk => (blk_oth (w := (w.setCell _ _).drewN _) (by simpa using hk)).trans (blk_oth (by simpa using hk))⟩
  · clear hs hf hb
    go_enter Try.func92, Try.ntmps92
    go_wp2
    go_quiet (fail)
    go_wp2
    go_quiet (fail)
    go_wp2
    go_ret
    refine ⟨⟨_, rfl, and255 _⟩, ?_⟩
    refine (fun (hg : w.grownBy _ (some g)) => ⟨cur_mk (w := w) ((blk_set HB.out).trans rfl) hg (by omega) (by omega) hn hgs HS.out HF.out, hg⟩) ?_
    exact ⟨rfl, rfl, rfl, by simp, fun k _ hk => blk_oth (by simpa using hk)⟩

theorem grown_trans {a b c : World} {g : Option Nat} (h : a.grownBy b g) (k : b.grownBy c g) : a.grownBy c g :=
  ⟨k.os.trans h.os, k.tape.trans h.tape, k.output.trans h.output, Nat.le_trans h.size k.size, fun i hi hn => (k.block i (Nat.lt_of_lt_of_le hi h.size) hn).trans (h.block i hi hn)⟩

theorem below_any (g n cap : Nat) (m : Int) (ao : Option Addr) (f : Nat → Int) (w : World) (h0 : 1 ≤ m) (h1 : m ≤ 256) (hc : Cur w g ao n cap f) :
    Calls Try.prog 76 #[.pointer (some ⟨g, 0, none⟩), .int .i64 m] w fun e w' => (∃ x : Int, e = .returned (.int .i64 x) ∧ 0 ≤ x ∧ x < m) ∧ Cur w' g ao n cap f ∧ w.grownBy w' (some g) := by
  have HC : Hid (Cur w g ao n cap f) := hc
  clear hc
  go_enter Try.func76, Try.ntmps76
  go_wp2_with fail
  refine (byte_any g n cap ao f _ HC.out).mono ?_
  rintro e w1 ⟨⟨x, rfl, hx0, hx1⟩, hcur, hgr⟩
  have HC1 : Hid (Cur w1 g ao n cap f ∧ w.grownBy w1 (some g)) := ⟨hcur, hgr⟩
  clear hcur hgr
  go_wp2
  go_ret
  exact ⟨⟨_, rfl, Int.emod_nonneg _ (by omega), Int.emod_lt_of_pos _ (by omega)⟩, HC1.out⟩

theorem pick_any (g n cap m c2 : Nat) (ao lo : Option Addr) (f F : Nat → Int) (w : World) (h0 : 1 ≤ m) (h1 : m ≤ 256) (hc : Cur w g ao n cap f)
    (hl : ∀ i, i < m → ∃ b off, lo = some ⟨b, off, none⟩ ∧ b < w.heap.size ∧ b ≠ g ∧ w.cell? ⟨b, off + i, none⟩ = some (.int .i64 (F i))) :
    Calls Try.prog 51 #[.pointer (some ⟨g, 0, none⟩), .slice lo m c2] w fun e w' => (∃ i, i < m ∧ e = .returned (.int .i64 (F i))) ∧ Cur w' g ao n cap f ∧ w.grownBy w' (some g) := by
  have HC : Hid (Cur w g ao n cap f) := hc
  clear hc
  go_enter Try.func51, Try.ntmps51
  go_wp2_with fail
  refine (below_any g n cap m ao f _ (by omega) (by omega) HC.out).mono ?_
  rintro e w1 ⟨⟨x, rfl, hx0, hx1⟩, hcur, hgr⟩
  have HC1 : Hid (Cur w1 g ao n cap f ∧ w.grownBy w1 (some g)) := ⟨hcur, hgr⟩
  obtain ⟨i, rfl⟩ := Int.eq_ofNat_of_zero_le hx0
  obtain ⟨b, off, rfl, hb, hne, hcell⟩ := hl i (by omega)
  have hcell1 : w1.cell? ⟨b, off + i, none⟩ = some (.int .i64 (F i)) := (World.cell?_of_block (w := w) (hgr.block b hb (by simpa using hne))).trans hcell
  clear hcur hgr hl hcell
  go_wp2
  go_ret
  exact ⟨⟨i, by omega, rfl⟩, HC1.out⟩

theorem once_any (g n cap : Nat) (m : Int) (ao : Option Addr) (f : Nat → Int) (w : World) (h0 : 1 ≤ m) (h1 : m ≤ 256) (hc : Cur w g ao n cap f) :
    Calls Try.prog 52 #[.pointer (some ⟨g, 0, none⟩), .int .i64 m] w fun e w' => (∃ x : Bool, e = .returned (.bool x)) ∧ Cur w' g ao n cap f ∧ w.grownBy w' (some g) := by
  have HC : Hid (Cur w g ao n cap f) := hc
  clear hc
  go_enter Try.func52, Try.ntmps52
  go_wp2_with fail
  refine (below_any g n cap m ao f _ h0 h1 HC.out).mono ?_
  rintro e w1 ⟨⟨x, rfl, hx0, hx1⟩, hcur, hgr⟩
  have HC1 : Hid (Cur w1 g ao n cap f ∧ w.grownBy w1 (some g)) := ⟨hcur, hgr⟩
  clear hcur hgr
  go_wp2
  go_ret
  exact ⟨⟨_, rfl⟩, HC1.out⟩

theorem cur_new {w : World} {ao : Option Addr} {n cap : Nat} {f : Nat → Int} {x : Int} (hs : SL .u8 w ao n f) (hf : ∀ i, i < n → 0 ≤ f i ∧ f i ≤ 255) (hn : n ≤ 1048576) :
    Cur (w.alloc (.cells #[.slice ao n cap, .int .i64 0, .int .i64 x] 88)) w.heap.size ao n cap f := by
  refine ⟨0, x, Deep.blk_alloc_new _ _, by omega, by omega, hn, fun j hj => ?_, hf⟩
  obtain ⟨b, off, e, hlt, hc⟩ := hs j hj
  exact ⟨b, off, e, hlt, (World.cell?_of_block (w := w) (Below.heap_alloc w _ b hlt)).trans hc⟩

set_option maxRecDepth 100000 in
theorem new_any (ao : Option Addr) (n cap : Nat) (f : Nat → Int) (w : World) (hn : n ≤ 1048576) (hs : SL .u8 w ao n f) (hf : ∀ i, i < n → 0 ≤ f i ∧ f i ≤ 255) :
    Calls Try.prog 39 #[.slice ao n cap] w fun e w' => e = .returned (.pointer (some ⟨w.heap.size, 0, none⟩)) ∧ Cur w' w.heap.size ao n cap f ∧ Below w.heap.size w w' := by
  go_enter Try.func39, Try.ntmps39
  go_wp2
  go_loop [3, 4] (fun h i => ∃ (k : Nat) (x : Int), k ≤ n ∧ i = .int .i64 k ∧ h = .int .i64 x) (fun _ i => n - (intOf i).toNat)
  case atStart => exact ⟨0, _, Nat.zero_le _, rfl, rfl⟩
  case round =>
    obtain ⟨k, x, hk, rfl, rfl⟩ := hrel
    have HS : Hid (SL .u8 w ao n f) := hs
    have HF : Hid (∀ i, i < n → 0 ≤ f i ∧ f i ≤ 255) := hf
    by_cases hlt : k < n
    · by_cases h4 : k < 4000
      · obtain ⟨b, off, rfl, hbs, hc⟩ := hs k hlt
        have hz := hf k hlt
        clear hs hf
        go_wp2
        go_round
        case rel => exact ⟨k + 1, _, by omega, by go_num, rfl⟩
        case measure => simp [intOf]; omega
      · clear hs hf
        have h4' : decide ((k : Int) < 4000) = false := by simp; omega
        go_wp2
        go_ret
        exact ⟨rfl, cur_new HS.out HF.out hn, (Below.refl _ _).alloc (Nat.le_refl _) _⟩
    · clear hs hf
      go_wp2
      go_ret
      exact ⟨rfl, cur_new HS.out HF.out hn, (Below.refl _ _).alloc (Nat.le_refl _) _⟩
end Go.Proofs.Ytjbhgedbkajmdaa

/- Slices of integers, read as functions of the place. -/
import Derived.Test.YthhkmfgccbkkhaaRows
import Derived.WalkKit
import Derived.ProofKit
import Derived.OpenShut
import Derived.ShutString
import Derived.ChangeOld
import Derived.Below
import Derived.Deep.OwnRows
import Derived.Deep.QuietTactic
import Derived.BigQuiet
import Derived.Laws.BitsAllLaws
import Derived.Defers
import Derived.Recover
import Derived.Laws.BytesArg
import Derived.Laws.IdiomStrings

namespace Go.Proofs.Ythhkmfgccbkkhaa
open Go.ChangeShapes Go.WideShapes Go.ChangeAt Go.RowKit
set_option linter.unusedVariables false
set_option linter.unusedSimpArgs false

/-- The first n cells of a slice that begins at 'ao' hold the numbers f 0, f 1, .. -/
def SL (k : IntKind) (w : World) (ao : Option Addr) (n : Nat) (f : Nat → Int) : Prop :=
  ∀ i, i < n → ∃ b off, ao = some ⟨b, off, none⟩ ∧ b < w.heap.size ∧ w.cell? ⟨b, off + i, none⟩ = some (.int k (f i))

theorem SL.below {k : IntKind} {w w' : World} {ao : Option Addr} {n : Nat} {f : Nat → Int} (h : SL k w ao n f) (hb : Below w.heap.size w w') : SL k w' ao n f := by
  intro i hi
  obtain ⟨b, off, e, hlt, hc⟩ := h i hi
  exact ⟨b, off, e, Nat.lt_of_lt_of_le hlt hb.size, (hb.cell hlt).trans hc⟩

theorem SL.row {k : IntKind} {w : World} {g n : Nat} {t : TypeId} {f : Nat → Int} (h : w.rowIs g t n (fun i => .int k (f i))) : SL k w (some ⟨g, 0, none⟩) n f := by
  intro i hi
  exact ⟨g, 0, rfl, h.lt, by simpa using h.cell hi⟩

theorem row_below {w w' : World} {g n : Nat} {t : TypeId} {f : Nat → Value} {B : Nat} (h : w.rowIs g t n f) (hb : Below B w w') (hg : g < B) : w'.rowIs g t n f :=
  h.of_block (hb.block g hg)

theorem Try.info5 : (Try.prog.info? 5).map (fun i => (i.zero, i.size, i.bytes)) = some (some (.int .u8 0), 1, 1) := by kernel_rfl

theorem lt_of_cell {w : World} {a : Addr} {v : Value} (h : w.cell? a = some v) : a.block < w.heap.size := by
  cases hb : w.heap[a.block]? with
  | none => simp [World.cell?, hb] at h
  | some o => exact (Array.getElem?_eq_some_iff.1 hb).1

/-- A slice of integers that came in, as the frame of a law's proof tells it, read as a function of the place. -/
theorem view {k : IntKind} {w : World} {a : Option Addr} {len cap : Nat} {zs : List Int}
    (h : (a = none ∧ len = 0 ∧ cap = 0 ∧ zs = []) ∨
      ∃ x, a = some x ∧ len ≤ cap ∧ cap ≤ maxLen ∧ zs.length = cap ∧ (∀ i, i < zs.length → w.cell? (x.add i) = some (.int k (zs.getD i 0))) ∧ ∀ n ∈ zs, (Lit.int k n).wf = true) :
    ∃ f : Nat → Int, SL k w a len f ∧ (∀ i, i < len → (Lit.int k (f i)).wf = true) := by
  refine ⟨fun i => zs.getD i 0, ?_⟩
  rcases h with ⟨rfl, rfl, rfl, rfl⟩ | ⟨x, rfl, hl, hm, hz, hcell, hwz⟩
  · exact ⟨fun i hi => absurd hi (Nat.not_lt_zero _), fun i hi => absurd hi (Nat.not_lt_zero _)⟩
  · refine ⟨fun i hi => ?_, fun i hi => ?_⟩
    · have hc := hcell i (by omega)
      have h0 := hcell 0 (by omega)
      obtain ⟨b, off, spot⟩ := x
      have hspot : spot = none := by simpa [Addr.add] using World.cell?_spot h0
      subst hspot
      rw [Addr.add_lit] at hc
      exact ⟨b, off, rfl, lt_of_cell hc, hc⟩
    · have hi' : i < zs.length := by omega
      exact hwz (zs.getD i 0) (by simp [List.getD, hi'])

theorem view_u8 {f : Nat → Int} {n : Nat} (h : ∀ i, i < n → (Lit.int .u8 (f i)).wf = true) : ∀ i, i < n → 0 ≤ f i ∧ f i ≤ 255 := fun i hi => bounds_u8 (h i hi)

theorem Below.drawn {B : Nat} {a w : World} (h : Below B a w) (q : Nat) : Below B a (w.drewN q) := h.trans ⟨rfl, rfl, rfl, Nat.le_refl _, fun _ _ => rfl⟩
end Go.Proofs.Ythhkmfgccbkkhaa

/- Memory that a call made itself and handed back. -/
namespace Go.Proofs.Ythhkmfgccbkkhaa
open Go.ChangeShapes Go.WideShapes Go.ChangeAt Go.RowKit
set_option linter.unusedVariables false
set_option linter.unusedSimpArgs false

/-- A slice of n cells that lies at the head of a block from B on, which may be written; cell i holds F i. -/
def Own (w : World) (B : Nat) (t : TypeId) (ao : Option Addr) (n : Nat) (F : Nat → Value) : Prop :=
  n = 0 ∨ ∃ g, ao = some ⟨g, 0, none⟩ ∧ B ≤ g ∧ ∃ c : Array Value, w.heap[g]? = some (.cells c t (0, 0)) ∧ n ≤ c.size ∧ ∀ i, i < n → c[i]? = some (F i)

theorem Own.at {w : World} {B : Nat} {t : TypeId} {ao : Option Addr} {n : Nat} {F : Nat → Value} (h : Own w B t ao n F) {i : Nat} (hi : i < n) :
    ∃ g, ao = some ⟨g, 0, none⟩ ∧ B ≤ g ∧ g < w.heap.size ∧ w.cell? ⟨g, i, none⟩ = some (F i) ∧ w.frozen? ⟨g, i, none⟩ = false := by
  rcases h with rfl | ⟨g, e, hB, c, hc, hs, hF⟩
  · omega
  · exact ⟨g, e, hB, (Array.getElem?_eq_some_iff.1 hc).1, by simp [World.cell?, hc, hF i hi], by simp [World.frozen?, hc]⟩

theorem Own.congr {w : World} {B : Nat} {t : TypeId} {ao : Option Addr} {n : Nat} {F G : Nat → Value} (h : Own w B t ao n F) (e : ∀ i, i < n → F i = G i) : Own w B t ao n G := by
  rcases h with h | ⟨g, ea, hB, c, hc, hs, hF⟩
  · exact .inl h
  · exact .inr ⟨g, ea, hB, c, hc, hs, fun i hi => by rw [hF i hi, e i hi]⟩

theorem Own.set {w : World} {B : Nat} {t : TypeId} {g n : Nat} {F : Nat → Value} (h : Own w B t (some ⟨g, 0, none⟩) n F) (i : Nat) (v : Value) :
    Own (w.setCell ⟨g, i, none⟩ v) B t (some ⟨g, 0, none⟩) n (fun j => if j = i then v else F j) := by
  rcases h with h | ⟨g', ea, hB, c, hc, hs, hF⟩
  · exact .inl h
  · simp at ea
    subst ea
    refine .inr ⟨g, rfl, hB, c.setIfInBounds i v, ?_, by simpa using hs, fun j hj => ?_⟩
    · simp [World.setCell, Array.getElem?_modify, hc]
    · show (c.setIfInBounds i v)[j]? = some (if j = i then v else F j)
      rw [Array.getElem?_setIfInBounds]
      by_cases e : j = i
      · subst e
        rw [if_pos rfl, if_pos rfl, if_pos (by omega)]
      · rw [if_neg (fun h => e h.symm), if_neg e]
        exact hF j hj

theorem Own.below {w w' : World} {B : Nat} {t : TypeId} {ao : Option Addr} {n : Nat} {F : Nat → Value} (h : Own w B t ao n F) (hb : Below w.heap.size w w') : Own w' B t ao n F := by
  rcases h with h | ⟨g, ea, hB, c, hc, hs, hF⟩
  · exact .inl h
  · exact .inr ⟨g, ea, hB, c, (hb.block g (Array.getElem?_eq_some_iff.1 hc).1).trans hc, hs, hF⟩

theorem Own.drawn {w : World} {B : Nat} {t : TypeId} {ao : Option Addr} {n : Nat} {F : Nat → Value} (h : Own w B t ao n F) (q : Nat) : Own (w.drewN q) B t ao n F := h

theorem Own.sl {w : World} {B : Nat} {t : TypeId} {ao : Option Addr} {n : Nat} {k : IntKind} {f : Nat → Int} (h : Own w B t ao n (fun i => .int k (f i))) : SL k w ao n f := by
  intro i hi
  obtain ⟨g, e, _, hlt, hc, _⟩ := h.at hi
  exact ⟨g, 0, e, hlt, by simpa using hc⟩

theorem Own.of_row {w : World} {B g n : Nat} {t : TypeId} {F : Nat → Value} (h : w.rowIs g t n F) (hB : B ≤ g) : Own w B t (some ⟨g, 0, none⟩) n F := by
  obtain ⟨c, hc, hn, hF⟩ := h
  exact .inr ⟨g, rfl, hB, c, hc, by omega, hF⟩

/-- What append has built. -/
theorem Own.of_owns {w : World} {B : Nat} {t : TypeId} {v : Value} {n : Nat} {k : IntKind} {L : List Int} (h : w.ownsRow B t 1 v n (L.map (.int k))) :
    ∃ ao cap, v = .slice ao n cap ∧ (n = L.length ∧ n ≤ cap ∧ cap ≤ maxLen) ∧ Own w B t ao n (fun i => .int k (L.getD i 0)) := by
  obtain ⟨hl, h⟩ := h
  have hl' : L.length = n := by simpa using hl
  rcases h with ⟨rfl, rfl⟩ | ⟨g, cap, cur, rfl, hB, hc, hn, hm, hs, ht⟩
  · exact ⟨none, 0, rfl, ⟨hl'.symm, Nat.le_refl _, Nat.zero_le _⟩, .inl rfl⟩
  · refine ⟨_, cap, rfl, ⟨hl'.symm, hn, hm⟩, .inr ⟨g, rfl, hB, cur, hc, by omega, fun i hi => ?_⟩⟩
    have e : (cur.toList.take (n * 1))[i]? = (L.map (Value.int k))[i]? := by rw [ht]
    rw [List.getElem?_take, if_pos (by omega)] at e
    have hi' : i < L.length := by omega
    simpa [List.getD, hi'] using e

end Go.Proofs.Ythhkmfgccbkkhaa

/- append to a row of the call's own, of whatever integers. -/
namespace Go.Proofs.Ythhkmfgccbkkhaa
open Go.ChangeShapes Go.WideShapes Go.ChangeAt Go.RowKit
set_option linter.unusedVariables false
set_option linter.unusedSimpArgs false

theorem hide {p : Prop} (h : p) : Hid p := h
theorem gcells (wr : World) (us : List Value) (t : TypeId) : ∀ j u', us[j]? = some u' → (wr.alloc (.cells us.toArray t)).cell? ((⟨wr.heap.size, 0, none⟩ : Addr).add j) = some u' := by
  intro j u' hj
  have hb : (wr.alloc (.cells us.toArray t)).heap[wr.heap.size]? = some (.cells us.toArray t (0, 0)) := Deep.blk_alloc_new _ _
  rw [Addr.add_lit, Nat.zero_add]
  simp only [World.cell?, hb]
  simpa using hj
theorem gones (k : IntKind) (L : List Int) : ∀ u ∈ L.map (Value.int k), u.oneCell' = true := by
  intro u hu; simp at hu; obtain ⟨x, _, rfl⟩ := hu; rfl
theorem glens {k m : Nat} (h : k + m ≤ 8388608) : k + m ≤ maxLen := by unfold maxLen; omega
theorem ggrown {B : Nat} {w wr w0 w1 : World} {v : Value} {k : Nat} {e : TypeId} {xs : List Value} (hb : Below B w w0) (hw : B ≤ w0.heap.size) (ho : wr.ownsRow B e 1 v k xs) (hg : w0.grownBy w1 v.ownBlock) : Below B w w1 := by
  refine hb.grown hg hw ?_
  intro g hgv
  rcases ho.2 with ⟨rfl, _⟩ | ⟨g', cap, cur, rfl, hge, _⟩
  · simp [Value.ownBlock] at hgv
  · simp [Value.ownBlock] at hgv; omega
/-- Behind an append of what was just laid. -/
theorem gpush {B : Nat} {w wr w1 : World} {v v' : Value} {k m : Nat} {ik : IntKind} {t : TypeId} {L M : List Int} {o : Obj} (hb : Below B w wr) (hw : B ≤ wr.heap.size) (ho : wr.ownsRow B t 1 v k (L.map (.int ik)))
    (h1 : w1.ownsRow B t 1 v' (k + m) (L.map (.int ik) ++ M.map (.int ik))) (hg : (wr.alloc o).grownBy w1 v.ownBlock) :
    w1.ownsRow B t 1 v' (k + m) ((L ++ M).map (.int ik)) ∧ Below B w w1 :=
  ⟨by simpa using h1, ggrown (hb.alloc hw _) (by simp; omega) ho hg⟩
theorem gnil {B : Nat} {w : World} {t : TypeId} {ik : IntKind} : w.ownsRow B t 1 (.slice none 0 0) 0 (([] : List Int).map (.int ik)) := ⟨rfl, .inl ⟨rfl, rfl⟩⟩
theorem gempty {B : Nat} {w : World} {t : TypeId} {ik : IntKind} (hB : B ≤ w.heap.size) : (w.alloc (.cells #[] t)).ownsRow B t 1 (.slice (some ⟨w.heap.size, 0, none⟩) 0 0) 0 (([] : List Int).map (.int ik)) :=
  ⟨rfl, .inr ⟨_, _, #[], rfl, hB, Deep.blk_alloc_new _ _, by simp, by simp, by simp, by simp⟩⟩
theorem gmono {B B' n s : Nat} {w : World} {e : TypeId} {v : Value} {xs : List Value} (h : w.ownsRow B e s v n xs) (hB : B' ≤ B) : w.ownsRow B' e s v n xs := by
  refine ⟨h.1, ?_⟩
  rcases h.2 with h | ⟨g, cap, cur, e1, hge, h⟩
  · exact .inl h
  · exact .inr ⟨g, cap, cur, e1, Nat.le_trans hB hge, h⟩
theorem gdrawn {B n s : Nat} {w : World} {e : TypeId} {v : Value} {xs : List Value} (h : w.ownsRow B e s v n xs) (q : Nat) : (w.drewN q).ownsRow B e s v n xs := h
end Go.Proofs.Ythhkmfgccbkkhaa

/- l1In: whether a number lies between two. -/
namespace Go.Proofs.Ythhkmfgccbkkhaa
open Go.ChangeShapes Go.WideShapes Go.ChangeAt Go.RowKit
set_option linter.unusedVariables false
set_option linter.unusedSimpArgs false

/-- A callee that draws nothing, met in a quiet region whose world has drawn already. -/
theorem quiet_q {P : Program} {f : FuncId} {args : Array Value} {w : World} {q n : Nat} {v : Value}
    (h : Calls P f args (w.drewN (q + n)) fun e w' => e = .returned v ∧ w' = w.drewN (q + n)) : Calls P f args (w.drewN (q + n)) fun e w'' => e = .returned v ∧ ∃ m, w'' = w.drewN (q + m) :=
  h.mono fun _ _ ⟨he, hm⟩ => ⟨he, n, hm⟩
/-- .. that may draw. -/
theorem quiet_qq {P : Program} {f : FuncId} {args : Array Value} {w : World} {q n : Nat} {v : Value}
    (h : Calls P f args (w.drewN (q + n)) fun e w' => e = .returned v ∧ ∃ m, w' = (w.drewN (q + n)).drewN m) : Calls P f args (w.drewN (q + n)) fun e w'' => e = .returned v ∧ ∃ m, w'' = w.drewN (q + m) :=
  h.mono fun _ _ ⟨he, m, hm⟩ => ⟨he, n + m, by rw [hm, World.drewN_drewN, Nat.add_assoc]⟩

theorem in_yes (x lo hi : Int) (w : World) (h0 : lo ≤ x) (h1 : x ≤ hi) : Calls Try.prog 70 #[.int .i64 x, .int .i64 lo, .int .i64 hi] w fun e w' => e = .returned (.bool true) ∧ w' = w := by
  go_enter Try.func70, Try.ntmps70
  go_wp2
  go_ret
  exact ⟨rfl, rfl⟩
theorem in_no (x lo hi : Int) (w : World) (h : x < lo ∨ hi < x) : Calls Try.prog 70 #[.int .i64 x, .int .i64 lo, .int .i64 hi] w fun e w' => e = .returned (.bool false) ∧ w' = w := by
  by_cases h0 : x < lo
  · go_enter Try.func70, Try.ntmps70
    go_wp2
    go_ret
    exact ⟨rfl, rfl⟩
  · have h1 : hi < x := by omega
    have h2 : decide (x ≤ hi) = false := by simpa using h1
    go_enter Try.func70, Try.ntmps70
    go_wp2
    go_ret
    exact ⟨by simp, rfl⟩

end Go.Proofs.Ythhkmfgccbkkhaa

/- Numbers as bytes, seven bits a byte: plain arithmetic, no program. -/
namespace Go.Proofs.Ythhkmfgccbkkhaa
open Go.RowKit

/-- What the first k bytes from a on tell. -/
def gacc (f : Nat → Int) (a : Nat) : Nat → Int
  | 0 => 0
  | k + 1 => gacc f a k + f (a + k) % 128 * 128 ^ k

/-- The number that begins at a, read from its byte k on, 'fuel' bytes at most. -/
def gr (n : Nat) (f : Nat → Int) (a : Nat) : Nat → Nat → Option (Int × Int)
  | 0, _ => none
  | fuel + 1, k =>
    if a + k < n then
      if f (a + k) < 128 then
        if (0 < k ∧ f (a + k) = 0) ∨ 2147483647 < gacc f a (k + 1) then none else some (gacc f a (k + 1), a + k + 1)
      else gr n f a fuel (k + 1)
    else none

theorem i64_or_nat (a b : Nat) (ha : a < 4611686018427387904) (hb : b < 4611686018427387904) : bits .or .i64 (a : Int) (b : Int) = ((a ||| b : Nat) : Int) := by
  have h : a ||| b < 2 ^ 62 := Nat.or_lt_two_pow (by omega) (by omega)
  have e : (BitVec.ofInt 64 (a : Int) ||| BitVec.ofInt 64 (b : Int)).toNat = a ||| b := by
    rw [BitVec.toNat_or, ofInt_u64 a (by omega), ofInt_u64 b (by omega)]
  show IntKind.i64.wrap (((BitVec.ofInt 64 (a : Int) ||| BitVec.ofInt 64 (b : Int)).toNat : Nat) : Int) = _
  rw [e]
  generalize a ||| b = c at h ⊢
  rw [IntKind.wrap_i64]
  omega

theorem or_mul (a b i m : Nat) (hm : m = 2 ^ i) (h : a < m) : a ||| (b * m) = b * m + a := by
  subst hm
  rw [Nat.or_comm, ← Nat.shiftLeft_eq, Nat.shiftLeft_add_eq_or_of_lt h]

theorem gacc_bd (f : Nat → Int) (a k : Nat) : 0 ≤ gacc f a k ∧ gacc f a k < 128 ^ k := by
  induction k with
  | zero => simp [gacc]
  | succ k ih =>
    have h1 : 0 ≤ f (a + k) % 128 := by omega
    have h2 : f (a + k) % 128 ≤ 127 := by omega
    have hp : (0 : Int) < 128 ^ k := Int.pow_pos (by decide)
    rw [gacc, Int.pow_succ]
    generalize f (a + k) % 128 = x at h1 h2 ⊢
    generalize (128 : Int) ^ k = P at ih hp ⊢
    have e1 : 0 ≤ x * P := Int.mul_nonneg h1 (Int.le_of_lt hp)
    have e2 : x * P ≤ 127 * P := Int.mul_le_mul_of_nonneg_right h2 (Int.le_of_lt hp)
    omega

theorem pow7 (k : Nat) : (2 : Int) ^ (7 * k) = 128 ^ k := by
  rw [Int.pow_mul]; rfl

theorem shl_step (f : Nat → Int) (a k : Nat) (hk : k < 5) : wrap64 (f (a + k) % 128 * 2 ^ (7 * k)) = f (a + k) % 128 * 128 ^ k := by
  rw [pow7]
  have h1 : 0 ≤ f (a + k) % 128 := by omega
  have h2 : f (a + k) % 128 ≤ 127 := by omega
  generalize f (a + k) % 128 = x at h1 h2 ⊢
  rcases (show k = 0 ∨ k = 1 ∨ k = 2 ∨ k = 3 ∨ k = 4 by omega) with rfl | rfl | rfl | rfl | rfl <;> (unfold wrap64; omega)

theorem shl_bd (f : Nat → Int) (a k : Nat) (hk : k < 5) : 0 ≤ f (a + k) % 128 * 128 ^ k ∧ f (a + k) % 128 * 128 ^ k < 34359738368 ∧ gacc f a k < 34359738368 := by
  have hb := gacc_bd f a k
  have h1 : 0 ≤ f (a + k) % 128 := by omega
  have h2 : f (a + k) % 128 ≤ 127 := by omega
  generalize f (a + k) % 128 = x at h1 h2 ⊢
  generalize gacc f a k = y at hb ⊢
  rcases (show k = 0 ∨ k = 1 ∨ k = 2 ∨ k = 3 ∨ k = 4 by omega) with rfl | rfl | rfl | rfl | rfl <;> omega

theorem or_step (f : Nat → Int) (a k : Nat) (hk : k < 5) : bits .or .i64 (gacc f a k) (wrap64 (f (a + k) % 128 * 2 ^ (7 * k))) = gacc f a (k + 1) := by
  rw [shl_step f a k hk]
  have hb := gacc_bd f a k
  simp only [gacc]
  have h1 : 0 ≤ f (a + k) % 128 := by omega
  have h2 : f (a + k) % 128 ≤ 127 := by omega
  generalize f (a + k) % 128 = x at h1 h2 ⊢
  generalize gacc f a k = y at hb ⊢
  obtain ⟨hb0, hb⟩ := hb
  obtain ⟨x, rfl⟩ := Int.eq_ofNat_of_zero_le h1
  obtain ⟨y, rfl⟩ := Int.eq_ofNat_of_zero_le hb0
  rcases (show k = 0 ∨ k = 1 ∨ k = 2 ∨ k = 3 ∨ k = 4 by omega) with rfl | rfl | rfl | rfl | rfl
  · rw [show ((x : Int) * 128 ^ 0) = ((x * 1 : Nat) : Int) by simp, i64_or_nat _ _ (by omega) (by omega), or_mul y x 0 1 rfl (by omega)]; omega
  · rw [show ((x : Int) * 128 ^ 1) = ((x * 128 : Nat) : Int) by omega, i64_or_nat _ _ (by omega) (by omega), or_mul y x 7 128 rfl (by omega)]; omega
  · rw [show ((x : Int) * 128 ^ 2) = ((x * 16384 : Nat) : Int) by omega, i64_or_nat _ _ (by omega) (by omega), or_mul y x 14 16384 rfl (by omega)]; omega
  · rw [show ((x : Int) * 128 ^ 3) = ((x * 2097152 : Nat) : Int) by omega, i64_or_nat _ _ (by omega) (by omega), or_mul y x 21 2097152 rfl (by omega)]; omega
  · rw [show ((x : Int) * 128 ^ 4) = ((x * 268435456 : Nat) : Int) by omega, i64_or_nat _ _ (by omega) (by omega), or_mul y x 28 268435456 rfl (by omega)]; omega

theorem gr_in {n a fuel k : Nat} {f : Nat → Int} (h : a + k < n) : gr n f a (fuel + 1) k =
    if f (a + k) < 128 then (if (0 < k ∧ f (a + k) = 0) ∨ 2147483647 < gacc f a (k + 1) then none else some (gacc f a (k + 1), (a : Int) + k + 1)) else gr n f a fuel (k + 1) := by
  rw [gr, if_pos h]
theorem gr_out {n a fuel k : Nat} {f : Nat → Int} (h : ¬ a + k < n) : gr n f a (fuel + 1) k = none := by
  rw [gr, if_neg h]
end Go.Proofs.Ythhkmfgccbkkhaa

/- GetNum, of the program and of its model, answers the same. -/
namespace Go.Proofs.Ythhkmfgccbkkhaa
open Go.ChangeShapes Go.WideShapes Go.ChangeAt Go.RowKit
set_option linter.unusedVariables false
set_option linter.unusedSimpArgs false

theorem byte_no (ao : Option Addr) (n cap : Nat) (at' : Int) (w : World) (h : at' < 0 ∨ (n : Int) ≤ at') :
    Calls Try.prog 99 #[.slice ao n cap, .int .i64 at'] w fun e w' => (∃ pv, e = .panicked [{ v := .iface 117 pv, recovered := false }]) ∧ w' = w := by
  by_cases h0 : at' < 0
  · go_enter Try.func99, Try.ntmps99
    go_wp2
    exact ⟨rfl, ⟨_, rfl⟩, rfl⟩
  · have h1 : (n : Int) ≤ at' := by omega
    go_enter Try.func99, Try.ntmps99
    go_wp2
    exact ⟨rfl, ⟨_, rfl⟩, rfl⟩

theorem byte_yes (b off n cap a : Nat) (p x : Int) (w : World) (hp : p = a) (h : a < n) (_hn : n ≤ 1048576) (hc : w.cell? ⟨b, off + a, none⟩ = some (.int .u8 x)) (hx : 0 ≤ x ∧ x ≤ 255) :
    Calls Try.prog 99 #[.slice (some ⟨b, off, none⟩) n cap, .int .i64 p] w fun e w' => e = .returned (.int .i64 x) ∧ w' = w := by
  subst hp
  go_enter Try.func99, Try.ntmps99
  go_wp2
  go_ret
  exact ⟨rfl, rfl⟩
theorem num_yes (x : Int) (w : World) (h : 0 ≤ x ∧ x ≤ 2147483647) :
    Calls Try.prog 85 #[.int .i64 x] w fun e w' => e = .returned (.int .i64 x) ∧ w' = w := by
  go_enter Try.func85, Try.ntmps85
  go_wp2
  go_ret
  exact ⟨rfl, rfl⟩
theorem num_no (x : Int) (w : World) (h : x < 0 ∨ 2147483647 < x) :
    Calls Try.prog 85 #[.int .i64 x] w fun e w' => (∃ pv, e = .panicked [{ v := .iface 117 pv, recovered := false }]) ∧ w' = w := by
  by_cases h0 : x < 0
  · go_enter Try.func85, Try.ntmps85
    go_wp2
    exact ⟨rfl, ⟨_, rfl⟩, rfl⟩
  · have h1 : 2147483647 < x := by omega
    go_enter Try.func85, Try.ntmps85
    go_wp2
    exact ⟨rfl, ⟨_, rfl⟩, rfl⟩
theorem short_no (x k : Int) (w : World) (hx : x = 0) (h : 0 < k) :
    Calls Try.prog 100 #[.int .i64 x, .int .i64 k] w fun e w' => (∃ pv, e = .panicked [{ v := .iface 117 pv, recovered := false }]) ∧ w' = w := by
  subst hx
  go_enter Try.func100, Try.ntmps100
  go_wp2
  exact ⟨rfl, ⟨_, rfl⟩, rfl⟩
theorem short_yes (x k : Int) (w : World) (h : ¬ (0 < k ∧ x = 0)) :
    Calls Try.prog 100 #[.int .i64 x, .int .i64 k] w fun e w' => e = .returned (.tuple #[]) ∧ w' = w := by
  by_cases h0 : x = 0
  · subst h0
    have h1 : k ≤ 0 := by omega
    go_enter Try.func100, Try.ntmps100
    go_wp2
    go_end0
    exact ⟨rfl, rfl⟩
  · have hx : (x == 0) = false := by simpa using h0
    go_enter Try.func100, Try.ntmps100
    go_wp2
    go_end0
    exact ⟨rfl, rfl⟩
end Go.Proofs.Ythhkmfgccbkkhaa

/- GetNum of the model tells the number that begins at a place, or that there is none. -/
namespace Go.Proofs.Ythhkmfgccbkkhaa
open Go.ChangeShapes Go.WideShapes Go.ChangeAt Go.RowKit
set_option linter.unusedVariables false
set_option linter.unusedSimpArgs false

/-- What GetNum hands back. -/
def gres : Option (Int × Int) → Value
  | some (x, y) => .tuple #[.int .i64 x, .int .i64 y, .bool true]
  | none => .tuple #[.int .i64 0, .int .i64 0, .bool false]

theorem get_spec_neg (ao : Option Addr) (n cap : Nat) (x : Int) (w : World) (hx : x < 0) :
    Calls Try.prog 90 #[.slice ao n cap, .int .i64 x] w fun e w' => e = .returned (gres none) ∧ w' = w := by
  go_enter Try.func90, Try.ntmps90
  go_wp2
  refine wp_loop_rounds 1 ?_
  rw [rounds_succ]
  go_wp2
  go_ret3
  exact ⟨rfl, rfl⟩

set_option maxHeartbeats 1000000 in
theorem get_spec (ao : Option Addr) (n cap a : Nat) (f : Nat → Int) (w : World) (hn : n ≤ 1048576) (ha : (a : Int) ≤ 9223372036854775807) (hs : SL .u8 w ao n f) (hf : ∀ i, i < n → 0 ≤ f i ∧ f i ≤ 255) :
    Calls Try.prog 90 #[.slice ao n cap, .int .i64 a] w fun e w' => e = .returned (gres (gr n f a 5 0)) ∧ w' = w := by
  go_enter Try.func90, Try.ntmps90
  go_wp2
  go_loop [7, 8] (fun x i => ∃ k : Nat, k ≤ 5 ∧ i = .int .i64 k ∧ x = .int .i64 (gacc f a k) ∧ Hid (gr n f a 5 0 = gr n f a (5 - k) k)) (fun _ i => 5 - (intOf i).toNat)
  case atStart => exact ⟨0, Nat.zero_le _, rfl, rfl, rfl⟩
  case round =>
    obtain ⟨k, hk, rfl, rfl, hg⟩ := hrel
    have hb := (gacc_bd f a k).1
    by_cases hk5 : k < 5
    · have e5 : 5 - k = (5 - (k + 1)) + 1 := by omega
      by_cases hin : a + k < n
      · obtain ⟨b, off, rfl, hbs, hc⟩ := hs (a + k) hin
        have hz := hf (a + k) hin
        have hor := or_step f a k hk5
        have hg2 := hg.out
        rw [e5, gr_in hin] at hg2
        have hG := (gacc_bd f a (k + 1)).1
        generalize hd : f (a + k) = d at hc hz hor hg2
        generalize hGG : gacc f a (k + 1) = G at hor hg2 hG
        have HG : Hid (gacc f a (k + 1) = G) := hGG
        clear hs hf hd hGG hg e5
        by_cases hd : d < 128
        · rw [if_pos hd] at hg2
          by_cases hno : (0 < k ∧ d = 0) ∨ 2147483647 < G
          · rw [if_pos hno] at hg2
            have fin : Hid (gr n f a 5 0 = none) := hg2
            clear hg2 HG
            by_cases h0 : 0 < k
            · by_cases h1 : d = 0
              · clear hno
                subst h1
                go_wp2
                go_ret3
                exact ⟨by rw [fin.out]; rfl, rfl⟩
              · have h2 : 2147483647 < G := hno.resolve_left (fun x => h1 x.2)
                have h1' : (d == 0) = false := by simpa using h1
                clear hno
                go_wp2
                go_ret3
                exact ⟨by rw [fin.out]; rfl, rfl⟩
            · have h2 : 2147483647 < G := hno.resolve_left (fun x => h0 x.1)
              clear hno
              go_wp2
              go_ret3
              exact ⟨by rw [fin.out]; rfl, rfl⟩
          · rw [if_neg hno] at hg2
            have fin : Hid (gr n f a 5 0 = some (G, (a : Int) + k + 1)) := hg2
            have h2 : ¬ 2147483647 < G := fun x => hno (.inr x)
            clear hg2 HG
            by_cases h0 : 0 < k
            · have h1 : ¬ d = 0 := fun x => hno (.inl ⟨h0, x⟩)
              have h1' : (d == 0) = false := by simpa using h1
              clear hno
              go_wp2
              go_ret3
              exact ⟨by rw [fin.out]; rfl, rfl⟩
            · clear hno
              go_wp2
              go_ret3
              exact ⟨by rw [fin.out]; rfl, rfl⟩
        · rw [if_neg hd] at hg2
          have Hg2 : Hid _ := hg2
          clear hg2
          go_wp2
          go_round
          case rel => exact ⟨k + 1, by omega, by go_num, by rw [HG.out], Hg2⟩
          case measure => simp [intOf]; omega
      · have hg2 := hg.out
        rw [e5, gr_out hin] at hg2
        have fin : Hid (gr n f a 5 0 = none) := hg2
        clear hg2 hg hs hf e5
        go_wp2
        go_ret3
        exact ⟨by rw [fin.out]; rfl, rfl⟩
    · have e5 : k = 5 := by omega
      subst e5
      have fin : Hid (gr n f a 5 0 = none) := hg.out
      clear hs hf hg
      go_wp2
      go_ret3
      exact ⟨by rw [fin.out]; rfl, rfl⟩
end Go.Proofs.Ythhkmfgccbkkhaa

/- readNum of the program reads the same number, or panics where there is none. -/
namespace Go.Proofs.Ythhkmfgccbkkhaa
open Go.ChangeShapes Go.WideShapes Go.ChangeAt Go.RowKit
set_option linter.unusedVariables false
set_option linter.unusedSimpArgs false

/-- How readNum ends. -/
def rend (r : Option (Int × Int)) (e : Ending) : Prop :=
  match r with
  | some (x, y) => e = .returned (.tuple #[.int .i64 x, .int .i64 y])
  | none => ∃ pv, e = .panicked [{ v := .iface 117 pv, recovered := false }]

theorem read_neg (ao : Option Addr) (n cap : Nat) (x : Int) (w : World) (hx : x < 0) (hx' : -9223372036854775808 ≤ x) :
    Calls Try.prog 88 #[.slice ao n cap, .int .i64 x] w fun e w' => rend none e ∧ w' = w := by
  go_enter Try.func88, Try.ntmps88
  go_wp2
  refine wp_loop_rounds 1 ?_
  rw [rounds_succ]
  go_wp2_with (go_at_call 99; refine (byte_no ao n cap _ _ (.inl hx)).mono ?_; rintro e w' ⟨⟨pv, rfl⟩, rfl⟩)
  exact ⟨rfl, ⟨_, rfl⟩, rfl⟩

set_option maxHeartbeats 1000000 in
theorem read_any (ao : Option Addr) (n cap a : Nat) (f : Nat → Int) (w : World) (hn : n ≤ 1048576) (ha : (a : Int) ≤ 9223372036854775807) (hs : SL .u8 w ao n f) (hf : ∀ i, i < n → 0 ≤ f i ∧ f i ≤ 255) :
    Calls Try.prog 88 #[.slice ao n cap, .int .i64 a] w fun e w' => rend (gr n f a 5 0) e ∧ w' = w := by
  go_enter Try.func88, Try.ntmps88
  go_wp2
  go_loop [6, 9] (fun x i => ∃ k : Nat, k ≤ 5 ∧ (k = 0 ∨ a + k ≤ n) ∧ i = .int .i64 k ∧ x = .int .i64 (gacc f a k) ∧ Hid (gr n f a 5 0 = gr n f a (5 - k) k)) (fun _ i => 5 - (intOf i).toNat)
  case atStart => exact ⟨0, Nat.zero_le _, .inl rfl, rfl, rfl, rfl⟩
  case round =>
    obtain ⟨k, hk, hkn, rfl, rfl, hg⟩ := hrel
    have hb := (gacc_bd f a k).1
    have hak : (a : Int) + k ≤ 9223372036854775807 := by omega
    by_cases hk5 : k < 5
    · have e5 : 5 - k = (5 - (k + 1)) + 1 := by omega
      by_cases hin : a + k < n
      · obtain ⟨b, off, rfl, hbs, hc⟩ := hs (a + k) hin
        have hz := hf (a + k) hin
        have hsh := shl_step f a k hk5
        have hbd := shl_bd f a k hk5
        have hg2 := hg.out
        rw [e5, gr_in hin] at hg2
        have hG := (gacc_bd f a (k + 1)).1
        have hGe : gacc f a (k + 1) = gacc f a k + f (a + k) % 128 * 128 ^ k := rfl
        generalize hd : f (a + k) = d at hc hz hsh hbd hg2 hGe
        generalize d % 128 * 128 ^ k = D at hsh hbd hGe
        have HG : Hid (gacc f a (k + 1) = gacc f a k + D) := hGe
        rw [hGe] at hg2 hG
        clear hs hf hd hGe hg e5 hkn
        by_cases hd : d < 128
        · rw [if_pos hd] at hg2
          by_cases hno : (0 < k ∧ d = 0) ∨ 2147483647 < gacc f a k + D
          · rw [if_pos hno] at hg2
            have fin : Hid (gr n f a 5 0 = none) := hg2
            clear hg2 HG
            by_cases h0 : 0 < k ∧ d = 0
            · have h1 : Hid (d = 0) := h0.2
              have h0' : 0 < k := h0.1
              clear hno h0
              go_wp2_with (first
                | (go_at_call 99; refine (byte_yes b off n cap (a + k) _ d _ (by omega) hin hn hc hz).mono ?_; rintro e w' ⟨rfl, rfl⟩)
                | (go_at_call 100; refine (short_no d k _ h1.out (by omega)).mono ?_; rintro e w' ⟨⟨pv, rfl⟩, rfl⟩))
              exact ⟨rfl, by rw [fin.out]; exact ⟨_, rfl⟩, rfl⟩
            · have h2 : 2147483647 < gacc f a k + D := hno.resolve_left h0
              have h1 : Hid (¬ (0 < (k : Int) ∧ d = 0)) := fun x => h0 ⟨by omega, x.2⟩
              clear hno h0
              go_wp2_with (first
                | (go_at_call 99; refine (byte_yes b off n cap (a + k) _ d _ (by omega) hin hn hc hz).mono ?_; rintro e w' ⟨rfl, rfl⟩)
                | (go_at_call 100; refine (short_yes d k _ h1.out).mono ?_; rintro e w' ⟨rfl, rfl⟩)
                | (go_at_call 85; refine (num_no _ _ (.inr h2)).mono ?_; rintro e w' ⟨⟨pv, rfl⟩, rfl⟩))
              exact ⟨rfl, by rw [fin.out]; exact ⟨_, rfl⟩, rfl⟩
          · rw [if_neg hno] at hg2
            have fin : Hid (gr n f a 5 0 = some (gacc f a k + D, (a : Int) + k + 1)) := hg2
            have h2 : gacc f a k + D ≤ 2147483647 := Int.not_lt.1 fun x => hno (.inr x)
            have h1 : Hid (¬ (0 < (k : Int) ∧ d = 0)) := fun x => hno (.inl ⟨by omega, x.2⟩)
            clear hg2 HG hno
            go_wp2_with (first
              | (go_at_call 99; refine (byte_yes b off n cap (a + k) _ d _ (by omega) hin hn hc hz).mono ?_; rintro e w' ⟨rfl, rfl⟩)
              | (go_at_call 100; refine (short_yes d k _ h1.out).mono ?_; rintro e w' ⟨rfl, rfl⟩)
              | (go_at_call 85; refine (num_yes _ _ ⟨hG, h2⟩).mono ?_; rintro e w' ⟨rfl, rfl⟩))
            go_ret2
            exact ⟨by rw [fin.out]; rfl, rfl⟩
        · rw [if_neg hd] at hg2
          have Hg2 : Hid _ := hg2
          clear hg2
          go_wp2_with (go_at_call 99; refine (byte_yes b off n cap (a + k) _ d _ (by omega) hin hn hc hz).mono ?_; rintro e w' ⟨rfl, rfl⟩)
          go_round
          case rel => exact ⟨k + 1, by omega, by omega, by go_num, by rw [HG.out], Hg2⟩
          case measure => simp [intOf]; omega
      · have hg2 := hg.out
        rw [e5, gr_out hin] at hg2
        have fin : Hid (gr n f a 5 0 = none) := hg2
        clear hg2 hg hs hf e5 hkn
        go_wp2_with (go_at_call 99; refine (byte_no ao n cap _ _ (by omega)).mono ?_; rintro e w' ⟨⟨pv, rfl⟩, rfl⟩)
        exact ⟨rfl, by rw [fin.out]; exact ⟨_, rfl⟩, rfl⟩
    · have e5 : k = 5 := by omega
      subst e5
      have fin : Hid (gr n f a 5 0 = none) := hg.out
      clear hs hf hg
      go_wp2
      exact ⟨rfl, by rw [fin.out]; exact ⟨_, rfl⟩, rfl⟩
end Go.Proofs.Ythhkmfgccbkkhaa

/- GetNum of the program, whose panics are recovered at its face, hands back what GetNum of the model does. -/
namespace Go.Proofs.Ythhkmfgccbkkhaa
open Go.ChangeShapes Go.WideShapes Go.ChangeAt Go.RowKit
set_option linter.unusedVariables false
set_option linter.unusedSimpArgs false

theorem catch20 (u : TypeId) (pv : Value) (older : List PanicEntry) (w : World) :
    CallsD Try.prog 87 #[] (.panicking ({ v := .iface u pv, recovered := false } :: older)) w fun e u' w' =>
      e = .returned (.tuple #[]) ∧ u' = .panicking ({ v := .iface u pv, recovered := true } :: older) ∧ w' = w := by
  refine callsD_of_wpS Try.func87 rfl fun c₀ cs hu => ?_
  apply wpS_region
  simp [wpOpsS, go_sem, recoverD, hu, Try.ntmps87, bodyPostS, results, Try.results87]

theorem idle20 (w : World) :
    CallsD Try.prog 87 #[] .returning w fun e u' w' => e = .returned (.tuple #[]) ∧ u' = .returning ∧ w' = w := by
  refine callsD_of_wpS Try.func87 rfl fun c₀ cs hu => ?_
  apply wpS_region
  simp [wpOpsS, go_sem, recoverD, hu, Try.ntmps87, bodyPostS, results, Try.results87]
  cases c₀
  simp_all

theorem get_impl_of (ao : Option Addr) (n cap : Nat) (x : Int) (r : Option (Int × Int)) (w : World)
    (h : Calls Try.prog 88 #[.slice ao n cap, .int .i64 x] w fun e w' => rend r e ∧ w' = w) :
    Calls Try.prog 51 #[.slice ao n cap, .int .i64 x] w fun e w' => e = .returned (gres r) ∧ w' = w := by
  have H : Hid (Calls Try.prog 88 #[.slice ao n cap, .int .i64 x] w fun e w' => rend r e ∧ w' = w) := h
  clear h
  rcases r with _ | ⟨y, z⟩
  · go_enter_defers Try.func51, Try.ntmps51
    go_wp2_with (go_at_call 88; refine H.out.mono ?_; rintro e w' ⟨⟨pv, rfl⟩, rfl⟩)
    refine leaves_cons (f := 87) (args := #[]) (by simp) (by simp [go_sem]) ?_
    refine (catch20 117 _ [] _).mono ?_
    rintro e u' w'' ⟨rfl, rfl, rfl⟩
    simp [Leaves, settle, results, Try.results51, go_sem, gres]
  · go_enter_defers Try.func51, Try.ntmps51
    go_wp2_with (go_at_call 88; refine H.out.mono ?_; rintro e w' ⟨he, rfl⟩; obtain rfl : e = .returned (.tuple #[.int .i64 y, .int .i64 z]) := he)
    refine leaves_cons (f := 87) (args := #[]) (by simp) (by simp [go_sem]) ?_
    refine (idle20 _).mono ?_
    rintro e u' w'' ⟨rfl, rfl, rfl⟩
    simp [Leaves, settle, results, Try.results51, go_sem, gres]
end Go.Proofs.Ythhkmfgccbkkhaa

/- markByteS writes a running number into memory that was handed back, heldByteS finds it there. -/
namespace Go.Proofs.Ythhkmfgccbkkhaa
open Go.ChangeShapes Go.WideShapes Go.ChangeAt Go.RowKit
set_option linter.unusedVariables false
set_option linter.unusedSimpArgs false

theorem mark_step {wr : World} {B g n k : Nat} {k0 : Int} {t : TypeId} {F : Nat → Value} (h : Own wr B t (some ⟨g, 0, none⟩) n (fun j => if j < k then .int .u8 ((k0 + j) % 256) else F j)) :
    Own (wr.setCell ⟨g, k, none⟩ (.int .u8 ((k0 + k) % 256))) B t (some ⟨g, 0, none⟩) n (fun j => if j < k + 1 then .int .u8 ((k0 + j) % 256) else F j) := by
  refine (h.set k _).congr fun j hj => ?_
  by_cases e : j = k
  · subst e; simp
  · simp only [if_neg e]
    by_cases e2 : j < k
    · rw [if_pos e2, if_pos (by omega)]
    · rw [if_neg e2, if_neg (by omega)]

theorem mark_any (ao : Option Addr) (n cap B : Nat) (k0 : Int) (F : Nat → Value) (w : World) (hn : n ≤ 1048576) (h0 : 0 ≤ k0) (h1 : k0 ≤ 1099511627776) (ho : Own w B 5 ao n F) :
    Calls Try.prog 31 #[.slice ao n cap, .int .i64 k0] w fun e w' => e = .returned (.int .i64 (k0 + n)) ∧ Own w' B 5 ao n (fun j => .int .u8 ((k0 + j) % 256)) ∧ Below B w w' := by
  go_enter Try.func31, Try.ntmps31
  go_wp2
  go_loopw [1, 5] (fun m i wr => ∃ k : Nat, k ≤ n ∧ i = .int .i64 k ∧ m = .int .i64 (k0 + k) ∧ Own wr B 5 ao n (fun j => if j < k then .int .u8 ((k0 + j) % 256) else F j) ∧ Below B w wr) (fun _ i _ => n - (intOf i).toNat)
  case atStart => exact ⟨0, Nat.zero_le _, rfl, by simp, ho.congr (by intro i _; simp), Below.refl _ _⟩
  case round =>
    obtain ⟨k, hk, rfl, rfl, hrow, hbel⟩ := hrel
    by_cases hlt : k < n
    · obtain ⟨g, rfl, hB, hg, hc, hf⟩ := hrow.at hlt
      have R := mark_step hrow
      have R2 := hbel.setCell (p := ⟨g, k, none⟩) hB (.int .u8 ((k0 + k) % 256))
      clear hrow ho
      go_wp2
      go_roundw
      case rel => exact ⟨k + 1, by omega, by go_num, by go_num, R, R2⟩
      case measure => simp [intOf]; omega
    · have hkn : k = n := by omega
      subst hkn
      go_wp2
      go_ret
      exact ⟨rfl, hrow.congr (by intro i hi; rw [if_pos (by omega)]), hbel⟩

theorem held_any (ao : Option Addr) (n cap : Nat) (k0 : Int) (w : World) (hn : n ≤ 1048576) (h0 : 0 ≤ k0) (h1 : k0 ≤ 1099511627776) (hs : SL .u8 w ao n (fun j => (k0 + j) % 256)) :
    Calls Try.prog 32 #[.slice ao n cap, .int .i64 k0] w fun e w' => e = .returned (.int .i64 (k0 + n)) ∧ w' = w := by
  go_enter Try.func32, Try.ntmps32
  go_wp2
  go_loop [1, 5] (fun m i => ∃ k : Nat, k ≤ n ∧ i = .int .i64 k ∧ m = .int .i64 (k0 + k)) (fun _ i => n - (intOf i).toNat)
  case atStart => exact ⟨0, Nat.zero_le _, rfl, by simp⟩
  case round =>
    obtain ⟨k, hk, rfl, rfl⟩ := hrel
    by_cases hlt : k < n
    · obtain ⟨b, off, rfl, hb, hc⟩ := hs k hlt
      clear hs
      go_wp2
      go_round
      case rel => exact ⟨k + 1, by omega, by go_num, by go_num⟩
      case measure => simp [intOf]; omega
    · have hkn : k = n := by omega
      subst hkn
      go_wp2
      go_ret
      exact ⟨rfl, rfl⟩

/-- Block g alone was written. -/
def Only (g : Nat) (w w' : World) : Prop := Below g w w' ∧ w'.heap.size = w.heap.size ∧ ∀ j, j ≠ g → w'.heap[j]? = w.heap[j]?

theorem Only.refl (g : Nat) (w : World) : Only g w w := ⟨Below.refl _ _, rfl, fun _ _ => rfl⟩
theorem Only.setCell {g i : Nat} {w w' : World} (h : Only g w w') (v : Value) : Only g w (w'.setCell ⟨g, i, none⟩ v) :=
  ⟨h.1.setCell (p := ⟨g, i, none⟩) (Nat.le_refl _) v, by simpa [World.setCell] using h.2.1, fun j hj => by rw [← h.2.2 j hj]; simp [World.setCell, Array.getElem?_modify]; intro e; exact absurd e.symm hj⟩
theorem Only.row {g g' n : Nat} {w w' : World} {t : TypeId} {F : Nat → Value} (h : Only g w w') (hne : g' ≠ g) (r : w.rowIs g' t n F) : w'.rowIs g' t n F := r.of_block (h.2.2 g' hne)
theorem Only.own {g n B : Nat} {w w' : World} {t : TypeId} {ao : Option Addr} {F : Nat → Value} (h : Only g w w') (r : Own w B t ao n F) (hB : g < B) : Own w' B t ao n F := by
  rcases r with r | ⟨g', ea, hB', c, hc, hs, hF⟩
  · exact .inl r
  · exact .inr ⟨g', ea, hB', c, (h.2.2 g' (by omega)).trans hc, hs, hF⟩
/-- .. of memory that lay ahead of the block. -/
theorem Only.own' {g n B : Nat} {w w' : World} {t : TypeId} {ao : Option Addr} {F : Nat → Value} (h : Only g w w') (r : Own w B t ao n F) (hB : ∀ g', ao = some ⟨g', 0, none⟩ → g' ≠ g) : Own w' B t ao n F := by
  rcases r with r | ⟨g', ea, hB', c, hc, hs, hF⟩
  · exact .inl r
  · exact .inr ⟨g', ea, hB', c, (h.2.2 g' (hB g' ea)).trans hc, hs, hF⟩

theorem mark_row_step {wr : World} {g n k : Nat} {k0 : Int} {t : TypeId} {F : Nat → Value} (h : wr.rowIs g t n (fun j => if j < k then .int .u8 ((k0 + j) % 256) else F j)) :
    (wr.setCell ⟨g, k, none⟩ (.int .u8 ((k0 + k) % 256))).rowIs g t n (fun j => if j < k + 1 then .int .u8 ((k0 + j) % 256) else F j) := by
  refine (h.set k _).congr fun j hj => ?_
  by_cases e : j = k
  · subst e; simp
  · simp only [if_neg e]
    by_cases e2 : j < k
    · rw [if_pos e2, if_pos (by omega)]
    · rw [if_neg e2, if_neg (by omega)]

theorem mark_row (g n cap : Nat) (k0 : Int) (F : Nat → Value) (w : World) (hn : n ≤ 1048576) (h0 : 0 ≤ k0) (h1 : k0 ≤ 1099511627776) (ho : w.rowIs g 5 n F) :
    Calls Try.prog 31 #[.slice (some ⟨g, 0, none⟩) n cap, .int .i64 k0] w fun e w' => e = .returned (.int .i64 (k0 + n)) ∧ w'.rowIs g 5 n (fun j => .int .u8 ((k0 + j) % 256)) ∧ Only g w w' := by
  go_enter Try.func31, Try.ntmps31
  go_wp2
  go_loopw [1, 5] (fun m i wr => ∃ k : Nat, k ≤ n ∧ i = .int .i64 k ∧ m = .int .i64 (k0 + k) ∧ wr.rowIs g 5 n (fun j => if j < k then .int .u8 ((k0 + j) % 256) else F j) ∧ Only g w wr) (fun _ i _ => n - (intOf i).toNat)
  case atStart => exact ⟨0, Nat.zero_le _, rfl, by simp, ho.congr (by intro i _; simp), Only.refl _ _⟩
  case round =>
    obtain ⟨k, hk, rfl, rfl, hrow, hbel⟩ := hrel
    by_cases hlt : k < n
    · have hf := hrow.frozen k
      have hc := hrow.cell hlt
      have R := mark_row_step hrow
      have R2 := hbel.setCell (i := k) (.int .u8 ((k0 + k) % 256))
      clear hrow ho
      go_wp2
      go_roundw
      case rel => exact ⟨k + 1, by omega, by go_num, by go_num, R, R2⟩
      case measure => simp [intOf]; omega
    · have hkn : k = n := by omega
      subst hkn
      go_wp2
      go_ret
      exact ⟨rfl, hrow.congr (by intro i hi; rw [if_pos (by omega)]), hbel⟩
end Go.Proofs.Ythhkmfgccbkkhaa

/- (Beside the bytes' own.) Slices of ints as the laws hand them on: toIntS copies its argument into memory of its own, eqIntS tells whether two are alike. -/
namespace Go.Proofs.Ythhkmfgccbkkhaa
open Go.ChangeShapes Go.WideShapes Go.ChangeAt Go.RowKit
set_option linter.unusedVariables false
set_option linter.unusedSimpArgs false

theorem Try.info3 : (Try.prog.info? 3).map (fun i => (i.zero, i.size, i.bytes)) = some (some (.int .i64 0), 1, 8) := by kernel_rfl

theorem ito_step {wr : World} {g n k : Nat} {t : TypeId} {f : Nat → Int} (h : wr.rowIs g t n (fun j => if j < k then .int .i64 (f j) else .int .i64 0)) :
    (wr.setCell ⟨g, k, none⟩ (.int .i64 (f k))).rowIs g t n (fun j => if j < k + 1 then .int .i64 (f j) else .int .i64 0) := by
  refine (h.set k (.int .i64 (f k))).congr fun j hj => ?_
  by_cases e : j = k
  · subst e; simp
  · simp only [if_neg e]
    by_cases e2 : j < k
    · rw [if_pos e2, if_pos (by omega)]
    · rw [if_neg e2, if_neg (by omega)]

theorem ito_any (ao : Option Addr) (n cap : Nat) (f : Nat → Int) (w : World) (hn : n ≤ 1048576) (hs : SL .i64 w ao n f) :
    Calls Try.prog 75 #[.slice ao n cap] w fun e w' => e = .returned (.slice (some ⟨w.heap.size, 0, none⟩) n n) ∧ w'.rowIs w.heap.size 3 n (fun i => .int .i64 (f i)) ∧ Below w.heap.size w w' := by
  have hmk := run_make_row' (P := Try.prog) 24 3 (.int .i64 0) 8 Try.underlying24 Try.info3 rfl .i64 .i64 n (by omega) (by omega)
  go_enter Try.func75, Try.ntmps75
  go_wp2
  go_loopw [4] (fun i wr => ∃ k : Nat, k ≤ n ∧ i = .int .i64 k ∧ wr.rowIs w.heap.size 3 n (fun j => if j < k then .int .i64 (f j) else .int .i64 0) ∧ Below w.heap.size w wr) (fun i _ => n - (intOf i).toNat)
  case atStart => exact ⟨0, Nat.zero_le _, rfl, (World.rowIs_made _ _ _ _).congr (by intro i _; simp), (Below.refl _ _).alloc (Nat.le_refl _) _⟩
  case round =>
    obtain ⟨k, hk, rfl, hrow, hbel⟩ := hrel
    clear hmk
    by_cases hlt : k < n
    · obtain ⟨b, off, rfl, hb, hc⟩ := hs k hlt
      have hc' := (hbel.cell (p := ⟨b, off + k, none⟩) hb).trans hc
      have hf := hrow.frozen k
      have hcell := hrow.cell hlt
      have R := ito_step (f := f) hrow
      have R2 := hbel.setCell (p := ⟨w.heap.size, k, none⟩) (Nat.le_refl _) (.int .i64 (f k))
      clear hc hs hrow
      go_wp2
      go_roundw
      case rel => exact ⟨k + 1, by omega, by go_num, R, R2⟩
      case measure => simp [intOf]; omega
    · have hkn : n = k := by omega
      go_wp2
      go_ret
      exact ⟨rfl, hrow.congr (by intro i hi; rw [if_pos (by omega)]), hbel⟩

theorem ieq_yes (ao bo : Option Addr) (n ca cb : Nat) (f g : Nat → Int) (w : World) (hn : n ≤ 1048576) (hA : SL .i64 w ao n f) (hB : SL .i64 w bo n g) (he : ∀ i, i < n → f i = g i) :
    Calls Try.prog 76 #[.slice ao n ca, .slice bo n cb] w fun e w' => e = .returned (.bool true) ∧ ∃ q, w' = w.drewN q := by
  go_enter Try.func76, Try.ntmps76
  go_wp2
  go_loopw [5] (fun i wr => ∃ k : Nat, k ≤ n ∧ i = .int .i64 k ∧ ∃ q, wr = w.drewN q) (fun i _ => n - (intOf i).toNat)
  case atStart => exact ⟨0, Nat.zero_le _, rfl, 0, rfl⟩
  case round =>
    obtain ⟨k, hk, rfl, q, rfl⟩ := hrel
    by_cases hlt : k < n
    · obtain ⟨b, off, rfl, hb, hc⟩ := hA k hlt
      obtain ⟨b', off', rfl, hb', hc'⟩ := hB k hlt
      rw [← he k hlt] at hc'
      clear hA hB he
      go_wp2
      go_quiet (fail)
      go_wp2
      go_roundw
      case rel => exact ⟨k + 1, by omega, by go_num, _, rfl⟩
      case measure => simp [intOf]; omega
    · go_wp2
      go_ret
      exact ⟨rfl, q, rfl⟩

end Go.Proofs.Ythhkmfgccbkkhaa

/- (Beside the bytes' own.) markIntS writes a running number into memory that was handed back, heldIntS finds it there. -/
namespace Go.Proofs.Ythhkmfgccbkkhaa
open Go.ChangeShapes Go.WideShapes Go.ChangeAt Go.RowKit
set_option linter.unusedVariables false
set_option linter.unusedSimpArgs false

theorem imark_step {wr : World} {B g n k : Nat} {k0 : Int} {t : TypeId} {F : Nat → Value} (h : Own wr B t (some ⟨g, 0, none⟩) n (fun j => if j < k then .int .i64 (k0 + j) else F j)) :
    Own (wr.setCell ⟨g, k, none⟩ (.int .i64 (k0 + k))) B t (some ⟨g, 0, none⟩) n (fun j => if j < k + 1 then .int .i64 (k0 + j) else F j) := by
  refine (h.set k _).congr fun j hj => ?_
  by_cases e : j = k
  · subst e; simp
  · simp only [if_neg e]
    by_cases e2 : j < k
    · rw [if_pos e2, if_pos (by omega)]
    · rw [if_neg e2, if_neg (by omega)]

theorem imark_any (ao : Option Addr) (n cap B : Nat) (k0 : Int) (F : Nat → Value) (w : World) (hn : n ≤ 1048576) (h0 : 0 ≤ k0) (h1 : k0 ≤ 1099511627776) (ho : Own w B 3 ao n F) :
    Calls Try.prog 77 #[.slice ao n cap, .int .i64 k0] w fun e w' => e = .returned (.int .i64 (k0 + n)) ∧ Own w' B 3 ao n (fun j => .int .i64 (k0 + j)) ∧ Below B w w' := by
  go_enter Try.func77, Try.ntmps77
  go_wp2
  go_loopw [1, 5] (fun m i wr => ∃ k : Nat, k ≤ n ∧ i = .int .i64 k ∧ m = .int .i64 (k0 + k) ∧ Own wr B 3 ao n (fun j => if j < k then .int .i64 (k0 + j) else F j) ∧ Below B w wr) (fun _ i _ => n - (intOf i).toNat)
  case atStart => exact ⟨0, Nat.zero_le _, rfl, by simp, ho.congr (by intro i _; simp), Below.refl _ _⟩
  case round =>
    obtain ⟨k, hk, rfl, rfl, hrow, hbel⟩ := hrel
    by_cases hlt : k < n
    · obtain ⟨g, rfl, hB, hg, hc, hf⟩ := hrow.at hlt
      have R := imark_step hrow
      have R2 := hbel.setCell (p := ⟨g, k, none⟩) hB (.int .i64 (k0 + k))
      clear hrow ho
      go_wp2
      go_roundw
      case rel => exact ⟨k + 1, by omega, by go_num, by go_num, R, R2⟩
      case measure => simp [intOf]; omega
    · have hkn : k = n := by omega
      subst hkn
      go_wp2
      go_ret
      exact ⟨rfl, hrow.congr (by intro i hi; rw [if_pos (by omega)]), hbel⟩

theorem iheld_any (ao : Option Addr) (n cap : Nat) (k0 : Int) (w : World) (hn : n ≤ 1048576) (h0 : 0 ≤ k0) (h1 : k0 ≤ 1099511627776) (hs : SL .i64 w ao n (fun j => k0 + j)) :
    Calls Try.prog 78 #[.slice ao n cap, .int .i64 k0] w fun e w' => e = .returned (.int .i64 (k0 + n)) ∧ w' = w := by
  go_enter Try.func78, Try.ntmps78
  go_wp2
  go_loop [1, 5] (fun m i => ∃ k : Nat, k ≤ n ∧ i = .int .i64 k ∧ m = .int .i64 (k0 + k)) (fun _ i => n - (intOf i).toNat)
  case atStart => exact ⟨0, Nat.zero_le _, rfl, by simp⟩
  case round =>
    obtain ⟨k, hk, rfl, rfl⟩ := hrel
    by_cases hlt : k < n
    · obtain ⟨b, off, rfl, hb, hc⟩ := hs k hlt
      clear hs
      go_wp2
      go_round
      case rel => exact ⟨k + 1, by omega, by go_num, by go_num⟩
      case measure => simp [intOf]; omega
    · have hkn : k = n := by omega
      subst hkn
      go_wp2
      go_ret
      exact ⟨rfl, rfl⟩

theorem imark_row_step {wr : World} {g n k : Nat} {k0 : Int} {t : TypeId} {F : Nat → Value} (h : wr.rowIs g t n (fun j => if j < k then .int .i64 (k0 + j) else F j)) :
    (wr.setCell ⟨g, k, none⟩ (.int .i64 (k0 + k))).rowIs g t n (fun j => if j < k + 1 then .int .i64 (k0 + j) else F j) := by
  refine (h.set k _).congr fun j hj => ?_
  by_cases e : j = k
  · subst e; simp
  · simp only [if_neg e]
    by_cases e2 : j < k
    · rw [if_pos e2, if_pos (by omega)]
    · rw [if_neg e2, if_neg (by omega)]

theorem imark_row (g n cap : Nat) (k0 : Int) (F : Nat → Value) (w : World) (hn : n ≤ 1048576) (h0 : 0 ≤ k0) (h1 : k0 ≤ 1099511627776) (ho : w.rowIs g 3 n F) :
    Calls Try.prog 77 #[.slice (some ⟨g, 0, none⟩) n cap, .int .i64 k0] w fun e w' => e = .returned (.int .i64 (k0 + n)) ∧ w'.rowIs g 3 n (fun j => .int .i64 (k0 + j)) ∧ Only g w w' := by
  go_enter Try.func77, Try.ntmps77
  go_wp2
  go_loopw [1, 5] (fun m i wr => ∃ k : Nat, k ≤ n ∧ i = .int .i64 k ∧ m = .int .i64 (k0 + k) ∧ wr.rowIs g 3 n (fun j => if j < k then .int .i64 (k0 + j) else F j) ∧ Only g w wr) (fun _ i _ => n - (intOf i).toNat)
  case atStart => exact ⟨0, Nat.zero_le _, rfl, by simp, ho.congr (by intro i _; simp), Only.refl _ _⟩
  case round =>
    obtain ⟨k, hk, rfl, rfl, hrow, hbel⟩ := hrel
    by_cases hlt : k < n
    · have hf := hrow.frozen k
      have hc := hrow.cell hlt
      have R := imark_row_step hrow
      have R2 := hbel.setCell (i := k) (.int .i64 (k0 + k))
      clear hrow ho
      go_wp2
      go_roundw
      case rel => exact ⟨k + 1, by omega, by go_num, by go_num, R, R2⟩
      case measure => simp [intOf]; omega
    · have hkn : k = n := by omega
      subst hkn
      go_wp2
      go_ret
      exact ⟨rfl, hrow.congr (by intro i hi; rw [if_pos (by omega)]), hbel⟩
end Go.Proofs.Ythhkmfgccbkkhaa

/- Slices of bytes as the laws hand them on: toByteS copies its argument into memory of its own, eqByteS tells whether two are alike. -/
namespace Go.Proofs.Ythhkmfgccbkkhaa
open Go.ChangeShapes Go.WideShapes Go.ChangeAt Go.RowKit
set_option linter.unusedVariables false
set_option linter.unusedSimpArgs false

theorem to_step {wr : World} {g n k : Nat} {t : TypeId} {f : Nat → Int} (h : wr.rowIs g t n (fun j => if j < k then .int .u8 (f j) else .int .u8 0)) :
    (wr.setCell ⟨g, k, none⟩ (.int .u8 (f k))).rowIs g t n (fun j => if j < k + 1 then .int .u8 (f j) else .int .u8 0) := by
  refine (h.set k (.int .u8 (f k))).congr fun j hj => ?_
  by_cases e : j = k
  · subst e; simp
  · simp only [if_neg e]
    by_cases e2 : j < k
    · rw [if_pos e2, if_pos (by omega)]
    · rw [if_neg e2, if_neg (by omega)]

theorem to_any (ao : Option Addr) (n cap : Nat) (f : Nat → Int) (w : World) (hn : n ≤ 1048576) (hs : SL .u8 w ao n f) :
    Calls Try.prog 33 #[.slice ao n cap] w fun e w' => e = .returned (.slice (some ⟨w.heap.size, 0, none⟩) n n) ∧ w'.rowIs w.heap.size 5 n (fun i => .int .u8 (f i)) ∧ Below w.heap.size w w' := by
  have hmk := run_make_row' (P := Try.prog) 22 5 (.int .u8 0) 1 Try.underlying22 Try.info5 rfl .i64 .i64 n (by omega) (by omega)
  go_enter Try.func33, Try.ntmps33
  go_wp2
  go_loopw [4] (fun i wr => ∃ k : Nat, k ≤ n ∧ i = .int .i64 k ∧ wr.rowIs w.heap.size 5 n (fun j => if j < k then .int .u8 (f j) else .int .u8 0) ∧ Below w.heap.size w wr) (fun i _ => n - (intOf i).toNat)
  case atStart => exact ⟨0, Nat.zero_le _, rfl, (World.rowIs_made _ _ _ _).congr (by intro i _; simp), (Below.refl _ _).alloc (Nat.le_refl _) _⟩
  case round =>
    obtain ⟨k, hk, rfl, hrow, hbel⟩ := hrel
    clear hmk
    by_cases hlt : k < n
    · obtain ⟨b, off, rfl, hb, hc⟩ := hs k hlt
      have hc' := (hbel.cell (p := ⟨b, off + k, none⟩) hb).trans hc
      have hf := hrow.frozen k
      have hcell := hrow.cell hlt
      have R := to_step (f := f) hrow
      have R2 := hbel.setCell (p := ⟨w.heap.size, k, none⟩) (Nat.le_refl _) (.int .u8 (f k))
      clear hc hs hrow
      go_wp2
      go_roundw
      case rel => exact ⟨k + 1, by omega, by go_num, R, R2⟩
      case measure => simp [intOf]; omega
    · have hkn : n = k := by omega
      go_wp2
      go_ret
      exact ⟨rfl, hrow.congr (by intro i hi; rw [if_pos (by omega)]), hbel⟩

theorem eq_yes (ao bo : Option Addr) (n ca cb : Nat) (f g : Nat → Int) (w : World) (hn : n ≤ 1048576) (hA : SL .u8 w ao n f) (hB : SL .u8 w bo n g) (he : ∀ i, i < n → f i = g i) :
    Calls Try.prog 29 #[.slice ao n ca, .slice bo n cb] w fun e w' => e = .returned (.bool true) ∧ ∃ q, w' = w.drewN q := by
  go_enter Try.func29, Try.ntmps29
  go_wp2
  go_loopw [5] (fun i wr => ∃ k : Nat, k ≤ n ∧ i = .int .i64 k ∧ ∃ q, wr = w.drewN q) (fun i _ => n - (intOf i).toNat)
  case atStart => exact ⟨0, Nat.zero_le _, rfl, 0, rfl⟩
  case round =>
    obtain ⟨k, hk, rfl, q, rfl⟩ := hrel
    by_cases hlt : k < n
    · obtain ⟨b, off, rfl, hb, hc⟩ := hA k hlt
      obtain ⟨b', off', rfl, hb', hc'⟩ := hB k hlt
      rw [← he k hlt] at hc'
      clear hA hB he
      go_wp2
      go_quiet (fail)
      go_wp2
      go_roundw
      case rel => exact ⟨k + 1, by omega, by go_num, _, rfl⟩
      case measure => simp [intOf]; omega
    · go_wp2
      go_ret
      exact ⟨rfl, q, rfl⟩

end Go.Proofs.Ythhkmfgccbkkhaa

/- SumOf, of the program and of its model, answers the same number: two running sums, each by 65521. -/
namespace Go.Proofs.Ythhkmfgccbkkhaa
open Go.ChangeShapes Go.WideShapes Go.ChangeAt Go.RowKit
set_option linter.unusedVariables false
set_option linter.unusedSimpArgs false

/-- The first running sum behind k bytes. -/
def sA (f : Nat → Int) : Nat → Int
  | 0 => 1
  | k + 1 => (sA f k + f k) % 65521
/-- The second one. -/
def sB (f : Nat → Int) : Nat → Int
  | 0 => 0
  | k + 1 => (sB f k + sA f (k + 1)) % 65521

theorem sA_bd (f : Nat → Int) (k : Nat) : 0 ≤ sA f k ∧ sA f k < 65521 := by
  cases k with
  | zero => simp [sA]
  | succ k => simp only [sA]; omega
theorem sB_bd (f : Nat → Int) (k : Nat) : 0 ≤ sB f k ∧ sB f k < 65521 := by
  cases k with
  | zero => simp [sB]
  | succ k => simp only [sB]; omega

theorem sum_spec (ao : Option Addr) (n cap : Nat) (f : Nat → Int) (w : World) (hn : n ≤ 1048576) (hs : SL .u8 w ao n f) (hf : ∀ i, i < n → 0 ≤ f i ∧ f i ≤ 255) :
    Calls Try.prog 65 #[.slice ao n cap] w fun e w' => e = .returned (.int .i64 (sB f n * 65536 + sA f n)) ∧ w' = w := by
  go_enter Try.func65, Try.ntmps65
  go_wp2
  go_loop [3, 4, 5] (fun x y i => ∃ k : Nat, k ≤ n ∧ i = .int .i64 k ∧ x = .int .i64 (sA f k) ∧ y = .int .i64 (sB f k)) (fun _ _ i => n - (intOf i).toNat)
  case atStart => exact ⟨0, Nat.zero_le _, rfl, rfl, rfl⟩
  case round =>
    obtain ⟨k, hk, rfl, rfl, rfl⟩ := hrel
    have ha := sA_bd f k
    have hb := sB_bd f k
    by_cases hlt : k < n
    · obtain ⟨b, off, rfl, hbs, hc⟩ := hs k hlt
      have hz := hf k hlt
      have ha' := sA_bd f (k + 1)
      have hb' := sB_bd f (k + 1)
      clear hs hf
      go_wp2
      go_round
      case rel => exact ⟨k + 1, by omega, by go_num, by simp [sA], by simp [sA, sB]⟩
      case measure => simp [intOf]; omega
    · have hkn : k = n := by omega
      subst hkn
      go_wp2
      go_ret
      exact ⟨rfl, rfl⟩
theorem sum_impl (ao : Option Addr) (n cap : Nat) (f : Nat → Int) (w : World) (hn : n ≤ 1048576) (hs : SL .u8 w ao n f) (hf : ∀ i, i < n → 0 ≤ f i ∧ f i ≤ 255) :
    Calls Try.prog 46 #[.slice ao n cap] w fun e w' => e = .returned (.int .i64 (sB f n * 65536 + sA f n)) ∧ w' = w := by
  go_enter Try.func46, Try.ntmps46
  go_wp2
  go_loop [3, 4, 9] (fun x y i => ∃ k : Nat, k ≤ n ∧ i = .int .i64 k ∧ x = .int .i64 (sA f k) ∧ y = .int .i64 (sB f k)) (fun _ _ i => n - (intOf i).toNat)
  case atStart => exact ⟨0, Nat.zero_le _, rfl, rfl, rfl⟩
  case round =>
    obtain ⟨k, hk, rfl, rfl, rfl⟩ := hrel
    have ha := sA_bd f k
    have hb := sB_bd f k
    by_cases hlt : k < n
    · obtain ⟨b, off, rfl, hbs, hc⟩ := hs k hlt
      have hz := hf k hlt
      clear hs hf
      go_wp2
      go_round
      case rel => exact ⟨k + 1, by omega, by go_num, by simp [sA], by simp [sA, sB]⟩
      case measure => simp [intOf]; omega
    · have hkn : k = n := by omega
      subst hkn
      go_wp2
      go_ret
      exact ⟨rfl, rfl⟩
end Go.Proofs.Ythhkmfgccbkkhaa

/- PutNum of the model, and numBytes of the program: the bytes of a number, in memory of the call's own. -/
namespace Go.Proofs.Ythhkmfgccbkkhaa
open Go.ChangeShapes Go.WideShapes Go.ChangeAt Go.RowKit
set_option linter.unusedVariables false
set_option linter.unusedSimpArgs false

/-- The bytes of a number. -/
def pb : Nat → Int → List Int
  | 0, x => [x]
  | fuel + 1, x => if x < 128 then [x] else (x % 128 + 128) :: pb fuel (x / 128)
/-- How great what is left may be behind k bytes. -/
def lim (k : Nat) : Int := if k = 0 then 2147483648 else if k = 1 then 16777216 else if k = 2 then 131072 else if k = 3 then 1024 else 8

theorem pb_last (fuel : Nat) (x : Int) (h : x < 128) : pb fuel x = [x] := by
  cases fuel with
  | zero => rfl
  | succ f => rw [pb, if_pos h]
theorem pb_more (fuel : Nat) (x : Int) (h : ¬ x < 128) : pb (fuel + 1) x = (x % 128 + 128) :: pb fuel (x / 128) := by rw [pb, if_neg h]
theorem pb_len (fuel : Nat) (x : Int) : (pb fuel x).length ≤ fuel + 1 := by
  induction fuel generalizing x with
  | zero => simp [pb]
  | succ f ih =>
    rw [pb]
    split
    · simp
    · have := ih (x / 128); simp; omega
theorem lim_step (k : Nat) (y : Int) (h : 128 ≤ y) (hy : y < lim k) : k < 4 ∧ 0 ≤ y / 128 ∧ y / 128 < lim (k + 1) := by
  unfold lim at *
  split at hy
  · subst_vars; simp; omega
  · split at hy
    · subst_vars; simp; omega
    · split at hy
      · subst_vars; simp; omega
      · split at hy
        · subst_vars; simp; omega
        · omega
theorem lim_le (k : Nat) : lim k ≤ 2147483648 := by unfold lim; repeat (split; omega); omega

theorem put_step {w wr w1 : World} {v v' : Value} {k : Nat} {y : Int} {L : List Int} {x : Int} (hk : k < 4) (hl : L.length = k) (hy : ¬ y < 128) (hp : L ++ pb (4 - k) y = pb 4 x)
    (h1 : w1.ownsRow w.heap.size 5 1 v' (k + 1) (L.map (.int .u8) ++ [.int .u8 (y % 128 + 128)])) (hb : Below w.heap.size w wr) (ho : wr.ownsRow w.heap.size 5 1 v k (L.map (.int .u8)))
    (hg : (wr.alloc (.cells #[.int .u8 (y % 128 + 128)] 5)).grownBy w1 v.ownBlock) :
    (L ++ [y % 128 + 128]).length = k + 1 ∧ (L ++ [y % 128 + 128]) ++ pb (4 - (k + 1)) (y / 128) = pb 4 x ∧ w1.ownsRow w.heap.size 5 1 v' (k + 1) ((L ++ [y % 128 + 128]).map (.int .u8)) ∧ Below w.heap.size w w1 := by
  refine ⟨by simp [hl], ?_, by simpa using h1, ?_⟩
  · rw [← hp, show 4 - k = (4 - (k + 1)) + 1 by omega, pb_more _ _ hy]; simp
  · refine (hb.alloc hb.size _).grown hg (by have := hb.size; simp; omega) ?_
    intro g hgv
    rcases ho.2 with ⟨rfl, _⟩ | ⟨g', cap, cur, rfl, hge, _⟩
    · simp [Value.ownBlock] at hgv
    · simp [Value.ownBlock] at hgv; omega

theorem put_end {w wr w1 : World} {v v' : Value} {k : Nat} {y : Int} {L : List Int} {x : Int} (hl : L.length = k) (hy : y < 128) (hp : L ++ pb (4 - k) y = pb 4 x)
    (h1 : w1.ownsRow w.heap.size 5 1 v' (k + 1) (L.map (.int .u8) ++ [.int .u8 y])) (hb : Below w.heap.size w wr) (ho : wr.ownsRow w.heap.size 5 1 v k (L.map (.int .u8)))
    (hg : (wr.alloc (.cells #[.int .u8 y] 5)).grownBy w1 v.ownBlock) :
    w1.ownsRow w.heap.size 5 1 v' (pb 4 x).length ((pb 4 x).map (.int .u8)) ∧ Below w.heap.size w w1 := by
  refine ⟨?_, ?_⟩
  · rw [← hp, pb_last _ _ hy]; simpa [hl] using h1
  · refine (hb.alloc hb.size _).grown hg (by have := hb.size; simp; omega) ?_
    intro g hgv
    rcases ho.2 with ⟨rfl, _⟩ | ⟨g', cap, cur, rfl, hge, _⟩
    · simp [Value.ownBlock] at hgv
    · simp [Value.ownBlock] at hgv; omega

theorem app_cell (wr : World) (u : Value) (t : TypeId) : ∀ j u', [u][j]? = some u' → (wr.alloc (.cells #[u] t)).cell? ((⟨wr.heap.size, 0, none⟩ : Addr).add j) = some u' := by
  intro j u' hj
  match j, hj with
  | 0, hj => simp at hj; subst hj; simp [Addr.add]
theorem app_one (k : IntKind) (x : Int) : ∀ u ∈ [Value.int k x], u.oneCell' = true := by
  intro u hu; simp at hu; subst hu; rfl
theorem app_len {k : Nat} (h : k ≤ 1048576) : k + 1 ≤ maxLen := by unfold maxLen; omega

theorem put_spec_no (x : Int) (w : World) (h : x < 0 ∨ 2147483647 < x) :
    Calls Try.prog 63 #[.int .i64 x] w fun e w' => e = .returned (.slice (some ⟨w.heap.size, 0, none⟩) 0 0) ∧ Below w.heap.size w w' := by
  go_enter Try.func63, Try.ntmps63
  go_wp2_with (go_at_call 70; refine (in_no _ _ _ _ h).mono ?_; rintro e w' ⟨rfl, rfl⟩)
  go_ret
  exact ⟨rfl, (Below.refl _ _).alloc (Nat.le_refl _) _⟩

set_option maxRecDepth 100000 in
theorem put_spec (x : Int) (w : World) (h0 : 0 ≤ x) (h1 : x ≤ 2147483647) :
    Calls Try.prog 63 #[.int .i64 x] w fun e w' => ∃ v, e = .returned v ∧ w'.ownsRow w.heap.size 5 1 v (pb 4 x).length ((pb 4 x).map (.int .u8)) ∧ Below w.heap.size w w' := by
  obtain ⟨i0, hi, hz0, hz1, hz2⟩ := info_parts Try.info5
  go_enter Try.func63, Try.ntmps63
  go_wp2_with (go_at_call 70; refine (in_yes _ _ _ _ h0 h1).mono ?_; rintro e w' ⟨rfl, rfl⟩)
  go_loopw [0, 3] (fun xv v wr => ∃ (k : Nat) (y : Int) (L : List Int), k ≤ 4 ∧ Hid (L.length = k) ∧ 0 ≤ y ∧ y < lim k ∧ xv = .int .i64 y ∧ Hid (L ++ pb (4 - k) y = pb 4 x) ∧ wr.ownsRow w.heap.size 5 1 v k (L.map (.int .u8)) ∧ Below w.heap.size w wr) (fun xv _ _ => (intOf xv).toNat)
  case atStart => exact ⟨0, x, [], by omega, rfl, h0, by simp [lim]; omega, rfl, rfl, ⟨rfl, .inr ⟨_, _, #[], rfl, Nat.le_refl _, Deep.blk_alloc_new _ _, by simp, by simp, by simp, by simp⟩⟩, (Below.refl _ _).alloc (Nat.le_refl _) _⟩
  case round =>
    obtain ⟨k, y, L, hk, hl, hy0, hy1, rfl, hp, hown, hbel⟩ := hrel
    have hlim := lim_le k
    by_cases hlt : 128 ≤ y
    · obtain ⟨hk4, hd0, hd1⟩ := lim_step k y hlt hy1
      go_wp2_with (first
        | (at_builtin; refine wpList_append_own _ rfl _ _ 22 rfl w.heap.size 5 i0 (.int .u8 0) 1 1 Try.underlying22 hi hz0 hz1 hz2 rfl (by decide) _ _ _ rfl (hown.alloc _) ⟨wr.heap.size, 0, none⟩ 1 1 [.int .u8 (y % 128 + 128)] rfl rfl (app_cell _ _ _) (app_one _ _) (app_len (by omega)) (by omega) (by have := hbel.size; simp; omega) ?_; intro v' w1 hown' hgrow hnn))
      · have R := put_step hk4 hl.out (by omega) hp.out hown' hbel hown hgrow
        clear hown' hgrow hown
        go_wp2
        go_roundw
        case rel => exact ⟨k + 1, y / 128, _, by omega, R.1, hd0, hd1, by go_num, R.2.1, R.2.2.1, R.2.2.2⟩
        case measure => simp [intOf]; omega
    · go_wp2_with (first
        | (at_builtin; refine wpList_append_own _ rfl _ _ 22 rfl w.heap.size 5 i0 (.int .u8 0) 1 1 Try.underlying22 hi hz0 hz1 hz2 rfl (by decide) _ _ _ rfl (hown.alloc _) ⟨wr.heap.size, 0, none⟩ 1 1 [.int .u8 y] rfl rfl (app_cell _ _ _) (app_one _ _) (app_len (by omega)) (by omega) (by have := hbel.size; simp; omega) ?_; intro v' w1 hown' hgrow hnn))
      · have R := put_end hl.out (by omega) hp.out hown' hbel hown hgrow
        clear hown' hgrow hown
        go_wp2
        go_ret
        exact ⟨_, rfl, R⟩
end Go.Proofs.Ythhkmfgccbkkhaa

/- PutNum of the program: its bytes lie in memory of its own; nothing where there is no number. -/
namespace Go.Proofs.Ythhkmfgccbkkhaa
open Go.ChangeShapes Go.WideShapes Go.ChangeAt Go.RowKit
set_option linter.unusedVariables false
set_option linter.unusedSimpArgs false

theorem num_bytes (x : Int) (w : World) (h0 : 0 ≤ x) (h1 : x ≤ 2147483647) :
    Calls Try.prog 84 #[.int .i64 x] w fun e w' => ∃ v, e = .returned v ∧ w'.ownsRow w.heap.size 5 1 v (pb 4 x).length ((pb 4 x).map (.int .u8)) ∧ Below w.heap.size w w' := by
  obtain ⟨i0, hi, hz0, hz1, hz2⟩ := info_parts Try.info5
  go_enter Try.func84, Try.ntmps84
  go_wp2
  go_loopw [0, 3] (fun xv v wr => ∃ (k : Nat) (y : Int) (L : List Int), k ≤ 4 ∧ Hid (L.length = k) ∧ 0 ≤ y ∧ y < lim k ∧ xv = .int .i64 y ∧ Hid (L ++ pb (4 - k) y = pb 4 x) ∧ wr.ownsRow w.heap.size 5 1 v k (L.map (.int .u8)) ∧ Below w.heap.size w wr) (fun xv _ _ => (intOf xv).toNat)
  case atStart => exact ⟨0, x, [], by omega, rfl, h0, by simp [lim]; omega, rfl, rfl, World.ownsRow_nil _ _ _ _, Below.refl _ _⟩
  case round =>
    obtain ⟨k, y, L, hk, hl, hy0, hy1, rfl, hp, hown, hbel⟩ := hrel
    have hlim := lim_le k
    by_cases hlt : 128 ≤ y
    · obtain ⟨hk4, hd0, hd1⟩ := lim_step k y hlt hy1
      go_wp2_with (first
        | (at_builtin; refine wpList_append_own _ rfl _ _ 22 rfl w.heap.size 5 i0 (.int .u8 0) 1 1 Try.underlying22 hi hz0 hz1 hz2 rfl (by decide) _ _ _ rfl (hown.alloc _) ⟨wr.heap.size, 0, none⟩ 1 1 [.int .u8 (y % 128 + 128)] rfl rfl (app_cell _ _ _) (app_one _ _) (app_len (by omega)) (by omega) (by have := hbel.size; simp; omega) ?_; intro v' w1 hown' hgrow hnn))
      · have R := put_step hk4 hl.out (by omega) hp.out hown' hbel hown hgrow
        clear hown' hgrow hown
        go_wp2
        go_roundw
        case rel => exact ⟨k + 1, y / 128, _, by omega, R.1, hd0, hd1, by go_num, R.2.1, R.2.2.1, R.2.2.2⟩
        case measure => simp [intOf]; omega
    · go_wp2_with (first
        | (at_builtin; refine wpList_append_own _ rfl _ _ 22 rfl w.heap.size 5 i0 (.int .u8 0) 1 1 Try.underlying22 hi hz0 hz1 hz2 rfl (by decide) _ _ _ rfl (hown.alloc _) ⟨wr.heap.size, 0, none⟩ 1 1 [.int .u8 y] rfl rfl (app_cell _ _ _) (app_one _ _) (app_len (by omega)) (by omega) (by have := hbel.size; simp; omega) ?_; intro v' w1 hown' hgrow hnn))
      · have R := put_end hl.out (by omega) hp.out hown' hbel hown hgrow
        clear hown' hgrow hown
        go_wp2
        go_ret
        exact ⟨_, rfl, R⟩

theorem catch17 (u : TypeId) (pv : Value) (older : List PanicEntry) (w : World) :
    CallsD Try.prog 83 #[] (.panicking ({ v := .iface u pv, recovered := false } :: older)) w fun e u' w' =>
      e = .returned (.tuple #[]) ∧ u' = .panicking ({ v := .iface u pv, recovered := true } :: older) ∧ w' = w := by
  refine callsD_of_wpS Try.func83 rfl fun c₀ cs hu => ?_
  apply wpS_region
  simp [wpOpsS, go_sem, recoverD, hu, Try.ntmps83, bodyPostS, results, Try.results83]

theorem idle17 (w : World) :
    CallsD Try.prog 83 #[] .returning w fun e u' w' => e = .returned (.tuple #[]) ∧ u' = .returning ∧ w' = w := by
  refine callsD_of_wpS Try.func83 rfl fun c₀ cs hu => ?_
  apply wpS_region
  simp [wpOpsS, go_sem, recoverD, hu, Try.ntmps83, bodyPostS, results, Try.results83]
  cases c₀
  simp_all

theorem put_impl_no (x : Int) (w : World) (h : x < 0 ∨ 2147483647 < x) :
    Calls Try.prog 44 #[.int .i64 x] w fun e w' => e = .returned (.slice none 0 0) ∧ w' = w := by
  go_enter_defers Try.func44, Try.ntmps44
  go_wp2_with (go_at_call 85; refine (num_no x _ h).mono ?_; rintro e w' ⟨⟨pv, rfl⟩, rfl⟩)
  refine leaves_cons (f := 83) (args := #[]) (by simp) (by simp [go_sem]) ?_
  refine (catch17 117 _ [] _).mono ?_
  rintro e u' w'' ⟨rfl, rfl, rfl⟩
  simp [Leaves, settle, results, Try.results44, go_sem]

theorem put_impl (x : Int) (w : World) (h0 : 0 ≤ x) (h1 : x ≤ 2147483647) :
    Calls Try.prog 44 #[.int .i64 x] w fun e w' => ∃ v, e = .returned v ∧ w'.ownsRow w.heap.size 5 1 v (pb 4 x).length ((pb 4 x).map (.int .u8)) ∧ Below w.heap.size w w' := by
  go_enter_defers Try.func44, Try.ntmps44
  go_wp2_with (first
    | (go_at_call 85; refine (num_yes x _ ⟨h0, h1⟩).mono ?_; rintro e w' ⟨rfl, rfl⟩)
    | (go_at_call 84; refine (num_bytes x _ h0 h1).mono ?_; rintro e w1 ⟨v, rfl, ho, hb⟩))
  refine leaves_cons (f := 83) (args := #[]) (by simp) (by simp [go_sem]) ?_
  refine (idle17 _).mono ?_
  rintro e u' w'' ⟨rfl, rfl, rfl⟩
  simp [Leaves, settle, results, Try.results44, go_sem]
  exact ⟨by assumption, by assumption⟩
end Go.Proofs.Ythhkmfgccbkkhaa

/- A slice of bytes as a string. -/
namespace Go.Proofs.Ythhkmfgccbkkhaa
open Go.ChangeShapes Go.WideShapes Go.ChangeAt Go.RowKit
set_option linter.unusedVariables false
set_option linter.unusedSimpArgs false

/-- The bytes as a string. -/
def bstr (L : List Int) : ByteArray := ⟨(L.map fun z => UInt8.ofNat z.toNat).toArray⟩

theorem conv_str {w : World} {ao : Option Addr} {cap : Nat} {L : List Int} (hs : SL .u8 w ao L.length (fun i => L.getD i 0)) (hz : ∀ z ∈ L, 0 ≤ z ∧ z ≤ 255) :
    (convert 22 9 (.slice ao L.length cap)).run Try.prog w = .ok (.string (bstr L)) w := by
  have h255 : ∀ j (hj : j < L.length), ((UInt8.ofNat L[j].toNat).toNat : Int) = L[j] := by
    intro j hj
    have := hz L[j] (List.getElem_mem hj)
    simp [UInt8.toNat_ofNat']
    omega
  cases ao with
  | some a =>
    have h := run_convert_bytes_back (P := Try.prog) w 22 9 5 a cap (L.map fun z => UInt8.ofNat z.toNat) Try.underlying22 Try.underlying5 Try.underlying9 (fun j hj => by
      have hj' : j < L.length := by simpa using hj
      obtain ⟨b, off, e, _, hc⟩ := hs j hj'
      simp at e
      subst e
      rw [Addr.add_lit, hc]
      simp only [List.getElem_map]
      rw [h255 j hj']
      simp [List.getD, hj'])
    simp only [List.length_map] at h
    exact h
  | none =>
    have hL : L = [] := by
      cases L with
      | nil => rfl
      | cons x L => obtain ⟨b, off, e, _⟩ := hs 0 (by simp); simp at e
    subst hL
    exact (run_convert_bytes_nil (P := Try.prog) (w := w) 22 5 Try.underlying22 Try.underlying5 0 cap 9 Try.underlying9).trans rfl
end Go.Proofs.Ythhkmfgccbkkhaa

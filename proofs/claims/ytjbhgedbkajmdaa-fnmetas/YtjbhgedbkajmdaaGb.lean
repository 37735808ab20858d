/- MsgOk of the model. -/
import Derived.Test.YtjbhgedbkajmdaaGa
import Derived.WalkKit
import Derived.Laws.BitsAllLaws

namespace Go.Proofs.Ytjbhgedbkajmdaa
open Go.ChangeShapes Go.WideShapes Go.ChangeAt Go.RowKit
set_option linter.unusedVariables false
set_option linter.unusedSimpArgs false

theorem gens_yes (ao : Option Addr) (n cap : Nat) (f : Nat → Int) (w : World) (hn : n ≤ 1048576) (hcap : n ≤ cap) (hs : SL .i64 w ao n f) (h : GOk f n) :
    Calls Try.prog 32 #[.slice ao n cap] w fun e w' => e = .returned (.bool true) ∧ ∃ q, w' = w.drewN q :=
  (gens_any ao n cap f w hn hcap hs).mono fun _ _ ⟨h1, h2⟩ => ⟨h1.elim (·.2) (fun x => absurd h x.1), h2⟩
theorem gens_no (ao : Option Addr) (n cap : Nat) (f : Nat → Int) (w : World) (hn : n ≤ 1048576) (hcap : n ≤ cap) (hs : SL .i64 w ao n f) (h : ¬ GOk f n) :
    Calls Try.prog 32 #[.slice ao n cap] w fun e w' => e = .returned (.bool false) ∧ ∃ q, w' = w.drewN q :=
  (gens_any ao n cap f w hn hcap hs).mono fun _ _ ⟨h1, h2⟩ => ⟨h1.elim (fun x => absurd x.1 h) (·.2), h2⟩

theorem bit_yes (w : World) : Calls Try.prog 55 #[.bool true] w fun e w' => e = .returned (.int .i64 1) ∧ w' = w := by
  go_enter Try.func55, Try.ntmps55
  go_wp2
  go_ret
  exact ⟨rfl, rfl⟩
theorem bit_no (w : World) : Calls Try.prog 55 #[.bool false] w fun e w' => e = .returned (.int .i64 0) ∧ w' = w := by
  go_enter Try.func55, Try.ntmps55
  go_wp2
  go_ret
  exact ⟨rfl, rfl⟩

/-- A message that is one: its kind, cell, write, node, and its generations. -/
def MOk (k c v h : Int) (f : Nat → Int) (n : Nat) : Prop :=
  (k = 5 ∧ GOk f n ∧ (0 ≤ v ∧ v ≤ 200) ∧ c = 0 ∧ h = 0) ∨
  ((k = 1 ∨ k = 2 ∨ k = 3 ∨ k = 4) ∧ n = 0 ∧ (0 ≤ c ∧ c ≤ 7) ∧ ((if k = 4 ∨ k = 2 then 0 else 1) ≤ v ∧ v ≤ 200) ∧ ((k = 3 ∧ 0 ≤ h ∧ h ≤ 2) ∨ h = 0))

/-- What tells whether it is one. -/
def Tells (w w' : World) (e : Ending) (p : Prop) : Prop := ((p ∧ e = .returned (.bool true)) ∨ (¬ p ∧ e = .returned (.bool false))) ∧ Below w.heap.size w w'
theorem Tells.yes {w w' : World} {p : Prop} (h : p) (hb : Below w.heap.size w w') : Tells w w' (.returned (.bool true)) p := ⟨.inl ⟨h, rfl⟩, hb⟩
theorem Tells.no {w w' : World} {p : Prop} (h : ¬ p) (hb : Below w.heap.size w w') : Tells w w' (.returned (.bool false)) p := ⟨.inr ⟨h, rfl⟩, hb⟩

end Go.Proofs.Ytjbhgedbkajmdaa

/- MsgOk of the model, kind 1. -/
namespace Go.Proofs.Ytjbhgedbkajmdaa
open Go.ChangeShapes Go.WideShapes Go.ChangeAt Go.RowKit
set_option linter.unusedVariables false
set_option linter.unusedSimpArgs false

end Go.Proofs.Ytjbhgedbkajmdaa

/- MsgOk of the model, kind 2. -/
namespace Go.Proofs.Ytjbhgedbkajmdaa
open Go.ChangeShapes Go.WideShapes Go.ChangeAt Go.RowKit
set_option linter.unusedVariables false
set_option linter.unusedSimpArgs false

end Go.Proofs.Ytjbhgedbkajmdaa

/- MsgOk of the model, kind 3. -/
namespace Go.Proofs.Ytjbhgedbkajmdaa
open Go.ChangeShapes Go.WideShapes Go.ChangeAt Go.RowKit
set_option linter.unusedVariables false
set_option linter.unusedSimpArgs false

end Go.Proofs.Ytjbhgedbkajmdaa

/- MsgOk of the model, kind 4. -/
namespace Go.Proofs.Ytjbhgedbkajmdaa
open Go.ChangeShapes Go.WideShapes Go.ChangeAt Go.RowKit
set_option linter.unusedVariables false
set_option linter.unusedSimpArgs false

end Go.Proofs.Ytjbhgedbkajmdaa

/- MsgOk of the model. -/
namespace Go.Proofs.Ytjbhgedbkajmdaa
open Go.ChangeShapes Go.WideShapes Go.ChangeAt Go.RowKit
set_option linter.unusedVariables false
set_option linter.unusedSimpArgs false

end Go.Proofs.Ytjbhgedbkajmdaa

/- Numbers as bytes, seven bits a byte: plain arithmetic, no program. -/
namespace Go.Proofs.Ytjbhgedbkajmdaa
open Go.RowKit

/-- What the first k bytes from a on tell. -/
def gacc (f : Nat → Int) (a : Nat) : Nat → Int
  | 0 => 0
  | k + 1 => gacc f a k + f (a + k) % 128 * 128 ^ k

/-- The number that begins at a, read from its byte k on, 'fuel' bytes at most. -/
def gr (n : Nat) (f : Nat → Int) (a : Nat) : Nat → Nat → Option (Int × Int)
  | 0, _ => none
  | fuel + 1, k =>
    if a + k < n then
      if f (a + k) < 128 then
        if (0 < k ∧ f (a + k) = 0) ∨ 2147483647 < gacc f a (k + 1) then none else some (gacc f a (k + 1), a + k + 1)
      else gr n f a fuel (k + 1)
    else none

theorem i64_or_nat (a b : Nat) (ha : a < 4611686018427387904) (hb : b < 4611686018427387904) : bits .or .i64 (a : Int) (b : Int) = ((a ||| b : Nat) : Int) := by
  have h : a ||| b < 2 ^ 62 := Nat.or_lt_two_pow (by omega) (by omega)
  have e : (BitVec.ofInt 64 (a : Int) ||| BitVec.ofInt 64 (b : Int)).toNat = a ||| b := by
    rw [BitVec.toNat_or, ofInt_u64 a (by omega), ofInt_u64 b (by omega)]
  show IntKind.i64.wrap (((BitVec.ofInt 64 (a : Int) ||| BitVec.ofInt 64 (b : Int)).toNat : Nat) : Int) = _
  rw [e]
  generalize a ||| b = c at h ⊢
  rw [IntKind.wrap_i64]
  omega

theorem or_mul (a b i m : Nat) (hm : m = 2 ^ i) (h : a < m) : a ||| (b * m) = b * m + a := by
  subst hm
  rw [Nat.or_comm, ← Nat.shiftLeft_eq, Nat.shiftLeft_add_eq_or_of_lt h]

theorem gacc_bd (f : Nat → Int) (a k : Nat) : 0 ≤ gacc f a k ∧ gacc f a k < 128 ^ k := by
  induction k with
  | zero => simp [gacc]
  | succ k ih =>
    have h1 : 0 ≤ f (a + k) % 128 := by omega
    have h2 : f (a + k) % 128 ≤ 127 := by omega
    have hp : (0 : Int) < 128 ^ k := Int.pow_pos (by decide)
    rw [gacc, Int.pow_succ]
    generalize f (a + k) % 128 = x at h1 h2 ⊢
    generalize (128 : Int) ^ k = P at ih hp ⊢
    have e1 : 0 ≤ x * P := Int.mul_nonneg h1 (Int.le_of_lt hp)
    have e2 : x * P ≤ 127 * P := Int.mul_le_mul_of_nonneg_right h2 (Int.le_of_lt hp)
    omega

theorem pow7 (k : Nat) : (2 : Int) ^ (7 * k) = 128 ^ k := by
  rw [Int.pow_mul]; rfl

theorem shl_step (f : Nat → Int) (a k : Nat) (hk : k < 5) : wrap64 (f (a + k) % 128 * 2 ^ (7 * k)) = f (a + k) % 128 * 128 ^ k := by
  rw [pow7]
  have h1 : 0 ≤ f (a + k) % 128 := by omega
  have h2 : f (a + k) % 128 ≤ 127 := by omega
  generalize f (a + k) % 128 = x at h1 h2 ⊢
  rcases (show k = 0 ∨ k = 1 ∨ k = 2 ∨ k = 3 ∨ k = 4 by omega) with rfl | rfl | rfl | rfl | rfl <;> (unfold wrap64; omega)

theorem shl_bd (f : Nat → Int) (a k : Nat) (hk : k < 5) : 0 ≤ f (a + k) % 128 * 128 ^ k ∧ f (a + k) % 128 * 128 ^ k < 34359738368 ∧ gacc f a k < 34359738368 := by
  have hb := gacc_bd f a k
  have h1 : 0 ≤ f (a + k) % 128 := by omega
  have h2 : f (a + k) % 128 ≤ 127 := by omega
  generalize f (a + k) % 128 = x at h1 h2 ⊢
  generalize gacc f a k = y at hb ⊢
  rcases (show k = 0 ∨ k = 1 ∨ k = 2 ∨ k = 3 ∨ k = 4 by omega) with rfl | rfl | rfl | rfl | rfl <;> omega

theorem or_step (f : Nat → Int) (a k : Nat) (hk : k < 5) : bits .or .i64 (gacc f a k) (wrap64 (f (a + k) % 128 * 2 ^ (7 * k))) = gacc f a (k + 1) := by
  rw [shl_step f a k hk]
  have hb := gacc_bd f a k
  simp only [gacc]
  have h1 : 0 ≤ f (a + k) % 128 := by omega
  have h2 : f (a + k) % 128 ≤ 127 := by omega
  generalize f (a + k) % 128 = x at h1 h2 ⊢
  generalize gacc f a k = y at hb ⊢
  obtain ⟨hb0, hb⟩ := hb
  obtain ⟨x, rfl⟩ := Int.eq_ofNat_of_zero_le h1
  obtain ⟨y, rfl⟩ := Int.eq_ofNat_of_zero_le hb0
  rcases (show k = 0 ∨ k = 1 ∨ k = 2 ∨ k = 3 ∨ k = 4 by omega) with rfl | rfl | rfl | rfl | rfl
  · rw [show ((x : Int) * 128 ^ 0) = ((x * 1 : Nat) : Int) by simp, i64_or_nat _ _ (by omega) (by omega), or_mul y x 0 1 rfl (by omega)]; omega
  · rw [show ((x : Int) * 128 ^ 1) = ((x * 128 : Nat) : Int) by omega, i64_or_nat _ _ (by omega) (by omega), or_mul y x 7 128 rfl (by omega)]; omega
  · rw [show ((x : Int) * 128 ^ 2) = ((x * 16384 : Nat) : Int) by omega, i64_or_nat _ _ (by omega) (by omega), or_mul y x 14 16384 rfl (by omega)]; omega
  · rw [show ((x : Int) * 128 ^ 3) = ((x * 2097152 : Nat) : Int) by omega, i64_or_nat _ _ (by omega) (by omega), or_mul y x 21 2097152 rfl (by omega)]; omega
  · rw [show ((x : Int) * 128 ^ 4) = ((x * 268435456 : Nat) : Int) by omega, i64_or_nat _ _ (by omega) (by omega), or_mul y x 28 268435456 rfl (by omega)]; omega

theorem gr_in {n a fuel k : Nat} {f : Nat → Int} (h : a + k < n) : gr n f a (fuel + 1) k =
    if f (a + k) < 128 then (if (0 < k ∧ f (a + k) = 0) ∨ 2147483647 < gacc f a (k + 1) then none else some (gacc f a (k + 1), (a : Int) + k + 1)) else gr n f a fuel (k + 1) := by
  rw [gr, if_pos h]
theorem gr_out {n a fuel k : Nat} {f : Nat → Int} (h : ¬ a + k < n) : gr n f a (fuel + 1) k = none := by
  rw [gr, if_neg h]
end Go.Proofs.Ytjbhgedbkajmdaa

/- PutNum of the model, and numBytes of the program: the bytes of a number, in memory of the call's own. -/
namespace Go.Proofs.Ytjbhgedbkajmdaa
open Go.ChangeShapes Go.WideShapes Go.ChangeAt Go.RowKit
set_option linter.unusedVariables false
set_option linter.unusedSimpArgs false

/-- The bytes of a number. -/
def pb : Nat → Int → List Int
  | 0, x => [x]
  | fuel + 1, x => if x < 128 then [x] else (x % 128 + 128) :: pb fuel (x / 128)
/-- How great what is left may be behind k bytes. -/
def lim (k : Nat) : Int := if k = 0 then 2147483648 else if k = 1 then 16777216 else if k = 2 then 131072 else if k = 3 then 1024 else 8

theorem pb_last (fuel : Nat) (x : Int) (h : x < 128) : pb fuel x = [x] := by
  cases fuel with
  | zero => rfl
  | succ f => rw [pb, if_pos h]
theorem pb_more (fuel : Nat) (x : Int) (h : ¬ x < 128) : pb (fuel + 1) x = (x % 128 + 128) :: pb fuel (x / 128) := by rw [pb, if_neg h]
theorem pb_len (fuel : Nat) (x : Int) : (pb fuel x).length ≤ fuel + 1 := by
  induction fuel generalizing x with
  | zero => simp [pb]
  | succ f ih =>
    rw [pb]
    split
    · simp
    · have := ih (x / 128); simp; omega
theorem lim_step (k : Nat) (y : Int) (h : 128 ≤ y) (hy : y < lim k) : k < 4 ∧ 0 ≤ y / 128 ∧ y / 128 < lim (k + 1) := by
  unfold lim at *
  split at hy
  · subst_vars; simp; omega
  · split at hy
    · subst_vars; simp; omega
    · split at hy
      · subst_vars; simp; omega
      · split at hy
        · subst_vars; simp; omega
        · omega
theorem lim_le (k : Nat) : lim k ≤ 2147483648 := by unfold lim; repeat (split; omega); omega

theorem put_step {w wr w1 : World} {v v' : Value} {k : Nat} {y : Int} {L : List Int} {x : Int} (hk : k < 4) (hl : L.length = k) (hy : ¬ y < 128) (hp : L ++ pb (4 - k) y = pb 4 x)
    (h1 : w1.ownsRow w.heap.size 5 1 v' (k + 1) (L.map (.int .u8) ++ [.int .u8 (y % 128 + 128)])) (hb : Below w.heap.size w wr) (ho : wr.ownsRow w.heap.size 5 1 v k (L.map (.int .u8)))
    (hg : (wr.alloc (.cells #[.int .u8 (y % 128 + 128)] 5)).grownBy w1 v.ownBlock) :
    (L ++ [y % 128 + 128]).length = k + 1 ∧ (L ++ [y % 128 + 128]) ++ pb (4 - (k + 1)) (y / 128) = pb 4 x ∧ w1.ownsRow w.heap.size 5 1 v' (k + 1) ((L ++ [y % 128 + 128]).map (.int .u8)) ∧ Below w.heap.size w w1 := by
  refine ⟨by simp [hl], ?_, by simpa using h1, ?_⟩
  · rw [← hp, show 4 - k = (4 - (k + 1)) + 1 by omega, pb_more _ _ hy]; simp
  · refine (hb.alloc hb.size _).grown hg (by have := hb.size; simp; omega) ?_
    intro g hgv
    rcases ho.2 with ⟨rfl, _⟩ | ⟨g', cap, cur, rfl, hge, _⟩
    · simp [Value.ownBlock] at hgv
    · simp [Value.ownBlock] at hgv; omega

theorem put_end {w wr w1 : World} {v v' : Value} {k : Nat} {y : Int} {L : List Int} {x : Int} (hl : L.length = k) (hy : y < 128) (hp : L ++ pb (4 - k) y = pb 4 x)
    (h1 : w1.ownsRow w.heap.size 5 1 v' (k + 1) (L.map (.int .u8) ++ [.int .u8 y])) (hb : Below w.heap.size w wr) (ho : wr.ownsRow w.heap.size 5 1 v k (L.map (.int .u8)))
    (hg : (wr.alloc (.cells #[.int .u8 y] 5)).grownBy w1 v.ownBlock) :
    w1.ownsRow w.heap.size 5 1 v' (pb 4 x).length ((pb 4 x).map (.int .u8)) ∧ Below w.heap.size w w1 := by
  refine ⟨?_, ?_⟩
  · rw [← hp, pb_last _ _ hy]; simpa [hl] using h1
  · refine (hb.alloc hb.size _).grown hg (by have := hb.size; simp; omega) ?_
    intro g hgv
    rcases ho.2 with ⟨rfl, _⟩ | ⟨g', cap, cur, rfl, hge, _⟩
    · simp [Value.ownBlock] at hgv
    · simp [Value.ownBlock] at hgv; omega

theorem app_cell (wr : World) (u : Value) (t : TypeId) : ∀ j u', [u][j]? = some u' → (wr.alloc (.cells #[u] t)).cell? ((⟨wr.heap.size, 0, none⟩ : Addr).add j) = some u' := by
  intro j u' hj
  match j, hj with
  | 0, hj => simp at hj; subst hj; simp [Addr.add]
theorem app_one (k : IntKind) (x : Int) : ∀ u ∈ [Value.int k x], u.oneCell' = true := by
  intro u hu; simp at hu; subst hu; rfl
theorem app_len {k : Nat} (h : k ≤ 1048576) : k + 1 ≤ maxLen := by unfold maxLen; omega

theorem put_spec_no (x : Int) (w : World) (h : x < 0 ∨ 2147483647 < x) :
    Calls Try.prog 54 #[.int .i64 x] w fun e w' => e = .returned (.slice (some ⟨w.heap.size, 0, none⟩) 0 0) ∧ Below w.heap.size w w' := by
  go_enter Try.func54, Try.ntmps54
  go_wp2_with (go_at_call 63; refine (in_no _ _ _ _ h).mono ?_; rintro e w' ⟨rfl, rfl⟩)
  go_ret
  exact ⟨rfl, (Below.refl _ _).alloc (Nat.le_refl _) _⟩

set_option maxRecDepth 100000 in
theorem put_spec (x : Int) (w : World) (h0 : 0 ≤ x) (h1 : x ≤ 2147483647) :
    Calls Try.prog 54 #[.int .i64 x] w fun e w' => ∃ v, e = .returned v ∧ w'.ownsRow w.heap.size 5 1 v (pb 4 x).length ((pb 4 x).map (.int .u8)) ∧ Below w.heap.size w w' := by
  obtain ⟨i0, hi, hz0, hz1, hz2⟩ := info_parts Try.info5
  go_enter Try.func54, Try.ntmps54
  go_wp2_with (go_at_call 63; refine (in_yes _ _ _ _ h0 h1).mono ?_; rintro e w' ⟨rfl, rfl⟩)
  go_loopw [0, 3] (fun xv v wr => ∃ (k : Nat) (y : Int) (L : List Int), k ≤ 4 ∧ Hid (L.length = k) ∧ 0 ≤ y ∧ y < lim k ∧ xv = .int .i64 y ∧ Hid (L ++ pb (4 - k) y = pb 4 x) ∧ wr.ownsRow w.heap.size 5 1 v k (L.map (.int .u8)) ∧ Below w.heap.size w wr) (fun xv _ _ => (intOf xv).toNat)
  case atStart => exact ⟨0, x, [], by omega, rfl, h0, by simp [lim]; omega, rfl, rfl, ⟨rfl, .inr ⟨_, _, #[], rfl, Nat.le_refl _, Deep.blk_alloc_new _ _, by simp, by simp, by simp, by simp⟩⟩, (Below.refl _ _).alloc (Nat.le_refl _) _⟩
  case round =>
    obtain ⟨k, y, L, hk, hl, hy0, hy1, rfl, hp, hown, hbel⟩ := hrel
    have hlim := lim_le k
    by_cases hlt : 128 ≤ y
    · obtain ⟨hk4, hd0, hd1⟩ := lim_step k y hlt hy1
      go_wp2_with (first
        | (at_builtin; refine wpList_append_own _ rfl _ _ 22 rfl w.heap.size 5 i0 (.int .u8 0) 1 1 Try.underlying22 hi hz0 hz1 hz2 rfl (by decide) _ _ _ rfl (hown.alloc _) ⟨wr.heap.size, 0, none⟩ 1 1 [.int .u8 (y % 128 + 128)] rfl rfl (app_cell _ _ _) (app_one _ _) (app_len (by omega)) (by omega) (by have := hbel.size; simp; omega) ?_; intro v' w1 hown' hgrow hnn))
      · have R := put_step hk4 hl.out (by omega) hp.out hown' hbel hown hgrow
        clear hown' hgrow hown
        go_wp2
        go_roundw
        case rel => exact ⟨k + 1, y / 128, _, by omega, R.1, hd0, hd1, by go_num, R.2.1, R.2.2.1, R.2.2.2⟩
        case measure => simp [intOf]; omega
    · go_wp2_with (first
        | (at_builtin; refine wpList_append_own _ rfl _ _ 22 rfl w.heap.size 5 i0 (.int .u8 0) 1 1 Try.underlying22 hi hz0 hz1 hz2 rfl (by decide) _ _ _ rfl (hown.alloc _) ⟨wr.heap.size, 0, none⟩ 1 1 [.int .u8 y] rfl rfl (app_cell _ _ _) (app_one _ _) (app_len (by omega)) (by omega) (by have := hbel.size; simp; omega) ?_; intro v' w1 hown' hgrow hnn))
      · have R := put_end hl.out (by omega) hp.out hown' hbel hown hgrow
        clear hown' hgrow hown
        go_wp2
        go_ret
        exact ⟨_, rfl, R⟩
end Go.Proofs.Ytjbhgedbkajmdaa

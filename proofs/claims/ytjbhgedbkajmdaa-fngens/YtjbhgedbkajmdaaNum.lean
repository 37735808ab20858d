/- Numbers as bytes, seven bits a byte: plain arithmetic, no program. -/
import Derived.WalkKit
import Derived.Laws.BitsAllLaws
namespace Go.Proofs.Ytjbhgedbkajmdaa
open Go.RowKit

/-- What the first k bytes from a on tell. -/
def gacc (f : Nat → Int) (a : Nat) : Nat → Int
  | 0 => 0
  | k + 1 => gacc f a k + f (a + k) % 128 * 128 ^ k

/-- The number that begins at a, read from its byte k on, 'fuel' bytes at most. -/
def gr (n : Nat) (f : Nat → Int) (a : Nat) : Nat → Nat → Option (Int × Int)
  | 0, _ => none
  | fuel + 1, k =>
    if a + k < n then
      if f (a + k) < 128 then
        if (0 < k ∧ f (a + k) = 0) ∨ 2147483647 < gacc f a (k + 1) then none else some (gacc f a (k + 1), a + k + 1)
      else gr n f a fuel (k + 1)
    else none

theorem i64_or_nat (a b : Nat) (ha : a < 4611686018427387904) (hb : b < 4611686018427387904) : bits .or .i64 (a : Int) (b : Int) = ((a ||| b : Nat) : Int) := by
  have h : a ||| b < 2 ^ 62 := Nat.or_lt_two_pow (by omega) (by omega)
  have e : (BitVec.ofInt 64 (a : Int) ||| BitVec.ofInt 64 (b : Int)).toNat = a ||| b := by
    rw [BitVec.toNat_or, ofInt_u64 a (by omega), ofInt_u64 b (by omega)]
  show IntKind.i64.wrap (((BitVec.ofInt 64 (a : Int) ||| BitVec.ofInt 64 (b : Int)).toNat : Nat) : Int) = _
  rw [e]
  generalize a ||| b = c at h ⊢
  rw [IntKind.wrap_i64]
  omega

theorem or_mul (a b i m : Nat) (hm : m = 2 ^ i) (h : a < m) : a ||| (b * m) = b * m + a := by
  subst hm
  rw [Nat.or_comm, ← Nat.shiftLeft_eq, Nat.shiftLeft_add_eq_or_of_lt h]

theorem gacc_bd (f : Nat → Int) (a k : Nat) : 0 ≤ gacc f a k ∧ gacc f a k < 128 ^ k := by
  induction k with
  | zero => simp [gacc]
  | succ k ih =>
    have h1 : 0 ≤ f (a + k) % 128 := by omega
    have h2 : f (a + k) % 128 ≤ 127 := by omega
    have hp : (0 : Int) < 128 ^ k := Int.pow_pos (by decide)
    rw [gacc, Int.pow_succ]
    generalize f (a + k) % 128 = x at h1 h2 ⊢
    generalize (128 : Int) ^ k = P at ih hp ⊢
    have e1 : 0 ≤ x * P := Int.mul_nonneg h1 (Int.le_of_lt hp)
    have e2 : x * P ≤ 127 * P := Int.mul_le_mul_of_nonneg_right h2 (Int.le_of_lt hp)
    omega

theorem pow7 (k : Nat) : (2 : Int) ^ (7 * k) = 128 ^ k := by
  rw [Int.pow_mul]; rfl

theorem shl_step (f : Nat → Int) (a k : Nat) (hk : k < 5) : wrap64 (f (a + k) % 128 * 2 ^ (7 * k)) = f (a + k) % 128 * 128 ^ k := by
  rw [pow7]
  have h1 : 0 ≤ f (a + k) % 128 := by omega
  have h2 : f (a + k) % 128 ≤ 127 := by omega
  generalize f (a + k) % 128 = x at h1 h2 ⊢
  rcases (show k = 0 ∨ k = 1 ∨ k = 2 ∨ k = 3 ∨ k = 4 by omega) with rfl | rfl | rfl | rfl | rfl <;> (unfold wrap64; omega)

theorem shl_bd (f : Nat → Int) (a k : Nat) (hk : k < 5) : 0 ≤ f (a + k) % 128 * 128 ^ k ∧ f (a + k) % 128 * 128 ^ k < 34359738368 ∧ gacc f a k < 34359738368 := by
  have hb := gacc_bd f a k
  have h1 : 0 ≤ f (a + k) % 128 := by omega
  have h2 : f (a + k) % 128 ≤ 127 := by omega
  generalize f (a + k) % 128 = x at h1 h2 ⊢
  generalize gacc f a k = y at hb ⊢
  rcases (show k = 0 ∨ k = 1 ∨ k = 2 ∨ k = 3 ∨ k = 4 by omega) with rfl | rfl | rfl | rfl | rfl <;> omega

theorem or_step (f : Nat → Int) (a k : Nat) (hk : k < 5) : bits .or .i64 (gacc f a k) (wrap64 (f (a + k) % 128 * 2 ^ (7 * k))) = gacc f a (k + 1) := by
  rw [shl_step f a k hk]
  have hb := gacc_bd f a k
  simp only [gacc]
  have h1 : 0 ≤ f (a + k) % 128 := by omega
  have h2 : f (a + k) % 128 ≤ 127 := by omega
  generalize f (a + k) % 128 = x at h1 h2 ⊢
  generalize gacc f a k = y at hb ⊢
  obtain ⟨hb0, hb⟩ := hb
  obtain ⟨x, rfl⟩ := Int.eq_ofNat_of_zero_le h1
  obtain ⟨y, rfl⟩ := Int.eq_ofNat_of_zero_le hb0
  rcases (show k = 0 ∨ k = 1 ∨ k = 2 ∨ k = 3 ∨ k = 4 by omega) with rfl | rfl | rfl | rfl | rfl
  · rw [show ((x : Int) * 128 ^ 0) = ((x * 1 : Nat) : Int) by simp, i64_or_nat _ _ (by omega) (by omega), or_mul y x 0 1 rfl (by omega)]; omega
  · rw [show ((x : Int) * 128 ^ 1) = ((x * 128 : Nat) : Int) by omega, i64_or_nat _ _ (by omega) (by omega), or_mul y x 7 128 rfl (by omega)]; omega
  · rw [show ((x : Int) * 128 ^ 2) = ((x * 16384 : Nat) : Int) by omega, i64_or_nat _ _ (by omega) (by omega), or_mul y x 14 16384 rfl (by omega)]; omega
  · rw [show ((x : Int) * 128 ^ 3) = ((x * 2097152 : Nat) : Int) by omega, i64_or_nat _ _ (by omega) (by omega), or_mul y x 21 2097152 rfl (by omega)]; omega
  · rw [show ((x : Int) * 128 ^ 4) = ((x * 268435456 : Nat) : Int) by omega, i64_or_nat _ _ (by omega) (by omega), or_mul y x 28 268435456 rfl (by omega)]; omega

theorem gr_in {n a fuel k : Nat} {f : Nat → Int} (h : a + k < n) : gr n f a (fuel + 1) k =
    if f (a + k) < 128 then (if (0 < k ∧ f (a + k) = 0) ∨ 2147483647 < gacc f a (k + 1) then none else some (gacc f a (k + 1), (a : Int) + k + 1)) else gr n f a fuel (k + 1) := by
  rw [gr, if_pos h]
theorem gr_out {n a fuel k : Nat} {f : Nat → Int} (h : ¬ a + k < n) : gr n f a (fuel + 1) k = none := by
  rw [gr, if_neg h]
end Go.Proofs.Ytjbhgedbkajmdaa

/- MsgBytes of the model. -/
import Derived.Test.YtjjdbdkbpmbniabGreatDoorGb
import Derived.Test.YtjjdbdkbpmbniabGreatDoorSumZ
import Derived.Deep.Cut

namespace Go.Proofs.YtjjdbdkbpmbniabGreatDoor
open Go.ChangeShapes Go.WideShapes Go.ChangeAt Go.RowKit
set_option linter.unusedVariables false
set_option linter.unusedSimpArgs false

/-- A number as four bytes, the low ones first. -/
def s4 (x : Int) : List Int := [x % 256, x / 256 % 256, x / 65536 % 256, x / 16777216 % 256]

theorem i64_and255 (x : Int) (h0 : 0 ≤ x) (h1 : x < 4611686018427387904) : bits .and .i64 x 255 = x % 256 := by
  obtain ⟨a, rfl⟩ := Int.eq_ofNat_of_zero_le h0
  have e : (BitVec.ofInt 64 (a : Int) &&& BitVec.ofInt 64 ((255 : Nat) : Int)).toNat = a % 256 := by
    rw [BitVec.toNat_and, ofInt_u64 a (by omega), ofInt_u64 255 (by omega)]
    exact Nat.and_two_pow_sub_one_eq_mod a 8
  show IntKind.i64.wrap (((BitVec.ofInt 64 (a : Int) &&& BitVec.ofInt 64 ((255 : Nat) : Int)).toNat : Nat) : Int) = _
  rw [e, IntKind.wrap_i64]
  omega

theorem sum4_spec (x : Int) (w : World) (h0 : 0 ≤ x) (h1 : x < 4294967296) :
    Calls Tryz.prog 50 #[.int .i64 x] w fun e w' => ∃ v, e = .returned v ∧ w'.ownsRow w.heap.size 5 1 v (s4 x).length ((s4 x).map (.int .u8)) ∧ Below w.heap.size w w' := by
  go_enter Tryz.func50, Tryz.ntmps50
  go_wp2
  go_ret
  refine ⟨_, rfl, ?_, (Below.refl _ _).alloc (Nat.le_refl _) _⟩
  rw [i64_and255 x h0 (by omega), i64_and255 (x / 256) (by omega) (by omega), i64_and255 (x / 65536) (by omega) (by omega), i64_and255 (x / 16777216) (by omega) (by omega)]
  refine ⟨rfl, .inr ⟨_, _, _, rfl, Nat.le_refl _, Deep.blk_alloc_new _ _, by simp [s4], by simp [maxLen], by simp, ?_⟩⟩
  simp [s4]

def mokDec (k c v h : Int) (f : Nat → Int) (n : Nat) : Decidable (MOk k c v h f n) := by unfold MOk GOk GIn; exact inferInstance

/-- The sum of bytes. -/
def asum (L : List Int) : Int := sB (fun i => L.getD i 0) L.length * 65536 + sA (fun i => L.getD i 0) L.length
theorem asum_bd (L : List Int) : 0 ≤ asum L ∧ asum L < 4294967296 := by
  have h1 := sA_bd (fun i => L.getD i 0) L.length
  have h2 := sB_bd (fun i => L.getD i 0) L.length
  unfold asum
  omega
/-- A body with its length ahead and its sum behind. -/
def framed (B : List Int) : List Int := pb 4 B.length ++ B ++ s4 (asum B)
def mbody (k c v h : Int) (f : Nat → Int) (n : Nat) : List Int := nums ([k, c, v, h, (n : Int)] ++ (List.range n).map f)
/-- The bytes of a message; nothing where it is none. -/
def mb (k c v h : Int) (f : Nat → Int) (n : Nat) : List Int := @ite (List Int) (MOk k c v h f n) (mokDec k c v h f n) (framed (mbody k c v h f n)) []

theorem mok_bd {k c v h : Int} {f : Nat → Int} {n : Nat} (x : MOk k c v h f n) : n ≤ 12 ∧ (∀ i, i < n → 0 ≤ f i ∧ f i ≤ 2147483647) ∧ (0 ≤ k ∧ k ≤ 2147483647) ∧ (0 ≤ c ∧ c ≤ 2147483647) ∧ (0 ≤ v ∧ v ≤ 2147483647) ∧ (0 ≤ h ∧ h ≤ 2147483647) := by
  unfold MOk at x
  rcases x with ⟨h1, ⟨h2, h3⟩, h4, h5, h6⟩ | ⟨h1, h2, h3, h4, h5⟩
  · exact ⟨h2, fun i hi => by have := (h3 i hi).1; omega, by omega, by omega, by omega, by omega⟩
  · refine ⟨by omega, fun i hi => by omega, by omega, by omega, ?_, by omega⟩
    split at h4 <;> omega
theorem mbody_len {k c v h : Int} {f : Nat → Int} {n : Nat} (hn : n ≤ 12) : (mbody k c v h f n).length ≤ 85 := by
  have := nums_len ([k, c, v, h, (n : Int)] ++ (List.range n).map f)
  simp at this
  unfold mbody
  simp
  omega

theorem getD_mem (L : List Int) (i : Nat) (hi : i < L.length) : L.getD i 0 ∈ L := by simp [List.getD, hi]

theorem mb_len (k c v h : Int) (f : Nat → Int) (n : Nat) : (mb k c v h f n).length ≤ 1048576 := by
  unfold mb
  split
  · next hok =>
    have h1 := mbody_len (k := k) (c := c) (v := v) (h := h) (f := f) (mok_bd hok).1
    have h2 := pb_len 4 ((mbody k c v h f n).length : Int)
    simp [framed, s4]
    omega
  · simp

theorem gbelow_far {B n s : Nat} {w w' : World} {e : TypeId} {v : Value} {xs : List Value} {row : Option Nat} (h : w.ownsRow B e s v n xs) (hg : w.grownBy w' row) (hr : v.ownBlock ≠ row) : w'.ownsRow B e s v n xs :=
  h.kept hg (.inr hr)

end Go.Proofs.YtjjdbdkbpmbniabGreatDoor

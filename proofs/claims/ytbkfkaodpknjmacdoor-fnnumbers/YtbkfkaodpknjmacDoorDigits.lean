/- Digits of the model writes decimal digits, as strconv.Itoa does. -/
import Derived.Test.YtbkfkaodpknjmacDoorRows
import Derived.WalkKit
import Derived.ProofKit
import Derived.OpenShut
import Derived.ShutString
import Derived.ChangeOld
import Derived.Below
import Derived.Lib.ItoaLen
import Derived.Laws.IdiomStrings
namespace Go.Proofs.YtbkfkaodpknjmacDoor
open Go.ChangeShapes Go.WideShapes Go.ChangeAt Go.RowKit

/-- Decimal digits, none for 0. -/
def dd (u : Nat) : List UInt8 := if u = 0 then [] else Lib.decDigits u

theorem dd_step (u : Nat) (h : u ≠ 0) : dd u = dd (u / 10) ++ [UInt8.ofNat (48 + u % 10)] := by
  unfold dd
  rw [if_neg h]
  by_cases h10 : u < 10
  · rw [Lib.decDigits_one h10, if_pos (by omega), Nat.mod_eq_of_lt h10]; rfl
  · rw [Lib.decDigits, dif_neg h10, if_neg (by omega)]
theorem dd_len (u : Nat) (h : u < 18446744073709551616) : (dd u).length ≤ 20 := by
  unfold dd
  split
  · simp
  · rw [Lib.decDigits_length]; exact Lib.nDigits_le20 u h
theorem neg_mod (y : Int) (h : y < 0) : y.tmod 10 = -((y.natAbs % 10 : Nat) : Int) := by
  obtain ⟨u, rfl⟩ := Int.exists_eq_neg_ofNat (Int.le_of_lt h)
  rw [Int.neg_tmod]; simp [Int.tmod]
theorem neg_div (y : Int) (h : y < 0) : y.tdiv 10 = -((y.natAbs / 10 : Nat) : Int) := by
  obtain ⟨u, rfl⟩ := Int.exists_eq_neg_ofNat (Int.le_of_lt h)
  rw [Int.neg_tdiv]; simp [Int.tdiv]

theorem conv_one (m : Nat) (hm : m < 10) (v : Int) (hv : v = 48 + (m : Int)) (W : World) :
    (convert 22 9 (.slice (some ⟨W.heap.size, 0, none⟩) 1 1)).run Tryd.prog (W.alloc (.cells #[.int .u8 v] 5)) = .ok (.string ⟨#[UInt8.ofNat (48 + m)]⟩) (W.alloc (.cells #[.int .u8 v] 5)) := by
  subst hv
  refine run_convert_bytes_back (P := Tryd.prog) _ 22 9 5 ⟨W.heap.size, 0, none⟩ 1 [UInt8.ofNat (48 + m)] Tryd.underlying22 Tryd.underlying5 Tryd.underlying9 (fun j hj => ?_)
  match j, hj with
  | 0, hj => simp [Addr.add]; omega

theorem cat_one (c : UInt8) (L : List UInt8) : Value.string (⟨#[c]⟩ ++ ⟨L.toArray⟩) = Value.string ⟨(c :: L).toArray⟩ := by
  congr 1

theorem round_next {x y z : Int} {L : List UInt8} (hy : y ≠ 0) (hx : x.natAbs < 18446744073709551616) (hz : z.natAbs = y.natAbs / 10) (h : dd y.natAbs ++ L = dd x.natAbs) :
    (UInt8.ofNat (48 + y.natAbs % 10) :: L).length ≤ 20 ∧ dd z.natAbs ++ (UInt8.ofNat (48 + y.natAbs % 10) :: L) = dd x.natAbs := by
  have e : dd z.natAbs ++ (UInt8.ofNat (48 + y.natAbs % 10) :: L) = dd x.natAbs := by
    rw [← h, dd_step y.natAbs (by omega), hz]; simp
  refine ⟨?_, e⟩
  have := dd_len x.natAbs hx
  rw [← e] at this
  simp at this ⊢
  omega

theorem itoa_pos {x : Int} {L : List UInt8} (h : 0 < x) (e : dd x.natAbs = L) : Lib.itoa x = L := by
  unfold Lib.itoa; rw [if_neg (by omega), ← e, dd, if_neg (by omega), show x.toNat = x.natAbs by omega]
theorem itoa_min {x : Int} {L : List UInt8} (h : x < 0) (e : dd x.natAbs = L) : Lib.itoa x = 45 :: L := by
  unfold Lib.itoa; rw [if_pos h, ← e, dd, if_neg (by omega)]

theorem digits_zero (w : World) : Calls Tryd.prog 14 #[.int .i64 0] w fun e w' => e = .returned (.string ⟨(Lib.itoa 0).toArray⟩) ∧ Below w.heap.size w w' := by
  go_enter Tryd.func14, Tryd.ntmps14
  go_wp2
  go_ret
  exact ⟨by rw [show Lib.itoa 0 = [48] by rw [Lib.itoa, if_neg (by omega)]; exact Lib.decDigits_one (by omega)]; rfl, Below.refl _ _⟩

theorem digits_spec (x : Int) (w : World) (h0 : -9223372036854775808 ≤ x) (h1 : x ≤ 9223372036854775807) (hx : ¬ x = 0) :
    Calls Tryd.prog 14 #[.int .i64 x] w fun e w' => e = .returned (.string ⟨(Lib.itoa x).toArray⟩) ∧ Below w.heap.size w w' := by
  have hx' : (x == 0) = false := by simpa using hx
  have hxa : Hid (x.natAbs < 18446744073709551616) := by show x.natAbs < _; omega
  have HX : Hid (¬ x = 0) := hx
  clear hx
  go_enter Tryd.func14, Tryd.ntmps14
  go_wp2
  go_loopw [0, 4] (fun nv ov wr => ∃ (y : Int) (L : List UInt8), -9223372036854775808 ≤ y ∧ y ≤ 9223372036854775807 ∧ nv = .int .i64 y ∧ ov = .string ⟨L.toArray⟩ ∧ L.length ≤ 20 ∧ Hid (dd y.natAbs ++ L = dd x.natAbs) ∧ Below w.heap.size w wr) (fun nv _ _ => (intOf nv).natAbs)
  case atStart => exact ⟨x, [], h0, h1, rfl, rfl, by simp, by show dd _ ++ [] = _; simp, Below.refl _ _⟩
  case round =>
    obtain ⟨y, L, hy0, hy1, rfl, rfl, hL, hd, hbel⟩ := hrel
    by_cases hy : y = 0
    · subst hy
      have hd2 : dd x.natAbs = L := by rw [← hd.out]; simp [dd]
      by_cases hs : x < 0
      · have fin : Hid (Lib.itoa x = 45 :: L) := itoa_min hs hd2
        clear hd hd2
        go_wp2
        go_ret
        exact ⟨by rw [fin.out]; exact congrArg _ (cat_one 45 L), hbel⟩
      · have fin : Hid (Lib.itoa x = L) := itoa_pos (by have := HX.out; omega) hd2
        clear hd hd2
        go_wp2
        go_ret
        exact ⟨by rw [fin.out]; rfl, hbel⟩
    · have hy' : (y != 0) = true := by simpa using hy
      have HY : Hid (¬ y = 0) := hy
      have hm10 : y.natAbs % 10 < 10 := Nat.mod_lt _ (by decide)
      clear hy
      by_cases hs : y < 0
      · have R := round_next (z := y.tdiv 10) HY.out hxa.out (by rw [neg_div y hs]; omega) hd.out
        have htm := neg_mod y hs
        have htd := neg_div y hs
        rw [htd] at R
        have hcv := conv_one (y.natAbs % 10) hm10 _ rfl
        have hq : ((y.natAbs / 10 : Nat) : Int) ≤ 922337203685477580 := by omega
        have hq2 : y.natAbs / 10 < y.natAbs := by omega
        generalize hmm : y.natAbs % 10 = m at *
        generalize hcc : UInt8.ofNat (48 + m) = c at *
        generalize hqq : y.natAbs / 10 = z at *
        have HR : Hid ((c :: L).length ≤ 20 ∧ dd (-(z : Int)).natAbs ++ c :: L = dd x.natAbs) := R
        have HQ : Hid (z < y.natAbs) := hq2
        clear R hd hmm hcc hqq hq2
        by_cases h00 : m = 0
        · subst h00
          have hcv0 : ∀ W : World, (convert 22 9 (.slice (some ⟨W.heap.size, 0, none⟩) 1 1)).run Tryd.prog (W.alloc (.cells #[.int .u8 48] 5)) = .ok (.string ⟨#[c]⟩) (W.alloc (.cells #[.int .u8 48] 5)) := hcv
          clear hcv
          go_wp2
          go_roundw
          case rel => exact ⟨-(z : Int), c :: L, by omega, by omega, by go_num, cat_one c L, HR.out.1, HR.out.2, hbel.alloc hbel.size _⟩
          case measure => have := HQ.out; simp [intOf]; omega
        · go_wp2
          go_roundw
          case rel => exact ⟨-(z : Int), c :: L, by omega, by omega, by go_num, cat_one c L, HR.out.1, HR.out.2, hbel.alloc hbel.size _⟩
          case measure => have := HQ.out; simp [intOf]; omega
      · have R := round_next (z := y / 10) HY.out hxa.out (by omega) hd.out
        have htm : y % 10 = ((y.natAbs % 10 : Nat) : Int) := by omega
        have hcv := conv_one (y.natAbs % 10) hm10 _ rfl
        have hq2 : (y / 10).natAbs < y.natAbs := by have := HY.out; omega
        generalize hmm : y.natAbs % 10 = m at *
        generalize hcc : UInt8.ofNat (48 + m) = c at *
        have HR : Hid ((c :: L).length ≤ 20 ∧ dd (y / 10).natAbs ++ c :: L = dd x.natAbs) := R
        have HQ : Hid ((y / 10).natAbs < y.natAbs) := hq2
        clear R hd hmm hcc hq2
        go_wp2
        go_roundw
        case rel => exact ⟨y / 10, c :: L, by omega, by omega, by go_num, cat_one c L, HR.out.1, HR.out.2, hbel.alloc hbel.size _⟩
        case measure => exact HQ.out
end Go.Proofs.YtbkfkaodpknjmacDoor

/- PutNum of the program and of the model answer the same bytes; so do GetNum, Digits and SumOf the same. -/
import Derived.Test.YtbkfkaodpknjmacDoorPut2
import Derived.Test.YtbkfkaodpknjmacDoorGet4
import Derived.Test.YtbkfkaodpknjmacDoorRound
import Derived.Test.YtbkfkaodpknjmacDoorDrawGet
namespace Go.Proofs.YtbkfkaodpknjmacDoor
open Go.ChangeShapes Go.WideShapes Go.ChangeAt Go.RowKit

/-- Both functions answer the same bytes, each in memory of its own. -/
theorem puts (x : Int) : ∃ L : List Int, L.length ≤ 5 ∧ (∀ z ∈ L, 0 ≤ z ∧ z ≤ 255) ∧ ((L = [] ∧ (x < 0 ∨ 2147483647 < x)) ∨ (L = pb 4 x ∧ 0 ≤ x ∧ x ≤ 2147483647)) ∧
    (∀ w, Calls Tryd.prog 12 #[.int .i64 x] w fun e w' => ∃ ao cap, e = .returned (.slice ao L.length cap) ∧ Own w' w.heap.size 5 ao L.length (fun i => .int .u8 (L.getD i 0)) ∧ Below w.heap.size w w') ∧
    (∀ w, Calls Tryd.prog 6 #[.int .i64 x] w fun e w' => ∃ ao cap, e = .returned (.slice ao L.length cap) ∧ Own w' w.heap.size 5 ao L.length (fun i => .int .u8 (L.getD i 0)) ∧ Below w.heap.size w w') := by
  by_cases h : x < 0 ∨ 2147483647 < x
  · refine ⟨[], by simp, by simp, .inl ⟨rfl, h⟩, fun w => ?_, fun w => ?_⟩
    · refine (put_spec_no x w h).mono fun e w' => ?_
      rintro ⟨rfl, hb⟩
      exact ⟨_, _, rfl, .inl rfl, hb⟩
    · refine (put_impl_no x w h).mono fun e w' => ?_
      rintro ⟨rfl, rfl⟩
      exact ⟨_, _, rfl, .inl rfl, Below.refl _ _⟩
  · refine ⟨pb 4 x, pb_len 4 x, pb_255 x (by omega) (by omega), .inr ⟨rfl, by omega, by omega⟩, fun w => ?_, fun w => ?_⟩
    · refine (put_spec x w (by omega) (by omega)).mono fun e w' => ?_
      rintro ⟨v, rfl, ho, hb⟩
      obtain ⟨ao, cap, rfl, _, ho'⟩ := Own.of_owns ho
      exact ⟨_, _, rfl, ho', hb⟩
    · refine (put_impl x w (by omega) (by omega)).mono fun e w' => ?_
      rintro ⟨v, rfl, ho, hb⟩
      obtain ⟨ao, cap, rfl, _, ho'⟩ := Own.of_owns ho
      exact ⟨_, _, rfl, ho', hb⟩


/-- Both GetNum answer the same. -/
theorem gets (n : Nat) (x : Int) (f : Nat → Int) (hn : n ≤ 1048576) (h0 : -9223372036854775808 ≤ x) (h1 : x ≤ 9223372036854775807) (hf : ∀ i, i < n → 0 ≤ f i ∧ f i ≤ 255) :
    ∃ r, ((r = none) ∨ ∃ a : Nat, x = a ∧ r = gr n f a 5 0) ∧
      (∀ (ao : Option Addr) (cap : Nat) (w : World), SL .u8 w ao n f → Calls Tryd.prog 11 #[.slice ao n cap, .int .i64 x] w fun e w' => e = .returned (gres r) ∧ w' = w) ∧
      (∀ (ao : Option Addr) (cap : Nat) (w : World), SL .u8 w ao n f → Calls Tryd.prog 10 #[.slice ao n cap, .int .i64 x] w fun e w' => e = .returned (gres r) ∧ w' = w) := by
  by_cases hneg : x < 0
  · exact ⟨none, .inl rfl, fun ao cap w _ => get_spec_neg ao n cap x w hneg, fun ao cap w _ => get_impl_of ao n cap x none w (read_neg ao n cap x w hneg h0)⟩
  · obtain ⟨a, rfl⟩ := Int.eq_ofNat_of_zero_le (Int.not_lt.1 hneg)
    exact ⟨gr n f a 5 0, .inr ⟨a, rfl, rfl⟩, fun ao cap w h => get_spec ao n cap a f w hn h1 h hf, fun ao cap w h => get_impl_of ao n cap a _ w (read_any ao n cap a f w hn h1 h hf)⟩
end Go.Proofs.YtbkfkaodpknjmacDoor

/- Cells as an array: held against another one as a whole; made of a list. -/
import Derived.Test.YthbegalohfbibaaDifferS
import Derived.Laws.StructEq
namespace Go.Proofs.Ythbegalohfbibaa
open Go.ChangeShapes Go.WideShapes Go.ChangeAt Go.RowKit

theorem eq_cell (m : Nat) (a c : Bool) (b d : Int) (w : World) : (Op.equalIn (m + 2) 41 (.agg #[.bool a, .int .i64 b]) (.agg #[.bool c, .int .i64 d])).run Try.prog w = .ok (a == c && b == d) w := by
  have u3 := Try.underlying3
  have u4 := Try.underlying4
  have a3 := Try.isAgg3
  have a4 := Try.isAgg4
  have z3 := Try.sizeOf3
  have z4 := Try.sizeOf4
  have hS : Try.prog.underlying 41 = some (.struct (Try.prog.fieldsOf 41)) := by kernel_rfl
  have hp : Try.prog.stoodInHeld 41 = false := by kernel_rfl
  rw [run_equalIn_agg w (m + 1) 41 _ _ hS hp]
  simp only [Program.fieldsOf, Try.underlying41]
  go_simp
  by_cases h1 : a = c <;> by_cases h2 : b = d <;> simp [h1, h2]

/-- The cells of the first k of a list. -/
def cA (f : Nat → Int) (k : Nat) : Array Value :=
  #[.bool (decide (0 < k)), .int .i64 (if 0 < k then f 0 else 0), .bool (decide (1 < k)), .int .i64 (if 1 < k then f 1 else 0),
    .bool (decide (2 < k)), .int .i64 (if 2 < k then f 2 else 0), .bool (decide (3 < k)), .int .i64 (if 3 < k then f 3 else 0),
    .bool (decide (4 < k)), .int .i64 (if 4 < k then f 4 else 0), .bool (decide (5 < k)), .int .i64 (if 5 < k then f 5 else 0),
    .bool (decide (6 < k)), .int .i64 (if 6 < k then f 6 else 0), .bool (decide (7 < k)), .int .i64 (if 7 < k then f 7 else 0)]

theorem eq_vals (a0 c0 a1 c1 a2 c2 a3 c3 a4 c4 a5 c5 a6 c6 a7 c7 : Bool) (b0 d0 b1 d1 b2 d2 b3 d3 b4 d4 b5 d5 b6 d6 b7 d7 : Int) (w : World) : (Op.equalIn 10000 43 (.agg #[.bool a0, .int .i64 b0, .bool a1, .int .i64 b1, .bool a2, .int .i64 b2, .bool a3, .int .i64 b3, .bool a4, .int .i64 b4, .bool a5, .int .i64 b5, .bool a6, .int .i64 b6, .bool a7, .int .i64 b7]) (.agg #[.bool c0, .int .i64 d0, .bool c1, .int .i64 d1, .bool c2, .int .i64 d2, .bool c3, .int .i64 d3, .bool c4, .int .i64 d4, .bool c5, .int .i64 d5, .bool c6, .int .i64 d6, .bool c7, .int .i64 d7])).run Try.prog w =
    .ok ((a0 == c0 && b0 == d0) && ((a1 == c1 && b1 == d1) && ((a2 == c2 && b2 == d2) && ((a3 == c3 && b3 == d3) && ((a4 == c4 && b4 == d4) && ((a5 == c5 && b5 == d5) && ((a6 == c6 && b6 == d6) && (a7 == c7 && b7 == d7)))))))) w := by
  have ac := Try.isAgg41
  have zc := Try.sizeOf41
  have E : ∀ a b c d w, (Op.equalIn 9999 41 (.agg #[.bool a, .int .i64 b]) (.agg #[.bool c, .int .i64 d])).run Try.prog w = .ok (a == c && b == d) w := fun a b c d w => eq_cell 9997 _ _ _ _ w
  rw [show (10000 : Nat) = 9999 + 1 from rfl, Op.equalIn]
  simp only [Sem.run_bind, run_underlying Try.underlying43, Result.andThen_ok]
  simp only [Std.Legacy.Range.forIn_eq_forIn_range', Std.Legacy.Range.size, Nat.sub_zero, Nat.add_sub_cancel, Nat.div_one, List.range'_succ, List.range'_zero, List.forIn_cons, List.forIn_nil]
  go_simp
  by_cases h0 : a0 = c0
  case neg => simp [h0]
  by_cases k0 : b0 = d0
  case neg => simp [k0]
  by_cases h1 : a1 = c1
  case neg => simp [h1]
  by_cases k1 : b1 = d1
  case neg => simp [k1]
  by_cases h2 : a2 = c2
  case neg => simp [h2]
  by_cases k2 : b2 = d2
  case neg => simp [k2]
  by_cases h3 : a3 = c3
  case neg => simp [h3]
  by_cases k3 : b3 = d3
  case neg => simp [k3]
  by_cases h4 : a4 = c4
  case neg => simp [h4]
  by_cases k4 : b4 = d4
  case neg => simp [k4]
  by_cases h5 : a5 = c5
  case neg => simp [h5]
  by_cases k5 : b5 = d5
  case neg => simp [k5]
  by_cases h6 : a6 = c6
  case neg => simp [h6]
  by_cases k6 : b6 = d6
  case neg => simp [k6]
  by_cases h7 : a7 = c7
  case neg => simp [h7]
  by_cases k7 : b7 = d7
  case neg => simp [k7]
  simp [h0, k0, h1, k1, h2, k2, h3, k3, h4, k4, h5, k5, h6, k6, h7, k7]

theorem eq_row (f g : Nat → Int) (n m : Nat) (w : World) : (Op.equalIn 10000 43 (.agg (cA f n)) (.agg (cA g m))).run Try.prog w =
    .ok (alike f g n m 0 && (alike f g n m 1 && (alike f g n m 2 && (alike f g n m 3 && (alike f g n m 4 && (alike f g n m 5 && (alike f g n m 6 && alike f g n m 7))))))) w :=
  eq_vals _ _ _ _ _ _ _ _ _ _ _ _ _ _ _ _ _ _ _ _ _ _ _ _ _ _ _ _ _ _ _ _ w

theorem eq_at (f g : Nat → Int) (n m i : Nat) (w : World) : (Op.equalIn 10000 41 (.agg #[.bool (decide (i < n)), .int .i64 (if i < n then f i else 0)]) (.agg #[.bool (decide (i < m)), .int .i64 (if i < m then g i else 0)])).run Try.prog w = .ok (alike f g n m i) w :=
  eq_cell 9998 _ _ _ _ w
end Go.Proofs.Ythbegalohfbibaa

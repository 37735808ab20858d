/- cellsOf: the first eight of a list, as an array. -/
import Derived.Test.YthbegalohfbibaaCellRow
namespace Go.Proofs.Ythbegalohfbibaa
open Go.ChangeShapes Go.WideShapes Go.ChangeAt Go.RowKit

theorem cells_any (ao : Option Addr) (n cap : Nat) (f : Nat → Int) (w : World) (hn : n ≤ 2097152) (hs : SL .i64 w ao n f) :
    Calls Try.prog 25 #[.slice ao n cap] w fun e w' => e = .returned (.agg (cA f (min n 8))) ∧ Below w.heap.size w w' := by
  obtain ⟨M, hM, hM8⟩ : ∃ M : Nat, M = min n 8 ∧ M ≤ 8 := ⟨_, rfl, by omega⟩
  have hMn : M ≤ n := by omega
  rw [← hM]
  have hmin : ∀ w, (Builtin.min_ #[3, 3] 3 #[.int .i64 (n : Int), .int .i64 8]).run Try.prog w = .ok (.int .i64 (M : Int)) w := by
    intro w
    rw [run_min_int2, hM]
    by_cases h8 : (8 : Int) < n
    · rw [if_pos h8, show min n 8 = 8 by omega]; rfl
    · rw [if_neg h8, show min n 8 = n by omega]
  clear hM
  go_enter Try.func25, Try.ntmps25
  go_wp2
  go_loopw [4, 8] (fun _ i wr => ∃ k : Nat, k ≤ M ∧ i = .int .i64 k ∧ wr = (w.alloc (.cells (cA f 0) 43)).alloc (.cells (cA f k) 43)) (fun _ i _ => 8 - (intOf i).toNat)
  case atStart => exact ⟨0, by omega, rfl, by simp [cA]⟩
  case round =>
    obtain ⟨k, hk, rfl, rfl⟩ := hrel
    clear hmin
    by_cases hlt : k < M
    · obtain rfl | rfl | rfl | rfl | rfl | rfl | rfl | rfl : k = 0 ∨ k = 1 ∨ k = 2 ∨ k = 3 ∨ k = 4 ∨ k = 5 ∨ k = 6 ∨ k = 7 := by omega
      · obtain ⟨b, off, rfl, hb, hc0⟩ := hs 0 (by omega)
        rw [Nat.add_zero] at hc0
        have hb1 : b ≠ w.heap.size := by omega
        have hb2 : b ≠ w.heap.size + 1 := by omega
        clear hs
        simp only [cA] at *
        go_wp2
        go_roundw
        case rel => exact ⟨1, by omega, rfl, by simp⟩
        case measure => simp [intOf]
      · obtain ⟨b, off, rfl, hb, hc0⟩ := hs 1 (by omega)
        have hb1 : b ≠ w.heap.size := by omega
        have hb2 : b ≠ w.heap.size + 1 := by omega
        clear hs
        simp only [cA] at *
        go_wp2
        go_roundw
        case rel => exact ⟨2, by omega, rfl, by simp⟩
        case measure => simp [intOf]
      · obtain ⟨b, off, rfl, hb, hc0⟩ := hs 2 (by omega)
        have hb1 : b ≠ w.heap.size := by omega
        have hb2 : b ≠ w.heap.size + 1 := by omega
        clear hs
        simp only [cA] at *
        go_wp2
        go_roundw
        case rel => exact ⟨3, by omega, rfl, by simp⟩
        case measure => simp [intOf]
      · obtain ⟨b, off, rfl, hb, hc0⟩ := hs 3 (by omega)
        have hb1 : b ≠ w.heap.size := by omega
        have hb2 : b ≠ w.heap.size + 1 := by omega
        clear hs
        simp only [cA] at *
        go_wp2
        go_roundw
        case rel => exact ⟨4, by omega, rfl, by simp⟩
        case measure => simp [intOf]
      · obtain ⟨b, off, rfl, hb, hc0⟩ := hs 4 (by omega)
        have hb1 : b ≠ w.heap.size := by omega
        have hb2 : b ≠ w.heap.size + 1 := by omega
        clear hs
        simp only [cA] at *
        go_wp2
        go_roundw
        case rel => exact ⟨5, by omega, rfl, by simp⟩
        case measure => simp [intOf]
      · obtain ⟨b, off, rfl, hb, hc0⟩ := hs 5 (by omega)
        have hb1 : b ≠ w.heap.size := by omega
        have hb2 : b ≠ w.heap.size + 1 := by omega
        clear hs
        simp only [cA] at *
        go_wp2
        go_roundw
        case rel => exact ⟨6, by omega, rfl, by simp⟩
        case measure => simp [intOf]
      · obtain ⟨b, off, rfl, hb, hc0⟩ := hs 6 (by omega)
        have hb1 : b ≠ w.heap.size := by omega
        have hb2 : b ≠ w.heap.size + 1 := by omega
        clear hs
        simp only [cA] at *
        go_wp2
        go_roundw
        case rel => exact ⟨7, by omega, rfl, by simp⟩
        case measure => simp [intOf]
      · obtain ⟨b, off, rfl, hb, hc0⟩ := hs 7 (by omega)
        have hb1 : b ≠ w.heap.size := by omega
        have hb2 : b ≠ w.heap.size + 1 := by omega
        clear hs
        simp only [cA] at *
        go_wp2
        go_roundw
        case rel => exact ⟨8, by omega, rfl, by simp⟩
        case measure => simp [intOf]
    · have hkM : k = M := by omega
      subst hkM
      clear hs
      obtain ⟨a0, b0, a1, b1, a2, b2, a3, b3, a4, b4, a5, b5, a6, b6, a7, b7, hcA⟩ : ∃ a0 b0 a1 b1 a2 b2 a3 b3 a4 b4 a5 b5 a6 b6 a7 b7, cA f k = #[.bool a0, .int .i64 b0, .bool a1, .int .i64 b1, .bool a2, .int .i64 b2, .bool a3, .int .i64 b3, .bool a4, .int .i64 b4, .bool a5, .int .i64 b5, .bool a6, .int .i64 b6, .bool a7, .int .i64 b7] := ⟨_, _, _, _, _, _, _, _, _, _, _, _, _, _, _, _, rfl⟩
      rw [hcA]
      have HC : Hid (cA f k = #[.bool a0, .int .i64 b0, .bool a1, .int .i64 b1, .bool a2, .int .i64 b2, .bool a3, .int .i64 b3, .bool a4, .int .i64 b4, .bool a5, .int .i64 b5, .bool a6, .int .i64 b6, .bool a7, .int .i64 b7]) := hcA
      clear hcA
      simp only [cA] at *
      go_wp2
      refine bodyPost_ret (v := .agg #[.bool a0, .int .i64 b0, .bool a1, .int .i64 b1, .bool a2, .int .i64 b2, .bool a3, .int .i64 b3, .bool a4, .int .i64 b4, .bool a5, .int .i64 b5, .bool a6, .int .i64 b6, .bool a7, .int .i64 b7]) (by simp [results, Try.results25, go_sem]) rfl ⟨congrArg (fun c => Ending.returned (Value.agg c)) HC.out.symm, ?_⟩
      exact ((Below.refl w.heap.size w).alloc (Nat.le_refl _) _).alloc (by simp) _
end Go.Proofs.Ythbegalohfbibaa

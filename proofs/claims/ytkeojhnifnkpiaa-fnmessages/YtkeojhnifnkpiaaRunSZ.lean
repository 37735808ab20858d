/- Run of the model, and the longest one. -/
import Derived.Test.YtkeojhnifnkpiaaGb
import Derived.Test.YtkeojhnifnkpiaaLzPZ

namespace Go.Proofs.Ytkeojhnifnkpiaa
open Go.ChangeShapes Go.WideShapes Go.ChangeAt Go.RowKit
set_option linter.unusedVariables false
set_option linter.unusedSimpArgs false

theorem min_any (a b : Int) (w : World) : Calls Try.prog 145 #[.int .i64 a, .int .i64 b] w fun e w' => e = .returned (.int .i64 (min a b)) ∧ w' = w := by
  by_cases h : a < b
  · go_enter Try.func145, Try.ntmps145
    go_wp2
    go_ret
    exact ⟨by rw [Int.min_eq_left (by omega)]; rfl, rfl⟩
  · go_enter Try.func145, Try.ntmps145
    go_wp2
    go_ret
    exact ⟨by rw [Int.min_eq_right (by omega)]; rfl, rfl⟩

/-- Run, at whatever numbers. -/
def rrun (f : Nat → Int) (n : Nat) (at_ back : Int) : Int :=
  if 0 ≤ at_ ∧ at_ ≤ (n : Int) - 1 ∧ 1 ≤ back ∧ back ≤ min at_ 255 then (run f n at_.toNat back.toNat : Nat) else 0

theorem run_spec (ao : Option Addr) (n cap : Nat) (f : Nat → Int) (at_ back : Int) (w : World) (hn : n ≤ 1048576) (hs : SL .u8 w ao n f) :
    Calls Try.prog 146 #[.slice ao n cap, .int .i64 at_, .int .i64 back] w fun e w' => e = .returned (.int .i64 (rrun f n at_ back)) ∧ ∃ q, w' = w.drewN q := by
  by_cases h1 : 0 ≤ at_ ∧ at_ ≤ (n : Int) - 1
  · by_cases h2 : 1 ≤ back ∧ back ≤ min at_ 255
    · obtain ⟨a, rfl⟩ : ∃ a : Nat, at_ = a := ⟨at_.toNat, by omega⟩
      obtain ⟨k0, rfl⟩ : ∃ k : Nat, back = k := ⟨back.toNat, by omega⟩
      have hrr : rrun f n (a : Int) (k0 : Int) = (run f n a k0 : Nat) := by unfold rrun; rw [if_pos ⟨h1.1, h1.2, h2.1, h2.2⟩]; simp
      rw [hrr]
      have ha : a < n := by omega
      have hka : k0 ≤ a := by omega
      have hk1 : 1 ≤ k0 := by omega
      have hk2 : k0 ≤ 255 := by omega
      clear hrr
      go_enter Try.func146, Try.ntmps146
      go_wp2_with (first
        | (go_at_call 145; refine (min_any _ _ _).mono ?_; rintro e w9 ⟨rfl, hw9⟩; rw [hw9]; clear hw9)
        | (go_at_call 77; refine (in_yes _ _ _ _ (by omega) (by omega)).mono ?_; rintro e w9 ⟨rfl, hw9⟩; rw [hw9]; clear hw9))
      clear h1 h2
      go_loopw [7] (fun i wr => ∃ k : Nat, k ≤ 100 ∧ a + k ≤ n ∧ i = .int .i64 k ∧ Hid (runFrom f n a k0 (100 - k) k = run f n a k0) ∧ ∃ q, wr = w.drewN q) (fun i _ => 100 - (intOf i).toNat)
      case atStart => exact ⟨0, by omega, by omega, rfl, rfl, 0, rfl⟩
      case round =>
        obtain ⟨k, hk, hkn, rfl, A, q, rfl⟩ := hrel
        by_cases h100 : k < 100
        · have d1 : decide ((k : Int) < 100) = true := by simp; omega
          obtain ⟨m, hm⟩ : ∃ m, 100 - k = m + 1 := ⟨100 - k - 1, by omega⟩
          by_cases hlt : a + k < n
          · have d2 : decide ((a : Int) + (k : Int) < (n : Int)) = true := by simp; omega
            obtain ⟨b, off, rfl, hb, hc⟩ := hs (a + k) hlt
            obtain ⟨b', off', e', hb', hc'⟩ := hs (a + k - k0) (by omega)
            simp only [Option.some.injEq, Addr.mk.injEq] at e'
            obtain ⟨rfl, rfl, _⟩ := e'
            have t1 : ((a : Int) + (k : Int)).toNat = a + k := by omega
            have t2 : ((a : Int) + (k : Int) - (k0 : Int)).toNat = a + k - k0 := by omega
            have t3 : (0 : Int) ≤ (a : Int) + (k : Int) := by omega
            have t4 : (0 : Int) ≤ (a : Int) + (k : Int) - (k0 : Int) := by omega
            have t5 : (a : Int) + (k : Int) < (n : Int) := by omega
            have t6 : (a : Int) + (k : Int) - (k0 : Int) < (n : Int) := by omega
            clear hs
            generalize hy : f (a + k) = y at *
            generalize hx : f (a + k - k0) = x at *
            have B : Hid (f (a + k) = y ∧ f (a + k - k0) = x) := ⟨hy, hx⟩
            clear hy hx
            by_cases he : y = x
            · have hd : decide (y = x) = true := by simpa using he
              subst he
              go_wp2
              go_quiet (fail)
              go_wp2
              go_roundw
              case rel => exact ⟨k + 1, by omega, by omega, by go_num, (show _ = _ by rw [← A.out, hm, runFrom, if_pos ⟨hlt, by rw [B.out.1, B.out.2]⟩, show 100 - (k + 1) = m by omega]), _, rfl⟩
              case measure => simp [intOf]; omega
            · have hd : decide (y = x) = false := by simpa using he
              go_wp2
              go_quiet (fail)
              go_wp2
              go_ret
              refine ⟨?_, _, World.drewN_drewN ..⟩
              rw [← A.out, hm, runFrom, if_neg (fun h => he (by rw [← B.out.1, ← B.out.2]; exact h.2))]
              rfl
          · have d2 : decide ((a : Int) + (k : Int) < (n : Int)) = false := by simp; omega
            clear hs
            go_wp2
            go_quiet (fail)
            go_wp2
            go_ret
            refine ⟨?_, _, World.drewN_drewN ..⟩
            rw [← A.out, hm, runFrom, if_neg (fun h => hlt h.1)]
            rfl
        · have d1 : decide ((k : Int) < 100) = false := by simp; omega
          obtain rfl : k = 100 := by omega
          clear hs
          go_wp2
          go_quiet (fail)
          go_wp2
          go_ret
          refine ⟨?_, _, World.drewN_drewN ..⟩
          rw [← A.out]
          rfl
    · have hrr : rrun f n at_ back = 0 := by unfold rrun; rw [if_neg (fun h => h2 h.2.2)]
      rw [hrr]
      clear hs hrr
      go_enter Try.func146, Try.ntmps146
      go_wp2_with fail
      refine (in_yes _ _ _ _ (by omega) (by omega)).mono ?_
      rintro e w8 ⟨rfl, hw8⟩
      rw [hw8]
      go_wp2_with fail
      refine (min_any _ _ _).mono ?_
      rintro e w9 ⟨rfl, hw9⟩
      rw [hw9]
      go_wp2_with fail
      refine (in_no _ _ _ _ (by omega)).mono ?_
      rintro e w10 ⟨rfl, hw10⟩
      rw [hw10]
      clear hw8 hw9 hw10
      go_wp2
      go_ret
      exact ⟨rfl, 0, rfl⟩
  · have hrr : rrun f n at_ back = 0 := by unfold rrun; rw [if_neg (fun h => h1 ⟨h.1, h.2.1⟩)]
    rw [hrr]
    clear hs hrr
    go_enter Try.func146, Try.ntmps146
    go_wp2_with fail
    refine (in_no _ _ _ _ (by omega)).mono ?_
    rintro e w8 ⟨rfl, hw8⟩
    rw [hw8]
    clear hw8
    go_wp2
    go_ret
    exact ⟨rfl, 0, rfl⟩

theorem best_spec (ao : Option Addr) (n cap a : Nat) (f : Nat → Int) (w : World) (hn : n ≤ 1048576) (ha : a < n) (hs : SL .u8 w ao n f) :
    Calls Try.prog 134 #[.slice ao n cap, .int .i64 (a : Int)] w fun e w' => e = .returned (.tuple #[.int .i64 ((bst f n a (min a 255)).1 : Nat), .int .i64 ((bst f n a (min a 255)).2 : Nat)]) ∧ ∃ q, w' = w.drewN q := by
  have hrun : Hid (∀ (k q : Nat), 1 ≤ k → k ≤ min a 255 → Calls Try.prog 146 #[.slice ao n cap, .int .i64 (a : Int), .int .i64 (k : Int)] (w.drewN q) fun e w' => e = .returned (.int .i64 (run f n a k : Nat)) ∧ ∃ q', w' = (w.drewN q).drewN q') := fun k q h1 h2 => by
    have h := run_spec ao n cap f (a : Int) (k : Int) (w.drewN q) hn hs
    rw [show rrun f n (a : Int) (k : Int) = (run f n a k : Nat) by unfold rrun; rw [if_pos ⟨by omega, by omega, by omega, by omega⟩]; simp] at h
    exact h
  have hmin : min (a : Int) 255 = ((min a 255 : Nat) : Int) := by omega
  generalize hL : min a 255 = L at *
  have HL := hide hL
  clear hs hL
  go_enter Try.func134, Try.ntmps134
  go_wp2
  go_loopw [6, 7, 8, 9] (fun x y i _ wr => ∃ k : Nat, k ≤ L ∧ i = .int .i64 ((k + 1 : Nat) : Int) ∧ x = .int .i64 ((bst f n a k).1 : Nat) ∧ y = .int .i64 ((bst f n a k).2 : Nat) ∧ ∃ q, wr = w.drewN q) (fun _ _ i _ _ => L + 1 - (intOf i).toNat)
  case atStart => exact ⟨0, by omega, rfl, rfl, rfl, 0, rfl⟩
  case round =>
    obtain ⟨k, hk, rfl, rfl, rfl, q, rfl⟩ := hrel
    go_wp2_with fail
    refine (min_any _ _ _).mono ?_
    rintro e w9 ⟨rfl, hw9⟩
    rw [hw9, hmin]
    clear hw9
    by_cases hlt : k < L
    · go_wp2_with fail
      refine (hrun.out (k + 1) q (by omega) (by have := HL.out; omega)).mono ?_
      rintro e w8 ⟨rfl, q8, hw8⟩
      rw [hw8, World.drewN_drewN]
      clear hw8
      generalize hr : run f n a (k + 1) = r
      have HR := hide hr
      clear hr
      have hl100 : (bst f n a k).2 ≤ 100 := by
        rcases bst_is f n a k with e | ⟨_, _, e⟩
        · rw [e]; simp
        · rw [e]; exact run_le _ _ _ _
      generalize hb : bst f n a k = p at *
      have HB := hide hb
      clear hb
      by_cases hgt : p.2 < r
      · have hd : (p.2 : Int) < (r : Int) := by omega
        go_wp2
        go_roundw
        case rel => exact ⟨k + 1, by omega, by go_num, by rw [bst, HB.out, HR.out, if_pos hgt]; simp, by rw [bst, HB.out, HR.out, if_pos hgt], _, rfl⟩
        case measure => simp [intOf]; omega
      · have hd : ¬ (p.2 : Int) < (r : Int) := by omega
        go_wp2
        go_roundw
        case rel => exact ⟨k + 1, by omega, by go_num, by rw [bst, HB.out, HR.out, if_neg hgt], by rw [bst, HB.out, HR.out, if_neg hgt], _, rfl⟩
        case measure => simp [intOf]; omega
    · obtain rfl : k = L := by omega
      go_wp2
      go_ret2
      exact ⟨rfl, q, rfl⟩
end Go.Proofs.Ytkeojhnifnkpiaa

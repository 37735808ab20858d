/- (Beside the bytes' own.) markIntS writes a running number into memory that was handed back, heldIntS finds it there. -/
import Derived.Test.YtjbhgedbkajmdaaMarkB
namespace Go.Proofs.Ytjbhgedbkajmdaa
open Go.ChangeShapes Go.WideShapes Go.ChangeAt Go.RowKit
set_option linter.unusedVariables false
set_option linter.unusedSimpArgs false

theorem imark_step {wr : World} {B g n k : Nat} {k0 : Int} {t : TypeId} {F : Nat → Value} (h : Own wr B t (some ⟨g, 0, none⟩) n (fun j => if j < k then .int .i64 (k0 + j) else F j)) :
    Own (wr.setCell ⟨g, k, none⟩ (.int .i64 (k0 + k))) B t (some ⟨g, 0, none⟩) n (fun j => if j < k + 1 then .int .i64 (k0 + j) else F j) := by
  refine (h.set k _).congr fun j hj => ?_
  by_cases e : j = k
  · subst e; simp
  · simp only [if_neg e]
    by_cases e2 : j < k
    · rw [if_pos e2, if_pos (by omega)]
    · rw [if_neg e2, if_neg (by omega)]

theorem imark_any (ao : Option Addr) (n cap B : Nat) (k0 : Int) (F : Nat → Value) (w : World) (hn : n ≤ 1048576) (h0 : 0 ≤ k0) (h1 : k0 ≤ 1099511627776) (ho : Own w B 3 ao n F) :
    Calls Try.prog 36 #[.slice ao n cap, .int .i64 k0] w fun e w' => e = .returned (.int .i64 (k0 + n)) ∧ Own w' B 3 ao n (fun j => .int .i64 (k0 + j)) ∧ Below B w w' := by
  go_enter Try.func36, Try.ntmps36
  go_wp2
  go_loopw [1, 5] (fun m i wr => ∃ k : Nat, k ≤ n ∧ i = .int .i64 k ∧ m = .int .i64 (k0 + k) ∧ Own wr B 3 ao n (fun j => if j < k then .int .i64 (k0 + j) else F j) ∧ Below B w wr) (fun _ i _ => n - (intOf i).toNat)
  case atStart => exact ⟨0, Nat.zero_le _, rfl, by simp, ho.congr (by intro i _; simp), Below.refl _ _⟩
  case round =>
    obtain ⟨k, hk, rfl, rfl, hrow, hbel⟩ := hrel
    by_cases hlt : k < n
    · obtain ⟨g, rfl, hB, hg, hc, hf⟩ := hrow.at hlt
      have R := imark_step hrow
      have R2 := hbel.setCell (p := ⟨g, k, none⟩) hB (.int .i64 (k0 + k))
      clear hrow ho
      go_wp2
      go_roundw
      case rel => exact ⟨k + 1, by omega, by go_num, by go_num, R, R2⟩
      case measure => simp [intOf]; omega
    · have hkn : k = n := by omega
      subst hkn
      go_wp2
      go_ret
      exact ⟨rfl, hrow.congr (by intro i hi; rw [if_pos (by omega)]), hbel⟩

theorem iheld_any (ao : Option Addr) (n cap : Nat) (k0 : Int) (w : World) (hn : n ≤ 1048576) (h0 : 0 ≤ k0) (h1 : k0 ≤ 1099511627776) (hs : SL .i64 w ao n (fun j => k0 + j)) :
    Calls Try.prog 37 #[.slice ao n cap, .int .i64 k0] w fun e w' => e = .returned (.int .i64 (k0 + n)) ∧ w' = w := by
  go_enter Try.func37, Try.ntmps37
  go_wp2
  go_loop [1, 5] (fun m i => ∃ k : Nat, k ≤ n ∧ i = .int .i64 k ∧ m = .int .i64 (k0 + k)) (fun _ i => n - (intOf i).toNat)
  case atStart => exact ⟨0, Nat.zero_le _, rfl, by simp⟩
  case round =>
    obtain ⟨k, hk, rfl, rfl⟩ := hrel
    by_cases hlt : k < n
    · obtain ⟨b, off, rfl, hb, hc⟩ := hs k hlt
      clear hs
      go_wp2
      go_round
      case rel => exact ⟨k + 1, by omega, by go_num, by go_num⟩
      case measure => simp [intOf]; omega
    · have hkn : k = n := by omega
      subst hkn
      go_wp2
      go_ret
      exact ⟨rfl, rfl⟩

theorem imark_row_step {wr : World} {g n k : Nat} {k0 : Int} {t : TypeId} {F : Nat → Value} (h : wr.rowIs g t n (fun j => if j < k then .int .i64 (k0 + j) else F j)) :
    (wr.setCell ⟨g, k, none⟩ (.int .i64 (k0 + k))).rowIs g t n (fun j => if j < k + 1 then .int .i64 (k0 + j) else F j) := by
  refine (h.set k _).congr fun j hj => ?_
  by_cases e : j = k
  · subst e; simp
  · simp only [if_neg e]
    by_cases e2 : j < k
    · rw [if_pos e2, if_pos (by omega)]
    · rw [if_neg e2, if_neg (by omega)]

theorem imark_row (g n cap : Nat) (k0 : Int) (F : Nat → Value) (w : World) (hn : n ≤ 1048576) (h0 : 0 ≤ k0) (h1 : k0 ≤ 1099511627776) (ho : w.rowIs g 3 n F) :
    Calls Try.prog 36 #[.slice (some ⟨g, 0, none⟩) n cap, .int .i64 k0] w fun e w' => e = .returned (.int .i64 (k0 + n)) ∧ w'.rowIs g 3 n (fun j => .int .i64 (k0 + j)) ∧ Only g w w' := by
  go_enter Try.func36, Try.ntmps36
  go_wp2
  go_loopw [1, 5] (fun m i wr => ∃ k : Nat, k ≤ n ∧ i = .int .i64 k ∧ m = .int .i64 (k0 + k) ∧ wr.rowIs g 3 n (fun j => if j < k then .int .i64 (k0 + j) else F j) ∧ Only g w wr) (fun _ i _ => n - (intOf i).toNat)
  case atStart => exact ⟨0, Nat.zero_le _, rfl, by simp, ho.congr (by intro i _; simp), Only.refl _ _⟩
  case round =>
    obtain ⟨k, hk, rfl, rfl, hrow, hbel⟩ := hrel
    by_cases hlt : k < n
    · have hf := hrow.frozen k
      have hc := hrow.cell hlt
      have R := imark_row_step hrow
      have R2 := hbel.setCell (i := k) (.int .i64 (k0 + k))
      clear hrow ho
      go_wp2
      go_roundw
      case rel => exact ⟨k + 1, by omega, by go_num, by go_num, R, R2⟩
      case measure => simp [intOf]; omega
    · have hkn : k = n := by omega
      subst hkn
      go_wp2
      go_ret
      exact ⟨rfl, hrow.congr (by intro i hi; rw [if_pos (by omega)]), hbel⟩
end Go.Proofs.Ytjbhgedbkajmdaa

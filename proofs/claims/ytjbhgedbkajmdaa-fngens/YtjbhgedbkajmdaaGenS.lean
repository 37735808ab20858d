/- GensOk of the model. -/
import Derived.Test.YtjbhgedbkajmdaaAppG
import Derived.Test.YtjbhgedbkajmdaaIn
namespace Go.Proofs.Ytjbhgedbkajmdaa
open Go.ChangeShapes Go.WideShapes Go.ChangeAt Go.RowKit
set_option linter.unusedVariables false
set_option linter.unusedSimpArgs false

theorem has_yes (ao : Option Addr) (n cap : Nat) (f : Nat → Int) (x : Int) (w : World) (hn : n ≤ 1048576) (hs : SL .i64 w ao n f) (h : ∃ i, i < n ∧ f i = x) :
    Calls Try.prog 73 #[.slice ao n cap, .int .i64 x] w fun e w' => e = .returned (.bool true) ∧ w' = w := by
  have H := hide h
  clear h
  go_enter Try.func73, Try.ntmps73
  go_wp2
  go_loop [5] (fun i => ∃ k : Nat, k ≤ n ∧ i = .int .i64 k ∧ Hid (∀ j, j < k → f j ≠ x)) (fun i => n - (intOf i).toNat)
  case atStart => exact ⟨0, by omega, rfl, fun j hj => absurd hj (by omega)⟩
  case round =>
    obtain ⟨k, hk, rfl, A⟩ := hrel
    by_cases hlt : k < n
    · obtain ⟨b, off, rfl, hb, hc⟩ := hs k hlt
      clear hs
      generalize hy : f k = y at *
      have B := hide hy
      clear hy
      by_cases he : y = x
      · subst he
        go_wp2
        go_ret
        exact ⟨rfl, rfl⟩
      · have hd : decide (y = x) = false := by simpa using he
        go_wp2
        go_round
        case rel =>
          refine ⟨k + 1, by omega, by go_num, fun j hj => ?_⟩
          by_cases e : j = k
          · subst e; rw [B.out]; exact he
          · exact A.out j (by omega)
        case measure => simp [intOf]; omega
    · obtain rfl : k = n := by omega
      obtain ⟨i, hi, e⟩ := H.out
      exact absurd e (A.out i hi)

theorem has_no (ao : Option Addr) (n cap : Nat) (f : Nat → Int) (x : Int) (w : World) (hn : n ≤ 1048576) (hs : SL .i64 w ao n f) (h : ∀ i, i < n → f i ≠ x) :
    Calls Try.prog 73 #[.slice ao n cap, .int .i64 x] w fun e w' => e = .returned (.bool false) ∧ w' = w := by
  have H := hide h
  clear h
  go_enter Try.func73, Try.ntmps73
  go_wp2
  go_loop [5] (fun i => ∃ k : Nat, k ≤ n ∧ i = .int .i64 k) (fun i => n - (intOf i).toNat)
  case atStart => exact ⟨0, by omega, rfl⟩
  case round =>
    obtain ⟨k, hk, rfl⟩ := hrel
    by_cases hlt : k < n
    · obtain ⟨b, off, rfl, hb, hc⟩ := hs k hlt
      have he := H.out k hlt
      clear hs
      generalize f k = y at *
      have hd : decide (y = x) = false := by simpa using he
      go_wp2
      go_round
      case rel => exact ⟨k + 1, by omega, by go_num⟩
      case measure => simp [intOf]; omega
    · obtain rfl : k = n := by omega
      go_wp2
      go_ret
      exact ⟨rfl, rfl⟩

/-- Generations: twelve at most, each from 1 to 100000, no two alike. -/
def GIn (f : Nat → Int) (n : Nat) : Prop := ∀ i, i < n → (1 ≤ f i ∧ f i ≤ 100000) ∧ ∀ j, j < i → f j ≠ f i
def GOk (f : Nat → Int) (n : Nat) : Prop := n ≤ 12 ∧ GIn f n

theorem gens_any (ao : Option Addr) (n cap : Nat) (f : Nat → Int) (w : World) (hn : n ≤ 1048576) (hcap : n ≤ cap) (hs : SL .i64 w ao n f) :
    Calls Try.prog 32 #[.slice ao n cap] w fun e w' => ((GOk f n ∧ e = .returned (.bool true)) ∨ (¬ GOk f n ∧ e = .returned (.bool false))) ∧ ∃ q, w' = w.drewN q := by
  have HS := hide hs
  clear hs
  go_enter Try.func32, Try.ntmps32
  go_wp2
  go_loopw [3] (fun i wr => ∃ k : Nat, k ≤ n ∧ i = .int .i64 k ∧ Hid (GIn f k) ∧ ∃ q, wr = w.drewN q) (fun i _ => n - (intOf i).toNat)
  case atStart => exact ⟨0, by omega, rfl, fun j hj => absurd hj (by omega), 0, rfl⟩
  case round =>
    obtain ⟨k, hk, rfl, A, q, rfl⟩ := hrel
    by_cases hlt : k < n
    · obtain ⟨b, off, rfl, hb, hc⟩ := HS.out k hlt
      have hpre : Hid (∀ q, SL .i64 (w.drewN q) (some ⟨b, off, none⟩) k f) := fun q i hi => HS.out i (by omega)
      generalize hy : f k = y at *
      have B := hide hy
      clear hy
      have hk0 : (0 : Int) ≤ (k : Int) := by omega
      have hkn : (k : Int) ≤ (n : Int) := by omega
      have hkc : (k : Int) ≤ (cap : Int) := by omega
      by_cases h1 : 1 ≤ y ∧ y ≤ 100000
      · by_cases h2 : ∃ j, j < k ∧ f j = y
        · have hbad : Hid (¬ GOk f n) := fun h => by obtain ⟨j, hj, e⟩ := h2; exact (h.2 k hlt).2 j hj (e.trans B.out.symm)
          have H2 := hide h2
          clear h2
          go_wp2
          go_quiet (first
            | (go_at_call 63; refine quiet_q (in_yes _ _ _ _ h1.1 h1.2))
            | (go_at_call 73; refine quiet_q (has_yes _ _ _ f _ _ (by omega) (hpre.out _) H2.out)))
          go_wp2
          go_ret
          exact ⟨.inr ⟨hbad.out, rfl⟩, _, World.drewN_drewN ..⟩
        · have H2 : Hid (∀ j, j < k → f j ≠ y) := fun j hj e => h2 ⟨j, hj, e⟩
          clear h2
          go_wp2
          go_quiet (first
            | (go_at_call 63; refine quiet_q (in_yes _ _ _ _ h1.1 h1.2))
            | (go_at_call 73; refine quiet_q (has_no _ _ _ f _ _ (by omega) (hpre.out _) H2.out)))
          go_wp2
          go_roundw
          case rel =>
            refine ⟨k + 1, by omega, by go_num, fun i hi => ?_, _, rfl⟩
            by_cases e : i = k
            · subst e; exact ⟨by rw [B.out]; exact h1, fun j hj => by rw [B.out]; exact H2.out j hj⟩
            · exact A.out i (by omega)
          case measure => simp [intOf]; omega
      · have hno : y < 1 ∨ 100000 < y := by omega
        have hbad : Hid (¬ GOk f n) := fun h => h1 (B.out ▸ (h.2 k hlt).1)
        go_wp2
        go_quiet (first | (go_at_call 63; refine quiet_q (in_no _ _ _ _ hno)))
        go_wp2
        go_ret
        exact ⟨.inr ⟨hbad.out, rfl⟩, _, World.drewN_drewN ..⟩
    · obtain rfl : k = n := by omega
      by_cases h12 : k ≤ 12
      · have hd : (k : Int) ≤ 12 := by omega
        go_wp2
        go_ret
        exact ⟨.inl ⟨⟨h12, A.out⟩, rfl⟩, q, rfl⟩
      · have hd : ¬ (k : Int) ≤ 12 := by omega
        go_wp2
        go_ret
        exact ⟨.inr ⟨fun h => h12 h.1, rfl⟩, q, rfl⟩
end Go.Proofs.Ytjbhgedbkajmdaa

/- GetNum, of the program and of its model, answers the same. -/
import Derived.Test.YtkndnndildnbpaaGreatDoorGa
import Derived.Test.YtkndnndildnbpaaGreatDoorGb
import Derived.Defers
import Derived.Recover

namespace Go.Proofs.YtkndnndildnbpaaGreatDoor
open Go.ChangeShapes Go.WideShapes Go.ChangeAt Go.RowKit
set_option linter.unusedVariables false
set_option linter.unusedSimpArgs false

theorem byte_no (ao : Option Addr) (n cap : Nat) (at' : Int) (w : World) (h : at' < 0 ∨ (n : Int) ≤ at') :
    Calls Tryz.prog 279 #[.slice ao n cap, .int .i64 at'] w fun e w' => (∃ pv, e = .panicked [{ v := .iface 246 pv, recovered := false }]) ∧ w' = w := by
  by_cases h0 : at' < 0
  · go_enter Tryz.func279, Tryz.ntmps279
    go_wp2
    exact ⟨rfl, ⟨_, rfl⟩, rfl⟩
  · have h1 : (n : Int) ≤ at' := by omega
    go_enter Tryz.func279, Tryz.ntmps279
    go_wp2
    exact ⟨rfl, ⟨_, rfl⟩, rfl⟩

theorem byte_yes (b off n cap a : Nat) (p x : Int) (w : World) (hp : p = a) (h : a < n) (_hn : n ≤ 1048576) (hc : w.cell? ⟨b, off + a, none⟩ = some (.int .u8 x)) (hx : 0 ≤ x ∧ x ≤ 255) :
    Calls Tryz.prog 279 #[.slice (some ⟨b, off, none⟩) n cap, .int .i64 p] w fun e w' => e = .returned (.int .i64 x) ∧ w' = w := by
  subst hp
  go_enter Tryz.func279, Tryz.ntmps279
  go_wp2
  go_ret
  exact ⟨rfl, rfl⟩
theorem num_yes (x : Int) (w : World) (h : 0 ≤ x ∧ x ≤ 2147483647) :
    Calls Tryz.prog 265 #[.int .i64 x] w fun e w' => e = .returned (.int .i64 x) ∧ w' = w := by
  go_enter Tryz.func265, Tryz.ntmps265
  go_wp2
  go_ret
  exact ⟨rfl, rfl⟩
theorem num_no (x : Int) (w : World) (h : x < 0 ∨ 2147483647 < x) :
    Calls Tryz.prog 265 #[.int .i64 x] w fun e w' => (∃ pv, e = .panicked [{ v := .iface 246 pv, recovered := false }]) ∧ w' = w := by
  by_cases h0 : x < 0
  · go_enter Tryz.func265, Tryz.ntmps265
    go_wp2
    exact ⟨rfl, ⟨_, rfl⟩, rfl⟩
  · have h1 : 2147483647 < x := by omega
    go_enter Tryz.func265, Tryz.ntmps265
    go_wp2
    exact ⟨rfl, ⟨_, rfl⟩, rfl⟩
theorem short_no (x k : Int) (w : World) (hx : x = 0) (h : 0 < k) :
    Calls Tryz.prog 280 #[.int .i64 x, .int .i64 k] w fun e w' => (∃ pv, e = .panicked [{ v := .iface 246 pv, recovered := false }]) ∧ w' = w := by
  subst hx
  go_enter Tryz.func280, Tryz.ntmps280
  go_wp2
  exact ⟨rfl, ⟨_, rfl⟩, rfl⟩
theorem short_yes (x k : Int) (w : World) (h : ¬ (0 < k ∧ x = 0)) :
    Calls Tryz.prog 280 #[.int .i64 x, .int .i64 k] w fun e w' => e = .returned (.tuple #[]) ∧ w' = w := by
  by_cases h0 : x = 0
  · subst h0
    have h1 : k ≤ 0 := by omega
    go_enter Tryz.func280, Tryz.ntmps280
    go_wp2
    go_end0
    exact ⟨rfl, rfl⟩
  · have hx : (x == 0) = false := by simpa using h0
    go_enter Tryz.func280, Tryz.ntmps280
    go_wp2
    go_end0
    exact ⟨rfl, rfl⟩
/-- What GetNum hands back. -/
def gres : Option (Int × Int) → Value
  | some (x, y) => .tuple #[.int .i64 x, .int .i64 y, .bool true]
  | none => .tuple #[.int .i64 0, .int .i64 0, .bool false]

theorem get_spec_neg (ao : Option Addr) (n cap : Nat) (x : Int) (w : World) (hx : x < 0) :
    Calls Tryz.prog 256 #[.slice ao n cap, .int .i64 x] w fun e w' => e = .returned (gres none) ∧ w' = w := by
  go_enter Tryz.func256, Tryz.ntmps256
  go_wp2
  refine wp_loop_rounds 1 ?_
  rw [rounds_succ]
  go_wp2
  go_ret3
  exact ⟨rfl, rfl⟩

set_option maxHeartbeats 1000000 in
theorem get_spec (ao : Option Addr) (n cap a : Nat) (f : Nat → Int) (w : World) (hn : n ≤ 1048576) (ha : (a : Int) ≤ 9223372036854775807) (hs : SL .u8 w ao n f) (hf : ∀ i, i < n → 0 ≤ f i ∧ f i ≤ 255) :
    Calls Tryz.prog 256 #[.slice ao n cap, .int .i64 a] w fun e w' => e = .returned (gres (gr n f a 5 0)) ∧ w' = w := by
  go_enter Tryz.func256, Tryz.ntmps256
  go_wp2
  go_loop [7, 8] (fun x i => ∃ k : Nat, k ≤ 5 ∧ i = .int .i64 k ∧ x = .int .i64 (gacc f a k) ∧ Hid (gr n f a 5 0 = gr n f a (5 - k) k)) (fun _ i => 5 - (intOf i).toNat)
  case atStart => exact ⟨0, Nat.zero_le _, rfl, rfl, rfl⟩
  case round =>
    obtain ⟨k, hk, rfl, rfl, hg⟩ := hrel
    have hb := (gacc_bd f a k).1
    by_cases hk5 : k < 5
    · have e5 : 5 - k = (5 - (k + 1)) + 1 := by omega
      by_cases hin : a + k < n
      · obtain ⟨b, off, rfl, hbs, hc⟩ := hs (a + k) hin
        have hz := hf (a + k) hin
        have hor := or_step f a k hk5
        have hg2 := hg.out
        rw [e5, gr_in hin] at hg2
        have hG := (gacc_bd f a (k + 1)).1
        generalize hd : f (a + k) = d at hc hz hor hg2
        generalize hGG : gacc f a (k + 1) = G at hor hg2 hG
        have HG : Hid (gacc f a (k + 1) = G) := hGG
        clear hs hf hd hGG hg e5
        by_cases hd : d < 128
        · rw [if_pos hd] at hg2
          by_cases hno : (0 < k ∧ d = 0) ∨ 2147483647 < G
          · rw [if_pos hno] at hg2
            have fin : Hid (gr n f a 5 0 = none) := hg2
            clear hg2 HG
            by_cases h0 : 0 < k
            · by_cases h1 : d = 0
              · clear hno
                subst h1
                go_wp2
                go_ret3
                exact ⟨by rw [fin.out]; rfl, rfl⟩
              · have h2 : 2147483647 < G := hno.resolve_left (fun x => h1 x.2)
                have h1' : (d == 0) = false := by simpa using h1
                clear hno
                go_wp2
                go_ret3
                exact ⟨by rw [fin.out]; rfl, rfl⟩
            · have h2 : 2147483647 < G := hno.resolve_left (fun x => h0 x.1)
              clear hno
              go_wp2
              go_ret3
              exact ⟨by rw [fin.out]; rfl, rfl⟩
          · rw [if_neg hno] at hg2
            have fin : Hid (gr n f a 5 0 = some (G, (a : Int) + k + 1)) := hg2
            have h2 : ¬ 2147483647 < G := fun x => hno (.inr x)
            clear hg2 HG
            by_cases h0 : 0 < k
            · have h1 : ¬ d = 0 := fun x => hno (.inl ⟨h0, x⟩)
              have h1' : (d == 0) = false := by simpa using h1
              clear hno
              go_wp2
              go_ret3
              exact ⟨by rw [fin.out]; rfl, rfl⟩
            · clear hno
              go_wp2
              go_ret3
              exact ⟨by rw [fin.out]; rfl, rfl⟩
        · rw [if_neg hd] at hg2
          have Hg2 : Hid _ := hg2
          clear hg2
          go_wp2
          go_round
          case rel => exact ⟨k + 1, by omega, by go_num, by rw [HG.out], Hg2⟩
          case measure => simp [intOf]; omega
      · have hg2 := hg.out
        rw [e5, gr_out hin] at hg2
        have fin : Hid (gr n f a 5 0 = none) := hg2
        clear hg2 hg hs hf e5
        go_wp2
        go_ret3
        exact ⟨by rw [fin.out]; rfl, rfl⟩
    · have e5 : k = 5 := by omega
      subst e5
      have fin : Hid (gr n f a 5 0 = none) := hg.out
      clear hs hf hg
      go_wp2
      go_ret3
      exact ⟨by rw [fin.out]; rfl, rfl⟩
end Go.Proofs.YtkndnndildnbpaaGreatDoor

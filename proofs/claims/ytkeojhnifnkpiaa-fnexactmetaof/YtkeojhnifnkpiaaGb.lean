/- MsgOk of the model, kind 2. -/
import Derived.Test.YtkeojhnifnkpiaaGa

namespace Go.Proofs.Ytkeojhnifnkpiaa
open Go.ChangeShapes Go.WideShapes Go.ChangeAt Go.RowKit
set_option linter.unusedVariables false
set_option linter.unusedSimpArgs false

set_option maxHeartbeats 4000000 in
theorem msgok2 (ao : Option Addr) (n cap : Nat) (f : Nat → Int) (c v h : Int) (w : World) (hn : n ≤ 1048576) (hcap : n ≤ cap) (hs : SL .i64 w ao n f) :
    Calls Try.prog 38 #[.agg #[.int .i64 2, .int .i64 c, .int .i64 v, .int .i64 h, .slice ao n cap]] w fun e w' => Tells w w' e (MOk 2 c v h f n) := by
  have HS : Hid (∀ o : Obj, SL .i64 (w.alloc o) ao n f) := fun o => hs.below ((Below.refl _ _).alloc (Nat.le_refl _) o)
  have HB : Hid (∀ (o : Obj) (q : Nat), Below w.heap.size w ((w.alloc o).drewN q)) := fun o q => Below.drawn ((Below.refl _ _).alloc (Nat.le_refl _) o) q
  have HB0 : Hid (∀ (o : Obj), Below w.heap.size w (w.alloc o)) := fun o => (Below.refl _ _).alloc (Nat.le_refl _) o
  clear hs
  by_cases hn0 : n = 0
  · skip
    subst hn0
    by_cases hc : 0 ≤ c ∧ c ≤ 7
    · skip
      by_cases hv : 0 ≤ v ∧ v ≤ 200
      · skip
        by_cases hh : h = 0
        · skip
          subst hh
          have hyes : MOk 2 c v 0 f 0 := .inr ⟨by omega, by omega, by omega, by first | omega | (rw [if_pos (by omega)]; omega) | (rw [if_neg (by omega)]; omega), by omega⟩
          go_enter Try.func38, Try.ntmps38
          go_wp2
          go_quiet (first
            | (go_at_call 77; refine Calls.quiet_of_same (in_yes _ _ _ _ hc.1 hc.2))
            | (go_at_call 67; refine Calls.quiet_of_same (bit_yes _))
            | (go_at_call 77; refine Calls.quiet_of_same (in_yes _ _ _ _ hv.1 hv.2))
            | fail)
          go_wp2
          go_ret
          exact Tells.yes hyes (HB.out _ _)
        · skip
          have hd : decide (h = 0) = false := by simpa using hh
          have hd2 : (h == 0) = false := by simpa using hh
          go_enter Try.func38, Try.ntmps38
          go_wp2
          go_quiet (first
            | (go_at_call 77; refine Calls.quiet_of_same (in_yes _ _ _ _ hc.1 hc.2))
            | (go_at_call 67; refine Calls.quiet_of_same (bit_yes _))
            | (go_at_call 77; refine Calls.quiet_of_same (in_yes _ _ _ _ hv.1 hv.2))
            | fail)
          go_wp2
          go_ret
          refine Tells.no (fun x => ?_) (HB.out _ _)
          unfold MOk at x
          omega
      · skip
        have hv' : v < 0 ∨ 200 < v := by omega
        go_enter Try.func38, Try.ntmps38
        go_wp2
        go_quiet (first
          | (go_at_call 77; refine Calls.quiet_of_same (in_yes _ _ _ _ hc.1 hc.2))
          | (go_at_call 67; refine Calls.quiet_of_same (bit_yes _))
          | (go_at_call 77; refine Calls.quiet_of_same (in_no _ _ _ _ hv'))
          | fail)
        go_wp2
        go_ret
        refine Tells.no (fun x => ?_) (HB.out _ _)
        unfold MOk at x
        omega
    · skip
      have hc' : c < 0 ∨ 7 < c := by omega
      go_enter Try.func38, Try.ntmps38
      go_wp2
      go_quiet (first
        | (go_at_call 77; refine Calls.quiet_of_same (in_no _ _ _ _ hc'))
        | (go_at_call 67; refine Calls.quiet_of_same (bit_yes _))
        | fail)
      go_wp2
      go_ret
      refine Tells.no (fun x => ?_) (HB.out _ _)
      unfold MOk at x
      omega
  · skip
    have hd : decide ((n : Int) = 0) = false := by simp; omega
    have hd2 : ((n : Int) == 0) = false := by simp; omega
    have hd3 : (n == 0) = false := by simp; omega
    have hd4 : decide (n = 0) = false := by simp; omega
    go_enter Try.func38, Try.ntmps38
    go_wp2
    go_quiet (first
      | fail)
    go_wp2
    go_ret
    refine Tells.no (fun x => ?_) (HB.out _ _)
    unfold MOk at x
    omega
end Go.Proofs.Ytkeojhnifnkpiaa

/- MsgOk of the model, kind 3. -/
namespace Go.Proofs.Ytkeojhnifnkpiaa
open Go.ChangeShapes Go.WideShapes Go.ChangeAt Go.RowKit
set_option linter.unusedVariables false
set_option linter.unusedSimpArgs false

set_option maxHeartbeats 4000000 in
theorem msgok3 (ao : Option Addr) (n cap : Nat) (f : Nat → Int) (c v h : Int) (w : World) (hn : n ≤ 1048576) (hcap : n ≤ cap) (hs : SL .i64 w ao n f) :
    Calls Try.prog 38 #[.agg #[.int .i64 3, .int .i64 c, .int .i64 v, .int .i64 h, .slice ao n cap]] w fun e w' => Tells w w' e (MOk 3 c v h f n) := by
  have HS : Hid (∀ o : Obj, SL .i64 (w.alloc o) ao n f) := fun o => hs.below ((Below.refl _ _).alloc (Nat.le_refl _) o)
  have HB : Hid (∀ (o : Obj) (q : Nat), Below w.heap.size w ((w.alloc o).drewN q)) := fun o q => Below.drawn ((Below.refl _ _).alloc (Nat.le_refl _) o) q
  have HB0 : Hid (∀ (o : Obj), Below w.heap.size w (w.alloc o)) := fun o => (Below.refl _ _).alloc (Nat.le_refl _) o
  clear hs
  by_cases hn0 : n = 0
  · skip
    subst hn0
    by_cases hc : 0 ≤ c ∧ c ≤ 7
    · skip
      by_cases hv : 1 ≤ v ∧ v ≤ 200
      · skip
        by_cases hh : 0 ≤ h ∧ h ≤ 2
        · skip
          have hyes : MOk 3 c v h f 0 := .inr ⟨by omega, by omega, by omega, by first | omega | (rw [if_pos (by omega)]; omega) | (rw [if_neg (by omega)]; omega), by omega⟩
          go_enter Try.func38, Try.ntmps38
          go_wp2
          go_quiet (first
            | (go_at_call 77; refine Calls.quiet_of_same (in_yes _ _ _ _ hc.1 hc.2))
            | (go_at_call 67; refine Calls.quiet_of_same (bit_no _))
            | (go_at_call 77; refine Calls.quiet_of_same (in_yes _ _ _ _ hv.1 hv.2))
            | (go_at_call 77; refine Calls.quiet_of_same (in_yes _ _ _ _ hh.1 hh.2))
            | fail)
          go_wp2
          go_ret
          exact Tells.yes hyes (HB.out _ _)
        · skip
          have hh' : h < 0 ∨ 2 < h := by omega
          have hd : decide (h = 0) = false := by simp; omega
          have hd2 : (h == 0) = false := by simp; omega
          go_enter Try.func38, Try.ntmps38
          go_wp2
          go_quiet (first
            | (go_at_call 77; refine Calls.quiet_of_same (in_yes _ _ _ _ hc.1 hc.2))
            | (go_at_call 67; refine Calls.quiet_of_same (bit_no _))
            | (go_at_call 77; refine Calls.quiet_of_same (in_yes _ _ _ _ hv.1 hv.2))
            | (go_at_call 77; refine Calls.quiet_of_same (in_no _ _ _ _ hh'))
            | fail)
          go_wp2
          go_ret
          refine Tells.no (fun x => ?_) (HB.out _ _)
          unfold MOk at x
          omega
      · skip
        have hv' : v < 1 ∨ 200 < v := by omega
        go_enter Try.func38, Try.ntmps38
        go_wp2
        go_quiet (first
          | (go_at_call 77; refine Calls.quiet_of_same (in_yes _ _ _ _ hc.1 hc.2))
          | (go_at_call 67; refine Calls.quiet_of_same (bit_no _))
          | (go_at_call 77; refine Calls.quiet_of_same (in_no _ _ _ _ hv'))
          | fail)
        go_wp2
        go_ret
        refine Tells.no (fun x => ?_) (HB.out _ _)
        unfold MOk at x
        omega
    · skip
      have hc' : c < 0 ∨ 7 < c := by omega
      go_enter Try.func38, Try.ntmps38
      go_wp2
      go_quiet (first
        | (go_at_call 77; refine Calls.quiet_of_same (in_no _ _ _ _ hc'))
        | (go_at_call 67; refine Calls.quiet_of_same (bit_no _))
        | fail)
      go_wp2
      go_ret
      refine Tells.no (fun x => ?_) (HB.out _ _)
      unfold MOk at x
      omega
  · skip
    have hd : decide ((n : Int) = 0) = false := by simp; omega
    have hd2 : ((n : Int) == 0) = false := by simp; omega
    have hd3 : (n == 0) = false := by simp; omega
    have hd4 : decide (n = 0) = false := by simp; omega
    go_enter Try.func38, Try.ntmps38
    go_wp2
    go_quiet (first
      | fail)
    go_wp2
    go_ret
    refine Tells.no (fun x => ?_) (HB.out _ _)
    unfold MOk at x
    omega
end Go.Proofs.Ytkeojhnifnkpiaa

/- MsgOk of the model, kind 4. -/
namespace Go.Proofs.Ytkeojhnifnkpiaa
open Go.ChangeShapes Go.WideShapes Go.ChangeAt Go.RowKit
set_option linter.unusedVariables false
set_option linter.unusedSimpArgs false

set_option maxHeartbeats 4000000 in
theorem msgok4 (ao : Option Addr) (n cap : Nat) (f : Nat → Int) (c v h : Int) (w : World) (hn : n ≤ 1048576) (hcap : n ≤ cap) (hs : SL .i64 w ao n f) :
    Calls Try.prog 38 #[.agg #[.int .i64 4, .int .i64 c, .int .i64 v, .int .i64 h, .slice ao n cap]] w fun e w' => Tells w w' e (MOk 4 c v h f n) := by
  have HS : Hid (∀ o : Obj, SL .i64 (w.alloc o) ao n f) := fun o => hs.below ((Below.refl _ _).alloc (Nat.le_refl _) o)
  have HB : Hid (∀ (o : Obj) (q : Nat), Below w.heap.size w ((w.alloc o).drewN q)) := fun o q => Below.drawn ((Below.refl _ _).alloc (Nat.le_refl _) o) q
  have HB0 : Hid (∀ (o : Obj), Below w.heap.size w (w.alloc o)) := fun o => (Below.refl _ _).alloc (Nat.le_refl _) o
  clear hs
  by_cases hn0 : n = 0
  · skip
    subst hn0
    by_cases hc : 0 ≤ c ∧ c ≤ 7
    · skip
      by_cases hv : 0 ≤ v ∧ v ≤ 200
      · skip
        by_cases hh : h = 0
        · skip
          subst hh
          have hyes : MOk 4 c v 0 f 0 := .inr ⟨by omega, by omega, by omega, by first | omega | (rw [if_pos (by omega)]; omega) | (rw [if_neg (by omega)]; omega), by omega⟩
          go_enter Try.func38, Try.ntmps38
          go_wp2
          go_quiet (first
            | (go_at_call 77; refine Calls.quiet_of_same (in_yes _ _ _ _ hc.1 hc.2))
            | (go_at_call 67; refine Calls.quiet_of_same (bit_yes _))
            | (go_at_call 77; refine Calls.quiet_of_same (in_yes _ _ _ _ hv.1 hv.2))
            | fail)
          go_wp2
          go_ret
          exact Tells.yes hyes (HB.out _ _)
        · skip
          have hd : decide (h = 0) = false := by simpa using hh
          have hd2 : (h == 0) = false := by simpa using hh
          go_enter Try.func38, Try.ntmps38
          go_wp2
          go_quiet (first
            | (go_at_call 77; refine Calls.quiet_of_same (in_yes _ _ _ _ hc.1 hc.2))
            | (go_at_call 67; refine Calls.quiet_of_same (bit_yes _))
            | (go_at_call 77; refine Calls.quiet_of_same (in_yes _ _ _ _ hv.1 hv.2))
            | fail)
          go_wp2
          go_ret
          refine Tells.no (fun x => ?_) (HB.out _ _)
          unfold MOk at x
          omega
      · skip
        have hv' : v < 0 ∨ 200 < v := by omega
        go_enter Try.func38, Try.ntmps38
        go_wp2
        go_quiet (first
          | (go_at_call 77; refine Calls.quiet_of_same (in_yes _ _ _ _ hc.1 hc.2))
          | (go_at_call 67; refine Calls.quiet_of_same (bit_yes _))
          | (go_at_call 77; refine Calls.quiet_of_same (in_no _ _ _ _ hv'))
          | fail)
        go_wp2
        go_ret
        refine Tells.no (fun x => ?_) (HB.out _ _)
        unfold MOk at x
        omega
    · skip
      have hc' : c < 0 ∨ 7 < c := by omega
      go_enter Try.func38, Try.ntmps38
      go_wp2
      go_quiet (first
        | (go_at_call 77; refine Calls.quiet_of_same (in_no _ _ _ _ hc'))
        | (go_at_call 67; refine Calls.quiet_of_same (bit_yes _))
        | fail)
      go_wp2
      go_ret
      refine Tells.no (fun x => ?_) (HB.out _ _)
      unfold MOk at x
      omega
  · skip
    have hd : decide ((n : Int) = 0) = false := by simp; omega
    have hd2 : ((n : Int) == 0) = false := by simp; omega
    have hd3 : (n == 0) = false := by simp; omega
    have hd4 : decide (n = 0) = false := by simp; omega
    go_enter Try.func38, Try.ntmps38
    go_wp2
    go_quiet (first
      | fail)
    go_wp2
    go_ret
    refine Tells.no (fun x => ?_) (HB.out _ _)
    unfold MOk at x
    omega
end Go.Proofs.Ytkeojhnifnkpiaa

/- MsgOk of the model. -/
namespace Go.Proofs.Ytkeojhnifnkpiaa
open Go.ChangeShapes Go.WideShapes Go.ChangeAt Go.RowKit
set_option linter.unusedVariables false
set_option linter.unusedSimpArgs false

theorem msgok_spec (ao : Option Addr) (n cap : Nat) (f : Nat → Int) (k c v h : Int) (w : World) (hn : n ≤ 1048576) (hcap : n ≤ cap) (hs : SL .i64 w ao n f) :
    Calls Try.prog 38 #[.agg #[.int .i64 k, .int .i64 c, .int .i64 v, .int .i64 h, .slice ao n cap]] w fun e w' => Tells w w' e (MOk k c v h f n) := by
  by_cases h5 : k = 5
  · subst h5; exact msgok5 ao n cap f c v h w hn hcap hs
  · by_cases h1 : k = 1
    · subst h1; exact msgok1 ao n cap f c v h w hn hcap hs
    · by_cases h2 : k = 2
      · subst h2; exact msgok2 ao n cap f c v h w hn hcap hs
      · by_cases h3 : k = 3
        · subst h3; exact msgok3 ao n cap f c v h w hn hcap hs
        · by_cases h4 : k = 4
          · subst h4; exact msgok4 ao n cap f c v h w hn hcap hs
          · exact msgok0 ao n cap f k c v h w hn hcap hs h5 h1 h2 h3 h4
end Go.Proofs.Ytkeojhnifnkpiaa

/- MsgOk of the program: its parts. -/
namespace Go.Proofs.Ytkeojhnifnkpiaa
open Go.ChangeShapes Go.WideShapes Go.ChangeAt Go.RowKit
set_option linter.unusedVariables false
set_option linter.unusedSimpArgs false

theorem nocell_any (x : Int) (w : World) : Calls Try.prog 139 #[.int .i64 x] w fun e w' => e = .returned (.bool (decide (x < 0 ∨ 8 ≤ x))) ∧ w' = w := by
  by_cases h0 : x < 0
  · go_enter Try.func139, Try.ntmps139
    go_wp2
    go_ret
    exact ⟨by simp [h0], rfl⟩
  · go_enter Try.func139, Try.ntmps139
    go_wp2
    go_ret
    exact ⟨by simp [Int.not_lt.2 h0], rfl⟩
theorem nowrite_any (x : Int) (w : World) : Calls Try.prog 74 #[.int .i64 x] w fun e w' => e = .returned (.bool (decide (x < 0 ∨ 200 < x))) ∧ w' = w := by
  by_cases h0 : x < 0
  · go_enter Try.func74, Try.ntmps74
    go_wp2
    go_ret
    exact ⟨by simp [h0], rfl⟩
  · go_enter Try.func74, Try.ntmps74
    go_wp2
    go_ret
    exact ⟨by simp [Int.not_lt.2 h0], rfl⟩
theorem nonode_any (x : Int) (w : World) : Calls Try.prog 168 #[.int .i64 x] w fun e w' => e = .returned (.bool (decide (x < 0 ∨ 3 ≤ x))) ∧ w' = w := by
  by_cases h0 : x < 0
  · go_enter Try.func168, Try.ntmps168
    go_wp2
    go_ret
    exact ⟨by simp [h0], rfl⟩
  · go_enter Try.func168, Try.ntmps168
    go_wp2
    go_ret
    exact ⟨by simp [Int.not_lt.2 h0], rfl⟩
theorem nogen_any (x : Int) (w : World) : Calls Try.prog 122 #[.int .i64 x] w fun e w' => e = .returned (.bool (decide (x < 1 ∨ 100000 < x))) ∧ w' = w := by
  by_cases h0 : x < 1
  · go_enter Try.func122, Try.ntmps122
    go_wp2
    go_ret
    exact ⟨by simp [h0], rfl⟩
  · go_enter Try.func122, Try.ntmps122
    go_wp2
    go_ret
    exact ⟨by simp [Int.not_lt.2 h0], rfl⟩
end Go.Proofs.Ytkeojhnifnkpiaa

/- Marks, beside messages: MarksOk of the program and of its model. -/
namespace Go.Proofs.Ytkeojhnifnkpiaa
open Go.ChangeShapes Go.WideShapes Go.ChangeAt Go.RowKit
set_option linter.unusedVariables false
set_option linter.unusedSimpArgs false

theorem asc_any (ao : Option Addr) (n cap : Nat) (f : Nat → Int) (w : World) (hn : n ≤ 1048576) (hs : SL .i64 w ao n f) :
    Calls Try.prog 137 #[.slice ao n cap] w fun e w' => (∃ b : Bool, e = .returned (.bool b) ∧ (b = true ↔ ∀ i, 1 ≤ i → i < n → f (i - 1) < f i)) ∧ ∃ q, w' = w.drewN q := by
  go_enter Try.func137, Try.ntmps137
  go_wp2
  go_loopw [3] (fun i wr => ∃ k : Nat, 1 ≤ k ∧ k ≤ n + 1 ∧ i = .int .i64 k ∧ Hid (∀ j, 1 ≤ j → j < k → f (j - 1) < f j) ∧ ∃ q, wr = w.drewN q) (fun i _ => n + 1 - (intOf i).toNat)
  case atStart => exact ⟨1, Nat.le_refl _, by omega, rfl, (fun j h1 h2 => absurd h2 (by omega)), 0, rfl⟩
  case round =>
    obtain ⟨k, h1k, hk, rfl, A, q, rfl⟩ := hrel
    by_cases hlt : k < n
    · obtain ⟨b, off, e1, hb, hc⟩ := hs k hlt
      obtain ⟨b', off', e2, hb', hc'⟩ := hs (k - 1) (by omega)
      subst e1
      simp only [Option.some.injEq, Addr.mk.injEq] at e2
      obtain ⟨rfl, rfl, _⟩ := e2
      obtain ⟨k, rfl⟩ : ∃ k', k = k' + 1 := ⟨k - 1, by omega⟩
      rw [show k + 1 - 1 = k by omega] at hc'
      have hsub : ((k + 1 : Nat) : Int) - 1 = (k : Int) := by omega
      clear hs
      generalize hy : f (k + 1) = y at *
      generalize hx : f k = x at *
      have B : Hid (f (k + 1) = y ∧ f k = x) := ⟨hy, hx⟩
      clear hy hx
      by_cases hle : y ≤ x
      · have hd : decide (y ≤ x) = true := by simpa using hle
        go_wp2
        go_quiet (fail)
        go_wp2
        go_ret
        refine ⟨⟨_, rfl, ?_⟩, _, World.drewN_drewN ..⟩
        constructor
        · intro h; cases h
        · intro h
          have := h (k + 1) (by omega) hlt
          rw [show k + 1 - 1 = k by omega, B.out.1, B.out.2] at this
          omega
      · have hd : decide (y ≤ x) = false := by simpa using hle
        go_wp2
        go_quiet (fail)
        go_wp2
        go_roundw
        case rel =>
          refine ⟨k + 1 + 1, by omega, by omega, by go_num, fun j h1 h2 => ?_, _, rfl⟩
          by_cases e : j = k + 1
          · subst e; rw [show k + 1 - 1 = k by omega, B.out.1, B.out.2]; omega
          · exact A.out j h1 (by omega)
        case measure => simp [intOf]; omega
    · go_wp2
      go_ret
      exact ⟨⟨_, rfl, ⟨fun _ i h1 h2 => A.out i h1 (by omega), fun _ => rfl⟩⟩, q, rfl⟩

/-- Ascending, each once, in 0 .. 7. -/
def KIn (f : Nat → Int) (n : Nat) : Prop := (∀ i, i < n → 0 ≤ f i ∧ f i ≤ 7) ∧ ∀ i, 1 ≤ i → i < n → f (i - 1) < f i

theorem marksok_spec (ao : Option Addr) (n cap : Nat) (f : Nat → Int) (w : World) (hn : n ≤ 1048576) (hs : SL .i64 w ao n f) :
    Calls Try.prog 75 #[.slice ao n cap] w fun e w' => (∃ b : Bool, e = .returned (.bool b) ∧ (b = true ↔ KIn f n)) ∧ ∃ q, w' = w.drewN q := by
  go_enter Try.func75, Try.ntmps75
  go_wp2
  go_loopw [3] (fun i wr => ∃ k : Nat, k ≤ n ∧ i = .int .i64 k ∧ Hid (KIn f k) ∧ ∃ q, wr = w.drewN q) (fun i _ => n - (intOf i).toNat)
  case atStart => exact ⟨0, by omega, rfl, ⟨fun i hi => absurd hi (by omega), fun i h1 h2 => absurd h2 (by omega)⟩, 0, rfl⟩
  case round =>
    obtain ⟨k, hk, rfl, A, q, rfl⟩ := hrel
    by_cases hlt : k < n
    · obtain ⟨b, off, e1, hb, hc⟩ := hs k hlt
      by_cases hin : 0 ≤ f k ∧ f k ≤ 7
      · by_cases hk0 : k = 0
        · subst hk0
          obtain ⟨hin0, hin1⟩ := hin
          subst e1
          rw [Nat.add_zero] at hc
          have hd : decide ((0 : Int) < ((0 : Nat) : Int)) = false := by simp
          clear hs
          generalize hy : f 0 = y at *
          have B : Hid (f 0 = y) := hy
          clear hy
          go_wp2
          go_quiet (first | (go_at_call 77; refine quiet_q (in_yes _ _ _ _ hin0 hin1)))
          go_wp2
          go_roundw
          case rel =>
            refine ⟨1, by omega, by go_num, ⟨fun i hi => ?_, fun i h1 h2 => absurd h2 (by omega)⟩, _, rfl⟩
            obtain rfl : i = 0 := by omega
            rw [B.out]; omega
          case measure => simp [intOf]; omega
        · obtain ⟨b', off', e2, hb', hc'⟩ := hs (k - 1) (by omega)
          subst e1
          simp only [Option.some.injEq, Addr.mk.injEq] at e2
          obtain ⟨rfl, rfl, _⟩ := e2
          obtain ⟨k, rfl⟩ : ∃ k', k = k' + 1 := ⟨k - 1, by omega⟩
          rw [show k + 1 - 1 = k by omega] at hc'
          obtain ⟨hin0, hin1⟩ := hin
          have hpos : decide ((0 : Int) < ((k + 1 : Nat) : Int)) = true := by simp
          clear hs hk0
          generalize hy : f (k + 1) = y at *
          generalize hx : f k = x at *
          have B : Hid (f (k + 1) = y ∧ f k = x) := ⟨hy, hx⟩
          clear hy hx
          by_cases hle : y ≤ x
          · have hd : decide (y ≤ x) = true := by simpa using hle
            go_wp2
            go_quiet (first | (go_at_call 77; refine quiet_q (in_yes _ _ _ _ hin0 hin1)))
            go_wp2
            go_ret
            refine ⟨⟨_, rfl, ?_⟩, _, World.drewN_drewN ..⟩
            constructor
            · intro h; cases h
            · intro h
              have := h.2 (k + 1) (by omega) hlt
              rw [show k + 1 - 1 = k by omega, B.out.1, B.out.2] at this
              omega
          · have hd : decide (y ≤ x) = false := by simpa using hle
            go_wp2
            go_quiet (first | (go_at_call 77; refine quiet_q (in_yes _ _ _ _ hin0 hin1)))
            go_wp2
            go_roundw
            case rel =>
              refine ⟨k + 1 + 1, by omega, by go_num, ⟨fun i hi => ?_, fun j h1 h2 => ?_⟩, _, rfl⟩
              · by_cases e : i = k + 1
                · subst e; rw [B.out.1]; omega
                · exact A.out.1 i (by omega)
              · by_cases e : j = k + 1
                · subst e; rw [show k + 1 - 1 = k by omega, B.out.1, B.out.2]; omega
                · exact A.out.2 j h1 (by omega)
            case measure => simp [intOf]; omega
      · have hno : f k < 0 ∨ 7 < f k := by omega
        subst e1
        clear hs
        go_wp2
        go_quiet (first | (go_at_call 77; refine quiet_q (in_no _ _ _ _ hno)))
        go_wp2
        go_ret
        refine ⟨⟨_, rfl, ?_⟩, _, World.drewN_drewN ..⟩
        constructor
        · intro h; cases h
        · intro h; exact absurd (h.1 k hlt) hin
    · have hkn : k = n := by omega
      subst hkn
      go_wp2
      go_ret
      exact ⟨⟨_, rfl, ⟨fun _ => A.out, fun _ => rfl⟩⟩, q, rfl⟩

theorem marksok_impl (ao : Option Addr) (n cap : Nat) (f : Nat → Int) (w : World) (hn : n ≤ 1048576) (hs : SL .i64 w ao n f) :
    Calls Try.prog 124 #[.slice ao n cap] w fun e w' => (∃ b : Bool, e = .returned (.bool b) ∧ (b = true ↔ KIn f n)) ∧ ∃ q, w' = w.drewN q := by
  have h1 := asc_any ao n cap f w hn hs
  have h2 : Hid (∀ q, Calls Try.prog 138 #[.slice ao n cap, .func (.func 139) #[] #[]] (w.drewN q) fun e w' => (∃ b : Bool, e = .returned (.bool b) ∧ (b = true ↔ ∃ i, i < n ∧ decide (f i < 0 ∨ 8 ≤ f i) = true)) ∧ w' = w.drewN q) :=
    fun q => cf_any 139 #[] (fun x => decide (x < 0 ∨ 8 ≤ x)) ao n cap f (w.drewN q) (enters_of Try.func139 (by kernel_rfl) rfl) (fun x => nocell_any x _) hn hs
  clear hs
  go_enter Try.func124, Try.ntmps124
  go_wp2_with fail
  refine h1.mono ?_
  rintro e w1 ⟨⟨b, rfl, hb0⟩, q, rfl⟩
  have hb : Hid (b = true ↔ ∀ i, 1 ≤ i → i < n → f (i - 1) < f i) := hb0
  clear hb0 h1
  cases b with
  | false =>
    go_wp2
    go_ret
    refine ⟨⟨_, rfl, ?_⟩, q, rfl⟩
    constructor
    · intro h; cases h
    · intro h; exact hb.out.2 h.2
  | true =>
    go_wp2_with fail
    refine (h2.out q).mono ?_
    rintro e w2 ⟨⟨c, rfl, hc⟩, rfl⟩
    go_wp2
    go_ret
    refine ⟨⟨_, rfl, ?_⟩, q, rfl⟩
    cases c with
    | true =>
      obtain ⟨i, hi, hx⟩ := hc.1 rfl
      constructor
      · intro h; cases h
      · intro h
        have := h.1 i hi
        simp at hx
        omega
    | false =>
      refine ⟨fun _ => ⟨fun i hi => ?_, hb.out.1 trivial⟩, fun _ => rfl⟩
      have hx : ¬ (decide (f i < 0 ∨ 8 ≤ f i) = true) := fun hx => by have := hc.2 ⟨i, hi, hx⟩; cases this
      simp at hx
      omega

/-- Of a list. -/
def KOk (l : List Int) : Prop := KIn (fun i => l.getD i 0) l.length
theorem marks_spec (ro : Option Addr) (rc : Nat) (l : List Int) (w : World) (hl : l.length ≤ 1048576) (hs : SL .i64 w ro l.length (fun i => l.getD i 0)) :
    Calls Try.prog 75 #[.slice ro l.length rc] w fun e w' => ((KOk l ∧ e = .returned (.bool true)) ∨ (¬ KOk l ∧ e = .returned (.bool false))) ∧ ∃ q, w' = w.drewN q := by
  refine (marksok_spec ro l.length rc (fun i => l.getD i 0) w hl hs).mono ?_
  rintro e w' ⟨⟨b, rfl, hb⟩, hq⟩
  refine ⟨?_, hq⟩
  cases b with
  | true => exact .inl ⟨hb.1 rfl, rfl⟩
  | false => exact .inr ⟨(fun h => by have := hb.2 h; cases this), rfl⟩
theorem marks_impl (ro : Option Addr) (rc : Nat) (l : List Int) (w : World) (hl : l.length ≤ 1048576) (hs : SL .i64 w ro l.length (fun i => l.getD i 0)) :
    Calls Try.prog 124 #[.slice ro l.length rc] w fun e w' => ((KOk l ∧ e = .returned (.bool true)) ∨ (¬ KOk l ∧ e = .returned (.bool false))) ∧ ∃ q, w' = w.drewN q := by
  refine (marksok_impl ro l.length rc (fun i => l.getD i 0) w hl hs).mono ?_
  rintro e w' ⟨⟨b, rfl, hb⟩, hq⟩
  refine ⟨?_, hq⟩
  cases b with
  | true => exact .inl ⟨hb.1 rfl, rfl⟩
  | false => exact .inr ⟨(fun h => by have := hb.2 h; cases this), rfl⟩
end Go.Proofs.Ytkeojhnifnkpiaa

/- (Beside the bytes' own.) Slices of ints as the laws hand them on: toIntS copies its argument into memory of its own, eqIntS tells whether two are alike. -/
namespace Go.Proofs.Ytkeojhnifnkpiaa
open Go.ChangeShapes Go.WideShapes Go.ChangeAt Go.RowKit
set_option linter.unusedVariables false
set_option linter.unusedSimpArgs false

theorem Try.info3 : (Try.prog.info? 3).map (fun i => (i.zero, i.size, i.bytes)) = some (some (.int .i64 0), 1, 8) := by kernel_rfl

theorem ito_step {wr : World} {g n k : Nat} {t : TypeId} {f : Nat → Int} (h : wr.rowIs g t n (fun j => if j < k then .int .i64 (f j) else .int .i64 0)) :
    (wr.setCell ⟨g, k, none⟩ (.int .i64 (f k))).rowIs g t n (fun j => if j < k + 1 then .int .i64 (f j) else .int .i64 0) := by
  refine (h.set k (.int .i64 (f k))).congr fun j hj => ?_
  by_cases e : j = k
  · subst e; simp
  · simp only [if_neg e]
    by_cases e2 : j < k
    · rw [if_pos e2, if_pos (by omega)]
    · rw [if_neg e2, if_neg (by omega)]

theorem ito_any (ao : Option Addr) (n cap : Nat) (f : Nat → Int) (w : World) (hn : n ≤ 1048576) (hs : SL .i64 w ao n f) :
    Calls Try.prog 103 #[.slice ao n cap] w fun e w' => e = .returned (.slice (some ⟨w.heap.size, 0, none⟩) n n) ∧ w'.rowIs w.heap.size 3 n (fun i => .int .i64 (f i)) ∧ Below w.heap.size w w' := by
  have hmk := run_make_row' (P := Try.prog) 24 3 (.int .i64 0) 8 Try.underlying24 Try.info3 rfl .i64 .i64 n (by omega) (by omega)
  go_enter Try.func103, Try.ntmps103
  go_wp2
  go_loopw [4] (fun i wr => ∃ k : Nat, k ≤ n ∧ i = .int .i64 k ∧ wr.rowIs w.heap.size 3 n (fun j => if j < k then .int .i64 (f j) else .int .i64 0) ∧ Below w.heap.size w wr) (fun i _ => n - (intOf i).toNat)
  case atStart => exact ⟨0, Nat.zero_le _, rfl, (World.rowIs_made _ _ _ _).congr (by intro i _; simp), (Below.refl _ _).alloc (Nat.le_refl _) _⟩
  case round =>
    obtain ⟨k, hk, rfl, hrow, hbel⟩ := hrel
    clear hmk
    by_cases hlt : k < n
    · obtain ⟨b, off, rfl, hb, hc⟩ := hs k hlt
      have hc' := (hbel.cell (p := ⟨b, off + k, none⟩) hb).trans hc
      have hf := hrow.frozen k
      have hcell := hrow.cell hlt
      have R := ito_step (f := f) hrow
      have R2 := hbel.setCell (p := ⟨w.heap.size, k, none⟩) (Nat.le_refl _) (.int .i64 (f k))
      clear hc hs hrow
      go_wp2
      go_roundw
      case rel => exact ⟨k + 1, by omega, by go_num, R, R2⟩
      case measure => simp [intOf]; omega
    · have hkn : n = k := by omega
      go_wp2
      go_ret
      exact ⟨rfl, hrow.congr (by intro i hi; rw [if_pos (by omega)]), hbel⟩

theorem ieq_yes (ao bo : Option Addr) (n ca cb : Nat) (f g : Nat → Int) (w : World) (hn : n ≤ 1048576) (hA : SL .i64 w ao n f) (hB : SL .i64 w bo n g) (he : ∀ i, i < n → f i = g i) :
    Calls Try.prog 105 #[.slice ao n ca, .slice bo n cb] w fun e w' => e = .returned (.bool true) ∧ ∃ q, w' = w.drewN q := by
  go_enter Try.func105, Try.ntmps105
  go_wp2
  go_loopw [5] (fun i wr => ∃ k : Nat, k ≤ n ∧ i = .int .i64 k ∧ ∃ q, wr = w.drewN q) (fun i _ => n - (intOf i).toNat)
  case atStart => exact ⟨0, Nat.zero_le _, rfl, 0, rfl⟩
  case round =>
    obtain ⟨k, hk, rfl, q, rfl⟩ := hrel
    by_cases hlt : k < n
    · obtain ⟨b, off, rfl, hb, hc⟩ := hA k hlt
      obtain ⟨b', off', rfl, hb', hc'⟩ := hB k hlt
      rw [← he k hlt] at hc'
      clear hA hB he
      go_wp2
      go_quiet (fail)
      go_wp2
      go_roundw
      case rel => exact ⟨k + 1, by omega, by go_num, _, rfl⟩
      case measure => simp [intOf]; omega
    · go_wp2
      go_ret
      exact ⟨rfl, q, rfl⟩

end Go.Proofs.Ytkeojhnifnkpiaa

/- markByteS writes a running number into memory that was handed back, heldByteS finds it there. -/
namespace Go.Proofs.Ytkeojhnifnkpiaa
open Go.ChangeShapes Go.WideShapes Go.ChangeAt Go.RowKit
set_option linter.unusedVariables false
set_option linter.unusedSimpArgs false

theorem mark_step {wr : World} {B g n k : Nat} {k0 : Int} {t : TypeId} {F : Nat → Value} (h : Own wr B t (some ⟨g, 0, none⟩) n (fun j => if j < k then .int .u8 ((k0 + j) % 256) else F j)) :
    Own (wr.setCell ⟨g, k, none⟩ (.int .u8 ((k0 + k) % 256))) B t (some ⟨g, 0, none⟩) n (fun j => if j < k + 1 then .int .u8 ((k0 + j) % 256) else F j) := by
  refine (h.set k _).congr fun j hj => ?_
  by_cases e : j = k
  · subst e; simp
  · simp only [if_neg e]
    by_cases e2 : j < k
    · rw [if_pos e2, if_pos (by omega)]
    · rw [if_neg e2, if_neg (by omega)]

theorem mark_any (ao : Option Addr) (n cap B : Nat) (k0 : Int) (F : Nat → Value) (w : World) (hn : n ≤ 1048576) (h0 : 0 ≤ k0) (h1 : k0 ≤ 1099511627776) (ho : Own w B 5 ao n F) :
    Calls Try.prog 47 #[.slice ao n cap, .int .i64 k0] w fun e w' => e = .returned (.int .i64 (k0 + n)) ∧ Own w' B 5 ao n (fun j => .int .u8 ((k0 + j) % 256)) ∧ Below B w w' := by
  go_enter Try.func47, Try.ntmps47
  go_wp2
  go_loopw [1, 5] (fun m i wr => ∃ k : Nat, k ≤ n ∧ i = .int .i64 k ∧ m = .int .i64 (k0 + k) ∧ Own wr B 5 ao n (fun j => if j < k then .int .u8 ((k0 + j) % 256) else F j) ∧ Below B w wr) (fun _ i _ => n - (intOf i).toNat)
  case atStart => exact ⟨0, Nat.zero_le _, rfl, by simp, ho.congr (by intro i _; simp), Below.refl _ _⟩
  case round =>
    obtain ⟨k, hk, rfl, rfl, hrow, hbel⟩ := hrel
    by_cases hlt : k < n
    · obtain ⟨g, rfl, hB, hg, hc, hf⟩ := hrow.at hlt
      have R := mark_step hrow
      have R2 := hbel.setCell (p := ⟨g, k, none⟩) hB (.int .u8 ((k0 + k) % 256))
      clear hrow ho
      go_wp2
      go_roundw
      case rel => exact ⟨k + 1, by omega, by go_num, by go_num, R, R2⟩
      case measure => simp [intOf]; omega
    · have hkn : k = n := by omega
      subst hkn
      go_wp2
      go_ret
      exact ⟨rfl, hrow.congr (by intro i hi; rw [if_pos (by omega)]), hbel⟩

theorem held_any (ao : Option Addr) (n cap : Nat) (k0 : Int) (w : World) (hn : n ≤ 1048576) (h0 : 0 ≤ k0) (h1 : k0 ≤ 1099511627776) (hs : SL .u8 w ao n (fun j => (k0 + j) % 256)) :
    Calls Try.prog 48 #[.slice ao n cap, .int .i64 k0] w fun e w' => e = .returned (.int .i64 (k0 + n)) ∧ w' = w := by
  go_enter Try.func48, Try.ntmps48
  go_wp2
  go_loop [1, 5] (fun m i => ∃ k : Nat, k ≤ n ∧ i = .int .i64 k ∧ m = .int .i64 (k0 + k)) (fun _ i => n - (intOf i).toNat)
  case atStart => exact ⟨0, Nat.zero_le _, rfl, by simp⟩
  case round =>
    obtain ⟨k, hk, rfl, rfl⟩ := hrel
    by_cases hlt : k < n
    · obtain ⟨b, off, rfl, hb, hc⟩ := hs k hlt
      clear hs
      go_wp2
      go_round
      case rel => exact ⟨k + 1, by omega, by go_num, by go_num⟩
      case measure => simp [intOf]; omega
    · have hkn : k = n := by omega
      subst hkn
      go_wp2
      go_ret
      exact ⟨rfl, rfl⟩

/-- Block g alone was written. -/
def Only (g : Nat) (w w' : World) : Prop := Below g w w' ∧ w'.heap.size = w.heap.size ∧ ∀ j, j ≠ g → w'.heap[j]? = w.heap[j]?

theorem Only.refl (g : Nat) (w : World) : Only g w w := ⟨Below.refl _ _, rfl, fun _ _ => rfl⟩
theorem Only.setCell {g i : Nat} {w w' : World} (h : Only g w w') (v : Value) : Only g w (w'.setCell ⟨g, i, none⟩ v) :=
  ⟨h.1.setCell (p := ⟨g, i, none⟩) (Nat.le_refl _) v, by simpa [World.setCell] using h.2.1, fun j hj => by rw [← h.2.2 j hj]; simp [World.setCell, Array.getElem?_modify]; intro e; exact absurd e.symm hj⟩
theorem Only.row {g g' n : Nat} {w w' : World} {t : TypeId} {F : Nat → Value} (h : Only g w w') (hne : g' ≠ g) (r : w.rowIs g' t n F) : w'.rowIs g' t n F := r.of_block (h.2.2 g' hne)
theorem Only.own {g n B : Nat} {w w' : World} {t : TypeId} {ao : Option Addr} {F : Nat → Value} (h : Only g w w') (r : Own w B t ao n F) (hB : g < B) : Own w' B t ao n F := by
  rcases r with r | ⟨g', ea, hB', c, hc, hs, hF⟩
  · exact .inl r
  · exact .inr ⟨g', ea, hB', c, (h.2.2 g' (by omega)).trans hc, hs, hF⟩
/-- .. of memory that lay ahead of the block. -/
theorem Only.own' {g n B : Nat} {w w' : World} {t : TypeId} {ao : Option Addr} {F : Nat → Value} (h : Only g w w') (r : Own w B t ao n F) (hB : ∀ g', ao = some ⟨g', 0, none⟩ → g' ≠ g) : Own w' B t ao n F := by
  rcases r with r | ⟨g', ea, hB', c, hc, hs, hF⟩
  · exact .inl r
  · exact .inr ⟨g', ea, hB', c, (h.2.2 g' (hB g' ea)).trans hc, hs, hF⟩

theorem mark_row_step {wr : World} {g n k : Nat} {k0 : Int} {t : TypeId} {F : Nat → Value} (h : wr.rowIs g t n (fun j => if j < k then .int .u8 ((k0 + j) % 256) else F j)) :
    (wr.setCell ⟨g, k, none⟩ (.int .u8 ((k0 + k) % 256))).rowIs g t n (fun j => if j < k + 1 then .int .u8 ((k0 + j) % 256) else F j) := by
  refine (h.set k _).congr fun j hj => ?_
  by_cases e : j = k
  · subst e; simp
  · simp only [if_neg e]
    by_cases e2 : j < k
    · rw [if_pos e2, if_pos (by omega)]
    · rw [if_neg e2, if_neg (by omega)]

theorem mark_row (g n cap : Nat) (k0 : Int) (F : Nat → Value) (w : World) (hn : n ≤ 1048576) (h0 : 0 ≤ k0) (h1 : k0 ≤ 1099511627776) (ho : w.rowIs g 5 n F) :
    Calls Try.prog 47 #[.slice (some ⟨g, 0, none⟩) n cap, .int .i64 k0] w fun e w' => e = .returned (.int .i64 (k0 + n)) ∧ w'.rowIs g 5 n (fun j => .int .u8 ((k0 + j) % 256)) ∧ Only g w w' := by
  go_enter Try.func47, Try.ntmps47
  go_wp2
  go_loopw [1, 5] (fun m i wr => ∃ k : Nat, k ≤ n ∧ i = .int .i64 k ∧ m = .int .i64 (k0 + k) ∧ wr.rowIs g 5 n (fun j => if j < k then .int .u8 ((k0 + j) % 256) else F j) ∧ Only g w wr) (fun _ i _ => n - (intOf i).toNat)
  case atStart => exact ⟨0, Nat.zero_le _, rfl, by simp, ho.congr (by intro i _; simp), Only.refl _ _⟩
  case round =>
    obtain ⟨k, hk, rfl, rfl, hrow, hbel⟩ := hrel
    by_cases hlt : k < n
    · have hf := hrow.frozen k
      have hc := hrow.cell hlt
      have R := mark_row_step hrow
      have R2 := hbel.setCell (i := k) (.int .u8 ((k0 + k) % 256))
      clear hrow ho
      go_wp2
      go_roundw
      case rel => exact ⟨k + 1, by omega, by go_num, by go_num, R, R2⟩
      case measure => simp [intOf]; omega
    · have hkn : k = n := by omega
      subst hkn
      go_wp2
      go_ret
      exact ⟨rfl, hrow.congr (by intro i hi; rw [if_pos (by omega)]), hbel⟩
end Go.Proofs.Ytkeojhnifnkpiaa

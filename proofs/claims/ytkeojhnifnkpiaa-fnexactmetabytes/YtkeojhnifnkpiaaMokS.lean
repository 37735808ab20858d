/- MsgOk of the model. -/
import Derived.Test.YtkeojhnifnkpiaaGenS
namespace Go.Proofs.Ytkeojhnifnkpiaa
open Go.ChangeShapes Go.WideShapes Go.ChangeAt Go.RowKit
set_option linter.unusedVariables false
set_option linter.unusedSimpArgs false

theorem gens_yes (ao : Option Addr) (n cap : Nat) (f : Nat → Int) (w : World) (hn : n ≤ 1048576) (hcap : n ≤ cap) (hs : SL .i64 w ao n f) (h : GOk f n) :
    Calls Try.prog 76 #[.slice ao n cap] w fun e w' => e = .returned (.bool true) ∧ ∃ q, w' = w.drewN q :=
  (gens_any ao n cap f w hn hcap hs).mono fun _ _ ⟨h1, h2⟩ => ⟨h1.elim (·.2) (fun x => absurd h x.1), h2⟩
theorem gens_no (ao : Option Addr) (n cap : Nat) (f : Nat → Int) (w : World) (hn : n ≤ 1048576) (hcap : n ≤ cap) (hs : SL .i64 w ao n f) (h : ¬ GOk f n) :
    Calls Try.prog 76 #[.slice ao n cap] w fun e w' => e = .returned (.bool false) ∧ ∃ q, w' = w.drewN q :=
  (gens_any ao n cap f w hn hcap hs).mono fun _ _ ⟨h1, h2⟩ => ⟨h1.elim (fun x => absurd x.1 h) (·.2), h2⟩

theorem bit_yes (w : World) : Calls Try.prog 67 #[.bool true] w fun e w' => e = .returned (.int .i64 1) ∧ w' = w := by
  go_enter Try.func67, Try.ntmps67
  go_wp2
  go_ret
  exact ⟨rfl, rfl⟩
theorem bit_no (w : World) : Calls Try.prog 67 #[.bool false] w fun e w' => e = .returned (.int .i64 0) ∧ w' = w := by
  go_enter Try.func67, Try.ntmps67
  go_wp2
  go_ret
  exact ⟨rfl, rfl⟩

/-- A message that is one: its kind, cell, write, node, and its generations. -/
def MOk (k c v h : Int) (f : Nat → Int) (n : Nat) : Prop :=
  (k = 5 ∧ GOk f n ∧ (0 ≤ v ∧ v ≤ 200) ∧ c = 0 ∧ h = 0) ∨
  ((k = 1 ∨ k = 2 ∨ k = 3 ∨ k = 4) ∧ n = 0 ∧ (0 ≤ c ∧ c ≤ 7) ∧ ((if k = 4 ∨ k = 2 then 0 else 1) ≤ v ∧ v ≤ 200) ∧ ((k = 3 ∧ 0 ≤ h ∧ h ≤ 2) ∨ h = 0))

/-- What tells whether it is one. -/
def Tells (w w' : World) (e : Ending) (p : Prop) : Prop := ((p ∧ e = .returned (.bool true)) ∨ (¬ p ∧ e = .returned (.bool false))) ∧ Below w.heap.size w w'
theorem Tells.yes {w w' : World} {p : Prop} (h : p) (hb : Below w.heap.size w w') : Tells w w' (.returned (.bool true)) p := ⟨.inl ⟨h, rfl⟩, hb⟩
theorem Tells.no {w w' : World} {p : Prop} (h : ¬ p) (hb : Below w.heap.size w w') : Tells w w' (.returned (.bool false)) p := ⟨.inr ⟨h, rfl⟩, hb⟩

set_option maxHeartbeats 4000000 in
theorem msgok5 (ao : Option Addr) (n cap : Nat) (f : Nat → Int) (c v h : Int) (w : World) (hn : n ≤ 1048576) (hcap : n ≤ cap) (hs : SL .i64 w ao n f) :
    Calls Try.prog 38 #[.agg #[.int .i64 5, .int .i64 c, .int .i64 v, .int .i64 h, .slice ao n cap]] w fun e w' => Tells w w' e (MOk 5 c v h f n) := by
  have HS : Hid (∀ o : Obj, SL .i64 (w.alloc o) ao n f) := fun o => hs.below ((Below.refl _ _).alloc (Nat.le_refl _) o)
  have HB : Hid (∀ (o : Obj) (q : Nat), Below w.heap.size w ((w.alloc o).drewN q)) := fun o q => Below.drawn ((Below.refl _ _).alloc (Nat.le_refl _) o) q
  have HB0 : Hid (∀ (o : Obj), Below w.heap.size w (w.alloc o)) := fun o => (Below.refl _ _).alloc (Nat.le_refl _) o
  clear hs
  by_cases hg : GOk f n
  · skip
    by_cases hv : 0 ≤ v ∧ v ≤ 200
    · skip
      by_cases hc : c = 0
      · skip
        subst hc
        by_cases hh : h = 0
        · skip
          subst hh
          go_enter Try.func38, Try.ntmps38
          go_wp2_with (first
            | (go_at_call 76; refine (gens_yes ao n cap f _ hn hcap (HS.out _) hg).mono ?_; rintro e9 w9 ⟨rfl, q9, hw9⟩; rw [hw9]; clear hw9)
            | (go_at_call 77; refine (in_yes _ _ _ _ hv.1 hv.2).mono ?_; rintro e9 w9 ⟨rfl, hw9⟩; rw [hw9]; clear hw9)
            | fail)
          go_ret
          exact Tells.yes (.inl ⟨rfl, hg, hv, rfl, rfl⟩) (HB.out _ _)
        · skip
          have hd : decide (h = 0) = false := by simpa using hh
          have hd2 : (h == 0) = false := by simpa using hh
          go_enter Try.func38, Try.ntmps38
          go_wp2_with (first
            | (go_at_call 76; refine (gens_yes ao n cap f _ hn hcap (HS.out _) hg).mono ?_; rintro e9 w9 ⟨rfl, q9, hw9⟩; rw [hw9]; clear hw9)
            | (go_at_call 77; refine (in_yes _ _ _ _ hv.1 hv.2).mono ?_; rintro e9 w9 ⟨rfl, hw9⟩; rw [hw9]; clear hw9)
            | fail)
          go_ret
          refine Tells.no (fun x => ?_) (HB.out _ _)
          unfold MOk at x
          omega
      · skip
        have hd : decide (c = 0) = false := by simpa using hc
        go_enter Try.func38, Try.ntmps38
        go_wp2_with (first
          | (go_at_call 76; refine (gens_yes ao n cap f _ hn hcap (HS.out _) hg).mono ?_; rintro e9 w9 ⟨rfl, q9, hw9⟩; rw [hw9]; clear hw9)
          | (go_at_call 77; refine (in_yes _ _ _ _ hv.1 hv.2).mono ?_; rintro e9 w9 ⟨rfl, hw9⟩; rw [hw9]; clear hw9)
          | fail)
        go_ret
        refine Tells.no (fun x => ?_) (HB.out _ _)
        unfold MOk at x
        omega
    · skip
      have hv' : v < 0 ∨ 200 < v := by omega
      go_enter Try.func38, Try.ntmps38
      go_wp2_with (first
        | (go_at_call 76; refine (gens_yes ao n cap f _ hn hcap (HS.out _) hg).mono ?_; rintro e9 w9 ⟨rfl, q9, hw9⟩; rw [hw9]; clear hw9)
        | (go_at_call 77; refine (in_no _ _ _ _ hv').mono ?_; rintro e9 w9 ⟨rfl, hw9⟩; rw [hw9]; clear hw9)
        | fail)
      go_ret
      refine Tells.no (fun x => ?_) (HB.out _ _)
      unfold MOk at x
      omega
  · skip
    have hno : ¬ MOk 5 c v h f n := fun x => by unfold MOk at x; rcases x with x | x; exact hg x.2.1; omega
    go_enter Try.func38, Try.ntmps38
    go_wp2_with (first
      | (go_at_call 76; refine (gens_no ao n cap f _ hn hcap (HS.out _) hg).mono ?_; rintro e9 w9 ⟨rfl, q9, hw9⟩; rw [hw9]; clear hw9)
      | fail)
    go_ret
    exact Tells.no hno (HB.out _ _)
theorem msgok0 (ao : Option Addr) (n cap : Nat) (f : Nat → Int) (k c v h : Int) (w : World) (hn : n ≤ 1048576) (hcap : n ≤ cap) (hs : SL .i64 w ao n f) (h5 : k ≠ 5) (h1 : k ≠ 1) (h2 : k ≠ 2) (h3 : k ≠ 3) (h4 : k ≠ 4) :
    Calls Try.prog 38 #[.agg #[.int .i64 k, .int .i64 c, .int .i64 v, .int .i64 h, .slice ao n cap]] w fun e w' => Tells w w' e (MOk k c v h f n) := by
  have HS : Hid (∀ o : Obj, SL .i64 (w.alloc o) ao n f) := fun o => hs.below ((Below.refl _ _).alloc (Nat.le_refl _) o)
  have HB : Hid (∀ (o : Obj) (q : Nat), Below w.heap.size w ((w.alloc o).drewN q)) := fun o q => Below.drawn ((Below.refl _ _).alloc (Nat.le_refl _) o) q
  have HB0 : Hid (∀ (o : Obj), Below w.heap.size w (w.alloc o)) := fun o => (Below.refl _ _).alloc (Nat.le_refl _) o
  clear hs
  have d5 : decide (k = 5) = false := by simpa using h5
  have d1 : decide (k = 1) = false := by simpa using h1
  have d2 : decide (k = 2) = false := by simpa using h2
  have d3 : decide (k = 3) = false := by simpa using h3
  have d4 : decide (k = 4) = false := by simpa using h4
  go_enter Try.func38, Try.ntmps38
  go_wp2
  go_ret
  refine Tells.no (fun x => ?_) (HB0.out _)
  unfold MOk at x
  omega
end Go.Proofs.Ytkeojhnifnkpiaa

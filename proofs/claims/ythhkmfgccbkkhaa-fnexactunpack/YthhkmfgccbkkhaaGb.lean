/- GensOk of the model. -/
import Derived.Test.YthhkmfgccbkkhaaGa

namespace Go.Proofs.Ythhkmfgccbkkhaa
open Go.ChangeShapes Go.WideShapes Go.ChangeAt Go.RowKit
set_option linter.unusedVariables false
set_option linter.unusedSimpArgs false

theorem has_yes (ao : Option Addr) (n cap : Nat) (f : Nat → Int) (x : Int) (w : World) (hn : n ≤ 1048576) (hs : SL .i64 w ao n f) (h : ∃ i, i < n ∧ f i = x) :
    Calls Try.prog 95 #[.slice ao n cap, .int .i64 x] w fun e w' => e = .returned (.bool true) ∧ w' = w := by
  have H := hide h
  clear h
  go_enter Try.func95, Try.ntmps95
  go_wp2
  go_loop [5] (fun i => ∃ k : Nat, k ≤ n ∧ i = .int .i64 k ∧ Hid (∀ j, j < k → f j ≠ x)) (fun i => n - (intOf i).toNat)
  case atStart => exact ⟨0, by omega, rfl, fun j hj => absurd hj (by omega)⟩
  case round =>
    obtain ⟨k, hk, rfl, A⟩ := hrel
    by_cases hlt : k < n
    · obtain ⟨b, off, rfl, hb, hc⟩ := hs k hlt
      clear hs
      generalize hy : f k = y at *
      have B := hide hy
      clear hy
      by_cases he : y = x
      · subst he
        go_wp2
        go_ret
        exact ⟨rfl, rfl⟩
      · have hd : decide (y = x) = false := by simpa using he
        go_wp2
        go_round
        case rel =>
          refine ⟨k + 1, by omega, by go_num, fun j hj => ?_⟩
          by_cases e : j = k
          · subst e; rw [B.out]; exact he
          · exact A.out j (by omega)
        case measure => simp [intOf]; omega
    · obtain rfl : k = n := by omega
      obtain ⟨i, hi, e⟩ := H.out
      exact absurd e (A.out i hi)

theorem has_no (ao : Option Addr) (n cap : Nat) (f : Nat → Int) (x : Int) (w : World) (hn : n ≤ 1048576) (hs : SL .i64 w ao n f) (h : ∀ i, i < n → f i ≠ x) :
    Calls Try.prog 95 #[.slice ao n cap, .int .i64 x] w fun e w' => e = .returned (.bool false) ∧ w' = w := by
  have H := hide h
  clear h
  go_enter Try.func95, Try.ntmps95
  go_wp2
  go_loop [5] (fun i => ∃ k : Nat, k ≤ n ∧ i = .int .i64 k) (fun i => n - (intOf i).toNat)
  case atStart => exact ⟨0, by omega, rfl⟩
  case round =>
    obtain ⟨k, hk, rfl⟩ := hrel
    by_cases hlt : k < n
    · obtain ⟨b, off, rfl, hb, hc⟩ := hs k hlt
      have he := H.out k hlt
      clear hs
      generalize f k = y at *
      have hd : decide (y = x) = false := by simpa using he
      go_wp2
      go_round
      case rel => exact ⟨k + 1, by omega, by go_num⟩
      case measure => simp [intOf]; omega
    · obtain rfl : k = n := by omega
      go_wp2
      go_ret
      exact ⟨rfl, rfl⟩

/-- Generations: twelve at most, each from 1 to 100000, no two alike. -/
def GIn (f : Nat → Int) (n : Nat) : Prop := ∀ i, i < n → (1 ≤ f i ∧ f i ≤ 100000) ∧ ∀ j, j < i → f j ≠ f i
def GOk (f : Nat → Int) (n : Nat) : Prop := n ≤ 12 ∧ GIn f n

theorem gens_any (ao : Option Addr) (n cap : Nat) (f : Nat → Int) (w : World) (hn : n ≤ 1048576) (hcap : n ≤ cap) (hs : SL .i64 w ao n f) :
    Calls Try.prog 69 #[.slice ao n cap] w fun e w' => ((GOk f n ∧ e = .returned (.bool true)) ∨ (¬ GOk f n ∧ e = .returned (.bool false))) ∧ ∃ q, w' = w.drewN q := by
  have HS := hide hs
  clear hs
  go_enter Try.func69, Try.ntmps69
  go_wp2
  go_loopw [3] (fun i wr => ∃ k : Nat, k ≤ n ∧ i = .int .i64 k ∧ Hid (GIn f k) ∧ ∃ q, wr = w.drewN q) (fun i _ => n - (intOf i).toNat)
  case atStart => exact ⟨0, by omega, rfl, fun j hj => absurd hj (by omega), 0, rfl⟩
  case round =>
    obtain ⟨k, hk, rfl, A, q, rfl⟩ := hrel
    by_cases hlt : k < n
    · obtain ⟨b, off, rfl, hb, hc⟩ := HS.out k hlt
      have hpre : Hid (∀ q, SL .i64 (w.drewN q) (some ⟨b, off, none⟩) k f) := fun q i hi => HS.out i (by omega)
      generalize hy : f k = y at *
      have B := hide hy
      clear hy
      have hk0 : (0 : Int) ≤ (k : Int) := by omega
      have hkn : (k : Int) ≤ (n : Int) := by omega
      have hkc : (k : Int) ≤ (cap : Int) := by omega
      by_cases h1 : 1 ≤ y ∧ y ≤ 100000
      · by_cases h2 : ∃ j, j < k ∧ f j = y
        · have hbad : Hid (¬ GOk f n) := fun h => by obtain ⟨j, hj, e⟩ := h2; exact (h.2 k hlt).2 j hj (e.trans B.out.symm)
          have H2 := hide h2
          clear h2
          go_wp2
          go_quiet (first
            | (go_at_call 70; refine quiet_q (in_yes _ _ _ _ h1.1 h1.2))
            | (go_at_call 95; refine quiet_q (has_yes _ _ _ f _ _ (by omega) (hpre.out _) H2.out)))
          go_wp2
          go_ret
          exact ⟨.inr ⟨hbad.out, rfl⟩, _, World.drewN_drewN ..⟩
        · have H2 : Hid (∀ j, j < k → f j ≠ y) := fun j hj e => h2 ⟨j, hj, e⟩
          clear h2
          go_wp2
          go_quiet (first
            | (go_at_call 70; refine quiet_q (in_yes _ _ _ _ h1.1 h1.2))
            | (go_at_call 95; refine quiet_q (has_no _ _ _ f _ _ (by omega) (hpre.out _) H2.out)))
          go_wp2
          go_roundw
          case rel =>
            refine ⟨k + 1, by omega, by go_num, fun i hi => ?_, _, rfl⟩
            by_cases e : i = k
            · subst e; exact ⟨by rw [B.out]; exact h1, fun j hj => by rw [B.out]; exact H2.out j hj⟩
            · exact A.out i (by omega)
          case measure => simp [intOf]; omega
      · have hno : y < 1 ∨ 100000 < y := by omega
        have hbad : Hid (¬ GOk f n) := fun h => h1 (B.out ▸ (h.2 k hlt).1)
        go_wp2
        go_quiet (first | (go_at_call 70; refine quiet_q (in_no _ _ _ _ hno)))
        go_wp2
        go_ret
        exact ⟨.inr ⟨hbad.out, rfl⟩, _, World.drewN_drewN ..⟩
    · obtain rfl : k = n := by omega
      by_cases h12 : k ≤ 12
      · have hd : (k : Int) ≤ 12 := by omega
        go_wp2
        go_ret
        exact ⟨.inl ⟨⟨h12, A.out⟩, rfl⟩, q, rfl⟩
      · have hd : ¬ (k : Int) ≤ 12 := by omega
        go_wp2
        go_ret
        exact ⟨.inr ⟨fun h => h12 h.1, rfl⟩, q, rfl⟩
end Go.Proofs.Ythhkmfgccbkkhaa

/- MsgOk of the model. -/
namespace Go.Proofs.Ythhkmfgccbkkhaa
open Go.ChangeShapes Go.WideShapes Go.ChangeAt Go.RowKit
set_option linter.unusedVariables false
set_option linter.unusedSimpArgs false

theorem gens_yes (ao : Option Addr) (n cap : Nat) (f : Nat → Int) (w : World) (hn : n ≤ 1048576) (hcap : n ≤ cap) (hs : SL .i64 w ao n f) (h : GOk f n) :
    Calls Try.prog 69 #[.slice ao n cap] w fun e w' => e = .returned (.bool true) ∧ ∃ q, w' = w.drewN q :=
  (gens_any ao n cap f w hn hcap hs).mono fun _ _ ⟨h1, h2⟩ => ⟨h1.elim (·.2) (fun x => absurd h x.1), h2⟩
theorem gens_no (ao : Option Addr) (n cap : Nat) (f : Nat → Int) (w : World) (hn : n ≤ 1048576) (hcap : n ≤ cap) (hs : SL .i64 w ao n f) (h : ¬ GOk f n) :
    Calls Try.prog 69 #[.slice ao n cap] w fun e w' => e = .returned (.bool false) ∧ ∃ q, w' = w.drewN q :=
  (gens_any ao n cap f w hn hcap hs).mono fun _ _ ⟨h1, h2⟩ => ⟨h1.elim (fun x => absurd x.1 h) (·.2), h2⟩

theorem bit_yes (w : World) : Calls Try.prog 71 #[.bool true] w fun e w' => e = .returned (.int .i64 1) ∧ w' = w := by
  go_enter Try.func71, Try.ntmps71
  go_wp2
  go_ret
  exact ⟨rfl, rfl⟩
theorem bit_no (w : World) : Calls Try.prog 71 #[.bool false] w fun e w' => e = .returned (.int .i64 0) ∧ w' = w := by
  go_enter Try.func71, Try.ntmps71
  go_wp2
  go_ret
  exact ⟨rfl, rfl⟩

/-- A message that is one: its kind, cell, write, node, and its generations. -/
def MOk (k c v h : Int) (f : Nat → Int) (n : Nat) : Prop :=
  (k = 5 ∧ GOk f n ∧ (0 ≤ v ∧ v ≤ 200) ∧ c = 0 ∧ h = 0) ∨
  ((k = 1 ∨ k = 2 ∨ k = 3 ∨ k = 4) ∧ n = 0 ∧ (0 ≤ c ∧ c ≤ 7) ∧ ((if k = 4 ∨ k = 2 then 0 else 1) ≤ v ∧ v ≤ 200) ∧ ((k = 3 ∧ 0 ≤ h ∧ h ≤ 2) ∨ h = 0))

/-- What tells whether it is one. -/
def Tells (w w' : World) (e : Ending) (p : Prop) : Prop := ((p ∧ e = .returned (.bool true)) ∨ (¬ p ∧ e = .returned (.bool false))) ∧ Below w.heap.size w w'
theorem Tells.yes {w w' : World} {p : Prop} (h : p) (hb : Below w.heap.size w w') : Tells w w' (.returned (.bool true)) p := ⟨.inl ⟨h, rfl⟩, hb⟩
theorem Tells.no {w w' : World} {p : Prop} (h : ¬ p) (hb : Below w.heap.size w w') : Tells w w' (.returned (.bool false)) p := ⟨.inr ⟨h, rfl⟩, hb⟩

set_option maxHeartbeats 4000000 in
theorem msgok5 (ao : Option Addr) (n cap : Nat) (f : Nat → Int) (c v h : Int) (w : World) (hn : n ≤ 1048576) (hcap : n ≤ cap) (hs : SL .i64 w ao n f) :
    Calls Try.prog 23 #[.agg #[.int .i64 5, .int .i64 c, .int .i64 v, .int .i64 h, .slice ao n cap]] w fun e w' => Tells w w' e (MOk 5 c v h f n) := by
  have HS : Hid (∀ o : Obj, SL .i64 (w.alloc o) ao n f) := fun o => hs.below ((Below.refl _ _).alloc (Nat.le_refl _) o)
  have HB : Hid (∀ (o : Obj) (q : Nat), Below w.heap.size w ((w.alloc o).drewN q)) := fun o q => Below.drawn ((Below.refl _ _).alloc (Nat.le_refl _) o) q
  have HB0 : Hid (∀ (o : Obj), Below w.heap.size w (w.alloc o)) := fun o => (Below.refl _ _).alloc (Nat.le_refl _) o
  clear hs
  by_cases hg : GOk f n
  · skip
    by_cases hv : 0 ≤ v ∧ v ≤ 200
    · skip
      by_cases hc : c = 0
      · skip
        subst hc
        by_cases hh : h = 0
        · skip
          subst hh
          go_enter Try.func23, Try.ntmps23
          go_wp2_with (first
            | (go_at_call 69; refine (gens_yes ao n cap f _ hn hcap (HS.out _) hg).mono ?_; rintro e9 w9 ⟨rfl, q9, hw9⟩; rw [hw9]; clear hw9)
            | (go_at_call 70; refine (in_yes _ _ _ _ hv.1 hv.2).mono ?_; rintro e9 w9 ⟨rfl, hw9⟩; rw [hw9]; clear hw9)
            | fail)
          go_ret
          exact Tells.yes (.inl ⟨rfl, hg, hv, rfl, rfl⟩) (HB.out _ _)
        · skip
          have hd : decide (h = 0) = false := by simpa using hh
          have hd2 : (h == 0) = false := by simpa using hh
          go_enter Try.func23, Try.ntmps23
          go_wp2_with (first
            | (go_at_call 69; refine (gens_yes ao n cap f _ hn hcap (HS.out _) hg).mono ?_; rintro e9 w9 ⟨rfl, q9, hw9⟩; rw [hw9]; clear hw9)
            | (go_at_call 70; refine (in_yes _ _ _ _ hv.1 hv.2).mono ?_; rintro e9 w9 ⟨rfl, hw9⟩; rw [hw9]; clear hw9)
            | fail)
          go_ret
          refine Tells.no (fun x => ?_) (HB.out _ _)
          unfold MOk at x
          omega
      · skip
        have hd : decide (c = 0) = false := by simpa using hc
        go_enter Try.func23, Try.ntmps23
        go_wp2_with (first
          | (go_at_call 69; refine (gens_yes ao n cap f _ hn hcap (HS.out _) hg).mono ?_; rintro e9 w9 ⟨rfl, q9, hw9⟩; rw [hw9]; clear hw9)
          | (go_at_call 70; refine (in_yes _ _ _ _ hv.1 hv.2).mono ?_; rintro e9 w9 ⟨rfl, hw9⟩; rw [hw9]; clear hw9)
          | fail)
        go_ret
        refine Tells.no (fun x => ?_) (HB.out _ _)
        unfold MOk at x
        omega
    · skip
      have hv' : v < 0 ∨ 200 < v := by omega
      go_enter Try.func23, Try.ntmps23
      go_wp2_with (first
        | (go_at_call 69; refine (gens_yes ao n cap f _ hn hcap (HS.out _) hg).mono ?_; rintro e9 w9 ⟨rfl, q9, hw9⟩; rw [hw9]; clear hw9)
        | (go_at_call 70; refine (in_no _ _ _ _ hv').mono ?_; rintro e9 w9 ⟨rfl, hw9⟩; rw [hw9]; clear hw9)
        | fail)
      go_ret
      refine Tells.no (fun x => ?_) (HB.out _ _)
      unfold MOk at x
      omega
  · skip
    have hno : ¬ MOk 5 c v h f n := fun x => by unfold MOk at x; rcases x with x | x; exact hg x.2.1; omega
    go_enter Try.func23, Try.ntmps23
    go_wp2_with (first
      | (go_at_call 69; refine (gens_no ao n cap f _ hn hcap (HS.out _) hg).mono ?_; rintro e9 w9 ⟨rfl, q9, hw9⟩; rw [hw9]; clear hw9)
      | fail)
    go_ret
    exact Tells.no hno (HB.out _ _)
theorem msgok0 (ao : Option Addr) (n cap : Nat) (f : Nat → Int) (k c v h : Int) (w : World) (hn : n ≤ 1048576) (hcap : n ≤ cap) (hs : SL .i64 w ao n f) (h5 : k ≠ 5) (h1 : k ≠ 1) (h2 : k ≠ 2) (h3 : k ≠ 3) (h4 : k ≠ 4) :
    Calls Try.prog 23 #[.agg #[.int .i64 k, .int .i64 c, .int .i64 v, .int .i64 h, .slice ao n cap]] w fun e w' => Tells w w' e (MOk k c v h f n) := by
  have HS : Hid (∀ o : Obj, SL .i64 (w.alloc o) ao n f) := fun o => hs.below ((Below.refl _ _).alloc (Nat.le_refl _) o)
  have HB : Hid (∀ (o : Obj) (q : Nat), Below w.heap.size w ((w.alloc o).drewN q)) := fun o q => Below.drawn ((Below.refl _ _).alloc (Nat.le_refl _) o) q
  have HB0 : Hid (∀ (o : Obj), Below w.heap.size w (w.alloc o)) := fun o => (Below.refl _ _).alloc (Nat.le_refl _) o
  clear hs
  have d5 : decide (k = 5) = false := by simpa using h5
  have d1 : decide (k = 1) = false := by simpa using h1
  have d2 : decide (k = 2) = false := by simpa using h2
  have d3 : decide (k = 3) = false := by simpa using h3
  have d4 : decide (k = 4) = false := by simpa using h4
  go_enter Try.func23, Try.ntmps23
  go_wp2
  go_ret
  refine Tells.no (fun x => ?_) (HB0.out _)
  unfold MOk at x
  omega
end Go.Proofs.Ythhkmfgccbkkhaa

/- MsgOk of the model, kind 1. -/
namespace Go.Proofs.Ythhkmfgccbkkhaa
open Go.ChangeShapes Go.WideShapes Go.ChangeAt Go.RowKit
set_option linter.unusedVariables false
set_option linter.unusedSimpArgs false

set_option maxHeartbeats 4000000 in
theorem msgok1 (ao : Option Addr) (n cap : Nat) (f : Nat → Int) (c v h : Int) (w : World) (hn : n ≤ 1048576) (hcap : n ≤ cap) (hs : SL .i64 w ao n f) :
    Calls Try.prog 23 #[.agg #[.int .i64 1, .int .i64 c, .int .i64 v, .int .i64 h, .slice ao n cap]] w fun e w' => Tells w w' e (MOk 1 c v h f n) := by
  have HS : Hid (∀ o : Obj, SL .i64 (w.alloc o) ao n f) := fun o => hs.below ((Below.refl _ _).alloc (Nat.le_refl _) o)
  have HB : Hid (∀ (o : Obj) (q : Nat), Below w.heap.size w ((w.alloc o).drewN q)) := fun o q => Below.drawn ((Below.refl _ _).alloc (Nat.le_refl _) o) q
  have HB0 : Hid (∀ (o : Obj), Below w.heap.size w (w.alloc o)) := fun o => (Below.refl _ _).alloc (Nat.le_refl _) o
  clear hs
  by_cases hn0 : n = 0
  · skip
    subst hn0
    by_cases hc : 0 ≤ c ∧ c ≤ 7
    · skip
      by_cases hv : 1 ≤ v ∧ v ≤ 200
      · skip
        by_cases hh : h = 0
        · skip
          subst hh
          have hyes : MOk 1 c v 0 f 0 := .inr ⟨by omega, by omega, by omega, by first | omega | (rw [if_pos (by omega)]; omega) | (rw [if_neg (by omega)]; omega), by omega⟩
          go_enter Try.func23, Try.ntmps23
          go_wp2
          go_quiet (first
            | (go_at_call 70; refine Calls.quiet_of_same (in_yes _ _ _ _ hc.1 hc.2))
            | (go_at_call 71; refine Calls.quiet_of_same (bit_no _))
            | (go_at_call 70; refine Calls.quiet_of_same (in_yes _ _ _ _ hv.1 hv.2))
            | fail)
          go_wp2
          go_ret
          exact Tells.yes hyes (HB.out _ _)
        · skip
          have hd : decide (h = 0) = false := by simpa using hh
          have hd2 : (h == 0) = false := by simpa using hh
          go_enter Try.func23, Try.ntmps23
          go_wp2
          go_quiet (first
            | (go_at_call 70; refine Calls.quiet_of_same (in_yes _ _ _ _ hc.1 hc.2))
            | (go_at_call 71; refine Calls.quiet_of_same (bit_no _))
            | (go_at_call 70; refine Calls.quiet_of_same (in_yes _ _ _ _ hv.1 hv.2))
            | fail)
          go_wp2
          go_ret
          refine Tells.no (fun x => ?_) (HB.out _ _)
          unfold MOk at x
          omega
      · skip
        have hv' : v < 1 ∨ 200 < v := by omega
        go_enter Try.func23, Try.ntmps23
        go_wp2
        go_quiet (first
          | (go_at_call 70; refine Calls.quiet_of_same (in_yes _ _ _ _ hc.1 hc.2))
          | (go_at_call 71; refine Calls.quiet_of_same (bit_no _))
          | (go_at_call 70; refine Calls.quiet_of_same (in_no _ _ _ _ hv'))
          | fail)
        go_wp2
        go_ret
        refine Tells.no (fun x => ?_) (HB.out _ _)
        unfold MOk at x
        omega
    · skip
      have hc' : c < 0 ∨ 7 < c := by omega
      go_enter Try.func23, Try.ntmps23
      go_wp2
      go_quiet (first
        | (go_at_call 70; refine Calls.quiet_of_same (in_no _ _ _ _ hc'))
        | (go_at_call 71; refine Calls.quiet_of_same (bit_no _))
        | fail)
      go_wp2
      go_ret
      refine Tells.no (fun x => ?_) (HB.out _ _)
      unfold MOk at x
      omega
  · skip
    have hd : decide ((n : Int) = 0) = false := by simp; omega
    have hd2 : ((n : Int) == 0) = false := by simp; omega
    have hd3 : (n == 0) = false := by simp; omega
    have hd4 : decide (n = 0) = false := by simp; omega
    go_enter Try.func23, Try.ntmps23
    go_wp2
    go_quiet (first
      | fail)
    go_wp2
    go_ret
    refine Tells.no (fun x => ?_) (HB.out _ _)
    unfold MOk at x
    omega
end Go.Proofs.Ythhkmfgccbkkhaa

/- MsgOk of the model, kind 2. -/
namespace Go.Proofs.Ythhkmfgccbkkhaa
open Go.ChangeShapes Go.WideShapes Go.ChangeAt Go.RowKit
set_option linter.unusedVariables false
set_option linter.unusedSimpArgs false

set_option maxHeartbeats 4000000 in
theorem msgok2 (ao : Option Addr) (n cap : Nat) (f : Nat → Int) (c v h : Int) (w : World) (hn : n ≤ 1048576) (hcap : n ≤ cap) (hs : SL .i64 w ao n f) :
    Calls Try.prog 23 #[.agg #[.int .i64 2, .int .i64 c, .int .i64 v, .int .i64 h, .slice ao n cap]] w fun e w' => Tells w w' e (MOk 2 c v h f n) := by
  have HS : Hid (∀ o : Obj, SL .i64 (w.alloc o) ao n f) := fun o => hs.below ((Below.refl _ _).alloc (Nat.le_refl _) o)
  have HB : Hid (∀ (o : Obj) (q : Nat), Below w.heap.size w ((w.alloc o).drewN q)) := fun o q => Below.drawn ((Below.refl _ _).alloc (Nat.le_refl _) o) q
  have HB0 : Hid (∀ (o : Obj), Below w.heap.size w (w.alloc o)) := fun o => (Below.refl _ _).alloc (Nat.le_refl _) o
  clear hs
  by_cases hn0 : n = 0
  · skip
    subst hn0
    by_cases hc : 0 ≤ c ∧ c ≤ 7
    · skip
      by_cases hv : 0 ≤ v ∧ v ≤ 200
      · skip
        by_cases hh : h = 0
        · skip
          subst hh
          have hyes : MOk 2 c v 0 f 0 := .inr ⟨by omega, by omega, by omega, by first | omega | (rw [if_pos (by omega)]; omega) | (rw [if_neg (by omega)]; omega), by omega⟩
          go_enter Try.func23, Try.ntmps23
          go_wp2
          go_quiet (first
            | (go_at_call 70; refine Calls.quiet_of_same (in_yes _ _ _ _ hc.1 hc.2))
            | (go_at_call 71; refine Calls.quiet_of_same (bit_yes _))
            | (go_at_call 70; refine Calls.quiet_of_same (in_yes _ _ _ _ hv.1 hv.2))
            | fail)
          go_wp2
          go_ret
          exact Tells.yes hyes (HB.out _ _)
        · skip
          have hd : decide (h = 0) = false := by simpa using hh
          have hd2 : (h == 0) = false := by simpa using hh
          go_enter Try.func23, Try.ntmps23
          go_wp2
          go_quiet (first
            | (go_at_call 70; refine Calls.quiet_of_same (in_yes _ _ _ _ hc.1 hc.2))
            | (go_at_call 71; refine Calls.quiet_of_same (bit_yes _))
            | (go_at_call 70; refine Calls.quiet_of_same (in_yes _ _ _ _ hv.1 hv.2))
            | fail)
          go_wp2
          go_ret
          refine Tells.no (fun x => ?_) (HB.out _ _)
          unfold MOk at x
          omega
      · skip
        have hv' : v < 0 ∨ 200 < v := by omega
        go_enter Try.func23, Try.ntmps23
        go_wp2
        go_quiet (first
          | (go_at_call 70; refine Calls.quiet_of_same (in_yes _ _ _ _ hc.1 hc.2))
          | (go_at_call 71; refine Calls.quiet_of_same (bit_yes _))
          | (go_at_call 70; refine Calls.quiet_of_same (in_no _ _ _ _ hv'))
          | fail)
        go_wp2
        go_ret
        refine Tells.no (fun x => ?_) (HB.out _ _)
        unfold MOk at x
        omega
    · skip
      have hc' : c < 0 ∨ 7 < c := by omega
      go_enter Try.func23, Try.ntmps23
      go_wp2
      go_quiet (first
        | (go_at_call 70; refine Calls.quiet_of_same (in_no _ _ _ _ hc'))
        | (go_at_call 71; refine Calls.quiet_of_same (bit_yes _))
        | fail)
      go_wp2
      go_ret
      refine Tells.no (fun x => ?_) (HB.out _ _)
      unfold MOk at x
      omega
  · skip
    have hd : decide ((n : Int) = 0) = false := by simp; omega
    have hd2 : ((n : Int) == 0) = false := by simp; omega
    have hd3 : (n == 0) = false := by simp; omega
    have hd4 : decide (n = 0) = false := by simp; omega
    go_enter Try.func23, Try.ntmps23
    go_wp2
    go_quiet (first
      | fail)
    go_wp2
    go_ret
    refine Tells.no (fun x => ?_) (HB.out _ _)
    unfold MOk at x
    omega
end Go.Proofs.Ythhkmfgccbkkhaa

/- MsgOk of the model, kind 3. -/
namespace Go.Proofs.Ythhkmfgccbkkhaa
open Go.ChangeShapes Go.WideShapes Go.ChangeAt Go.RowKit
set_option linter.unusedVariables false
set_option linter.unusedSimpArgs false

set_option maxHeartbeats 4000000 in
theorem msgok3 (ao : Option Addr) (n cap : Nat) (f : Nat → Int) (c v h : Int) (w : World) (hn : n ≤ 1048576) (hcap : n ≤ cap) (hs : SL .i64 w ao n f) :
    Calls Try.prog 23 #[.agg #[.int .i64 3, .int .i64 c, .int .i64 v, .int .i64 h, .slice ao n cap]] w fun e w' => Tells w w' e (MOk 3 c v h f n) := by
  have HS : Hid (∀ o : Obj, SL .i64 (w.alloc o) ao n f) := fun o => hs.below ((Below.refl _ _).alloc (Nat.le_refl _) o)
  have HB : Hid (∀ (o : Obj) (q : Nat), Below w.heap.size w ((w.alloc o).drewN q)) := fun o q => Below.drawn ((Below.refl _ _).alloc (Nat.le_refl _) o) q
  have HB0 : Hid (∀ (o : Obj), Below w.heap.size w (w.alloc o)) := fun o => (Below.refl _ _).alloc (Nat.le_refl _) o
  clear hs
  by_cases hn0 : n = 0
  · skip
    subst hn0
    by_cases hc : 0 ≤ c ∧ c ≤ 7
    · skip
      by_cases hv : 1 ≤ v ∧ v ≤ 200
      · skip
        by_cases hh : 0 ≤ h ∧ h ≤ 2
        · skip
          have hyes : MOk 3 c v h f 0 := .inr ⟨by omega, by omega, by omega, by first | omega | (rw [if_pos (by omega)]; omega) | (rw [if_neg (by omega)]; omega), by omega⟩
          go_enter Try.func23, Try.ntmps23
          go_wp2
          go_quiet (first
            | (go_at_call 70; refine Calls.quiet_of_same (in_yes _ _ _ _ hc.1 hc.2))
            | (go_at_call 71; refine Calls.quiet_of_same (bit_no _))
            | (go_at_call 70; refine Calls.quiet_of_same (in_yes _ _ _ _ hv.1 hv.2))
            | (go_at_call 70; refine Calls.quiet_of_same (in_yes _ _ _ _ hh.1 hh.2))
            | fail)
          go_wp2
          go_ret
          exact Tells.yes hyes (HB.out _ _)
        · skip
          have hh' : h < 0 ∨ 2 < h := by omega
          have hd : decide (h = 0) = false := by simp; omega
          have hd2 : (h == 0) = false := by simp; omega
          go_enter Try.func23, Try.ntmps23
          go_wp2
          go_quiet (first
            | (go_at_call 70; refine Calls.quiet_of_same (in_yes _ _ _ _ hc.1 hc.2))
            | (go_at_call 71; refine Calls.quiet_of_same (bit_no _))
            | (go_at_call 70; refine Calls.quiet_of_same (in_yes _ _ _ _ hv.1 hv.2))
            | (go_at_call 70; refine Calls.quiet_of_same (in_no _ _ _ _ hh'))
            | fail)
          go_wp2
          go_ret
          refine Tells.no (fun x => ?_) (HB.out _ _)
          unfold MOk at x
          omega
      · skip
        have hv' : v < 1 ∨ 200 < v := by omega
        go_enter Try.func23, Try.ntmps23
        go_wp2
        go_quiet (first
          | (go_at_call 70; refine Calls.quiet_of_same (in_yes _ _ _ _ hc.1 hc.2))
          | (go_at_call 71; refine Calls.quiet_of_same (bit_no _))
          | (go_at_call 70; refine Calls.quiet_of_same (in_no _ _ _ _ hv'))
          | fail)
        go_wp2
        go_ret
        refine Tells.no (fun x => ?_) (HB.out _ _)
        unfold MOk at x
        omega
    · skip
      have hc' : c < 0 ∨ 7 < c := by omega
      go_enter Try.func23, Try.ntmps23
      go_wp2
      go_quiet (first
        | (go_at_call 70; refine Calls.quiet_of_same (in_no _ _ _ _ hc'))
        | (go_at_call 71; refine Calls.quiet_of_same (bit_no _))
        | fail)
      go_wp2
      go_ret
      refine Tells.no (fun x => ?_) (HB.out _ _)
      unfold MOk at x
      omega
  · skip
    have hd : decide ((n : Int) = 0) = false := by simp; omega
    have hd2 : ((n : Int) == 0) = false := by simp; omega
    have hd3 : (n == 0) = false := by simp; omega
    have hd4 : decide (n = 0) = false := by simp; omega
    go_enter Try.func23, Try.ntmps23
    go_wp2
    go_quiet (first
      | fail)
    go_wp2
    go_ret
    refine Tells.no (fun x => ?_) (HB.out _ _)
    unfold MOk at x
    omega
end Go.Proofs.Ythhkmfgccbkkhaa

/- MsgOk of the model, kind 4. -/
namespace Go.Proofs.Ythhkmfgccbkkhaa
open Go.ChangeShapes Go.WideShapes Go.ChangeAt Go.RowKit
set_option linter.unusedVariables false
set_option linter.unusedSimpArgs false

set_option maxHeartbeats 4000000 in
theorem msgok4 (ao : Option Addr) (n cap : Nat) (f : Nat → Int) (c v h : Int) (w : World) (hn : n ≤ 1048576) (hcap : n ≤ cap) (hs : SL .i64 w ao n f) :
    Calls Try.prog 23 #[.agg #[.int .i64 4, .int .i64 c, .int .i64 v, .int .i64 h, .slice ao n cap]] w fun e w' => Tells w w' e (MOk 4 c v h f n) := by
  have HS : Hid (∀ o : Obj, SL .i64 (w.alloc o) ao n f) := fun o => hs.below ((Below.refl _ _).alloc (Nat.le_refl _) o)
  have HB : Hid (∀ (o : Obj) (q : Nat), Below w.heap.size w ((w.alloc o).drewN q)) := fun o q => Below.drawn ((Below.refl _ _).alloc (Nat.le_refl _) o) q
  have HB0 : Hid (∀ (o : Obj), Below w.heap.size w (w.alloc o)) := fun o => (Below.refl _ _).alloc (Nat.le_refl _) o
  clear hs
  by_cases hn0 : n = 0
  · skip
    subst hn0
    by_cases hc : 0 ≤ c ∧ c ≤ 7
    · skip
      by_cases hv : 0 ≤ v ∧ v ≤ 200
      · skip
        by_cases hh : h = 0
        · skip
          subst hh
          have hyes : MOk 4 c v 0 f 0 := .inr ⟨by omega, by omega, by omega, by first | omega | (rw [if_pos (by omega)]; omega) | (rw [if_neg (by omega)]; omega), by omega⟩
          go_enter Try.func23, Try.ntmps23
          go_wp2
          go_quiet (first
            | (go_at_call 70; refine Calls.quiet_of_same (in_yes _ _ _ _ hc.1 hc.2))
            | (go_at_call 71; refine Calls.quiet_of_same (bit_yes _))
            | (go_at_call 70; refine Calls.quiet_of_same (in_yes _ _ _ _ hv.1 hv.2))
            | fail)
          go_wp2
          go_ret
          exact Tells.yes hyes (HB.out _ _)
        · skip
          have hd : decide (h = 0) = false := by simpa using hh
          have hd2 : (h == 0) = false := by simpa using hh
          go_enter Try.func23, Try.ntmps23
          go_wp2
          go_quiet (first
            | (go_at_call 70; refine Calls.quiet_of_same (in_yes _ _ _ _ hc.1 hc.2))
            | (go_at_call 71; refine Calls.quiet_of_same (bit_yes _))
            | (go_at_call 70; refine Calls.quiet_of_same (in_yes _ _ _ _ hv.1 hv.2))
            | fail)
          go_wp2
          go_ret
          refine Tells.no (fun x => ?_) (HB.out _ _)
          unfold MOk at x
          omega
      · skip
        have hv' : v < 0 ∨ 200 < v := by omega
        go_enter Try.func23, Try.ntmps23
        go_wp2
        go_quiet (first
          | (go_at_call 70; refine Calls.quiet_of_same (in_yes _ _ _ _ hc.1 hc.2))
          | (go_at_call 71; refine Calls.quiet_of_same (bit_yes _))
          | (go_at_call 70; refine Calls.quiet_of_same (in_no _ _ _ _ hv'))
          | fail)
        go_wp2
        go_ret
        refine Tells.no (fun x => ?_) (HB.out _ _)
        unfold MOk at x
        omega
    · skip
      have hc' : c < 0 ∨ 7 < c := by omega
      go_enter Try.func23, Try.ntmps23
      go_wp2
      go_quiet (first
        | (go_at_call 70; refine Calls.quiet_of_same (in_no _ _ _ _ hc'))
        | (go_at_call 71; refine Calls.quiet_of_same (bit_yes _))
        | fail)
      go_wp2
      go_ret
      refine Tells.no (fun x => ?_) (HB.out _ _)
      unfold MOk at x
      omega
  · skip
    have hd : decide ((n : Int) = 0) = false := by simp; omega
    have hd2 : ((n : Int) == 0) = false := by simp; omega
    have hd3 : (n == 0) = false := by simp; omega
    have hd4 : decide (n = 0) = false := by simp; omega
    go_enter Try.func23, Try.ntmps23
    go_wp2
    go_quiet (first
      | fail)
    go_wp2
    go_ret
    refine Tells.no (fun x => ?_) (HB.out _ _)
    unfold MOk at x
    omega
end Go.Proofs.Ythhkmfgccbkkhaa

/- MsgOk of the model. -/
namespace Go.Proofs.Ythhkmfgccbkkhaa
open Go.ChangeShapes Go.WideShapes Go.ChangeAt Go.RowKit
set_option linter.unusedVariables false
set_option linter.unusedSimpArgs false

theorem msgok_spec (ao : Option Addr) (n cap : Nat) (f : Nat → Int) (k c v h : Int) (w : World) (hn : n ≤ 1048576) (hcap : n ≤ cap) (hs : SL .i64 w ao n f) :
    Calls Try.prog 23 #[.agg #[.int .i64 k, .int .i64 c, .int .i64 v, .int .i64 h, .slice ao n cap]] w fun e w' => Tells w w' e (MOk k c v h f n) := by
  by_cases h5 : k = 5
  · subst h5; exact msgok5 ao n cap f c v h w hn hcap hs
  · by_cases h1 : k = 1
    · subst h1; exact msgok1 ao n cap f c v h w hn hcap hs
    · by_cases h2 : k = 2
      · subst h2; exact msgok2 ao n cap f c v h w hn hcap hs
      · by_cases h3 : k = 3
        · subst h3; exact msgok3 ao n cap f c v h w hn hcap hs
        · by_cases h4 : k = 4
          · subst h4; exact msgok4 ao n cap f c v h w hn hcap hs
          · exact msgok0 ao n cap f k c v h w hn hcap hs h5 h1 h2 h3 h4
end Go.Proofs.Ythhkmfgccbkkhaa

/- MsgOk of the model, kind 2. -/
import Derived.Test.YtkeojhnifnkpiaaMokS
namespace Go.Proofs.Ytkeojhnifnkpiaa
open Go.ChangeShapes Go.WideShapes Go.ChangeAt Go.RowKit
set_option linter.unusedVariables false
set_option linter.unusedSimpArgs false

set_option maxHeartbeats 4000000 in
theorem msgok2 (ao : Option Addr) (n cap : Nat) (f : Nat → Int) (c v h : Int) (w : World) (hn : n ≤ 1048576) (hcap : n ≤ cap) (hs : SL .i64 w ao n f) :
    Calls Try.prog 38 #[.agg #[.int .i64 2, .int .i64 c, .int .i64 v, .int .i64 h, .slice ao n cap]] w fun e w' => Tells w w' e (MOk 2 c v h f n) := by
  have HS : Hid (∀ o : Obj, SL .i64 (w.alloc o) ao n f) := fun o => hs.below ((Below.refl _ _).alloc (Nat.le_refl _) o)
  have HB : Hid (∀ (o : Obj) (q : Nat), Below w.heap.size w ((w.alloc o).drewN q)) := fun o q => Below.drawn ((Below.refl _ _).alloc (Nat.le_refl _) o) q
  have HB0 : Hid (∀ (o : Obj), Below w.heap.size w (w.alloc o)) := fun o => (Below.refl _ _).alloc (Nat.le_refl _) o
  clear hs
  by_cases hn0 : n = 0
  · skip
    subst hn0
    by_cases hc : 0 ≤ c ∧ c ≤ 7
    · skip
      by_cases hv : 0 ≤ v ∧ v ≤ 200
      · skip
        by_cases hh : h = 0
        · skip
          subst hh
          have hyes : MOk 2 c v 0 f 0 := .inr ⟨by omega, by omega, by omega, by first | omega | (rw [if_pos (by omega)]; omega) | (rw [if_neg (by omega)]; omega), by omega⟩
          go_enter Try.func38, Try.ntmps38
          go_wp2
          go_quiet (first
            | (go_at_call 77; refine Calls.quiet_of_same (in_yes _ _ _ _ hc.1 hc.2))
            | (go_at_call 67; refine Calls.quiet_of_same (bit_yes _))
            | (go_at_call 77; refine Calls.quiet_of_same (in_yes _ _ _ _ hv.1 hv.2))
            | fail)
          go_wp2
          go_ret
          exact Tells.yes hyes (HB.out _ _)
        · skip
          have hd : decide (h = 0) = false := by simpa using hh
          have hd2 : (h == 0) = false := by simpa using hh
          go_enter Try.func38, Try.ntmps38
          go_wp2
          go_quiet (first
            | (go_at_call 77; refine Calls.quiet_of_same (in_yes _ _ _ _ hc.1 hc.2))
            | (go_at_call 67; refine Calls.quiet_of_same (bit_yes _))
            | (go_at_call 77; refine Calls.quiet_of_same (in_yes _ _ _ _ hv.1 hv.2))
            | fail)
          go_wp2
          go_ret
          refine Tells.no (fun x => ?_) (HB.out _ _)
          unfold MOk at x
          omega
      · skip
        have hv' : v < 0 ∨ 200 < v := by omega
        go_enter Try.func38, Try.ntmps38
        go_wp2
        go_quiet (first
          | (go_at_call 77; refine Calls.quiet_of_same (in_yes _ _ _ _ hc.1 hc.2))
          | (go_at_call 67; refine Calls.quiet_of_same (bit_yes _))
          | (go_at_call 77; refine Calls.quiet_of_same (in_no _ _ _ _ hv'))
          | fail)
        go_wp2
        go_ret
        refine Tells.no (fun x => ?_) (HB.out _ _)
        unfold MOk at x
        omega
    · skip
      have hc' : c < 0 ∨ 7 < c := by omega
      go_enter Try.func38, Try.ntmps38
      go_wp2
      go_quiet (first
        | (go_at_call 77; refine Calls.quiet_of_same (in_no _ _ _ _ hc'))
        | (go_at_call 67; refine Calls.quiet_of_same (bit_yes _))
        | fail)
      go_wp2
      go_ret
      refine Tells.no (fun x => ?_) (HB.out _ _)
      unfold MOk at x
      omega
  · skip
    have hd : decide ((n : Int) = 0) = false := by simp; omega
    have hd2 : ((n : Int) == 0) = false := by simp; omega
    have hd3 : (n == 0) = false := by simp; omega
    have hd4 : decide (n = 0) = false := by simp; omega
    go_enter Try.func38, Try.ntmps38
    go_wp2
    go_quiet (first
      | fail)
    go_wp2
    go_ret
    refine Tells.no (fun x => ?_) (HB.out _ _)
    unfold MOk at x
    omega
end Go.Proofs.Ytkeojhnifnkpiaa

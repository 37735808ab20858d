/- GetNum of the program, whose panics are recovered at its face, hands back what GetNum of the model does. -/
import Derived.Test.YtjbhgedbkajmdaaGf
import Derived.Test.YtjbhgedbkajmdaaGet3Z

namespace Go.Proofs.Ytjbhgedbkajmdaa
open Go.ChangeShapes Go.WideShapes Go.ChangeAt Go.RowKit
set_option linter.unusedVariables false
set_option linter.unusedSimpArgs false

theorem catch20 (u : TypeId) (pv : Value) (older : List PanicEntry) (w : World) :
    CallsD Try.prog 93 #[] (.panicking ({ v := .iface u pv, recovered := false } :: older)) w fun e u' w' =>
      e = .returned (.tuple #[]) ∧ u' = .panicking ({ v := .iface u pv, recovered := true } :: older) ∧ w' = w := by
  refine callsD_of_wpS Try.func93 rfl fun c₀ cs hu => ?_
  apply wpS_region
  simp [wpOpsS, go_sem, recoverD, hu, Try.ntmps93, bodyPostS, results, Try.results93]

theorem idle20 (w : World) :
    CallsD Try.prog 93 #[] .returning w fun e u' w' => e = .returned (.tuple #[]) ∧ u' = .returning ∧ w' = w := by
  refine callsD_of_wpS Try.func93 rfl fun c₀ cs hu => ?_
  apply wpS_region
  simp [wpOpsS, go_sem, recoverD, hu, Try.ntmps93, bodyPostS, results, Try.results93]
  cases c₀
  simp_all

theorem get_impl_of (ao : Option Addr) (n cap : Nat) (x : Int) (r : Option (Int × Int)) (w : World)
    (h : Calls Try.prog 94 #[.slice ao n cap, .int .i64 x] w fun e w' => rend r e ∧ w' = w) :
    Calls Try.prog 84 #[.slice ao n cap, .int .i64 x] w fun e w' => e = .returned (gres r) ∧ w' = w := by
  have H : Hid (Calls Try.prog 94 #[.slice ao n cap, .int .i64 x] w fun e w' => rend r e ∧ w' = w) := h
  clear h
  rcases r with _ | ⟨y, z⟩
  · go_enter_defers Try.func84, Try.ntmps84
    go_wp2_with (go_at_call 94; refine H.out.mono ?_; rintro e w' ⟨⟨pv, rfl⟩, rfl⟩)
    refine leaves_cons (f := 93) (args := #[]) (by simp) (by simp [go_sem]) ?_
    refine (catch20 101 _ [] _).mono ?_
    rintro e u' w'' ⟨rfl, rfl, rfl⟩
    simp [Leaves, settle, results, Try.results84, go_sem, gres]
  · go_enter_defers Try.func84, Try.ntmps84
    go_wp2_with (go_at_call 94; refine H.out.mono ?_; rintro e w' ⟨he, rfl⟩; obtain rfl : e = .returned (.tuple #[.int .i64 y, .int .i64 z]) := he)
    refine leaves_cons (f := 93) (args := #[]) (by simp) (by simp [go_sem]) ?_
    refine (idle20 _).mono ?_
    rintro e u' w'' ⟨rfl, rfl, rfl⟩
    simp [Leaves, settle, results, Try.results84, go_sem, gres]
end Go.Proofs.Ytjbhgedbkajmdaa

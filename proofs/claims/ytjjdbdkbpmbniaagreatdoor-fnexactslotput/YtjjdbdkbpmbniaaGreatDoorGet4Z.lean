/- GetNum of the program, whose panics are recovered at its face, hands back what GetNum of the model does. -/
import Derived.Test.YtjjdbdkbpmbniaaGreatDoorGet2Z
import Derived.Test.YtjjdbdkbpmbniaaGreatDoorGet3Z

namespace Go.Proofs.YtjjdbdkbpmbniaaGreatDoor
open Go.ChangeShapes Go.WideShapes Go.ChangeAt Go.RowKit
set_option linter.unusedVariables false
set_option linter.unusedSimpArgs false

theorem catch20 (u : TypeId) (pv : Value) (older : List PanicEntry) (w : World) :
    CallsD Tryz.prog 131 #[] (.panicking ({ v := .iface u pv, recovered := false } :: older)) w fun e u' w' =>
      e = .returned (.tuple #[]) ∧ u' = .panicking ({ v := .iface u pv, recovered := true } :: older) ∧ w' = w := by
  refine callsD_of_wpS Tryz.func131 rfl fun c₀ cs hu => ?_
  apply wpS_region
  simp [wpOpsS, go_sem, recoverD, hu, Tryz.ntmps131, bodyPostS, results, Tryz.results131]

theorem idle20 (w : World) :
    CallsD Tryz.prog 131 #[] .returning w fun e u' w' => e = .returned (.tuple #[]) ∧ u' = .returning ∧ w' = w := by
  refine callsD_of_wpS Tryz.func131 rfl fun c₀ cs hu => ?_
  apply wpS_region
  simp [wpOpsS, go_sem, recoverD, hu, Tryz.ntmps131, bodyPostS, results, Tryz.results131]
  cases c₀
  simp_all

theorem get_impl_of (ao : Option Addr) (n cap : Nat) (x : Int) (r : Option (Int × Int)) (w : World)
    (h : Calls Tryz.prog 132 #[.slice ao n cap, .int .i64 x] w fun e w' => rend r e ∧ w' = w) :
    Calls Tryz.prog 120 #[.slice ao n cap, .int .i64 x] w fun e w' => e = .returned (gres r) ∧ w' = w := by
  have H : Hid (Calls Tryz.prog 132 #[.slice ao n cap, .int .i64 x] w fun e w' => rend r e ∧ w' = w) := h
  clear h
  rcases r with _ | ⟨y, z⟩
  · go_enter_defers Tryz.func120, Tryz.ntmps120
    go_wp2_with (go_at_call 132; refine H.out.mono ?_; rintro e w' ⟨⟨pv, rfl⟩, rfl⟩)
    refine leaves_cons (f := 131) (args := #[]) (by simp) (by simp [go_sem]) ?_
    refine (catch20 166 _ [] _).mono ?_
    rintro e u' w'' ⟨rfl, rfl, rfl⟩
    simp [Leaves, settle, results, Tryz.results120, go_sem, gres]
  · go_enter_defers Tryz.func120, Tryz.ntmps120
    go_wp2_with (go_at_call 132; refine H.out.mono ?_; rintro e w' ⟨he, rfl⟩; obtain rfl : e = .returned (.tuple #[.int .i64 y, .int .i64 z]) := he)
    refine leaves_cons (f := 131) (args := #[]) (by simp) (by simp [go_sem]) ?_
    refine (idle20 _).mono ?_
    rintro e u' w'' ⟨rfl, rfl, rfl⟩
    simp [Leaves, settle, results, Tryz.results120, go_sem, gres]
end Go.Proofs.YtjjdbdkbpmbniaaGreatDoor

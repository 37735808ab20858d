/- GetNum, of the program and of its model, answers the same. -/
import Derived.Test.YtabknfmhhjelaaaGreatDoorGa
import Derived.Test.YtabknfmhhjelaaaGreatDoorGb
import Derived.Defers
import Derived.Recover

namespace Go.Proofs.YtabknfmhhjelaaaGreatDoor
open Go.ChangeShapes Go.WideShapes Go.ChangeAt Go.RowKit
set_option linter.unusedVariables false
set_option linter.unusedSimpArgs false

theorem byte_no (ao : Option Addr) (n cap : Nat) (at' : Int) (w : World) (h : at' < 0 ∨ (n : Int) ≤ at') :
    Calls Tryz.prog 133 #[.slice ao n cap, .int .i64 at'] w fun e w' => (∃ pv, e = .panicked [{ v := .iface 162 pv, recovered := false }]) ∧ w' = w := by
  by_cases h0 : at' < 0
  · go_enter Tryz.func133, Tryz.ntmps133
    go_wp2
    exact ⟨rfl, ⟨_, rfl⟩, rfl⟩
  · have h1 : (n : Int) ≤ at' := by omega
    go_enter Tryz.func133, Tryz.ntmps133
    go_wp2
    exact ⟨rfl, ⟨_, rfl⟩, rfl⟩

theorem byte_yes (b off n cap a : Nat) (p x : Int) (w : World) (hp : p = a) (h : a < n) (_hn : n ≤ 1048576) (hc : w.cell? ⟨b, off + a, none⟩ = some (.int .u8 x)) (hx : 0 ≤ x ∧ x ≤ 255) :
    Calls Tryz.prog 133 #[.slice (some ⟨b, off, none⟩) n cap, .int .i64 p] w fun e w' => e = .returned (.int .i64 x) ∧ w' = w := by
  subst hp
  go_enter Tryz.func133, Tryz.ntmps133
  go_wp2
  go_ret
  exact ⟨rfl, rfl⟩
theorem num_yes (x : Int) (w : World) (h : 0 ≤ x ∧ x ≤ 2147483647) :
    Calls Tryz.prog 132 #[.int .i64 x] w fun e w' => e = .returned (.int .i64 x) ∧ w' = w := by
  go_enter Tryz.func132, Tryz.ntmps132
  go_wp2
  go_ret
  exact ⟨rfl, rfl⟩
theorem num_no (x : Int) (w : World) (h : x < 0 ∨ 2147483647 < x) :
    Calls Tryz.prog 132 #[.int .i64 x] w fun e w' => (∃ pv, e = .panicked [{ v := .iface 162 pv, recovered := false }]) ∧ w' = w := by
  by_cases h0 : x < 0
  · go_enter Tryz.func132, Tryz.ntmps132
    go_wp2
    exact ⟨rfl, ⟨_, rfl⟩, rfl⟩
  · have h1 : 2147483647 < x := by omega
    go_enter Tryz.func132, Tryz.ntmps132
    go_wp2
    exact ⟨rfl, ⟨_, rfl⟩, rfl⟩
theorem short_no (x k : Int) (w : World) (hx : x = 0) (h : 0 < k) :
    Calls Tryz.prog 134 #[.int .i64 x, .int .i64 k] w fun e w' => (∃ pv, e = .panicked [{ v := .iface 162 pv, recovered := false }]) ∧ w' = w := by
  subst hx
  go_enter Tryz.func134, Tryz.ntmps134
  go_wp2
  exact ⟨rfl, ⟨_, rfl⟩, rfl⟩
theorem short_yes (x k : Int) (w : World) (h : ¬ (0 < k ∧ x = 0)) :
    Calls Tryz.prog 134 #[.int .i64 x, .int .i64 k] w fun e w' => e = .returned (.tuple #[]) ∧ w' = w := by
  by_cases h0 : x = 0
  · subst h0
    have h1 : k ≤ 0 := by omega
    go_enter Tryz.func134, Tryz.ntmps134
    go_wp2
    go_end0
    exact ⟨rfl, rfl⟩
  · have hx : (x == 0) = false := by simpa using h0
    go_enter Tryz.func134, Tryz.ntmps134
    go_wp2
    go_end0
    exact ⟨rfl, rfl⟩
end Go.Proofs.YtabknfmhhjelaaaGreatDoor

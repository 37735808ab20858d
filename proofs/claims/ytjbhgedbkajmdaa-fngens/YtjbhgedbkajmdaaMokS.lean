/- MsgOk of the model. -/
import Derived.Test.YtjbhgedbkajmdaaGenS
namespace Go.Proofs.Ytjbhgedbkajmdaa
open Go.ChangeShapes Go.WideShapes Go.ChangeAt Go.RowKit
set_option linter.unusedVariables false
set_option linter.unusedSimpArgs false

theorem gens_yes (ao : Option Addr) (n cap : Nat) (f : Nat → Int) (w : World) (hn : n ≤ 1048576) (hcap : n ≤ cap) (hs : SL .i64 w ao n f) (h : GOk f n) :
    Calls Try.prog 32 #[.slice ao n cap] w fun e w' => e = .returned (.bool true) ∧ ∃ q, w' = w.drewN q :=
  (gens_any ao n cap f w hn hcap hs).mono fun _ _ ⟨h1, h2⟩ => ⟨h1.elim (·.2) (fun x => absurd h x.1), h2⟩
theorem gens_no (ao : Option Addr) (n cap : Nat) (f : Nat → Int) (w : World) (hn : n ≤ 1048576) (hcap : n ≤ cap) (hs : SL .i64 w ao n f) (h : ¬ GOk f n) :
    Calls Try.prog 32 #[.slice ao n cap] w fun e w' => e = .returned (.bool false) ∧ ∃ q, w' = w.drewN q :=
  (gens_any ao n cap f w hn hcap hs).mono fun _ _ ⟨h1, h2⟩ => ⟨h1.elim (fun x => absurd x.1 h) (·.2), h2⟩

theorem bit_yes (w : World) : Calls Try.prog 55 #[.bool true] w fun e w' => e = .returned (.int .i64 1) ∧ w' = w := by
  go_enter Try.func55, Try.ntmps55
  go_wp2
  go_ret
  exact ⟨rfl, rfl⟩
theorem bit_no (w : World) : Calls Try.prog 55 #[.bool false] w fun e w' => e = .returned (.int .i64 0) ∧ w' = w := by
  go_enter Try.func55, Try.ntmps55
  go_wp2
  go_ret
  exact ⟨rfl, rfl⟩

/-- A message that is one: its kind, cell, write, node, and its generations. -/
def MOk (k c v h : Int) (f : Nat → Int) (n : Nat) : Prop :=
  (k = 5 ∧ GOk f n ∧ (0 ≤ v ∧ v ≤ 200) ∧ c = 0 ∧ h = 0) ∨
  ((k = 1 ∨ k = 2 ∨ k = 3 ∨ k = 4) ∧ n = 0 ∧ (0 ≤ c ∧ c ≤ 7) ∧ ((if k = 4 ∨ k = 2 then 0 else 1) ≤ v ∧ v ≤ 200) ∧ ((k = 3 ∧ 0 ≤ h ∧ h ≤ 2) ∨ h = 0))

/-- What tells whether it is one. -/
def Tells (w w' : World) (e : Ending) (p : Prop) : Prop := ((p ∧ e = .returned (.bool true)) ∨ (¬ p ∧ e = .returned (.bool false))) ∧ Below w.heap.size w w'
theorem Tells.yes {w w' : World} {p : Prop} (h : p) (hb : Below w.heap.size w w') : Tells w w' (.returned (.bool true)) p := ⟨.inl ⟨h, rfl⟩, hb⟩
theorem Tells.no {w w' : World} {p : Prop} (h : ¬ p) (hb : Below w.heap.size w w') : Tells w w' (.returned (.bool false)) p := ⟨.inr ⟨h, rfl⟩, hb⟩

end Go.Proofs.Ytjbhgedbkajmdaa

/- Sayings of the program: what is one, and what it says. -/
import Derived.Test.YtkeojhnifnkpiaaGd

namespace Go.Proofs.Ytkeojhnifnkpiaa
open Go.ChangeShapes Go.WideShapes Go.ChangeAt Go.RowKit
set_option linter.unusedVariables false
set_option linter.unusedSimpArgs false

@[go_sem] theorem ta_data (x : Value) (w : World) : (Instr.typeAssert (.iface 134 x) 101 134 true).run Try.prog w = .ok (.tuple #[x, .bool true]) w := by kernel_rfl
@[go_sem] theorem nn_data (x : Value) (w : World) : (binOp .neq 101 (.iface 134 x) .nilIface).run Try.prog w = .ok (.bool true) w := by kernel_rfl
@[go_sem] theorem ta_ack_data (x : Value) (w : World) : (Instr.typeAssert (.iface 135 x) 101 134 true).run Try.prog w = .ok (.tuple #[.agg #[.int .i64 0, .int .i64 0], .bool false]) w := by kernel_rfl
@[go_sem] theorem ta_ack (x : Value) (w : World) : (Instr.typeAssert (.iface 135 x) 101 135 true).run Try.prog w = .ok (.tuple #[x, .bool true]) w := by kernel_rfl
@[go_sem] theorem nn_ack (x : Value) (w : World) : (binOp .neq 101 (.iface 135 x) .nilIface).run Try.prog w = .ok (.bool true) w := by kernel_rfl
@[go_sem] theorem ta_clear_data (x : Value) (w : World) : (Instr.typeAssert (.iface 137 x) 101 134 true).run Try.prog w = .ok (.tuple #[.agg #[.int .i64 0, .int .i64 0], .bool false]) w := by kernel_rfl
@[go_sem] theorem ta_clear_ack (x : Value) (w : World) : (Instr.typeAssert (.iface 137 x) 101 135 true).run Try.prog w = .ok (.tuple #[.agg #[.int .i64 0, .int .i64 0], .bool false]) w := by kernel_rfl
@[go_sem] theorem ta_clear (x : Value) (w : World) : (Instr.typeAssert (.iface 137 x) 101 137 true).run Try.prog w = .ok (.tuple #[x, .bool true]) w := by kernel_rfl
@[go_sem] theorem nn_clear (x : Value) (w : World) : (binOp .neq 101 (.iface 137 x) .nilIface).run Try.prog w = .ok (.bool true) w := by kernel_rfl
@[go_sem] theorem ta_copy_data (x : Value) (w : World) : (Instr.typeAssert (.iface 138 x) 101 134 true).run Try.prog w = .ok (.tuple #[.agg #[.int .i64 0, .int .i64 0], .bool false]) w := by kernel_rfl
@[go_sem] theorem ta_copy_ack (x : Value) (w : World) : (Instr.typeAssert (.iface 138 x) 101 135 true).run Try.prog w = .ok (.tuple #[.agg #[.int .i64 0, .int .i64 0], .bool false]) w := by kernel_rfl
@[go_sem] theorem ta_copy_clear (x : Value) (w : World) : (Instr.typeAssert (.iface 138 x) 101 137 true).run Try.prog w = .ok (.tuple #[.agg #[.int .i64 0, .int .i64 0, .int .i64 0], .bool false]) w := by kernel_rfl
@[go_sem] theorem ta_copy (x : Value) (w : World) : (Instr.typeAssert (.iface 138 x) 101 138 true).run Try.prog w = .ok (.tuple #[x, .bool true]) w := by kernel_rfl
@[go_sem] theorem nn_copy (x : Value) (w : World) : (binOp .neq 101 (.iface 138 x) .nilIface).run Try.prog w = .ok (.bool true) w := by kernel_rfl
@[go_sem] theorem ta_done_data (x : Value) (w : World) : (Instr.typeAssert (.iface 140 x) 101 134 true).run Try.prog w = .ok (.tuple #[.agg #[.int .i64 0, .int .i64 0], .bool false]) w := by kernel_rfl
@[go_sem] theorem ta_done_ack (x : Value) (w : World) : (Instr.typeAssert (.iface 140 x) 101 135 true).run Try.prog w = .ok (.tuple #[.agg #[.int .i64 0, .int .i64 0], .bool false]) w := by kernel_rfl
@[go_sem] theorem ta_done_clear (x : Value) (w : World) : (Instr.typeAssert (.iface 140 x) 101 137 true).run Try.prog w = .ok (.tuple #[.agg #[.int .i64 0, .int .i64 0, .int .i64 0], .bool false]) w := by kernel_rfl
@[go_sem] theorem ta_done_copy (x : Value) (w : World) : (Instr.typeAssert (.iface 140 x) 101 138 true).run Try.prog w = .ok (.tuple #[.agg #[.int .i64 0, .int .i64 0], .bool false]) w := by kernel_rfl
@[go_sem] theorem ta_done (x : Value) (w : World) : (Instr.typeAssert (.iface 140 x) 101 140 true).run Try.prog w = .ok (.tuple #[x, .bool true]) w := by kernel_rfl
@[go_sem] theorem nn_done (x : Value) (w : World) : (binOp .neq 101 (.iface 140 x) .nilIface).run Try.prog w = .ok (.bool true) w := by kernel_rfl
@[go_sem] theorem nn_none (w : World) : (binOp .neq 101 .nilIface .nilIface).run Try.prog w = .ok (.bool false) w := by kernel_rfl

theorem sayof1 (ao : Option Addr) (n cap : Nat) (c v h : Int) (w : World) :
    Calls Try.prog 96 #[.agg #[.int .i64 1, .int .i64 c, .int .i64 v, .int .i64 h, .slice ao n cap]] w fun e w' => e = .returned (.iface 134 (.agg #[.int .i64 c, .int .i64 v])) ∧ Below w.heap.size w w' := by
  go_enter Try.func96, Try.ntmps96
  go_wp2
  go_ret
  exact ⟨rfl, (Below.refl _ _).alloc (Nat.le_refl _) _⟩
set_option maxRecDepth 100000 in
theorem saidby1 (ao : Option Addr) (n cap : Nat) (c v h : Int) (w : World) :
    Calls Try.prog 98 #[.iface 134 (.agg #[.int .i64 c, .int .i64 v])] w fun e w' => e = .returned (.agg #[.int .i64 1, .int .i64 c, .int .i64 v, .int .i64 0, .slice none 0 0]) ∧ Below w.heap.size w w' := by
  go_enter Try.func98, Try.ntmps98
  go_wp2
  refine bodyPost_ret (v := .agg #[.int .i64 1, .int .i64 c, .int .i64 v, .int .i64 0, .slice none 0 0]) (by simp [results, Try.results98, go_sem]) rfl ⟨rfl, ((Below.refl _ _).alloc (Nat.le_refl _) _).alloc (by simp) _⟩

theorem sayof2 (ao : Option Addr) (n cap : Nat) (c v h : Int) (w : World) :
    Calls Try.prog 96 #[.agg #[.int .i64 2, .int .i64 c, .int .i64 v, .int .i64 h, .slice ao n cap]] w fun e w' => e = .returned (.iface 135 (.agg #[.int .i64 c, .int .i64 v])) ∧ Below w.heap.size w w' := by
  go_enter Try.func96, Try.ntmps96
  go_wp2
  go_ret
  exact ⟨rfl, (Below.refl _ _).alloc (Nat.le_refl _) _⟩
set_option maxRecDepth 100000 in
theorem saidby2 (ao : Option Addr) (n cap : Nat) (c v h : Int) (w : World) :
    Calls Try.prog 98 #[.iface 135 (.agg #[.int .i64 c, .int .i64 v])] w fun e w' => e = .returned (.agg #[.int .i64 2, .int .i64 c, .int .i64 v, .int .i64 0, .slice none 0 0]) ∧ Below w.heap.size w w' := by
  go_enter Try.func98, Try.ntmps98
  go_wp2
  refine bodyPost_ret (v := .agg #[.int .i64 2, .int .i64 c, .int .i64 v, .int .i64 0, .slice none 0 0]) (by simp [results, Try.results98, go_sem]) rfl ⟨rfl, ((Below.refl _ _).alloc (Nat.le_refl _) _).alloc (by simp) _⟩

theorem sayof3 (ao : Option Addr) (n cap : Nat) (c v h : Int) (w : World) :
    Calls Try.prog 96 #[.agg #[.int .i64 3, .int .i64 c, .int .i64 v, .int .i64 h, .slice ao n cap]] w fun e w' => e = .returned (.iface 137 (.agg #[.int .i64 c, .int .i64 v, .int .i64 h])) ∧ Below w.heap.size w w' := by
  go_enter Try.func96, Try.ntmps96
  go_wp2
  go_ret
  exact ⟨rfl, (Below.refl _ _).alloc (Nat.le_refl _) _⟩
set_option maxRecDepth 100000 in
theorem saidby3 (ao : Option Addr) (n cap : Nat) (c v h : Int) (w : World) :
    Calls Try.prog 98 #[.iface 137 (.agg #[.int .i64 c, .int .i64 v, .int .i64 h])] w fun e w' => e = .returned (.agg #[.int .i64 3, .int .i64 c, .int .i64 v, .int .i64 h, .slice none 0 0]) ∧ Below w.heap.size w w' := by
  go_enter Try.func98, Try.ntmps98
  go_wp2
  refine bodyPost_ret (v := .agg #[.int .i64 3, .int .i64 c, .int .i64 v, .int .i64 h, .slice none 0 0]) (by simp [results, Try.results98, go_sem]) rfl ⟨rfl, ((Below.refl _ _).alloc (Nat.le_refl _) _).alloc (by simp) _⟩

theorem sayof4 (ao : Option Addr) (n cap : Nat) (c v h : Int) (w : World) :
    Calls Try.prog 96 #[.agg #[.int .i64 4, .int .i64 c, .int .i64 v, .int .i64 h, .slice ao n cap]] w fun e w' => e = .returned (.iface 138 (.agg #[.int .i64 c, .int .i64 v])) ∧ Below w.heap.size w w' := by
  go_enter Try.func96, Try.ntmps96
  go_wp2
  go_ret
  exact ⟨rfl, (Below.refl _ _).alloc (Nat.le_refl _) _⟩
set_option maxRecDepth 100000 in
theorem saidby4 (ao : Option Addr) (n cap : Nat) (c v h : Int) (w : World) :
    Calls Try.prog 98 #[.iface 138 (.agg #[.int .i64 c, .int .i64 v])] w fun e w' => e = .returned (.agg #[.int .i64 4, .int .i64 c, .int .i64 v, .int .i64 0, .slice none 0 0]) ∧ Below w.heap.size w w' := by
  go_enter Try.func98, Try.ntmps98
  go_wp2
  refine bodyPost_ret (v := .agg #[.int .i64 4, .int .i64 c, .int .i64 v, .int .i64 0, .slice none 0 0]) (by simp [results, Try.results98, go_sem]) rfl ⟨rfl, ((Below.refl _ _).alloc (Nat.le_refl _) _).alloc (by simp) _⟩

theorem sayof5 (ao : Option Addr) (n cap : Nat) (c v h : Int) (w : World) :
    Calls Try.prog 96 #[.agg #[.int .i64 5, .int .i64 c, .int .i64 v, .int .i64 h, .slice ao n cap]] w fun e w' => e = .returned (.iface 140 (.agg #[.int .i64 v, .slice ao n cap])) ∧ Below w.heap.size w w' := by
  go_enter Try.func96, Try.ntmps96
  go_wp2
  go_ret
  exact ⟨rfl, (Below.refl _ _).alloc (Nat.le_refl _) _⟩
set_option maxRecDepth 100000 in
theorem saidby5 (ao : Option Addr) (n cap : Nat) (c v h : Int) (w : World) :
    Calls Try.prog 98 #[.iface 140 (.agg #[.int .i64 v, .slice ao n cap])] w fun e w' => e = .returned (.agg #[.int .i64 5, .int .i64 0, .int .i64 v, .int .i64 0, .slice ao n cap]) ∧ Below w.heap.size w w' := by
  go_enter Try.func98, Try.ntmps98
  go_wp2
  refine bodyPost_ret (v := .agg #[.int .i64 5, .int .i64 0, .int .i64 v, .int .i64 0, .slice ao n cap]) (by simp [results, Try.results98, go_sem]) rfl ⟨rfl, ((Below.refl _ _).alloc (Nat.le_refl _) _).alloc (by simp) _⟩
end Go.Proofs.Ytkeojhnifnkpiaa

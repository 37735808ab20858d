/- Sayings of the program: what is one, and what it says. -/
import Derived.Test.YthhkmfgccbkkhaaMokI
namespace Go.Proofs.Ythhkmfgccbkkhaa
open Go.ChangeShapes Go.WideShapes Go.ChangeAt Go.RowKit
set_option linter.unusedVariables false
set_option linter.unusedSimpArgs false

@[go_sem] theorem ta_data (x : Value) (w : World) : (Instr.typeAssert (.iface 107 x) 78 107 true).run Try.prog w = .ok (.tuple #[x, .bool true]) w := by kernel_rfl
@[go_sem] theorem nn_data (x : Value) (w : World) : (binOp .neq 78 (.iface 107 x) .nilIface).run Try.prog w = .ok (.bool true) w := by kernel_rfl
@[go_sem] theorem ta_ack_data (x : Value) (w : World) : (Instr.typeAssert (.iface 108 x) 78 107 true).run Try.prog w = .ok (.tuple #[.agg #[.int .i64 0, .int .i64 0], .bool false]) w := by kernel_rfl
@[go_sem] theorem ta_ack (x : Value) (w : World) : (Instr.typeAssert (.iface 108 x) 78 108 true).run Try.prog w = .ok (.tuple #[x, .bool true]) w := by kernel_rfl
@[go_sem] theorem nn_ack (x : Value) (w : World) : (binOp .neq 78 (.iface 108 x) .nilIface).run Try.prog w = .ok (.bool true) w := by kernel_rfl
@[go_sem] theorem ta_clear_data (x : Value) (w : World) : (Instr.typeAssert (.iface 110 x) 78 107 true).run Try.prog w = .ok (.tuple #[.agg #[.int .i64 0, .int .i64 0], .bool false]) w := by kernel_rfl
@[go_sem] theorem ta_clear_ack (x : Value) (w : World) : (Instr.typeAssert (.iface 110 x) 78 108 true).run Try.prog w = .ok (.tuple #[.agg #[.int .i64 0, .int .i64 0], .bool false]) w := by kernel_rfl
@[go_sem] theorem ta_clear (x : Value) (w : World) : (Instr.typeAssert (.iface 110 x) 78 110 true).run Try.prog w = .ok (.tuple #[x, .bool true]) w := by kernel_rfl
@[go_sem] theorem nn_clear (x : Value) (w : World) : (binOp .neq 78 (.iface 110 x) .nilIface).run Try.prog w = .ok (.bool true) w := by kernel_rfl
@[go_sem] theorem ta_copy_data (x : Value) (w : World) : (Instr.typeAssert (.iface 111 x) 78 107 true).run Try.prog w = .ok (.tuple #[.agg #[.int .i64 0, .int .i64 0], .bool false]) w := by kernel_rfl
@[go_sem] theorem ta_copy_ack (x : Value) (w : World) : (Instr.typeAssert (.iface 111 x) 78 108 true).run Try.prog w = .ok (.tuple #[.agg #[.int .i64 0, .int .i64 0], .bool false]) w := by kernel_rfl
@[go_sem] theorem ta_copy_clear (x : Value) (w : World) : (Instr.typeAssert (.iface 111 x) 78 110 true).run Try.prog w = .ok (.tuple #[.agg #[.int .i64 0, .int .i64 0, .int .i64 0], .bool false]) w := by kernel_rfl
@[go_sem] theorem ta_copy (x : Value) (w : World) : (Instr.typeAssert (.iface 111 x) 78 111 true).run Try.prog w = .ok (.tuple #[x, .bool true]) w := by kernel_rfl
@[go_sem] theorem nn_copy (x : Value) (w : World) : (binOp .neq 78 (.iface 111 x) .nilIface).run Try.prog w = .ok (.bool true) w := by kernel_rfl
@[go_sem] theorem ta_done_data (x : Value) (w : World) : (Instr.typeAssert (.iface 113 x) 78 107 true).run Try.prog w = .ok (.tuple #[.agg #[.int .i64 0, .int .i64 0], .bool false]) w := by kernel_rfl
@[go_sem] theorem ta_done_ack (x : Value) (w : World) : (Instr.typeAssert (.iface 113 x) 78 108 true).run Try.prog w = .ok (.tuple #[.agg #[.int .i64 0, .int .i64 0], .bool false]) w := by kernel_rfl
@[go_sem] theorem ta_done_clear (x : Value) (w : World) : (Instr.typeAssert (.iface 113 x) 78 110 true).run Try.prog w = .ok (.tuple #[.agg #[.int .i64 0, .int .i64 0, .int .i64 0], .bool false]) w := by kernel_rfl
@[go_sem] theorem ta_done_copy (x : Value) (w : World) : (Instr.typeAssert (.iface 113 x) 78 111 true).run Try.prog w = .ok (.tuple #[.agg #[.int .i64 0, .int .i64 0], .bool false]) w := by kernel_rfl
@[go_sem] theorem ta_done (x : Value) (w : World) : (Instr.typeAssert (.iface 113 x) 78 113 true).run Try.prog w = .ok (.tuple #[x, .bool true]) w := by kernel_rfl
@[go_sem] theorem nn_done (x : Value) (w : World) : (binOp .neq 78 (.iface 113 x) .nilIface).run Try.prog w = .ok (.bool true) w := by kernel_rfl
@[go_sem] theorem nn_none (w : World) : (binOp .neq 78 .nilIface .nilIface).run Try.prog w = .ok (.bool false) w := by kernel_rfl

theorem sayof1 (ao : Option Addr) (n cap : Nat) (c v h : Int) (w : World) :
    Calls Try.prog 66 #[.agg #[.int .i64 1, .int .i64 c, .int .i64 v, .int .i64 h, .slice ao n cap]] w fun e w' => e = .returned (.iface 107 (.agg #[.int .i64 c, .int .i64 v])) ∧ Below w.heap.size w w' := by
  go_enter Try.func66, Try.ntmps66
  go_wp2
  go_ret
  exact ⟨rfl, (Below.refl _ _).alloc (Nat.le_refl _) _⟩
set_option maxRecDepth 100000 in
theorem saidby1 (ao : Option Addr) (n cap : Nat) (c v h : Int) (w : World) :
    Calls Try.prog 68 #[.iface 107 (.agg #[.int .i64 c, .int .i64 v])] w fun e w' => e = .returned (.agg #[.int .i64 1, .int .i64 c, .int .i64 v, .int .i64 0, .slice none 0 0]) ∧ Below w.heap.size w w' := by
  go_enter Try.func68, Try.ntmps68
  go_wp2
  refine bodyPost_ret (v := .agg #[.int .i64 1, .int .i64 c, .int .i64 v, .int .i64 0, .slice none 0 0]) (by simp [results, Try.results68, go_sem]) rfl ⟨rfl, ((Below.refl _ _).alloc (Nat.le_refl _) _).alloc (by simp) _⟩

theorem sayof2 (ao : Option Addr) (n cap : Nat) (c v h : Int) (w : World) :
    Calls Try.prog 66 #[.agg #[.int .i64 2, .int .i64 c, .int .i64 v, .int .i64 h, .slice ao n cap]] w fun e w' => e = .returned (.iface 108 (.agg #[.int .i64 c, .int .i64 v])) ∧ Below w.heap.size w w' := by
  go_enter Try.func66, Try.ntmps66
  go_wp2
  go_ret
  exact ⟨rfl, (Below.refl _ _).alloc (Nat.le_refl _) _⟩
set_option maxRecDepth 100000 in
theorem saidby2 (ao : Option Addr) (n cap : Nat) (c v h : Int) (w : World) :
    Calls Try.prog 68 #[.iface 108 (.agg #[.int .i64 c, .int .i64 v])] w fun e w' => e = .returned (.agg #[.int .i64 2, .int .i64 c, .int .i64 v, .int .i64 0, .slice none 0 0]) ∧ Below w.heap.size w w' := by
  go_enter Try.func68, Try.ntmps68
  go_wp2
  refine bodyPost_ret (v := .agg #[.int .i64 2, .int .i64 c, .int .i64 v, .int .i64 0, .slice none 0 0]) (by simp [results, Try.results68, go_sem]) rfl ⟨rfl, ((Below.refl _ _).alloc (Nat.le_refl _) _).alloc (by simp) _⟩

theorem sayof3 (ao : Option Addr) (n cap : Nat) (c v h : Int) (w : World) :
    Calls Try.prog 66 #[.agg #[.int .i64 3, .int .i64 c, .int .i64 v, .int .i64 h, .slice ao n cap]] w fun e w' => e = .returned (.iface 110 (.agg #[.int .i64 c, .int .i64 v, .int .i64 h])) ∧ Below w.heap.size w w' := by
  go_enter Try.func66, Try.ntmps66
  go_wp2
  go_ret
  exact ⟨rfl, (Below.refl _ _).alloc (Nat.le_refl _) _⟩
set_option maxRecDepth 100000 in
theorem saidby3 (ao : Option Addr) (n cap : Nat) (c v h : Int) (w : World) :
    Calls Try.prog 68 #[.iface 110 (.agg #[.int .i64 c, .int .i64 v, .int .i64 h])] w fun e w' => e = .returned (.agg #[.int .i64 3, .int .i64 c, .int .i64 v, .int .i64 h, .slice none 0 0]) ∧ Below w.heap.size w w' := by
  go_enter Try.func68, Try.ntmps68
  go_wp2
  refine bodyPost_ret (v := .agg #[.int .i64 3, .int .i64 c, .int .i64 v, .int .i64 h, .slice none 0 0]) (by simp [results, Try.results68, go_sem]) rfl ⟨rfl, ((Below.refl _ _).alloc (Nat.le_refl _) _).alloc (by simp) _⟩

theorem sayof4 (ao : Option Addr) (n cap : Nat) (c v h : Int) (w : World) :
    Calls Try.prog 66 #[.agg #[.int .i64 4, .int .i64 c, .int .i64 v, .int .i64 h, .slice ao n cap]] w fun e w' => e = .returned (.iface 111 (.agg #[.int .i64 c, .int .i64 v])) ∧ Below w.heap.size w w' := by
  go_enter Try.func66, Try.ntmps66
  go_wp2
  go_ret
  exact ⟨rfl, (Below.refl _ _).alloc (Nat.le_refl _) _⟩
set_option maxRecDepth 100000 in
theorem saidby4 (ao : Option Addr) (n cap : Nat) (c v h : Int) (w : World) :
    Calls Try.prog 68 #[.iface 111 (.agg #[.int .i64 c, .int .i64 v])] w fun e w' => e = .returned (.agg #[.int .i64 4, .int .i64 c, .int .i64 v, .int .i64 0, .slice none 0 0]) ∧ Below w.heap.size w w' := by
  go_enter Try.func68, Try.ntmps68
  go_wp2
  refine bodyPost_ret (v := .agg #[.int .i64 4, .int .i64 c, .int .i64 v, .int .i64 0, .slice none 0 0]) (by simp [results, Try.results68, go_sem]) rfl ⟨rfl, ((Below.refl _ _).alloc (Nat.le_refl _) _).alloc (by simp) _⟩

theorem sayof5 (ao : Option Addr) (n cap : Nat) (c v h : Int) (w : World) :
    Calls Try.prog 66 #[.agg #[.int .i64 5, .int .i64 c, .int .i64 v, .int .i64 h, .slice ao n cap]] w fun e w' => e = .returned (.iface 113 (.agg #[.int .i64 v, .slice ao n cap])) ∧ Below w.heap.size w w' := by
  go_enter Try.func66, Try.ntmps66
  go_wp2
  go_ret
  exact ⟨rfl, (Below.refl _ _).alloc (Nat.le_refl _) _⟩
set_option maxRecDepth 100000 in
theorem saidby5 (ao : Option Addr) (n cap : Nat) (c v h : Int) (w : World) :
    Calls Try.prog 68 #[.iface 113 (.agg #[.int .i64 v, .slice ao n cap])] w fun e w' => e = .returned (.agg #[.int .i64 5, .int .i64 0, .int .i64 v, .int .i64 0, .slice ao n cap]) ∧ Below w.heap.size w w' := by
  go_enter Try.func68, Try.ntmps68
  go_wp2
  refine bodyPost_ret (v := .agg #[.int .i64 5, .int .i64 0, .int .i64 v, .int .i64 0, .slice ao n cap]) (by simp [results, Try.results68, go_sem]) rfl ⟨rfl, ((Below.refl _ _).alloc (Nat.le_refl _) _).alloc (by simp) _⟩
end Go.Proofs.Ythhkmfgccbkkhaa

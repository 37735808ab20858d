/- Sayings of the program: what is one, and what it says. -/
import Derived.Test.YtkndnndildnbpaaGreatDoorGa
import Derived.Test.YtkndnndildnbpaaGreatDoorGb
import Derived.Test.YtkndnndildnbpaaGreatDoorGh
import Derived.Test.YtkndnndildnbpaaGreatDoorGp
import Derived.Test.YtkndnndildnbpaaGreatDoorGo

namespace Go.Proofs.YtkndnndildnbpaaGreatDoor
open Go.ChangeShapes Go.WideShapes Go.ChangeAt Go.RowKit
set_option linter.unusedVariables false
set_option linter.unusedSimpArgs false

@[go_sem] theorem ta_data (x : Value) (w : World) : (Instr.typeAssert (.iface 177 x) 156 177 true).run Tryz.prog w = .ok (.tuple #[x, .bool true]) w := by kernel_rfl
@[go_sem] theorem nn_data (x : Value) (w : World) : (binOp .neq 156 (.iface 177 x) .nilIface).run Tryz.prog w = .ok (.bool true) w := by kernel_rfl
@[go_sem] theorem ta_ack_data (x : Value) (w : World) : (Instr.typeAssert (.iface 178 x) 156 177 true).run Tryz.prog w = .ok (.tuple #[.agg #[.int .i64 0, .int .i64 0], .bool false]) w := by kernel_rfl
@[go_sem] theorem ta_ack (x : Value) (w : World) : (Instr.typeAssert (.iface 178 x) 156 178 true).run Tryz.prog w = .ok (.tuple #[x, .bool true]) w := by kernel_rfl
@[go_sem] theorem nn_ack (x : Value) (w : World) : (binOp .neq 156 (.iface 178 x) .nilIface).run Tryz.prog w = .ok (.bool true) w := by kernel_rfl
@[go_sem] theorem ta_clear_data (x : Value) (w : World) : (Instr.typeAssert (.iface 180 x) 156 177 true).run Tryz.prog w = .ok (.tuple #[.agg #[.int .i64 0, .int .i64 0], .bool false]) w := by kernel_rfl
@[go_sem] theorem ta_clear_ack (x : Value) (w : World) : (Instr.typeAssert (.iface 180 x) 156 178 true).run Tryz.prog w = .ok (.tuple #[.agg #[.int .i64 0, .int .i64 0], .bool false]) w := by kernel_rfl
@[go_sem] theorem ta_clear (x : Value) (w : World) : (Instr.typeAssert (.iface 180 x) 156 180 true).run Tryz.prog w = .ok (.tuple #[x, .bool true]) w := by kernel_rfl
@[go_sem] theorem nn_clear (x : Value) (w : World) : (binOp .neq 156 (.iface 180 x) .nilIface).run Tryz.prog w = .ok (.bool true) w := by kernel_rfl
@[go_sem] theorem ta_copy_data (x : Value) (w : World) : (Instr.typeAssert (.iface 181 x) 156 177 true).run Tryz.prog w = .ok (.tuple #[.agg #[.int .i64 0, .int .i64 0], .bool false]) w := by kernel_rfl
@[go_sem] theorem ta_copy_ack (x : Value) (w : World) : (Instr.typeAssert (.iface 181 x) 156 178 true).run Tryz.prog w = .ok (.tuple #[.agg #[.int .i64 0, .int .i64 0], .bool false]) w := by kernel_rfl
@[go_sem] theorem ta_copy_clear (x : Value) (w : World) : (Instr.typeAssert (.iface 181 x) 156 180 true).run Tryz.prog w = .ok (.tuple #[.agg #[.int .i64 0, .int .i64 0, .int .i64 0], .bool false]) w := by kernel_rfl
@[go_sem] theorem ta_copy (x : Value) (w : World) : (Instr.typeAssert (.iface 181 x) 156 181 true).run Tryz.prog w = .ok (.tuple #[x, .bool true]) w := by kernel_rfl
@[go_sem] theorem nn_copy (x : Value) (w : World) : (binOp .neq 156 (.iface 181 x) .nilIface).run Tryz.prog w = .ok (.bool true) w := by kernel_rfl
@[go_sem] theorem ta_done_data (x : Value) (w : World) : (Instr.typeAssert (.iface 183 x) 156 177 true).run Tryz.prog w = .ok (.tuple #[.agg #[.int .i64 0, .int .i64 0], .bool false]) w := by kernel_rfl
@[go_sem] theorem ta_done_ack (x : Value) (w : World) : (Instr.typeAssert (.iface 183 x) 156 178 true).run Tryz.prog w = .ok (.tuple #[.agg #[.int .i64 0, .int .i64 0], .bool false]) w := by kernel_rfl
@[go_sem] theorem ta_done_clear (x : Value) (w : World) : (Instr.typeAssert (.iface 183 x) 156 180 true).run Tryz.prog w = .ok (.tuple #[.agg #[.int .i64 0, .int .i64 0, .int .i64 0], .bool false]) w := by kernel_rfl
@[go_sem] theorem ta_done_copy (x : Value) (w : World) : (Instr.typeAssert (.iface 183 x) 156 181 true).run Tryz.prog w = .ok (.tuple #[.agg #[.int .i64 0, .int .i64 0], .bool false]) w := by kernel_rfl
@[go_sem] theorem ta_done (x : Value) (w : World) : (Instr.typeAssert (.iface 183 x) 156 183 true).run Tryz.prog w = .ok (.tuple #[x, .bool true]) w := by kernel_rfl
@[go_sem] theorem nn_done (x : Value) (w : World) : (binOp .neq 156 (.iface 183 x) .nilIface).run Tryz.prog w = .ok (.bool true) w := by kernel_rfl
@[go_sem] theorem nn_none (w : World) : (binOp .neq 156 .nilIface .nilIface).run Tryz.prog w = .ok (.bool false) w := by kernel_rfl

/-- b tells whether p holds. -/
def TellsB (b : Bool) (p : Prop) : Prop := b = true ↔ p
theorem tellsB (p : Prop) : ∃ b : Bool, TellsB b p := by
  by_cases h : p
  · exact ⟨true, by simp [TellsB, h]⟩
  · exact ⟨false, by simp [TellsB, h]⟩
@[go_sem] theorem na_data (x : Value) (w : World) : (nilAhead 393 177 x "loop.example/g00399/impl.inBounds").run Tryz.prog w = .ok (some false) w := by kernel_rfl
@[go_sem] theorem me_data (x : Value) (w : World) : (method 393 177 x "loop.example/g00399/impl.inBounds").run Tryz.prog w = .ok (298, x) w := by kernel_rfl
@[go_sem] theorem na_ack (x : Value) (w : World) : (nilAhead 393 178 x "loop.example/g00399/impl.inBounds").run Tryz.prog w = .ok (some false) w := by kernel_rfl
@[go_sem] theorem me_ack (x : Value) (w : World) : (method 393 178 x "loop.example/g00399/impl.inBounds").run Tryz.prog w = .ok (301, x) w := by kernel_rfl
@[go_sem] theorem na_clear (x : Value) (w : World) : (nilAhead 393 180 x "loop.example/g00399/impl.inBounds").run Tryz.prog w = .ok (some false) w := by kernel_rfl
@[go_sem] theorem me_clear (x : Value) (w : World) : (method 393 180 x "loop.example/g00399/impl.inBounds").run Tryz.prog w = .ok (302, x) w := by kernel_rfl
@[go_sem] theorem na_copy (x : Value) (w : World) : (nilAhead 393 181 x "loop.example/g00399/impl.inBounds").run Tryz.prog w = .ok (some false) w := by kernel_rfl
@[go_sem] theorem me_copy (x : Value) (w : World) : (method 393 181 x "loop.example/g00399/impl.inBounds").run Tryz.prog w = .ok (303, x) w := by kernel_rfl
@[go_sem] theorem na_done (x : Value) (w : World) : (nilAhead 393 183 x "loop.example/g00399/impl.inBounds").run Tryz.prog w = .ok (some false) w := by kernel_rfl
@[go_sem] theorem me_done (x : Value) (w : World) : (method 393 183 x "loop.example/g00399/impl.inBounds").run Tryz.prog w = .ok (304, x) w := by kernel_rfl

set_option maxRecDepth 100000 in
theorem putnums_impl (ao : Option Addr) (n cap : Nat) (f : Nat → Int) (w : World) (hn : n ≤ 100) (hs : SL .i64 w ao n f) (hf : ∀ i, i < n → 0 ≤ f i ∧ f i ≤ 2147483647) :
    Calls Tryz.prog 261 #[.slice ao n cap] w fun e w' => ∃ x, e = .returned x ∧ w'.ownsRow w.heap.size 5 1 x (nums ((List.range n).map f)).length ((nums ((List.range n).map f)).map (.int .u8)) ∧ Below w.heap.size w w' := by
  obtain ⟨i0, hi, hz0, hz1, hz2⟩ := info_parts Tryz.info5
  have HS := hide hs
  have HF := hide hf
  clear hs hf
  go_enter Tryz.func261, Tryz.ntmps261
  go_wp2
  go_loopw [3, 5, 8] (fun v _ i wr => ∃ (j : Nat) (L : List Int), j ≤ n ∧ i = .int .i64 j ∧ Hid (L = nums ((List.range j).map f)) ∧ Hid (wr.ownsRow w.heap.size 5 1 v L.length (L.map (.int .u8)) ∧ Below w.heap.size w wr)) (fun _ _ i _ => n - (intOf i).toNat)
  case atStart => exact ⟨0, [], by omega, rfl, rfl, gnil, Below.refl _ _⟩
  case round =>
    obtain ⟨j, L, hj, rfl, HL, HI⟩ := hrel
    have hLl : L.length ≤ 5 * j := by have := nums_len ((List.range j).map f); rw [← HL.out] at this; simpa using this
    by_cases hlt : j < n
    · obtain ⟨b, off, rfl, hb, hcj0⟩ := HS.out j hlt
      have hcj := (HI.out.2.cell (p := ⟨b, off + j, none⟩) hb).trans hcj0
      obtain ⟨hz1', hz2'⟩ := HF.out j hlt
      have hnx : Hid (nums ((List.range (j + 1)).map f) = L ++ pb 4 (f j)) := (show _ = _ by
        rw [List.range_succ, List.map_append, nums_app, ← HL.out]; simp [nums_one])
      generalize f j = z at *
      clear hcj0
      go_wp2_with fail
      refine (put_impl z _ hz1' hz2').mono ?_
      rintro e w3 ⟨v3, rfl, ho3, hb3⟩
      have hpl := pb_len 4 z
      have HSR := hide (Src.of_owns ho3)
      have HI3 : Hid (w3.ownsRow w.heap.size 5 1 u3 (L.length) (L.map (.int .u8)) ∧ Below w.heap.size w w3) := ⟨gbelow HI.out.1 hb3, HI.out.2.trans (hb3.mono HI.out.2.size)⟩
      generalize pb 4 z = M at hpl HSR hnx
      have hsz := HI3.out.2.size
      clear ho3 hb3 HI hcj
      go_wp2_with (first
        | (at_builtin; refine wpList_append_src rfl _ _ 26 rfl w.heap.size 5 i0 (.int .u8 0) 1 Tryz.underlying26 hi hz0 hz1 hz2 rfl .u8 _ L rfl HI3.out.1 _ M rfl HSR.out (glens (by omega)) (by omega) hsz ?_; intro v' w4 hown' hgrow))
      have R := hide (And.intro hown' (ggrown HI3.out.2 hsz HI3.out.1 hgrow))
      clear hown' hgrow
      go_wp2
      go_roundw
      case rel => exact ⟨j + 1, L ++ M, by omega, by go_num, (show _ = _ by rw [hnx.out]), R.out⟩
      case measure => simp [intOf]; omega
    · obtain rfl : j = n := by omega
      go_wp2
      go_ret
      rw [← HL.out]
      exact ⟨_, rfl, HI.out⟩

/-- What is left behind k bytes, and the first k of them. -/
def dk (x : Int) : Nat → Int
  | 0 => x
  | k + 1 => dk x k / 256
def fk (x : Int) : Nat → List Int
  | 0 => []
  | k + 1 => fk x k ++ [dk x k % 256]
theorem fk_len (x : Int) (k : Nat) : (fk x k).length = k := by
  induction k with
  | zero => rfl
  | succ k ih => simp [fk, ih]
theorem dk_bd (x : Int) (k : Nat) (h0 : 0 ≤ x) (h1 : x < 4294967296) : 0 ≤ dk x k ∧ dk x k < 4294967296 := by
  induction k with
  | zero => exact ⟨h0, h1⟩
  | succ k ih => simp only [dk]; omega
theorem fk_four (x : Int) : fk x 4 = s4 x := by
  simp only [fk, dk, s4, List.nil_append, List.cons_append]
  rw [show x / 256 / 256 = x / 65536 by omega, show x / 65536 / 256 = x / 16777216 by omega]

set_option maxRecDepth 100000 in
theorem low4_impl (x : Int) (w : World) (h0 : 0 ≤ x) (h1 : x < 4294967296) :
    Calls Tryz.prog 239 #[.int .i64 x, .int .i64 4] w fun e w' => ∃ v, e = .returned v ∧ w'.ownsRow w.heap.size 5 1 v (s4 x).length ((s4 x).map (.int .u8)) ∧ Below w.heap.size w w' := by
  obtain ⟨i0, hi, hz0, hz1, hz2⟩ := info_parts Tryz.info5
  go_enter Tryz.func239, Tryz.ntmps239
  go_wp2
  go_loopw [0, 5, 7] (fun y v i wr => ∃ k : Nat, k ≤ 4 ∧ i = .int .i64 k ∧ y = .int .i64 (dk x k) ∧ Hid (wr.ownsRow w.heap.size 5 1 v (fk x k).length ((fk x k).map (.int .u8)) ∧ Below w.heap.size w wr)) (fun _ _ i _ => 4 - (intOf i).toNat)
  case atStart => exact ⟨0, by omega, rfl, rfl, gnil, Below.refl _ _⟩
  case round =>
    obtain ⟨k, hk, rfl, rfl, HI⟩ := hrel
    have hd := dk_bd x k h0 h1
    have hfl := fk_len x k
    by_cases hlt : k < 4
    · have E1 : Hid (dk x (k + 1) = dk x k / 256) := rfl
      have E2 : Hid (fk x (k + 1) = fk x k ++ [dk x k % 256]) := rfl
      generalize dk x k = y at *
      generalize fk x k = L at *
      have HI2 : Hid (∀ o, (wr.alloc o).ownsRow w.heap.size 5 1 u5 L.length (L.map (.int .u8))) := fun o => HI.out.1.alloc o
      have HB2 : Hid (∀ o, Below w.heap.size w (wr.alloc o)) := fun o => HI.out.2.alloc HI.out.2.size o
      have HSR : Hid (Src .u8 (wr.alloc (.cells #[.int .u8 (y % 256)] 5)) (.slice (some ⟨wr.heap.size, 0, none⟩) 1 1) [y % 256]) := .inr ⟨⟨wr.heap.size, 0, none⟩, 1, rfl, gcells wr [.int .u8 (y % 256)] 5⟩
      go_wp2_with (first
        | (at_builtin; refine wpList_append_src rfl _ _ 26 rfl w.heap.size 5 i0 (.int .u8 0) 1 Tryz.underlying26 hi hz0 hz1 hz2 rfl .u8 _ L rfl (HI2.out _) _ [y % 256] rfl HSR.out (glens (by simp; omega)) (by simp; omega) (HB2.out _).size ?_; intro v' w4 hown' hgrow))
      have R := hide (And.intro hown' (ggrown (HB2.out _) (HB2.out _).size HI.out.1 hgrow))
      clear hown' hgrow HI2 HB2 HSR
      go_wp2
      go_roundw
      case rel => exact ⟨k + 1, by omega, by go_num, by rw [E1.out], by rw [E2.out]; exact R.out⟩
      case measure => simp [intOf]; omega
    · obtain rfl : k = 4 := by omega
      go_wp2
      go_ret
      rw [← fk_four]
      exact ⟨_, rfl, HI.out⟩

theorem bconcat3 (vb : Nat) (a0 a1 a2 : Option Addr) (c0 c1 c2 : Nat) (L0 L1 L2 : List Int) (w : World) (hlen : L0.length + L1.length + L2.length ≤ 1048576) (hv : w.heap[vb]? = some (.cells #[.slice a0 L0.length c0, .slice a1 L1.length c1, .slice a2 L2.length c2] 26 (0, 0)))
    (h0 : Src .u8 w (.slice a0 L0.length c0) L0) (h1 : Src .u8 w (.slice a1 L1.length c1) L1) (h2 : Src .u8 w (.slice a2 L2.length c2) L2) :
    Calls Tryz.prog 252 #[.slice (some ⟨vb, 0, none⟩) 3 3] w fun e w' => ∃ v, e = .returned v ∧ w'.ownsRow w.heap.size 5 1 v (L0 ++ L1 ++ L2).length ((L0 ++ L1 ++ L2).map (.int .u8)) ∧ Below w.heap.size w w' := by
  have h := bconcat_any vb 3 (fun k => if k = 0 then a0 else if k = 1 then a1 else a2) (fun k => if k = 0 then c0 else if k = 1 then c1 else c2) (fun k => if k = 0 then L0 else if k = 1 then L1 else L2) w (by omega) (by simp [catk]; omega) (Array.getElem?_eq_some_iff.1 hv).1
    (fun k hk => by
      obtain rfl | rfl | rfl : k = 0 ∨ k = 1 ∨ k = 2 := by omega
      · exact blk_cell hv rfl
      · exact blk_cell hv rfl
      · exact blk_cell hv rfl)
    (fun k hk => by
      obtain rfl | rfl | rfl : k = 0 ∨ k = 1 ∨ k = 2 := by omega
      · exact h0
      · exact h1
      · exact h2)
  simpa [catk] using h
end Go.Proofs.YtkndnndildnbpaaGreatDoor

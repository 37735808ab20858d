/- What is squeezed of drawn bytes spreads to what it was, and is twice as long at most; Squeeze, Spread and Run of the program answer there as those of the model. -/
import Derived.Test.YthnlcijmlcaepaaRows
import Derived.WalkKit
import Derived.ProofKit
import Derived.OpenShut
import Derived.ShutString
import Derived.Test.YthnlcijmlcaepaaSqzI
import Derived.Test.YthnlcijmlcaepaaSprI
import Derived.Test.YthnlcijmlcaepaaRunI
import Derived.Test.YthnlcijmlcaepaaLzB
import Derived.Test.YthnlcijmlcaepaaDrawSpr2
import Derived.Test.YthnlcijmlcaepaaConv
import Derived.Test.YthnlcijmlcaepaaBig
import Derived.ChangeOld
import Derived.Below
namespace Go.Proofs.Ythnlcijmlcaepaa.fnSqueezed
open Go.ChangeShapes Go.WideShapes Go.ChangeAt Go.RowKit
open Go.ChangeMaps (open_string shut_string)
set_option linter.unusedVariables false

theorem own : ownKnob Try.prog.godebug = none := by kernel_rfl
theorem laidOut : laidOutB Try.prog = true := by kernel_rfl

/-- WHAT THE WALK IS TOLD OF A SLICE OF INTEGERS THAT CAME IN: it is nil; or it leads to a row of 'cap' cells, the numbers 'zs' (the first 'len' are its elements, the rest its spare room), each fitting its kind. -/
def IsRow (k : IntKind) (w : World) (a : Option Addr) (len cap : Nat) (zs : List Int) : Prop :=
  (a = none ∧ len = 0 ∧ cap = 0 ∧ zs = []) ∨
  ∃ x, a = some x ∧ len ≤ cap ∧ cap ≤ maxLen ∧ zs.length = cap ∧ (∀ i, i < zs.length → w.cell? (x.add i) = some (.int k (zs.getD i 0))) ∧ ∀ n ∈ zs, (Lit.int k n).wf = true

theorem walk (a0 : Option Addr) (len0 cap0 : Nat) (z0 : List Int) (w : World) (w0 : IsRow .u8 w a0 len0 cap0 z0) :
    Calls Try.prog 3 #[.slice a0 len0 cap0] w fun e w' => e = .returned (.bool true) ∧ Below w.heap.size w w' := by
  obtain ⟨f, hs, hf0⟩ := view w0
  have hf := view_u8 hf0
  clear w0 hf0
  by_cases hn : len0 ≤ 1048576
  · have HS := hide hs
    have HF := hide hf
    clear hs hf
    go_enter Try.func3, Try.ntmps3
    go_wp2_with fail
    refine (big_no a0 len0 cap0 _ hn).mono ?_
    rintro e w' ⟨rfl, hw⟩
    rw [hw]
    clear hw
    go_wp2_with fail
    refine (draw_squeeze a0 len0 cap0 f _ hn HS.out HF.out).mono ?_
    rintro e w1 ⟨v1, L, rfl, hL, ⟨bo, cb, rfl, hcb1, hcb2, hO1⟩, hLb, b1⟩
    have hLb' : ∀ i, i < L.length → 0 ≤ L.getD i 0 ∧ L.getD i 0 ≤ 255 := fun i hi => hLb _ (by simp [List.getD, hi])
    have hspec : Hid (∀ W, SL .u8 W bo L.length (fun i => L.getD i 0) → Calls Try.prog 15 #[.slice bo L.length cb] W fun e w' => ∃ v, e = .returned v ∧ w'.ownsRow W.heap.size 5 1 v (squeeze (fun i => L.getD i 0) L.length).length ((squeeze (fun i => L.getD i 0) L.length).map (.int .u8)) ∧ v ≠ .slice none 0 0 ∧ Below W.heap.size W w') := fun W h => squeeze_spec bo L.length cb _ W (by omega) h hLb'
    have himpl := hide (squeeze_impl bo L.length cb (fun i => L.getD i 0) w1 (by omega) hO1.sl hLb')
    have hlen := squeeze_len (fun i => L.getD i 0) L.length
    have hMb : Hid (Byts (squeeze (fun i => L.getD i 0) L.length)) := squeeze_byte _ _ hLb'
    have hback : Hid (L.length ≤ 3000 → spread (squeeze (fun i => L.getD i 0) L.length) = some L) := fun h => by rw [spread_squeeze _ _ h hLb', bl_of]
    have hover : Hid (3000 < L.length → (squeeze (fun i => L.getD i 0) L.length).length = 0) := fun h => by unfold squeeze; rw [if_pos h]; rfl
    have hst : Hid (∀ (W : World) (ao : Option Addr) (c : Nat), SL .u8 W ao (squeeze (fun i => L.getD i 0) L.length).length (fun i => (squeeze (fun i => L.getD i 0) L.length).getD i 0) → (convert 22 9 (.slice ao (squeeze (fun i => L.getD i 0) L.length).length c)).run Try.prog W = .ok (.string (bstr (squeeze (fun i => L.getD i 0) L.length))) W) := fun W ao c h => conv_str h (squeeze_byte _ _ hLb')
    have hbt : Hid (∀ (W : World) (ao : Option Addr) (c : Nat), SL .u8 W ao L.length (fun i => L.getD i 0) → (convert 22 9 (.slice ao L.length c)).run Try.prog W = .ok (.string (bstr L)) W) := fun W ao c h => conv_str h hLb
    generalize bstr L = bt at hbt
    generalize bstr (squeeze (fun i => L.getD i 0) L.length) = st at hst
    generalize squeeze (fun i => L.getD i 0) L.length = M at *
    have HB1 := hide b1
    have HL1 := hide hO1.sl
    clear hLb hLb' b1 hO1
    go_wp2_with fail
    refine himpl.out.mono ?_
    rintro e w2 ⟨v2, rfl, ho2, b2⟩
    obtain ⟨so, cs, rfl, hl2, hO2⟩ := Own.of_owns ho2
    have HI2 : Hid (SL .u8 w2 bo L.length (fun i => L.getD i 0) ∧ SL .u8 w2 so M.length (fun i => M.getD i 0) ∧ Below w.heap.size w w2) := ⟨HL1.out.below b2, hO2.sl, HB1.out.trans (b2.mono HB1.out.size)⟩
    clear ho2 hl2 hO2 b2 himpl HB1 HL1
    go_wp2_with fail
    refine (draw_spread a0 len0 cap0 f _ hn (HS.out.below HI2.out.2.2) HF.out).mono ?_
    rintro e w3 ⟨v3, X, rfl, hX, ⟨xo, cx, rfl, hcx1, hcx2, hO3⟩, hXb, b3⟩
    have hXb' : ∀ i, i < X.length → 0 ≤ X.getD i 0 ∧ X.getD i 0 ≤ 255 := fun i hi => hXb _ (by simp [List.getD, hi])
    have hsprI : Hid (∀ W, SL .u8 W xo X.length (fun i => X.getD i 0) → Calls Try.prog 12 #[.slice xo X.length cx] W fun e w' => SpOut W w' X e) := fun W h => by
      have h' := spread_impl xo X.length cx _ W (by omega) h hXb'
      rwa [bl_of] at h'
    have hsprS : Hid (∀ W, SL .u8 W xo X.length (fun i => X.getD i 0) → Calls Try.prog 13 #[.slice xo X.length cx] W fun e w' => SpOut W w' X e) := fun W h => by
      have h' := spread_spec xo X.length cx _ W (by omega) h hXb'
      rwa [bl_of] at h'
    have hYb := spread_byte (L := X) hXb
    have hyl := spread_short X
    have hyn : Hid ((spread X).isSome = false → ((spread X).getD []).length = 0) := fun h => spread_none h
    have hyt : Hid (∀ (W : World) (ao : Option Addr) (c : Nat), SL .u8 W ao ((spread X).getD []).length (fun i => ((spread X).getD []).getD i 0) → (convert 22 9 (.slice ao ((spread X).getD []).length c)).run Try.prog W = .ok (.string (bstr ((spread X).getD []))) W) := fun W ao c h => conv_str h hYb
    unfold SpOut at hsprI hsprS
    generalize bstr ((spread X).getD []) = yt at hyt
    generalize (spread X).getD [] = Y at *
    generalize (spread X).isSome = ok at *
    have HX3 := hide hO3.sl
    have HI3 : Hid (SL .u8 w3 bo L.length (fun i => L.getD i 0) ∧ SL .u8 w3 so M.length (fun i => M.getD i 0) ∧ Below w.heap.size w w3) := ⟨HI2.out.1.below b3, HI2.out.2.1.below b3, HI2.out.2.2.trans (b3.mono HI2.out.2.2.size)⟩
    clear hXb hXb' hYb hO3 b3 HI2
    go_wp2_with fail
    refine (hsprI.out _ HX3.out).mono ?_
    rintro e w4 ⟨⟨yo, cy, rfl, hO4⟩, b4⟩
    have HI4 : Hid (SL .u8 w4 bo L.length (fun i => L.getD i 0) ∧ SL .u8 w4 so M.length (fun i => M.getD i 0) ∧ SL .u8 w4 yo Y.length (fun i => Y.getD i 0) ∧ SL .u8 w4 xo X.length (fun i => X.getD i 0) ∧ Below w.heap.size w w4) := ⟨HI3.out.1.below b4, HI3.out.2.1.below b4, hO4.sl, HX3.out.below b4, HI3.out.2.2.trans (b4.mono HI3.out.2.2.size)⟩
    clear hO4 b4 HI3 HX3 hsprI
    go_wp2_with fail
    refine (hsprS.out _ HI4.out.2.2.2.1).mono ?_
    rintro e w5 ⟨⟨zo, cz, rfl, hO5⟩, b5⟩
    have HI5 : Hid (SL .u8 w5 bo L.length (fun i => L.getD i 0) ∧ SL .u8 w5 so M.length (fun i => M.getD i 0) ∧ SL .u8 w5 yo Y.length (fun i => Y.getD i 0) ∧ SL .u8 w5 zo Y.length (fun i => Y.getD i 0) ∧ Below w.heap.size w w5) := ⟨HI4.out.1.below b5, HI4.out.2.1.below b5, HI4.out.2.2.1.below b5, hO5.sl, HI4.out.2.2.2.2.trans (b5.mono HI4.out.2.2.2.2.size)⟩
    clear hO5 b5 HI4 hsprS
    go_wp2_with fail
    refine (draw_run a0 len0 cap0 f _ hn (HS.out.below HI5.out.2.2.2.2) HF.out).mono ?_
    rintro e w6 ⟨v6, RL, ri, rb, rfl, hRL, hri, ⟨ro, cr, rfl, hcr1, hcr2, hO6⟩, hRb, b6⟩
    have hrunI : Hid (∀ W, SL .u8 W ro RL.length (fun i => RL.getD i 0) → Calls Try.prog 16 #[.slice ro RL.length cr, .int .i64 ri, .int .i64 rb] W fun e w' => e = .returned (.int .i64 (rrun (fun i => RL.getD i 0) RL.length ri rb)) ∧ ∃ q, w' = W.drewN q) := fun W h => run_impl ro RL.length cr _ ri rb W (by omega) (by omega) h
    have hrunS : Hid (∀ W, SL .u8 W ro RL.length (fun i => RL.getD i 0) → Calls Try.prog 17 #[.slice ro RL.length cr, .int .i64 ri, .int .i64 rb] W fun e w' => e = .returned (.int .i64 (rrun (fun i => RL.getD i 0) RL.length ri rb)) ∧ ∃ q, w' = W.drewN q) := fun W h => run_spec ro RL.length cr _ ri rb W (by omega) h
    generalize rrun (fun i => RL.getD i 0) RL.length ri rb = rr at *
    have HID : Hid (Lz w w6.drew bo so yo zo ro L M Y RL) := ⟨HI5.out.1.below (Below.drawn b6 1), HI5.out.2.1.below (Below.drawn b6 1), HI5.out.2.2.1.below (Below.drawn b6 1), HI5.out.2.2.2.1.below (Below.drawn b6 1), hO6.sl, HI5.out.2.2.2.2.trans ((Below.drawn b6 1).mono HI5.out.2.2.2.2.size)⟩
    clear hRb hO6 b6 HI5 HS HF
    go_wp2_with fail
    refine wp_region_held_drew (S := fun W => Lz w W bo so yo zo ro L M Y RL) (by kernel_rfl) HID.out (fun _ => ?_)
    have hS0 := HID.out
    refine wpAnyH_take (i := 0) (oi := { dst := some 39, op := Op.move (Operand.tmp 4), type := 22, pos := "laws.go:395", after := #[], guard := none }) (v := ?_) rfl (by kernel_rfl) (by kernel_rfl) (by kernel_rfl) (fun _ _ _ h => h) (Or.inl ⟨by rfl, ?_⟩) (by assumption) ?_
    rotate_left 1
    · (intro wq hS; go_simp; try with_reducible rfl)
    try simp only [Act.put, List.setIfInBounds_toArray, List.set_cons_zero, List.set_cons_succ]
    refine wpAnyH_take (i := 1) (oi := { dst := some 40, op := Op.convert 22 9 (Operand.tmp 39), type := 9, pos := "laws.go:395", after := #[{ on := 0, ground := Ground.data }], guard := none }) (v := ?_) rfl (by kernel_rfl) (by kernel_rfl) (by kernel_rfl) (fun _ _ _ h => h) (Or.inl ⟨by rfl, ?_⟩) (by assumption) ?_
    rotate_left 1
    · (intro wq hS; have hcv := hst.out wq so cs hS.2.1; go_simp; try with_reducible rfl)
    try simp only [Act.put, List.setIfInBounds_toArray, List.set_cons_zero, List.set_cons_succ]
    refine wpAnyH_take (i := 2) (oi := { dst := some 41, op := Op.move (Operand.tmp 3), type := 22, pos := "laws.go:395", after := #[], guard := none }) (v := ?_) rfl (by kernel_rfl) (by kernel_rfl) (by kernel_rfl) (fun _ _ _ h => h) (Or.inl ⟨by rfl, ?_⟩) (by assumption) ?_
    rotate_left 1
    · (intro wq hS; go_simp; try with_reducible rfl)
    try simp only [Act.put, List.setIfInBounds_toArray, List.set_cons_zero, List.set_cons_succ]
    refine wpAnyH_ready (rs := [3]) (by kernel_rfl) (by simp) ?_
    refine AllReadyH.cons (o := { dst := some 42, op := Op.call { callee := Callee.value (Operand.func 15), args := #[Operand.tmp 41], argTypes := #[22] }, type := 22, pos := "laws.go:395", after := #[{ on := 2, ground := Ground.data }], guard := none }) rfl (fun K hK => ?_) AllReadyH.nil
    go_simp
    refine (hspec.out _ HID.out.1).mono ?_
    rintro e w7 ⟨v7, rfl, ho7, _, b7⟩
    obtain ⟨to, tc, rfl, hl7, hO7⟩ := Own.of_owns ho7
    have HI7 := hide (HID.out.go b7)
    have hcv2 := hst.out w7 to tc hO7.sl
    clear ho7 hl7 hO7 b7 hS0
    go_wp2_with fail
    refine hK.out _ _ HI7.out (fun hS => ?_)
    clear hK K
    try simp only [Act.put, List.setIfInBounds_toArray, List.set_cons_zero, List.set_cons_succ]
    refine wpAnyH_ready (rs := [4]) (by kernel_rfl) (by simp) ?_
    refine AllReadyH.cons (o := { dst := some 43, op := Op.convert 22 9 (Operand.tmp 42), type := 9, pos := "laws.go:395", after := #[{ on := 3, ground := Ground.data }], guard := none }) rfl (fun K hK => ?_) AllReadyH.nil
    go_simp
    refine hK.out _ _ HI7.out (fun hS => ?_)
    clear hK K
    try simp only [Act.put, List.setIfInBounds_toArray, List.set_cons_zero, List.set_cons_succ]
    refine wpAnyH_take (i := 5) (oi := { dst := some 44, op := Op.binOp BinOp.neq 9 (Operand.tmp 40) (Operand.tmp 43) 9, type := 4, pos := "laws.go:395", after := #[{ on := 1, ground := Ground.data }, { on := 4, ground := Ground.data }], guard := none }) (v := ?_) rfl (by kernel_rfl) (by kernel_rfl) (by kernel_rfl) (fun _ _ _ h => h) (Or.inl ⟨by rfl, ?_⟩) (by assumption) ?_
    rotate_left 1
    · (intro wq hS; go_simp; try with_reducible rfl)
    try simp only [Act.put, List.setIfInBounds_toArray, List.set_cons_zero, List.set_cons_succ]
    refine wpAnyH_take (i := 6) (oi := { dst := some 45, op := Op.move (Operand.tmp 44), type := 4, pos := "laws.go:395", after := #[{ on := 5, ground := Ground.data }, { on := 3, ground := Ground.chain }], guard := none }) (v := ?_) rfl (by kernel_rfl) (by kernel_rfl) (by kernel_rfl) (fun _ _ _ h => h) (Or.inl ⟨by rfl, ?_⟩) (by assumption) ?_
    rotate_left 1
    · (intro wq hS; go_simp; try with_reducible rfl)
    try simp only [Act.put, List.setIfInBounds_toArray, List.set_cons_zero, List.set_cons_succ]
    refine wpAnyH_take (i := 7) (oi := { dst := some 46, op := Op.move (Operand.tmp 7), type := 4, pos := "laws.go:395", after := #[{ on := 6, ground := Ground.guard }], guard := some (6, false) }) (v := ?_) rfl (by kernel_rfl) (by kernel_rfl) (by kernel_rfl) (fun _ _ _ h => h) (Or.inl ⟨by rfl, ?_⟩) (by assumption) ?_
    rotate_left 1
    · (intro wq hS; go_simp; try with_reducible rfl)
    try simp only [Act.put, List.setIfInBounds_toArray, List.set_cons_zero, List.set_cons_succ]
    refine wpAnyH_take (i := 8) (oi := { dst := some 47, op := Op.move (Operand.tmp 9), type := 4, pos := "laws.go:395", after := #[{ on := 6, ground := Ground.guard }], guard := some (6, false) }) (v := ?_) rfl (by kernel_rfl) (by kernel_rfl) (by kernel_rfl) (fun _ _ _ h => h) (Or.inl ⟨by rfl, ?_⟩) (by assumption) ?_
    rotate_left 1
    · (intro wq hS; go_simp; try with_reducible rfl)
    try simp only [Act.put, List.setIfInBounds_toArray, List.set_cons_zero, List.set_cons_succ]
    refine wpAnyH_take (i := 9) (oi := { dst := some 48, op := Op.binOp BinOp.neq 4 (Operand.tmp 46) (Operand.tmp 47) 4, type := 4, pos := "laws.go:395", after := #[{ on := 7, ground := Ground.data }, { on := 8, ground := Ground.data }, { on := 6, ground := Ground.guard }], guard := some (6, false) }) (v := ?_) rfl (by kernel_rfl) (by kernel_rfl) (by kernel_rfl) (fun _ _ _ h => h) (Or.inl ⟨by rfl, ?_⟩) (by assumption) ?_
    rotate_left 1
    · (intro wq hS; go_simp; try with_reducible rfl)
    try simp only [Act.put, List.setIfInBounds_toArray, List.set_cons_zero, List.set_cons_succ]
    refine wpAnyH_take (i := 10) (oi := { dst := some 49, op := Op.pick (Operand.tmp 45) (Operand.const (Value.bool true)) (Operand.tmp 48), type := 4, pos := "laws.go:395", after := #[{ on := 6, ground := Ground.data }, { on := 9, ground := Ground.data }], guard := none }) (v := ?_) rfl (by kernel_rfl) (by kernel_rfl) (by kernel_rfl) (fun _ _ _ h => h) (Or.inl ⟨by rfl, ?_⟩) (by assumption) ?_
    rotate_left 1
    · (intro wq hS; go_simp; try with_reducible rfl)
    try simp only [Act.put, List.setIfInBounds_toArray, List.set_cons_zero, List.set_cons_succ]
    refine wpAnyH_take (i := 11) (oi := { dst := some 50, op := Op.move (Operand.tmp 49), type := 4, pos := "laws.go:395", after := #[{ on := 10, ground := Ground.data }, { on := 6, ground := Ground.chain }], guard := none }) (v := ?_) rfl (by kernel_rfl) (by kernel_rfl) (by kernel_rfl) (fun _ _ _ h => h) (Or.inl ⟨by rfl, ?_⟩) (by assumption) ?_
    rotate_left 1
    · (intro wq hS; go_simp; try with_reducible rfl)
    try simp only [Act.put, List.setIfInBounds_toArray, List.set_cons_zero, List.set_cons_succ]
    refine wpAnyH_take (i := 12) (oi := { dst := some 51, op := Op.move (Operand.tmp 6), type := 22, pos := "laws.go:395", after := #[{ on := 11, ground := Ground.guard }], guard := some (11, false) }) (v := ?_) rfl (by kernel_rfl) (by kernel_rfl) (by kernel_rfl) (fun _ _ _ h => h) (Or.inl ⟨by rfl, ?_⟩) (by assumption) ?_
    rotate_left 1
    · (intro wq hS; go_simp; try with_reducible rfl)
    try simp only [Act.put, List.setIfInBounds_toArray, List.set_cons_zero, List.set_cons_succ]
    refine wpAnyH_take (i := 13) (oi := { dst := some 52, op := Op.convert 22 9 (Operand.tmp 51), type := 9, pos := "laws.go:395", after := #[{ on := 12, ground := Ground.data }, { on := 11, ground := Ground.guard }], guard := some (11, false) }) (v := ?_) rfl (by kernel_rfl) (by kernel_rfl) (by kernel_rfl) (fun _ _ _ h => h) (Or.inl ⟨by rfl, ?_⟩) (by assumption) ?_
    rotate_left 1
    · (intro wq hS; have hcv := hyt.out wq yo cy hS.2.2.1; go_simp; try with_reducible rfl)
    try simp only [Act.put, List.setIfInBounds_toArray, List.set_cons_zero, List.set_cons_succ]
    refine wpAnyH_take (i := 14) (oi := { dst := some 53, op := Op.move (Operand.tmp 8), type := 22, pos := "laws.go:395", after := #[{ on := 11, ground := Ground.guard }], guard := some (11, false) }) (v := ?_) rfl (by kernel_rfl) (by kernel_rfl) (by kernel_rfl) (fun _ _ _ h => h) (Or.inl ⟨by rfl, ?_⟩) (by assumption) ?_
    rotate_left 1
    · (intro wq hS; go_simp; try with_reducible rfl)
    try simp only [Act.put, List.setIfInBounds_toArray, List.set_cons_zero, List.set_cons_succ]
    refine wpAnyH_take (i := 15) (oi := { dst := some 54, op := Op.convert 22 9 (Operand.tmp 53), type := 9, pos := "laws.go:395", after := #[{ on := 14, ground := Ground.data }, { on := 11, ground := Ground.guard }], guard := some (11, false) }) (v := ?_) rfl (by kernel_rfl) (by kernel_rfl) (by kernel_rfl) (fun _ _ _ h => h) (Or.inl ⟨by rfl, ?_⟩) (by assumption) ?_
    rotate_left 1
    · (intro wq hS; have hcv := hyt.out wq zo cz hS.2.2.2.1; go_simp; try with_reducible rfl)
    try simp only [Act.put, List.setIfInBounds_toArray, List.set_cons_zero, List.set_cons_succ]
    refine wpAnyH_take (i := 16) (oi := { dst := some 55, op := Op.binOp BinOp.neq 9 (Operand.tmp 52) (Operand.tmp 54) 9, type := 4, pos := "laws.go:395", after := #[{ on := 13, ground := Ground.data }, { on := 15, ground := Ground.data }, { on := 11, ground := Ground.guard }], guard := some (11, false) }) (v := ?_) rfl (by kernel_rfl) (by kernel_rfl) (by kernel_rfl) (fun _ _ _ h => h) (Or.inl ⟨by rfl, ?_⟩) (by assumption) ?_
    rotate_left 1
    · (intro wq hS; go_simp; try with_reducible rfl)
    try simp only [Act.put, List.setIfInBounds_toArray, List.set_cons_zero, List.set_cons_succ]
    refine wpAnyH_take (i := 17) (oi := { dst := some 56, op := Op.pick (Operand.tmp 50) (Operand.const (Value.bool true)) (Operand.tmp 55), type := 4, pos := "laws.go:395", after := #[{ on := 11, ground := Ground.data }, { on := 16, ground := Ground.data }], guard := none }) (v := ?_) rfl (by kernel_rfl) (by kernel_rfl) (by kernel_rfl) (fun _ _ _ h => h) (Or.inl ⟨by rfl, ?_⟩) (by assumption) ?_
    rotate_left 1
    · (intro wq hS; go_simp; try with_reducible rfl)
    try simp only [Act.put, List.setIfInBounds_toArray, List.set_cons_zero, List.set_cons_succ]
    refine wpAnyH_take (i := 18) (oi := { dst := some 57, op := Op.move (Operand.tmp 56), type := 4, pos := "laws.go:395", after := #[{ on := 17, ground := Ground.data }, { on := 11, ground := Ground.chain }], guard := none }) (v := ?_) rfl (by kernel_rfl) (by kernel_rfl) (by kernel_rfl) (fun _ _ _ h => h) (Or.inl ⟨by rfl, ?_⟩) (by assumption) ?_
    rotate_left 1
    · (intro wq hS; go_simp; try with_reducible rfl)
    try simp only [Act.put, List.setIfInBounds_toArray, List.set_cons_zero, List.set_cons_succ]
    refine wpAnyH_take (i := 19) (oi := { dst := some 58, op := Op.move (Operand.tmp 10), type := 22, pos := "laws.go:395", after := #[{ on := 18, ground := Ground.guard }], guard := some (18, false) }) (v := ?_) rfl (by kernel_rfl) (by kernel_rfl) (by kernel_rfl) (fun _ _ _ h => h) (Or.inl ⟨by rfl, ?_⟩) (by assumption) ?_
    rotate_left 1
    · (intro wq hS; go_simp; try with_reducible rfl)
    try simp only [Act.put, List.setIfInBounds_toArray, List.set_cons_zero, List.set_cons_succ]
    refine wpAnyH_take (i := 20) (oi := { dst := some 59, op := Op.move (Operand.tmp 11), type := 3, pos := "laws.go:395", after := #[{ on := 18, ground := Ground.guard }], guard := some (18, false) }) (v := ?_) rfl (by kernel_rfl) (by kernel_rfl) (by kernel_rfl) (fun _ _ _ h => h) (Or.inl ⟨by rfl, ?_⟩) (by assumption) ?_
    rotate_left 1
    · (intro wq hS; go_simp; try with_reducible rfl)
    try simp only [Act.put, List.setIfInBounds_toArray, List.set_cons_zero, List.set_cons_succ]
    refine wpAnyH_take (i := 21) (oi := { dst := some 60, op := Op.move (Operand.tmp 12), type := 3, pos := "laws.go:395", after := #[{ on := 18, ground := Ground.guard }], guard := some (18, false) }) (v := ?_) rfl (by kernel_rfl) (by kernel_rfl) (by kernel_rfl) (fun _ _ _ h => h) (Or.inl ⟨by rfl, ?_⟩) (by assumption) ?_
    rotate_left 1
    · (intro wq hS; go_simp; try with_reducible rfl)
    try simp only [Act.put, List.setIfInBounds_toArray, List.set_cons_zero, List.set_cons_succ]
    refine wpAnyH_take (i := 23) (oi := { dst := some 62, op := Op.move (Operand.tmp 10), type := 22, pos := "laws.go:395", after := #[{ on := 18, ground := Ground.guard }], guard := some (18, false) }) (v := ?_) rfl (by kernel_rfl) (by kernel_rfl) (by kernel_rfl) (fun _ _ _ h => h) (Or.inl ⟨by rfl, ?_⟩) (by assumption) ?_
    rotate_left 1
    · (intro wq hS; go_simp; try with_reducible rfl)
    try simp only [Act.put, List.setIfInBounds_toArray, List.set_cons_zero, List.set_cons_succ]
    refine wpAnyH_take (i := 24) (oi := { dst := some 63, op := Op.move (Operand.tmp 11), type := 3, pos := "laws.go:395", after := #[{ on := 18, ground := Ground.guard }], guard := some (18, false) }) (v := ?_) rfl (by kernel_rfl) (by kernel_rfl) (by kernel_rfl) (fun _ _ _ h => h) (Or.inl ⟨by rfl, ?_⟩) (by assumption) ?_
    rotate_left 1
    · (intro wq hS; go_simp; try with_reducible rfl)
    try simp only [Act.put, List.setIfInBounds_toArray, List.set_cons_zero, List.set_cons_succ]
    refine wpAnyH_take (i := 25) (oi := { dst := some 64, op := Op.move (Operand.tmp 12), type := 3, pos := "laws.go:395", after := #[{ on := 18, ground := Ground.guard }], guard := some (18, false) }) (v := ?_) rfl (by kernel_rfl) (by kernel_rfl) (by kernel_rfl) (fun _ _ _ h => h) (Or.inl ⟨by rfl, ?_⟩) (by assumption) ?_
    rotate_left 1
    · (intro wq hS; go_simp; try with_reducible rfl)
    try simp only [Act.put, List.setIfInBounds_toArray, List.set_cons_zero, List.set_cons_succ]
    refine wpAnyH_ready (rs := [22]) (by kernel_rfl) (by simp) ?_
    refine AllReadyH.cons (o := { dst := some 61, op := Op.call { callee := Callee.value (Operand.func 16), args := #[Operand.tmp 58, Operand.tmp 59, Operand.tmp 60], argTypes := #[22, 3, 3] }, type := 3, pos := "laws.go:395", after := #[{ on := 19, ground := Ground.data }, { on := 20, ground := Ground.data }, { on := 21, ground := Ground.data }, { on := 18, ground := Ground.chain }, { on := 18, ground := Ground.guard }], guard := some (18, false) }) rfl (fun K hK => ?_) AllReadyH.nil
    go_simp
    refine (hrunI.out _ HI7.out.2.2.2.2.1).mono ?_
    rintro e w8 ⟨rfl, q8, rfl⟩
    have HI8 := hide (HI7.out.go (Below.drawn (Below.refl _ _) q8))
    go_wp2_with fail
    refine hK.out _ _ HI8.out (fun hS => ?_)
    clear hK K
    try simp only [Act.put, List.setIfInBounds_toArray, List.set_cons_zero, List.set_cons_succ]
    refine wpAnyH_ready (rs := [26]) (by kernel_rfl) (by simp) ?_
    refine AllReadyH.cons (o := { dst := some 65, op := Op.call { callee := Callee.value (Operand.func 17), args := #[Operand.tmp 62, Operand.tmp 63, Operand.tmp 64], argTypes := #[22, 3, 3] }, type := 3, pos := "laws.go:395", after := #[{ on := 23, ground := Ground.data }, { on := 24, ground := Ground.data }, { on := 25, ground := Ground.data }, { on := 22, ground := Ground.chain }, { on := 18, ground := Ground.guard }], guard := some (18, false) }) rfl (fun K hK => ?_) AllReadyH.nil
    go_simp
    refine (hrunS.out _ HI8.out.2.2.2.2.1).mono ?_
    rintro e w9 ⟨rfl, q9, rfl⟩
    have HI9 : Hid (Lz w (w7.drewN (q8 + q9)) bo so yo zo ro L M Y RL) := hide (HI7.out.go (Below.drawn (Below.refl _ _) (q8 + q9)))
    go_wp2_with fail
    refine hK.out _ _ HI9.out (fun hS => ?_)
    clear hK K
    try simp only [Act.put, List.setIfInBounds_toArray, List.set_cons_zero, List.set_cons_succ]
    refine wpAnyH_take (i := 27) (oi := { dst := some 66, op := Op.binOp BinOp.neq 3 (Operand.tmp 61) (Operand.tmp 65) 3, type := 4, pos := "laws.go:395", after := #[{ on := 22, ground := Ground.data }, { on := 26, ground := Ground.data }, { on := 18, ground := Ground.guard }], guard := some (18, false) }) (v := ?_) rfl (by kernel_rfl) (by kernel_rfl) (by kernel_rfl) (fun _ _ _ h => h) (Or.inl ⟨by rfl, ?_⟩) (by assumption) ?_
    rotate_left 1
    · (intro wq hS; go_simp; try with_reducible rfl)
    try simp only [Act.put, List.setIfInBounds_toArray, List.set_cons_zero, List.set_cons_succ]
    refine wpAnyH_take (i := 28) (oi := { dst := some 67, op := Op.pick (Operand.tmp 57) (Operand.const (Value.bool true)) (Operand.tmp 66), type := 4, pos := "laws.go:395", after := #[{ on := 18, ground := Ground.data }, { on := 27, ground := Ground.data }], guard := none }) (v := ?_) rfl (by kernel_rfl) (by kernel_rfl) (by kernel_rfl) (fun _ _ _ h => h) (Or.inl ⟨by rfl, ?_⟩) (by assumption) ?_
    rotate_left 1
    · (intro wq hS; go_simp; try with_reducible rfl)
    try simp only [Act.put, List.setIfInBounds_toArray, List.set_cons_zero, List.set_cons_succ]
    refine wpAnyH_done (by kernel_rfl) ?_ _
    have HIA := HI9
    generalize w7.drewN (q8 + q9) = wA at *
    clear hcv2 hS HI9 HI8 HI7 HID hspec hrunI hrunS hst hyt
    by_cases hL3 : 3000 < L.length
    · have hM0 := hover.out hL3
      have hL3' : (3000 : Int) < (L.length : Int) := by omega
      have hM0' : (M.length : Int) = 0 := by omega
      go_wp2_with fail
      go_ret
      exact ⟨rfl, HIA.out.2.2.2.2.2⟩
    · have hL3' : ¬ (3000 : Int) < (L.length : Int) := by omega
      have hsp := hback.out (by omega)
      have hcall := hide (spread_impl so M.length cs (fun i => M.getD i 0) wA (by omega) HIA.out.2.1 (fun i hi => hMb.out _ (by simp [List.getD, hi])))
      rw [bl_of] at hcall
      unfold SpOut at hcall
      rw [hsp] at hcall
      simp only [Option.getD_some, Option.isSome_some] at hcall
      go_wp2_with fail
      refine hcall.out.mono ?_
      rintro e wB ⟨⟨to, tc, rfl, hOB⟩, bB⟩
      have HB : Hid (SL .u8 wB bo L.length (fun i => L.getD i 0) ∧ SL .u8 wB to L.length (fun i => L.getD i 0) ∧ Below w.heap.size w wB) := ⟨HIA.out.1.below bB, hOB.sl, HIA.out.2.2.2.2.2.trans (bB.mono HIA.out.2.2.2.2.2.size)⟩
      clear hOB bB hcall
      have hc1 := hbt.out wB bo cb HB.out.1
      have hc2 := hbt.out wB to tc HB.out.2.1
      have hle : (M.length : Int) ≤ 2 * (L.length : Int) := by omega
      have hyl' : (Y.length : Int) ≤ 3000 := by omega
      cases ok with
      | true =>
        go_wp2_with fail
        go_ret
        exact ⟨rfl, HB.out.2.2⟩
      | false =>
        have hy0 := hyn.out rfl
        have hy0' : (Y.length : Int) = 0 := by omega
        go_wp2_with fail
        go_ret
        exact ⟨rfl, HB.out.2.2⟩
  · go_enter Try.func3, Try.ntmps3
    go_wp2_with fail
    refine (big_yes a0 len0 cap0 _ hn).mono ?_
    rintro e w' ⟨rfl, hw⟩
    rw [hw]
    go_wp2
    go_ret
    exact ⟨rfl, Below.refl _ _⟩

set_option maxRecDepth 100000 in
theorem lifted (os : Os) (started : os.Started) (H : Type) (enc : TypeId × Value → H) :
    ReturnsInHanded {} Try.checked os 3 .any (Rows.fnSqueezedSpec.pre6 enc Try.prog Try.f3 Rows.fnSqueezedRow.domain false) (Rows.fnSqueezedSpec.post enc Try.prog Try.f3 false true false false) := by
  refine returnsInHanded_of_change (C := Try.checked) own started (by kernel_rfl) Try.func3
    (ChangeSpec.witness6 (enc := enc) (C := Try.checked) false ⟨#[], #[.slice none 0 0], []⟩ 8 (by kernel_rfl) (by kernel_rfl) (by kernel_rfl) (by kernel_rfl)) ?_
  intro W base args ds gs before hval0 hW hcnd _
  have hval : ∀ (j : Nat) t v, Try.f3.params[j]? = some t → args[j]? = some v → Value.okWide Try.prog W .any base t v := hval0
  have hW' := hW
  obtain ⟨p, q, hA0, hV, rfl, hfz, hnd⟩ := hW
  have hA : DataW.TrodAll enc Try.prog W 0 (fun _ => true) true Try.f3.params.toList args.toList ds p := hA0
  rw [Try.params3] at hA hval
  obtain ⟨v0, vs0, d0, ds0, p0, q0, hargs, rfl, rfl, h0, r0⟩ := trodAll_cons hA
  obtain ⟨rfl, rfl, rfl⟩ := trodAll_nil r0
  obtain rfl : args = #[v0] := by cases args; simp_all
  obtain ⟨rfl, rfl⟩ := trodVars_none hV
  obtain ⟨a0, len0, cap0, rfl⟩ := okWide_slice Try.underlying22 (hval 0 22 v0 rfl rfl)
  have k0 := h0
  have lt0 : ∀ x ∈ p0, x.block < W.heap.size := by obtain ⟨m, hm⟩ := k0; exact DataW.trod_lt m _ _ _ hm
  obtain ⟨z0, w0⟩ : ∃ zs, IsRow .u8 W a0 len0 cap0 zs := by
    obtain ⟨fuel, hf⟩ := h0
    rcases open_ints Try.underlying22 Try.underlying5 (by kernel_rfl) hf with ⟨hcs, _⟩ | ⟨x, l, c, zs, hcs, _, hl, hm, hz, _, hcell, hwz⟩
    · simp [Value.cells] at hcs
      obtain ⟨rfl, rfl, rfl⟩ := hcs
      exact ⟨[], .inl ⟨rfl, rfl, rfl, rfl⟩⟩
    · simp [Value.cells] at hcs
      obtain ⟨rfl, rfl, rfl⟩ := hcs
      exact ⟨zs, .inr ⟨_, rfl, hl, hm, by simpa using hz, hcell, hwz⟩⟩
  clear hA0 hval0
  refine (walk a0 len0 cap0 z0 W w0).mono fun e W' ⟨he, bel⟩ => ?_
  subst he
  exact ⟨_, rfl, _, _, _, [], _, [], hW', trodAll_mk1 (shut_bool Try.underlying4 _), (trodAll_cons_mk (Below.trod laidOut (by kernel_rfl) (of_decide_eq_true (by kernel_rfl)) k0 bel lt0) trodAll_mk0), rfl, bel.frame _, fun h => by cases h⟩

theorem over : Rows.fnSqueezedRow.holds Try.pinned (OpenSpec.ofChange Rows.fnSqueezedSpec) :=
  OpenClaim.holds_of_wide 3 Try.f3 rfl rfl rfl rfl rfl rfl rfl ⟨rfl, rfl, rfl, rfl, rfl⟩ rfl rfl rfl rfl rfl (by kernel_rfl) Try.func3 (by kernel_rfl)
    (of_decide_eq_true (by kernel_rfl)) (by unfold Func.isWrapper; first | (rw [if_pos (by decide +kernel)]; kernel_rfl) | (rw [if_neg (by decide +kernel)]; exact ⟨rfl, rfl⟩))
    (fun os started H enc _ => lifted os started H enc)

theorem proved : Rows.FnSqueezedSaid := over
end Go.Proofs.Ythnlcijmlcaepaa.fnSqueezed
namespace Go.Proofs.Ythnlcijmlcaepaa
theorem fnSqueezed_holds : Rows.FnSqueezedSaid := fnSqueezed.proved
end Go.Proofs.Ythnlcijmlcaepaa

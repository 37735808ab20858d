/- MsgOk of the program. -/
import Derived.Test.YtkeojhnifnkpiaaMokI4Z

namespace Go.Proofs.Ytkeojhnifnkpiaa
open Go.ChangeShapes Go.WideShapes Go.ChangeAt Go.RowKit
set_option linter.unusedVariables false
set_option linter.unusedSimpArgs false

@[go_sem] theorem na_data (x : Value) (w : World) : (nilAhead 269 134 x "loop.example/g00399/impl.inBounds").run Try.prog w = .ok (some false) w := by kernel_rfl
@[go_sem] theorem me_data (x : Value) (w : World) : (method 269 134 x "loop.example/g00399/impl.inBounds").run Try.prog w = .ok (163, x) w := by kernel_rfl
@[go_sem] theorem na_ack (x : Value) (w : World) : (nilAhead 269 135 x "loop.example/g00399/impl.inBounds").run Try.prog w = .ok (some false) w := by kernel_rfl
@[go_sem] theorem me_ack (x : Value) (w : World) : (method 269 135 x "loop.example/g00399/impl.inBounds").run Try.prog w = .ok (166, x) w := by kernel_rfl
@[go_sem] theorem na_clear (x : Value) (w : World) : (nilAhead 269 137 x "loop.example/g00399/impl.inBounds").run Try.prog w = .ok (some false) w := by kernel_rfl
@[go_sem] theorem me_clear (x : Value) (w : World) : (method 269 137 x "loop.example/g00399/impl.inBounds").run Try.prog w = .ok (167, x) w := by kernel_rfl
@[go_sem] theorem na_copy (x : Value) (w : World) : (nilAhead 269 138 x "loop.example/g00399/impl.inBounds").run Try.prog w = .ok (some false) w := by kernel_rfl
@[go_sem] theorem me_copy (x : Value) (w : World) : (method 269 138 x "loop.example/g00399/impl.inBounds").run Try.prog w = .ok (169, x) w := by kernel_rfl
@[go_sem] theorem na_done (x : Value) (w : World) : (nilAhead 269 140 x "loop.example/g00399/impl.inBounds").run Try.prog w = .ok (some false) w := by kernel_rfl
@[go_sem] theorem me_done (x : Value) (w : World) : (method 269 140 x "loop.example/g00399/impl.inBounds").run Try.prog w = .ok (170, x) w := by kernel_rfl

set_option maxHeartbeats 1000000 in
set_option maxRecDepth 100000 in
theorem msgok1i (ao : Option Addr) (n cap : Nat) (f : Nat → Int) (c v h : Int) (w : World) (hn : n ≤ 1048576) (hcap : n ≤ cap) (hs : SL .i64 w ao n f) :
    Calls Try.prog 37 #[.agg #[.int .i64 1, .int .i64 c, .int .i64 v, .int .i64 h, .slice ao n cap]] w fun e w' => Tells w w' e (MOk 1 c v h f n) := by
  have HM : Hid (MOk 1 c v h f n ↔ ((0 ≤ c ∧ c ≤ 7) ∧ 1 ≤ v ∧ v ≤ 200) ∧ ((1 : Int) = 1 ∧ c = c ∧ v = v ∧ h = 0) ∧ SameI f f n 0) := by
    show _ ↔ _
    unfold MOk SameI
    constructor
    · rintro (x | x)
      all_goals first
        | exact absurd x.1 (by omega)
        | exact ⟨⟨by omega, x.2.1⟩, by omega, rfl, fun _ _ => rfl⟩
        | exact ⟨by have := x.2.2.2.1; split at this <;> omega, by omega, by omega, fun _ _ => rfl⟩
    · rintro ⟨x, y, z, _⟩
      first
        | exact .inl ⟨rfl, x.2, by omega, by omega, by omega⟩
        | exact .inr ⟨by omega, by omega, by omega, by split <;> omega, by omega⟩
  obtain ⟨W, hW⟩ : ∃ W, W = w.alloc (.cells #[.int .i64 1, .int .i64 c, .int .i64 v, .int .i64 h, .slice ao n cap] 40) := ⟨_, rfl⟩
  have M1 : MB W w.heap.size 40 1 c v h ao n cap := by rw [hW]; exact MB.new w _ _ c v h ao n cap
  have hb : Below w.heap.size w W := by rw [hW]; exact (Below.refl _ _).alloc (Nat.le_refl _) _
  have HA := hide (hs.below hb)
  have HB0 := hide hb
  clear hs hb
  have hbb := tellsB_of ((0 ≤ c ∧ c ≤ 7) ∧ 1 ≤ v ∧ v ≤ 200)
  have hbnd := hide (bnd_data c v)
  generalize decide ((0 ≤ c ∧ c ≤ 7) ∧ 1 ≤ v ∧ v ≤ 200) = b at hbb hbnd
  obtain ⟨b2, hbb2⟩ := tellsB (((1 : Int) = 1 ∧ c = c ∧ v = v ∧ h = 0) ∧ SameI f f n 0)
  have hsame : Hid (∀ W, SL .i64 W ao n f → Calls Try.prog 97 #[.agg #[.int .i64 1, .int .i64 c, .int .i64 v, .int .i64 h, .slice ao n cap], .agg #[.int .i64 1, .int .i64 c, .int .i64 v, .int .i64 0, .slice none 0 0]] W fun e w' => e = .returned (.bool b2) ∧ Below W.heap.size W w') := fun W hW => samemsg_b ao none n 0 cap 0 f f 1 c v h 1 c v 0 W hn hW (fun i hi => absurd hi (Nat.not_lt_zero _)) b2 hbb2
  have HN : b = false → Hid (¬ MOk 1 c v h f n) := fun e x => by rw [e] at hbb; exact absurd (hbb.2 (HM.out.1 x).1) (by simp)
  have HY : b = true → Hid (b2 = true ↔ MOk 1 c v h f n) := fun e => (show _ ↔ _ from ⟨fun e2 => HM.out.2 ⟨hbb.1 e, hbb2.1 e2⟩, fun x => hbb2.2 (HM.out.1 x).2⟩)
  clear hbb hbb2 HM
  cases b with
  | false =>
    clear HY hsame
    replace HN := HN rfl
    go_enter Try.func37, Try.ntmps37
    go_wp2_with fail
    rw [← hW]
    refine (sayof1 ao n cap c v h _).mono ?_
    rintro e w1 ⟨rfl, b1⟩
    have H5 : Hid (MB w1.drew w.heap.size 40 1 c v h ao n cap ∧ SL .i64 w1.drew ao n f ∧ Below w.heap.size w w1.drew) := ⟨M1.below (Below.drawn b1 1) M1.lt, HA.out.below (Below.drawn b1 1), HB0.out.trans ((Below.drawn b1 1).mono HB0.out.size)⟩
    clear hW M1 HA HB0 b1
    go_wp2_with fail
    obtain ⟨m0, m1, m2, m3, m4⟩ := (show MB w1 w.heap.size 40 1 c v h ao n cap from H5.out.1).cells
    refine wp_region_held_drew (S := (fun w' => w'.cell? ⟨w.heap.size, 0, none⟩ = some (.int .i64 1) ∧ w'.cell? ⟨w.heap.size, 1, none⟩ = some (.int .i64 c) ∧ w'.cell? ⟨w.heap.size, 2, none⟩ = some (.int .i64 v) ∧ w'.cell? ⟨w.heap.size, 3, none⟩ = some (.int .i64 h) ∧ w'.cell? ⟨w.heap.size, 4, none⟩ = some (.slice ao n cap))) (by kernel_rfl) ?_ (fun hHeld => ?_)
    · exact ⟨m0, m1, m2, m3, m4⟩
    refine wpAnyH_take (i := 0) (oi := { dst := some 6, op := Op.move (Operand.tmp 3), type := 101, pos := "l04_msg.go:60", after := #[], guard := none }) (v := ?_) rfl (by kernel_rfl) (by kernel_rfl) (by kernel_rfl) (fun _ _ _ h => h) (Or.inl ⟨by rfl, ?_⟩) (by assumption) ?_
    rotate_left 1
    · (intro wq hSw; (try dsimp only at hSw); go_simp; try with_reducible rfl)
    try simp only [Act.put, List.setIfInBounds_toArray, List.set_cons_zero, List.set_cons_succ]
    refine wpAnyH_take (i := 1) (oi := { dst := some 7, op := Op.binOp BinOp.neq 101 (Operand.tmp 6) (Operand.const Value.nilIface) 101, type := 4, pos := "l04_msg.go:60", after := #[{ on := 0, ground := Ground.data }], guard := none }) (v := ?_) rfl (by kernel_rfl) (by kernel_rfl) (by kernel_rfl) (fun _ _ _ h => h) (Or.inl ⟨by rfl, ?_⟩) (by assumption) ?_
    rotate_left 1
    · (intro wq hSw; (try dsimp only at hSw); go_simp; try with_reducible rfl)
    try simp only [Act.put, List.setIfInBounds_toArray, List.set_cons_zero, List.set_cons_succ]
    refine wpAnyH_take (i := 2) (oi := { dst := some 8, op := Op.move (Operand.tmp 7), type := 4, pos := "l04_msg.go:60", after := #[{ on := 1, ground := Ground.data }], guard := none }) (v := ?_) rfl (by kernel_rfl) (by kernel_rfl) (by kernel_rfl) (fun _ _ _ h => h) (Or.inl ⟨by rfl, ?_⟩) (by assumption) ?_
    rotate_left 1
    · (intro wq hSw; (try dsimp only at hSw); go_simp; try with_reducible rfl)
    try simp only [Act.put, List.setIfInBounds_toArray, List.set_cons_zero, List.set_cons_succ]
    refine wpAnyH_take (i := 3) (oi := { dst := some 9, op := Op.move (Operand.tmp 3), type := 101, pos := "l04_msg.go:60", after := #[{ on := 2, ground := Ground.guard }], guard := some (2, true) }) (v := ?_) rfl (by kernel_rfl) (by kernel_rfl) (by kernel_rfl) (fun _ _ _ h => h) (Or.inl ⟨by rfl, ?_⟩) (by assumption) ?_
    rotate_left 1
    · (intro wq hSw; (try dsimp only at hSw); go_simp; try with_reducible rfl)
    try simp only [Act.put, List.setIfInBounds_toArray, List.set_cons_zero, List.set_cons_succ]
    refine wpAnyH_ready (rs := [4]) (by kernel_rfl) (by simp) ?_
    refine AllReadyH.cons (o := { dst := some 10, op := Op.call { callee := Callee.invoke (Operand.tmp 9) "loop.example/g00399/impl.inBounds", args := #[], argTypes := #[] }, type := 4, pos := "l04_msg.go:60", after := #[{ on := 3, ground := Ground.data }, { on := 2, ground := Ground.chain }, { on := 2, ground := Ground.guard }], guard := some (2, true) }) rfl (fun K hK => ?_) AllReadyH.nil
    go_simp
    refine (hbnd.out _).mono ?_
    rintro e w6 ⟨rfl, b6⟩
    have H6 : Hid (MB w6 w.heap.size 40 1 c v h ao n cap ∧ SL .i64 w6 ao n f ∧ Below w.heap.size w w6) := ⟨H5.out.1.below b6 H5.out.1.lt, H5.out.2.1.below b6, H5.out.2.2.trans (b6.mono H5.out.2.2.size)⟩
    have hk6 := H6.out.1.cells
    clear b6
    go_wp2_with fail
    refine hK.out _ _ ?_ (fun hHeld => ?_)
    · exact hk6
    clear hK K
    try simp only [Act.put, List.setIfInBounds_toArray, List.set_cons_zero, List.set_cons_succ]
    refine wpAnyH_take (i := 5) (oi := { dst := some 11, op := Op.pick (Operand.tmp 8) (Operand.tmp 10) (Operand.const (Value.bool false)), type := 4, pos := "l04_msg.go:60", after := #[{ on := 2, ground := Ground.data }, { on := 4, ground := Ground.data }], guard := none }) (v := ?_) rfl (by kernel_rfl) (by kernel_rfl) (by kernel_rfl) (fun _ _ _ h => h) (Or.inl ⟨by rfl, ?_⟩) (by assumption) ?_
    rotate_left 1
    · (intro wq hSw; (try dsimp only at hSw); go_simp; try with_reducible rfl)
    try simp only [Act.put, List.setIfInBounds_toArray, List.set_cons_zero, List.set_cons_succ]
    refine wpAnyH_take (i := 6) (oi := { dst := some 12, op := Op.move (Operand.tmp 11), type := 4, pos := "l04_msg.go:60", after := #[{ on := 5, ground := Ground.data }, { on := 4, ground := Ground.chain }], guard := none }) (v := ?_) rfl (by kernel_rfl) (by kernel_rfl) (by kernel_rfl) (fun _ _ _ h => h) (Or.inl ⟨by rfl, ?_⟩) (by assumption) ?_
    rotate_left 1
    · (intro wq hSw; (try dsimp only at hSw); go_simp; try with_reducible rfl)
    try simp only [Act.put, List.setIfInBounds_toArray, List.set_cons_zero, List.set_cons_succ]
    refine wpAnyH_take (i := 7) (oi := { dst := some 13, op := Op.load 40 (Operand.tmp 1), type := 40, pos := "l04_msg.go:60", after := #[{ on := 6, ground := Ground.guard }], guard := some (6, true) }) (v := undef) rfl (by kernel_rfl) (by kernel_rfl) (by kernel_rfl) (fun _ _ _ h => h) (Or.inr ⟨by rfl, rfl⟩) (by assumption) ?_
    try simp only [Act.put, List.setIfInBounds_toArray, List.set_cons_zero, List.set_cons_succ]
    refine wpAnyH_take (i := 8) (oi := { dst := some 14, op := Op.move (Operand.tmp 3), type := 101, pos := "l04_msg.go:60", after := #[{ on := 6, ground := Ground.guard }], guard := some (6, true) }) (v := undef) rfl (by kernel_rfl) (by kernel_rfl) (by kernel_rfl) (fun _ _ _ h => h) (Or.inr ⟨by rfl, rfl⟩) (by assumption) ?_
    try simp only [Act.put, List.setIfInBounds_toArray, List.set_cons_zero, List.set_cons_succ]
    refine wpAnyH_take (i := 9) (oi := { dst := some 15, op := Op.call { callee := Callee.value (Operand.func 98), args := #[Operand.tmp 14], argTypes := #[101] }, type := 40, pos := "l04_msg.go:60", after := #[{ on := 8, ground := Ground.data }, { on := 6, ground := Ground.chain }, { on := 6, ground := Ground.guard }], guard := some (6, true) }) (v := undef) rfl (by kernel_rfl) (by kernel_rfl) (by kernel_rfl) (fun _ _ _ h => h) (Or.inr ⟨by rfl, rfl⟩) (by assumption) ?_
    try simp only [Act.put, List.setIfInBounds_toArray, List.set_cons_zero, List.set_cons_succ]
    refine wpAnyH_take (i := 10) (oi := { dst := some 16, op := Op.call { callee := Callee.value (Operand.func 97), args := #[Operand.tmp 13, Operand.tmp 15], argTypes := #[40, 40] }, type := 4, pos := "l04_msg.go:60", after := #[{ on := 7, ground := Ground.data }, { on := 9, ground := Ground.data }, { on := 9, ground := Ground.chain }, { on := 6, ground := Ground.guard }], guard := some (6, true) }) (v := undef) rfl (by kernel_rfl) (by kernel_rfl) (by kernel_rfl) (fun _ _ _ h => h) (Or.inr ⟨by rfl, rfl⟩) (by assumption) ?_
    try simp only [Act.put, List.setIfInBounds_toArray, List.set_cons_zero, List.set_cons_succ]
    refine wpAnyH_take (i := 11) (oi := { dst := some 17, op := Op.pick (Operand.tmp 12) (Operand.tmp 16) (Operand.const (Value.bool false)), type := 4, pos := "l04_msg.go:60", after := #[{ on := 6, ground := Ground.data }, { on := 10, ground := Ground.data }], guard := none }) (v := ?_) rfl (by kernel_rfl) (by kernel_rfl) (by kernel_rfl) (fun _ _ _ h => h) (Or.inl ⟨by rfl, ?_⟩) (by assumption) ?_
    rotate_left 1
    · (intro wq hSw; (try dsimp only at hSw); go_simp; try with_reducible rfl)
    try simp only [Act.put, List.setIfInBounds_toArray, List.set_cons_zero, List.set_cons_succ]
    refine wpAnyH_take (i := 12) (oi := { dst := some 2, op := Op.assign (Operand.tmp 17), type := 4, pos := "l04_msg.go:60", after := #[{ on := 11, ground := Ground.data }, { on := 10, ground := Ground.chain }, { on := 0, ground := Ground.phase }, { on := 1, ground := Ground.phase }, { on := 2, ground := Ground.phase }, { on := 3, ground := Ground.phase }, { on := 4, ground := Ground.phase }, { on := 5, ground := Ground.phase }, { on := 6, ground := Ground.phase }, { on := 7, ground := Ground.phase }, { on := 8, ground := Ground.phase }, { on := 9, ground := Ground.phase }, { on := 10, ground := Ground.phase }, { on := 11, ground := Ground.phase }], guard := none }) (v := ?_) rfl (by kernel_rfl) (by kernel_rfl) (by kernel_rfl) (fun _ _ _ h => h) (Or.inl ⟨by rfl, ?_⟩) (by assumption) ?_
    rotate_left 1
    · (intro wq hSw; (try dsimp only at hSw); go_simp; try with_reducible rfl)
    try simp only [Act.put, List.setIfInBounds_toArray, List.set_cons_zero, List.set_cons_succ]
    refine wpAnyH_done (by kernel_rfl) ?_ _
    go_wp2
    go_ret
    exact Tells.no HN.out H6.out.2.2
  | true =>
    clear HN
    replace HY := HY rfl
    go_enter Try.func37, Try.ntmps37
    go_wp2_with fail
    rw [← hW]
    refine (sayof1 ao n cap c v h _).mono ?_
    rintro e w1 ⟨rfl, b1⟩
    have H5 : Hid (MB w1.drew w.heap.size 40 1 c v h ao n cap ∧ SL .i64 w1.drew ao n f ∧ Below w.heap.size w w1.drew) := ⟨M1.below (Below.drawn b1 1) M1.lt, HA.out.below (Below.drawn b1 1), HB0.out.trans ((Below.drawn b1 1).mono HB0.out.size)⟩
    clear hW M1 HA HB0 b1
    go_wp2_with fail
    obtain ⟨m0, m1, m2, m3, m4⟩ := (show MB w1 w.heap.size 40 1 c v h ao n cap from H5.out.1).cells
    refine wp_region_held_drew (S := (fun w' => w'.cell? ⟨w.heap.size, 0, none⟩ = some (.int .i64 1) ∧ w'.cell? ⟨w.heap.size, 1, none⟩ = some (.int .i64 c) ∧ w'.cell? ⟨w.heap.size, 2, none⟩ = some (.int .i64 v) ∧ w'.cell? ⟨w.heap.size, 3, none⟩ = some (.int .i64 h) ∧ w'.cell? ⟨w.heap.size, 4, none⟩ = some (.slice ao n cap))) (by kernel_rfl) ?_ (fun hHeld => ?_)
    · exact ⟨m0, m1, m2, m3, m4⟩
    refine wpAnyH_take (i := 0) (oi := { dst := some 6, op := Op.move (Operand.tmp 3), type := 101, pos := "l04_msg.go:60", after := #[], guard := none }) (v := ?_) rfl (by kernel_rfl) (by kernel_rfl) (by kernel_rfl) (fun _ _ _ h => h) (Or.inl ⟨by rfl, ?_⟩) (by assumption) ?_
    rotate_left 1
    · (intro wq hSw; (try dsimp only at hSw); go_simp; try with_reducible rfl)
    try simp only [Act.put, List.setIfInBounds_toArray, List.set_cons_zero, List.set_cons_succ]
    refine wpAnyH_take (i := 1) (oi := { dst := some 7, op := Op.binOp BinOp.neq 101 (Operand.tmp 6) (Operand.const Value.nilIface) 101, type := 4, pos := "l04_msg.go:60", after := #[{ on := 0, ground := Ground.data }], guard := none }) (v := ?_) rfl (by kernel_rfl) (by kernel_rfl) (by kernel_rfl) (fun _ _ _ h => h) (Or.inl ⟨by rfl, ?_⟩) (by assumption) ?_
    rotate_left 1
    · (intro wq hSw; (try dsimp only at hSw); go_simp; try with_reducible rfl)
    try simp only [Act.put, List.setIfInBounds_toArray, List.set_cons_zero, List.set_cons_succ]
    refine wpAnyH_take (i := 2) (oi := { dst := some 8, op := Op.move (Operand.tmp 7), type := 4, pos := "l04_msg.go:60", after := #[{ on := 1, ground := Ground.data }], guard := none }) (v := ?_) rfl (by kernel_rfl) (by kernel_rfl) (by kernel_rfl) (fun _ _ _ h => h) (Or.inl ⟨by rfl, ?_⟩) (by assumption) ?_
    rotate_left 1
    · (intro wq hSw; (try dsimp only at hSw); go_simp; try with_reducible rfl)
    try simp only [Act.put, List.setIfInBounds_toArray, List.set_cons_zero, List.set_cons_succ]
    refine wpAnyH_take (i := 3) (oi := { dst := some 9, op := Op.move (Operand.tmp 3), type := 101, pos := "l04_msg.go:60", after := #[{ on := 2, ground := Ground.guard }], guard := some (2, true) }) (v := ?_) rfl (by kernel_rfl) (by kernel_rfl) (by kernel_rfl) (fun _ _ _ h => h) (Or.inl ⟨by rfl, ?_⟩) (by assumption) ?_
    rotate_left 1
    · (intro wq hSw; (try dsimp only at hSw); go_simp; try with_reducible rfl)
    try simp only [Act.put, List.setIfInBounds_toArray, List.set_cons_zero, List.set_cons_succ]
    refine wpAnyH_ready (rs := [4]) (by kernel_rfl) (by simp) ?_
    refine AllReadyH.cons (o := { dst := some 10, op := Op.call { callee := Callee.invoke (Operand.tmp 9) "loop.example/g00399/impl.inBounds", args := #[], argTypes := #[] }, type := 4, pos := "l04_msg.go:60", after := #[{ on := 3, ground := Ground.data }, { on := 2, ground := Ground.chain }, { on := 2, ground := Ground.guard }], guard := some (2, true) }) rfl (fun K hK => ?_) AllReadyH.nil
    go_simp
    refine (hbnd.out _).mono ?_
    rintro e w6 ⟨rfl, b6⟩
    have H6 : Hid (MB w6 w.heap.size 40 1 c v h ao n cap ∧ SL .i64 w6 ao n f ∧ Below w.heap.size w w6) := ⟨H5.out.1.below b6 H5.out.1.lt, H5.out.2.1.below b6, H5.out.2.2.trans (b6.mono H5.out.2.2.size)⟩
    have hk6 := H6.out.1.cells
    clear b6
    go_wp2_with fail
    refine hK.out _ _ ?_ (fun hHeld => ?_)
    · exact hk6
    clear hK K
    try simp only [Act.put, List.setIfInBounds_toArray, List.set_cons_zero, List.set_cons_succ]
    refine wpAnyH_take (i := 5) (oi := { dst := some 11, op := Op.pick (Operand.tmp 8) (Operand.tmp 10) (Operand.const (Value.bool false)), type := 4, pos := "l04_msg.go:60", after := #[{ on := 2, ground := Ground.data }, { on := 4, ground := Ground.data }], guard := none }) (v := ?_) rfl (by kernel_rfl) (by kernel_rfl) (by kernel_rfl) (fun _ _ _ h => h) (Or.inl ⟨by rfl, ?_⟩) (by assumption) ?_
    rotate_left 1
    · (intro wq hSw; (try dsimp only at hSw); go_simp; try with_reducible rfl)
    try simp only [Act.put, List.setIfInBounds_toArray, List.set_cons_zero, List.set_cons_succ]
    refine wpAnyH_take (i := 6) (oi := { dst := some 12, op := Op.move (Operand.tmp 11), type := 4, pos := "l04_msg.go:60", after := #[{ on := 5, ground := Ground.data }, { on := 4, ground := Ground.chain }], guard := none }) (v := ?_) rfl (by kernel_rfl) (by kernel_rfl) (by kernel_rfl) (fun _ _ _ h => h) (Or.inl ⟨by rfl, ?_⟩) (by assumption) ?_
    rotate_left 1
    · (intro wq hSw; (try dsimp only at hSw); go_simp; try with_reducible rfl)
    try simp only [Act.put, List.setIfInBounds_toArray, List.set_cons_zero, List.set_cons_succ]
    refine wpAnyH_take (i := 7) (oi := { dst := some 13, op := Op.load 40 (Operand.tmp 1), type := 40, pos := "l04_msg.go:60", after := #[{ on := 6, ground := Ground.guard }], guard := some (6, true) }) (v := ?_) rfl (by kernel_rfl) (by kernel_rfl) (by kernel_rfl) (fun _ _ _ h => h) (Or.inl ⟨by rfl, ?_⟩) (by assumption) ?_
    rotate_left 1
    · (intro wq hSw; (try dsimp only at hSw); go_simp; try with_reducible rfl)
    try simp only [Act.put, List.setIfInBounds_toArray, List.set_cons_zero, List.set_cons_succ]
    refine wpAnyH_take (i := 8) (oi := { dst := some 14, op := Op.move (Operand.tmp 3), type := 101, pos := "l04_msg.go:60", after := #[{ on := 6, ground := Ground.guard }], guard := some (6, true) }) (v := ?_) rfl (by kernel_rfl) (by kernel_rfl) (by kernel_rfl) (fun _ _ _ h => h) (Or.inl ⟨by rfl, ?_⟩) (by assumption) ?_
    rotate_left 1
    · (intro wq hSw; (try dsimp only at hSw); go_simp; try with_reducible rfl)
    try simp only [Act.put, List.setIfInBounds_toArray, List.set_cons_zero, List.set_cons_succ]
    refine wpAnyH_ready (rs := [9]) (by kernel_rfl) (by simp) ?_
    refine AllReadyH.cons (o := { dst := some 15, op := Op.call { callee := Callee.value (Operand.func 98), args := #[Operand.tmp 14], argTypes := #[101] }, type := 40, pos := "l04_msg.go:60", after := #[{ on := 8, ground := Ground.data }, { on := 6, ground := Ground.chain }, { on := 6, ground := Ground.guard }], guard := some (6, true) }) rfl (fun K hK => ?_) AllReadyH.nil
    go_simp
    refine (saidby1 ao n cap c v h _).mono ?_
    rintro e w7 ⟨rfl, b7⟩
    have H7 : Hid (MB w7 w.heap.size 40 1 c v h ao n cap ∧ SL .i64 w7 ao n f ∧ Below w.heap.size w w7) := ⟨H6.out.1.below b7 H6.out.1.lt, H6.out.2.1.below b7, H6.out.2.2.trans (b7.mono H6.out.2.2.size)⟩
    have hk7 := H7.out.1.cells
    clear b7
    go_wp2_with fail
    refine hK.out _ _ ?_ (fun hHeld => ?_)
    · exact hk7
    clear hK K
    try simp only [Act.put, List.setIfInBounds_toArray, List.set_cons_zero, List.set_cons_succ]
    refine wpAnyH_ready (rs := [10]) (by kernel_rfl) (by simp) ?_
    refine AllReadyH.cons (o := { dst := some 16, op := Op.call { callee := Callee.value (Operand.func 97), args := #[Operand.tmp 13, Operand.tmp 15], argTypes := #[40, 40] }, type := 4, pos := "l04_msg.go:60", after := #[{ on := 7, ground := Ground.data }, { on := 9, ground := Ground.data }, { on := 9, ground := Ground.chain }, { on := 6, ground := Ground.guard }], guard := some (6, true) }) rfl (fun K hK => ?_) AllReadyH.nil
    go_simp
    refine (hsame.out _ H7.out.2.1).mono ?_
    rintro e w8 ⟨rfl, b8⟩
    have H8 : Hid (MB w8 w.heap.size 40 1 c v h ao n cap ∧ SL .i64 w8 ao n f ∧ Below w.heap.size w w8) := ⟨H7.out.1.below b8 H7.out.1.lt, H7.out.2.1.below b8, H7.out.2.2.trans (b8.mono H7.out.2.2.size)⟩
    have hk8 := H8.out.1.cells
    clear b8
    go_wp2_with fail
    refine hK.out _ _ ?_ (fun hHeld => ?_)
    · exact hk8
    clear hK K
    try simp only [Act.put, List.setIfInBounds_toArray, List.set_cons_zero, List.set_cons_succ]
    refine wpAnyH_take (i := 11) (oi := { dst := some 17, op := Op.pick (Operand.tmp 12) (Operand.tmp 16) (Operand.const (Value.bool false)), type := 4, pos := "l04_msg.go:60", after := #[{ on := 6, ground := Ground.data }, { on := 10, ground := Ground.data }], guard := none }) (v := ?_) rfl (by kernel_rfl) (by kernel_rfl) (by kernel_rfl) (fun _ _ _ h => h) (Or.inl ⟨by rfl, ?_⟩) (by assumption) ?_
    rotate_left 1
    · (intro wq hSw; (try dsimp only at hSw); go_simp; try with_reducible rfl)
    try simp only [Act.put, List.setIfInBounds_toArray, List.set_cons_zero, List.set_cons_succ]
    refine wpAnyH_take (i := 12) (oi := { dst := some 2, op := Op.assign (Operand.tmp 17), type := 4, pos := "l04_msg.go:60", after := #[{ on := 11, ground := Ground.data }, { on := 10, ground := Ground.chain }, { on := 0, ground := Ground.phase }, { on := 1, ground := Ground.phase }, { on := 2, ground := Ground.phase }, { on := 3, ground := Ground.phase }, { on := 4, ground := Ground.phase }, { on := 5, ground := Ground.phase }, { on := 6, ground := Ground.phase }, { on := 7, ground := Ground.phase }, { on := 8, ground := Ground.phase }, { on := 9, ground := Ground.phase }, { on := 10, ground := Ground.phase }, { on := 11, ground := Ground.phase }], guard := none }) (v := ?_) rfl (by kernel_rfl) (by kernel_rfl) (by kernel_rfl) (fun _ _ _ h => h) (Or.inl ⟨by rfl, ?_⟩) (by assumption) ?_
    rotate_left 1
    · (intro wq hSw; (try dsimp only at hSw); go_simp; try with_reducible rfl)
    try simp only [Act.put, List.setIfInBounds_toArray, List.set_cons_zero, List.set_cons_succ]
    refine wpAnyH_done (by kernel_rfl) ?_ _
    go_wp2
    go_ret
    cases b2 with
    | true => exact Tells.yes (HY.out.1 rfl) H8.out.2.2
    | false => exact Tells.no (fun x => absurd (HY.out.2 x) (by simp)) H8.out.2.2

set_option maxHeartbeats 1000000 in
set_option maxRecDepth 100000 in
theorem msgok2i (ao : Option Addr) (n cap : Nat) (f : Nat → Int) (c v h : Int) (w : World) (hn : n ≤ 1048576) (hcap : n ≤ cap) (hs : SL .i64 w ao n f) :
    Calls Try.prog 37 #[.agg #[.int .i64 2, .int .i64 c, .int .i64 v, .int .i64 h, .slice ao n cap]] w fun e w' => Tells w w' e (MOk 2 c v h f n) := by
  have HM : Hid (MOk 2 c v h f n ↔ ((0 ≤ c ∧ c ≤ 7) ∧ 0 ≤ v ∧ v ≤ 200) ∧ ((2 : Int) = 2 ∧ c = c ∧ v = v ∧ h = 0) ∧ SameI f f n 0) := by
    show _ ↔ _
    unfold MOk SameI
    constructor
    · rintro (x | x)
      all_goals first
        | exact absurd x.1 (by omega)
        | exact ⟨⟨by omega, x.2.1⟩, by omega, rfl, fun _ _ => rfl⟩
        | exact ⟨by have := x.2.2.2.1; split at this <;> omega, by omega, by omega, fun _ _ => rfl⟩
    · rintro ⟨x, y, z, _⟩
      first
        | exact .inl ⟨rfl, x.2, by omega, by omega, by omega⟩
        | exact .inr ⟨by omega, by omega, by omega, by split <;> omega, by omega⟩
  obtain ⟨W, hW⟩ : ∃ W, W = w.alloc (.cells #[.int .i64 2, .int .i64 c, .int .i64 v, .int .i64 h, .slice ao n cap] 40) := ⟨_, rfl⟩
  have M1 : MB W w.heap.size 40 2 c v h ao n cap := by rw [hW]; exact MB.new w _ _ c v h ao n cap
  have hb : Below w.heap.size w W := by rw [hW]; exact (Below.refl _ _).alloc (Nat.le_refl _) _
  have HA := hide (hs.below hb)
  have HB0 := hide hb
  clear hs hb
  have hbb := tellsB_of ((0 ≤ c ∧ c ≤ 7) ∧ 0 ≤ v ∧ v ≤ 200)
  have hbnd := hide (bnd_ack c v)
  generalize decide ((0 ≤ c ∧ c ≤ 7) ∧ 0 ≤ v ∧ v ≤ 200) = b at hbb hbnd
  obtain ⟨b2, hbb2⟩ := tellsB (((2 : Int) = 2 ∧ c = c ∧ v = v ∧ h = 0) ∧ SameI f f n 0)
  have hsame : Hid (∀ W, SL .i64 W ao n f → Calls Try.prog 97 #[.agg #[.int .i64 2, .int .i64 c, .int .i64 v, .int .i64 h, .slice ao n cap], .agg #[.int .i64 2, .int .i64 c, .int .i64 v, .int .i64 0, .slice none 0 0]] W fun e w' => e = .returned (.bool b2) ∧ Below W.heap.size W w') := fun W hW => samemsg_b ao none n 0 cap 0 f f 2 c v h 2 c v 0 W hn hW (fun i hi => absurd hi (Nat.not_lt_zero _)) b2 hbb2
  have HN : b = false → Hid (¬ MOk 2 c v h f n) := fun e x => by rw [e] at hbb; exact absurd (hbb.2 (HM.out.1 x).1) (by simp)
  have HY : b = true → Hid (b2 = true ↔ MOk 2 c v h f n) := fun e => (show _ ↔ _ from ⟨fun e2 => HM.out.2 ⟨hbb.1 e, hbb2.1 e2⟩, fun x => hbb2.2 (HM.out.1 x).2⟩)
  clear hbb hbb2 HM
  cases b with
  | false =>
    clear HY hsame
    replace HN := HN rfl
    go_enter Try.func37, Try.ntmps37
    go_wp2_with fail
    rw [← hW]
    refine (sayof2 ao n cap c v h _).mono ?_
    rintro e w1 ⟨rfl, b1⟩
    have H5 : Hid (MB w1.drew w.heap.size 40 2 c v h ao n cap ∧ SL .i64 w1.drew ao n f ∧ Below w.heap.size w w1.drew) := ⟨M1.below (Below.drawn b1 1) M1.lt, HA.out.below (Below.drawn b1 1), HB0.out.trans ((Below.drawn b1 1).mono HB0.out.size)⟩
    clear hW M1 HA HB0 b1
    go_wp2_with fail
    obtain ⟨m0, m1, m2, m3, m4⟩ := (show MB w1 w.heap.size 40 2 c v h ao n cap from H5.out.1).cells
    refine wp_region_held_drew (S := (fun w' => w'.cell? ⟨w.heap.size, 0, none⟩ = some (.int .i64 2) ∧ w'.cell? ⟨w.heap.size, 1, none⟩ = some (.int .i64 c) ∧ w'.cell? ⟨w.heap.size, 2, none⟩ = some (.int .i64 v) ∧ w'.cell? ⟨w.heap.size, 3, none⟩ = some (.int .i64 h) ∧ w'.cell? ⟨w.heap.size, 4, none⟩ = some (.slice ao n cap))) (by kernel_rfl) ?_ (fun hHeld => ?_)
    · exact ⟨m0, m1, m2, m3, m4⟩
    refine wpAnyH_take (i := 0) (oi := { dst := some 6, op := Op.move (Operand.tmp 3), type := 101, pos := "l04_msg.go:60", after := #[], guard := none }) (v := ?_) rfl (by kernel_rfl) (by kernel_rfl) (by kernel_rfl) (fun _ _ _ h => h) (Or.inl ⟨by rfl, ?_⟩) (by assumption) ?_
    rotate_left 1
    · (intro wq hSw; (try dsimp only at hSw); go_simp; try with_reducible rfl)
    try simp only [Act.put, List.setIfInBounds_toArray, List.set_cons_zero, List.set_cons_succ]
    refine wpAnyH_take (i := 1) (oi := { dst := some 7, op := Op.binOp BinOp.neq 101 (Operand.tmp 6) (Operand.const Value.nilIface) 101, type := 4, pos := "l04_msg.go:60", after := #[{ on := 0, ground := Ground.data }], guard := none }) (v := ?_) rfl (by kernel_rfl) (by kernel_rfl) (by kernel_rfl) (fun _ _ _ h => h) (Or.inl ⟨by rfl, ?_⟩) (by assumption) ?_
    rotate_left 1
    · (intro wq hSw; (try dsimp only at hSw); go_simp; try with_reducible rfl)
    try simp only [Act.put, List.setIfInBounds_toArray, List.set_cons_zero, List.set_cons_succ]
    refine wpAnyH_take (i := 2) (oi := { dst := some 8, op := Op.move (Operand.tmp 7), type := 4, pos := "l04_msg.go:60", after := #[{ on := 1, ground := Ground.data }], guard := none }) (v := ?_) rfl (by kernel_rfl) (by kernel_rfl) (by kernel_rfl) (fun _ _ _ h => h) (Or.inl ⟨by rfl, ?_⟩) (by assumption) ?_
    rotate_left 1
    · (intro wq hSw; (try dsimp only at hSw); go_simp; try with_reducible rfl)
    try simp only [Act.put, List.setIfInBounds_toArray, List.set_cons_zero, List.set_cons_succ]
    refine wpAnyH_take (i := 3) (oi := { dst := some 9, op := Op.move (Operand.tmp 3), type := 101, pos := "l04_msg.go:60", after := #[{ on := 2, ground := Ground.guard }], guard := some (2, true) }) (v := ?_) rfl (by kernel_rfl) (by kernel_rfl) (by kernel_rfl) (fun _ _ _ h => h) (Or.inl ⟨by rfl, ?_⟩) (by assumption) ?_
    rotate_left 1
    · (intro wq hSw; (try dsimp only at hSw); go_simp; try with_reducible rfl)
    try simp only [Act.put, List.setIfInBounds_toArray, List.set_cons_zero, List.set_cons_succ]
    refine wpAnyH_ready (rs := [4]) (by kernel_rfl) (by simp) ?_
    refine AllReadyH.cons (o := { dst := some 10, op := Op.call { callee := Callee.invoke (Operand.tmp 9) "loop.example/g00399/impl.inBounds", args := #[], argTypes := #[] }, type := 4, pos := "l04_msg.go:60", after := #[{ on := 3, ground := Ground.data }, { on := 2, ground := Ground.chain }, { on := 2, ground := Ground.guard }], guard := some (2, true) }) rfl (fun K hK => ?_) AllReadyH.nil
    go_simp
    refine (hbnd.out _).mono ?_
    rintro e w6 ⟨rfl, b6⟩
    have H6 : Hid (MB w6 w.heap.size 40 2 c v h ao n cap ∧ SL .i64 w6 ao n f ∧ Below w.heap.size w w6) := ⟨H5.out.1.below b6 H5.out.1.lt, H5.out.2.1.below b6, H5.out.2.2.trans (b6.mono H5.out.2.2.size)⟩
    have hk6 := H6.out.1.cells
    clear b6
    go_wp2_with fail
    refine hK.out _ _ ?_ (fun hHeld => ?_)
    · exact hk6
    clear hK K
    try simp only [Act.put, List.setIfInBounds_toArray, List.set_cons_zero, List.set_cons_succ]
    refine wpAnyH_take (i := 5) (oi := { dst := some 11, op := Op.pick (Operand.tmp 8) (Operand.tmp 10) (Operand.const (Value.bool false)), type := 4, pos := "l04_msg.go:60", after := #[{ on := 2, ground := Ground.data }, { on := 4, ground := Ground.data }], guard := none }) (v := ?_) rfl (by kernel_rfl) (by kernel_rfl) (by kernel_rfl) (fun _ _ _ h => h) (Or.inl ⟨by rfl, ?_⟩) (by assumption) ?_
    rotate_left 1
    · (intro wq hSw; (try dsimp only at hSw); go_simp; try with_reducible rfl)
    try simp only [Act.put, List.setIfInBounds_toArray, List.set_cons_zero, List.set_cons_succ]
    refine wpAnyH_take (i := 6) (oi := { dst := some 12, op := Op.move (Operand.tmp 11), type := 4, pos := "l04_msg.go:60", after := #[{ on := 5, ground := Ground.data }, { on := 4, ground := Ground.chain }], guard := none }) (v := ?_) rfl (by kernel_rfl) (by kernel_rfl) (by kernel_rfl) (fun _ _ _ h => h) (Or.inl ⟨by rfl, ?_⟩) (by assumption) ?_
    rotate_left 1
    · (intro wq hSw; (try dsimp only at hSw); go_simp; try with_reducible rfl)
    try simp only [Act.put, List.setIfInBounds_toArray, List.set_cons_zero, List.set_cons_succ]
    refine wpAnyH_take (i := 7) (oi := { dst := some 13, op := Op.load 40 (Operand.tmp 1), type := 40, pos := "l04_msg.go:60", after := #[{ on := 6, ground := Ground.guard }], guard := some (6, true) }) (v := undef) rfl (by kernel_rfl) (by kernel_rfl) (by kernel_rfl) (fun _ _ _ h => h) (Or.inr ⟨by rfl, rfl⟩) (by assumption) ?_
    try simp only [Act.put, List.setIfInBounds_toArray, List.set_cons_zero, List.set_cons_succ]
    refine wpAnyH_take (i := 8) (oi := { dst := some 14, op := Op.move (Operand.tmp 3), type := 101, pos := "l04_msg.go:60", after := #[{ on := 6, ground := Ground.guard }], guard := some (6, true) }) (v := undef) rfl (by kernel_rfl) (by kernel_rfl) (by kernel_rfl) (fun _ _ _ h => h) (Or.inr ⟨by rfl, rfl⟩) (by assumption) ?_
    try simp only [Act.put, List.setIfInBounds_toArray, List.set_cons_zero, List.set_cons_succ]
    refine wpAnyH_take (i := 9) (oi := { dst := some 15, op := Op.call { callee := Callee.value (Operand.func 98), args := #[Operand.tmp 14], argTypes := #[101] }, type := 40, pos := "l04_msg.go:60", after := #[{ on := 8, ground := Ground.data }, { on := 6, ground := Ground.chain }, { on := 6, ground := Ground.guard }], guard := some (6, true) }) (v := undef) rfl (by kernel_rfl) (by kernel_rfl) (by kernel_rfl) (fun _ _ _ h => h) (Or.inr ⟨by rfl, rfl⟩) (by assumption) ?_
    try simp only [Act.put, List.setIfInBounds_toArray, List.set_cons_zero, List.set_cons_succ]
    refine wpAnyH_take (i := 10) (oi := { dst := some 16, op := Op.call { callee := Callee.value (Operand.func 97), args := #[Operand.tmp 13, Operand.tmp 15], argTypes := #[40, 40] }, type := 4, pos := "l04_msg.go:60", after := #[{ on := 7, ground := Ground.data }, { on := 9, ground := Ground.data }, { on := 9, ground := Ground.chain }, { on := 6, ground := Ground.guard }], guard := some (6, true) }) (v := undef) rfl (by kernel_rfl) (by kernel_rfl) (by kernel_rfl) (fun _ _ _ h => h) (Or.inr ⟨by rfl, rfl⟩) (by assumption) ?_
    try simp only [Act.put, List.setIfInBounds_toArray, List.set_cons_zero, List.set_cons_succ]
    refine wpAnyH_take (i := 11) (oi := { dst := some 17, op := Op.pick (Operand.tmp 12) (Operand.tmp 16) (Operand.const (Value.bool false)), type := 4, pos := "l04_msg.go:60", after := #[{ on := 6, ground := Ground.data }, { on := 10, ground := Ground.data }], guard := none }) (v := ?_) rfl (by kernel_rfl) (by kernel_rfl) (by kernel_rfl) (fun _ _ _ h => h) (Or.inl ⟨by rfl, ?_⟩) (by assumption) ?_
    rotate_left 1
    · (intro wq hSw; (try dsimp only at hSw); go_simp; try with_reducible rfl)
    try simp only [Act.put, List.setIfInBounds_toArray, List.set_cons_zero, List.set_cons_succ]
    refine wpAnyH_take (i := 12) (oi := { dst := some 2, op := Op.assign (Operand.tmp 17), type := 4, pos := "l04_msg.go:60", after := #[{ on := 11, ground := Ground.data }, { on := 10, ground := Ground.chain }, { on := 0, ground := Ground.phase }, { on := 1, ground := Ground.phase }, { on := 2, ground := Ground.phase }, { on := 3, ground := Ground.phase }, { on := 4, ground := Ground.phase }, { on := 5, ground := Ground.phase }, { on := 6, ground := Ground.phase }, { on := 7, ground := Ground.phase }, { on := 8, ground := Ground.phase }, { on := 9, ground := Ground.phase }, { on := 10, ground := Ground.phase }, { on := 11, ground := Ground.phase }], guard := none }) (v := ?_) rfl (by kernel_rfl) (by kernel_rfl) (by kernel_rfl) (fun _ _ _ h => h) (Or.inl ⟨by rfl, ?_⟩) (by assumption) ?_
    rotate_left 1
    · (intro wq hSw; (try dsimp only at hSw); go_simp; try with_reducible rfl)
    try simp only [Act.put, List.setIfInBounds_toArray, List.set_cons_zero, List.set_cons_succ]
    refine wpAnyH_done (by kernel_rfl) ?_ _
    go_wp2
    go_ret
    exact Tells.no HN.out H6.out.2.2
  | true =>
    clear HN
    replace HY := HY rfl
    go_enter Try.func37, Try.ntmps37
    go_wp2_with fail
    rw [← hW]
    refine (sayof2 ao n cap c v h _).mono ?_
    rintro e w1 ⟨rfl, b1⟩
    have H5 : Hid (MB w1.drew w.heap.size 40 2 c v h ao n cap ∧ SL .i64 w1.drew ao n f ∧ Below w.heap.size w w1.drew) := ⟨M1.below (Below.drawn b1 1) M1.lt, HA.out.below (Below.drawn b1 1), HB0.out.trans ((Below.drawn b1 1).mono HB0.out.size)⟩
    clear hW M1 HA HB0 b1
    go_wp2_with fail
    obtain ⟨m0, m1, m2, m3, m4⟩ := (show MB w1 w.heap.size 40 2 c v h ao n cap from H5.out.1).cells
    refine wp_region_held_drew (S := (fun w' => w'.cell? ⟨w.heap.size, 0, none⟩ = some (.int .i64 2) ∧ w'.cell? ⟨w.heap.size, 1, none⟩ = some (.int .i64 c) ∧ w'.cell? ⟨w.heap.size, 2, none⟩ = some (.int .i64 v) ∧ w'.cell? ⟨w.heap.size, 3, none⟩ = some (.int .i64 h) ∧ w'.cell? ⟨w.heap.size, 4, none⟩ = some (.slice ao n cap))) (by kernel_rfl) ?_ (fun hHeld => ?_)
    · exact ⟨m0, m1, m2, m3, m4⟩
    refine wpAnyH_take (i := 0) (oi := { dst := some 6, op := Op.move (Operand.tmp 3), type := 101, pos := "l04_msg.go:60", after := #[], guard := none }) (v := ?_) rfl (by kernel_rfl) (by kernel_rfl) (by kernel_rfl) (fun _ _ _ h => h) (Or.inl ⟨by rfl, ?_⟩) (by assumption) ?_
    rotate_left 1
    · (intro wq hSw; (try dsimp only at hSw); go_simp; try with_reducible rfl)
    try simp only [Act.put, List.setIfInBounds_toArray, List.set_cons_zero, List.set_cons_succ]
    refine wpAnyH_take (i := 1) (oi := { dst := some 7, op := Op.binOp BinOp.neq 101 (Operand.tmp 6) (Operand.const Value.nilIface) 101, type := 4, pos := "l04_msg.go:60", after := #[{ on := 0, ground := Ground.data }], guard := none }) (v := ?_) rfl (by kernel_rfl) (by kernel_rfl) (by kernel_rfl) (fun _ _ _ h => h) (Or.inl ⟨by rfl, ?_⟩) (by assumption) ?_
    rotate_left 1
    · (intro wq hSw; (try dsimp only at hSw); go_simp; try with_reducible rfl)
    try simp only [Act.put, List.setIfInBounds_toArray, List.set_cons_zero, List.set_cons_succ]
    refine wpAnyH_take (i := 2) (oi := { dst := some 8, op := Op.move (Operand.tmp 7), type := 4, pos := "l04_msg.go:60", after := #[{ on := 1, ground := Ground.data }], guard := none }) (v := ?_) rfl (by kernel_rfl) (by kernel_rfl) (by kernel_rfl) (fun _ _ _ h => h) (Or.inl ⟨by rfl, ?_⟩) (by assumption) ?_
    rotate_left 1
    · (intro wq hSw; (try dsimp only at hSw); go_simp; try with_reducible rfl)
    try simp only [Act.put, List.setIfInBounds_toArray, List.set_cons_zero, List.set_cons_succ]
    refine wpAnyH_take (i := 3) (oi := { dst := some 9, op := Op.move (Operand.tmp 3), type := 101, pos := "l04_msg.go:60", after := #[{ on := 2, ground := Ground.guard }], guard := some (2, true) }) (v := ?_) rfl (by kernel_rfl) (by kernel_rfl) (by kernel_rfl) (fun _ _ _ h => h) (Or.inl ⟨by rfl, ?_⟩) (by assumption) ?_
    rotate_left 1
    · (intro wq hSw; (try dsimp only at hSw); go_simp; try with_reducible rfl)
    try simp only [Act.put, List.setIfInBounds_toArray, List.set_cons_zero, List.set_cons_succ]
    refine wpAnyH_ready (rs := [4]) (by kernel_rfl) (by simp) ?_
    refine AllReadyH.cons (o := { dst := some 10, op := Op.call { callee := Callee.invoke (Operand.tmp 9) "loop.example/g00399/impl.inBounds", args := #[], argTypes := #[] }, type := 4, pos := "l04_msg.go:60", after := #[{ on := 3, ground := Ground.data }, { on := 2, ground := Ground.chain }, { on := 2, ground := Ground.guard }], guard := some (2, true) }) rfl (fun K hK => ?_) AllReadyH.nil
    go_simp
    refine (hbnd.out _).mono ?_
    rintro e w6 ⟨rfl, b6⟩
    have H6 : Hid (MB w6 w.heap.size 40 2 c v h ao n cap ∧ SL .i64 w6 ao n f ∧ Below w.heap.size w w6) := ⟨H5.out.1.below b6 H5.out.1.lt, H5.out.2.1.below b6, H5.out.2.2.trans (b6.mono H5.out.2.2.size)⟩
    have hk6 := H6.out.1.cells
    clear b6
    go_wp2_with fail
    refine hK.out _ _ ?_ (fun hHeld => ?_)
    · exact hk6
    clear hK K
    try simp only [Act.put, List.setIfInBounds_toArray, List.set_cons_zero, List.set_cons_succ]
    refine wpAnyH_take (i := 5) (oi := { dst := some 11, op := Op.pick (Operand.tmp 8) (Operand.tmp 10) (Operand.const (Value.bool false)), type := 4, pos := "l04_msg.go:60", after := #[{ on := 2, ground := Ground.data }, { on := 4, ground := Ground.data }], guard := none }) (v := ?_) rfl (by kernel_rfl) (by kernel_rfl) (by kernel_rfl) (fun _ _ _ h => h) (Or.inl ⟨by rfl, ?_⟩) (by assumption) ?_
    rotate_left 1
    · (intro wq hSw; (try dsimp only at hSw); go_simp; try with_reducible rfl)
    try simp only [Act.put, List.setIfInBounds_toArray, List.set_cons_zero, List.set_cons_succ]
    refine wpAnyH_take (i := 6) (oi := { dst := some 12, op := Op.move (Operand.tmp 11), type := 4, pos := "l04_msg.go:60", after := #[{ on := 5, ground := Ground.data }, { on := 4, ground := Ground.chain }], guard := none }) (v := ?_) rfl (by kernel_rfl) (by kernel_rfl) (by kernel_rfl) (fun _ _ _ h => h) (Or.inl ⟨by rfl, ?_⟩) (by assumption) ?_
    rotate_left 1
    · (intro wq hSw; (try dsimp only at hSw); go_simp; try with_reducible rfl)
    try simp only [Act.put, List.setIfInBounds_toArray, List.set_cons_zero, List.set_cons_succ]
    refine wpAnyH_take (i := 7) (oi := { dst := some 13, op := Op.load 40 (Operand.tmp 1), type := 40, pos := "l04_msg.go:60", after := #[{ on := 6, ground := Ground.guard }], guard := some (6, true) }) (v := ?_) rfl (by kernel_rfl) (by kernel_rfl) (by kernel_rfl) (fun _ _ _ h => h) (Or.inl ⟨by rfl, ?_⟩) (by assumption) ?_
    rotate_left 1
    · (intro wq hSw; (try dsimp only at hSw); go_simp; try with_reducible rfl)
    try simp only [Act.put, List.setIfInBounds_toArray, List.set_cons_zero, List.set_cons_succ]
    refine wpAnyH_take (i := 8) (oi := { dst := some 14, op := Op.move (Operand.tmp 3), type := 101, pos := "l04_msg.go:60", after := #[{ on := 6, ground := Ground.guard }], guard := some (6, true) }) (v := ?_) rfl (by kernel_rfl) (by kernel_rfl) (by kernel_rfl) (fun _ _ _ h => h) (Or.inl ⟨by rfl, ?_⟩) (by assumption) ?_
    rotate_left 1
    · (intro wq hSw; (try dsimp only at hSw); go_simp; try with_reducible rfl)
    try simp only [Act.put, List.setIfInBounds_toArray, List.set_cons_zero, List.set_cons_succ]
    refine wpAnyH_ready (rs := [9]) (by kernel_rfl) (by simp) ?_
    refine AllReadyH.cons (o := { dst := some 15, op := Op.call { callee := Callee.value (Operand.func 98), args := #[Operand.tmp 14], argTypes := #[101] }, type := 40, pos := "l04_msg.go:60", after := #[{ on := 8, ground := Ground.data }, { on := 6, ground := Ground.chain }, { on := 6, ground := Ground.guard }], guard := some (6, true) }) rfl (fun K hK => ?_) AllReadyH.nil
    go_simp
    refine (saidby2 ao n cap c v h _).mono ?_
    rintro e w7 ⟨rfl, b7⟩
    have H7 : Hid (MB w7 w.heap.size 40 2 c v h ao n cap ∧ SL .i64 w7 ao n f ∧ Below w.heap.size w w7) := ⟨H6.out.1.below b7 H6.out.1.lt, H6.out.2.1.below b7, H6.out.2.2.trans (b7.mono H6.out.2.2.size)⟩
    have hk7 := H7.out.1.cells
    clear b7
    go_wp2_with fail
    refine hK.out _ _ ?_ (fun hHeld => ?_)
    · exact hk7
    clear hK K
    try simp only [Act.put, List.setIfInBounds_toArray, List.set_cons_zero, List.set_cons_succ]
    refine wpAnyH_ready (rs := [10]) (by kernel_rfl) (by simp) ?_
    refine AllReadyH.cons (o := { dst := some 16, op := Op.call { callee := Callee.value (Operand.func 97), args := #[Operand.tmp 13, Operand.tmp 15], argTypes := #[40, 40] }, type := 4, pos := "l04_msg.go:60", after := #[{ on := 7, ground := Ground.data }, { on := 9, ground := Ground.data }, { on := 9, ground := Ground.chain }, { on := 6, ground := Ground.guard }], guard := some (6, true) }) rfl (fun K hK => ?_) AllReadyH.nil
    go_simp
    refine (hsame.out _ H7.out.2.1).mono ?_
    rintro e w8 ⟨rfl, b8⟩
    have H8 : Hid (MB w8 w.heap.size 40 2 c v h ao n cap ∧ SL .i64 w8 ao n f ∧ Below w.heap.size w w8) := ⟨H7.out.1.below b8 H7.out.1.lt, H7.out.2.1.below b8, H7.out.2.2.trans (b8.mono H7.out.2.2.size)⟩
    have hk8 := H8.out.1.cells
    clear b8
    go_wp2_with fail
    refine hK.out _ _ ?_ (fun hHeld => ?_)
    · exact hk8
    clear hK K
    try simp only [Act.put, List.setIfInBounds_toArray, List.set_cons_zero, List.set_cons_succ]
    refine wpAnyH_take (i := 11) (oi := { dst := some 17, op := Op.pick (Operand.tmp 12) (Operand.tmp 16) (Operand.const (Value.bool false)), type := 4, pos := "l04_msg.go:60", after := #[{ on := 6, ground := Ground.data }, { on := 10, ground := Ground.data }], guard := none }) (v := ?_) rfl (by kernel_rfl) (by kernel_rfl) (by kernel_rfl) (fun _ _ _ h => h) (Or.inl ⟨by rfl, ?_⟩) (by assumption) ?_
    rotate_left 1
    · (intro wq hSw; (try dsimp only at hSw); go_simp; try with_reducible rfl)
    try simp only [Act.put, List.setIfInBounds_toArray, List.set_cons_zero, List.set_cons_succ]
    refine wpAnyH_take (i := 12) (oi := { dst := some 2, op := Op.assign (Operand.tmp 17), type := 4, pos := "l04_msg.go:60", after := #[{ on := 11, ground := Ground.data }, { on := 10, ground := Ground.chain }, { on := 0, ground := Ground.phase }, { on := 1, ground := Ground.phase }, { on := 2, ground := Ground.phase }, { on := 3, ground := Ground.phase }, { on := 4, ground := Ground.phase }, { on := 5, ground := Ground.phase }, { on := 6, ground := Ground.phase }, { on := 7, ground := Ground.phase }, { on := 8, ground := Ground.phase }, { on := 9, ground := Ground.phase }, { on := 10, ground := Ground.phase }, { on := 11, ground := Ground.phase }], guard := none }) (v := ?_) rfl (by kernel_rfl) (by kernel_rfl) (by kernel_rfl) (fun _ _ _ h => h) (Or.inl ⟨by rfl, ?_⟩) (by assumption) ?_
    rotate_left 1
    · (intro wq hSw; (try dsimp only at hSw); go_simp; try with_reducible rfl)
    try simp only [Act.put, List.setIfInBounds_toArray, List.set_cons_zero, List.set_cons_succ]
    refine wpAnyH_done (by kernel_rfl) ?_ _
    go_wp2
    go_ret
    cases b2 with
    | true => exact Tells.yes (HY.out.1 rfl) H8.out.2.2
    | false => exact Tells.no (fun x => absurd (HY.out.2 x) (by simp)) H8.out.2.2

set_option maxHeartbeats 1000000 in
set_option maxRecDepth 100000 in
theorem msgok3i (ao : Option Addr) (n cap : Nat) (f : Nat → Int) (c v h : Int) (w : World) (hn : n ≤ 1048576) (hcap : n ≤ cap) (hs : SL .i64 w ao n f) :
    Calls Try.prog 37 #[.agg #[.int .i64 3, .int .i64 c, .int .i64 v, .int .i64 h, .slice ao n cap]] w fun e w' => Tells w w' e (MOk 3 c v h f n) := by
  have HM : Hid (MOk 3 c v h f n ↔ (((0 ≤ c ∧ c ≤ 7) ∧ 1 ≤ v ∧ v ≤ 200) ∧ 0 ≤ h ∧ h ≤ 2) ∧ ((3 : Int) = 3 ∧ c = c ∧ v = v ∧ h = h) ∧ SameI f f n 0) := by
    show _ ↔ _
    unfold MOk SameI
    constructor
    · rintro (x | x)
      all_goals first
        | exact absurd x.1 (by omega)
        | exact ⟨⟨by omega, x.2.1⟩, by omega, rfl, fun _ _ => rfl⟩
        | exact ⟨by have := x.2.2.2.1; split at this <;> omega, by omega, by omega, fun _ _ => rfl⟩
    · rintro ⟨x, y, z, _⟩
      first
        | exact .inl ⟨rfl, x.2, by omega, by omega, by omega⟩
        | exact .inr ⟨by omega, by omega, by omega, by split <;> omega, by omega⟩
  obtain ⟨W, hW⟩ : ∃ W, W = w.alloc (.cells #[.int .i64 3, .int .i64 c, .int .i64 v, .int .i64 h, .slice ao n cap] 40) := ⟨_, rfl⟩
  have M1 : MB W w.heap.size 40 3 c v h ao n cap := by rw [hW]; exact MB.new w _ _ c v h ao n cap
  have hb : Below w.heap.size w W := by rw [hW]; exact (Below.refl _ _).alloc (Nat.le_refl _) _
  have HA := hide (hs.below hb)
  have HB0 := hide hb
  clear hs hb
  have hbb := tellsB_of (((0 ≤ c ∧ c ≤ 7) ∧ 1 ≤ v ∧ v ≤ 200) ∧ 0 ≤ h ∧ h ≤ 2)
  have hbnd := hide (bnd_clear c v h)
  generalize decide (((0 ≤ c ∧ c ≤ 7) ∧ 1 ≤ v ∧ v ≤ 200) ∧ 0 ≤ h ∧ h ≤ 2) = b at hbb hbnd
  obtain ⟨b2, hbb2⟩ := tellsB (((3 : Int) = 3 ∧ c = c ∧ v = v ∧ h = h) ∧ SameI f f n 0)
  have hsame : Hid (∀ W, SL .i64 W ao n f → Calls Try.prog 97 #[.agg #[.int .i64 3, .int .i64 c, .int .i64 v, .int .i64 h, .slice ao n cap], .agg #[.int .i64 3, .int .i64 c, .int .i64 v, .int .i64 h, .slice none 0 0]] W fun e w' => e = .returned (.bool b2) ∧ Below W.heap.size W w') := fun W hW => samemsg_b ao none n 0 cap 0 f f 3 c v h 3 c v h W hn hW (fun i hi => absurd hi (Nat.not_lt_zero _)) b2 hbb2
  have HN : b = false → Hid (¬ MOk 3 c v h f n) := fun e x => by rw [e] at hbb; exact absurd (hbb.2 (HM.out.1 x).1) (by simp)
  have HY : b = true → Hid (b2 = true ↔ MOk 3 c v h f n) := fun e => (show _ ↔ _ from ⟨fun e2 => HM.out.2 ⟨hbb.1 e, hbb2.1 e2⟩, fun x => hbb2.2 (HM.out.1 x).2⟩)
  clear hbb hbb2 HM
  cases b with
  | false =>
    clear HY hsame
    replace HN := HN rfl
    go_enter Try.func37, Try.ntmps37
    go_wp2_with fail
    rw [← hW]
    refine (sayof3 ao n cap c v h _).mono ?_
    rintro e w1 ⟨rfl, b1⟩
    have H5 : Hid (MB w1.drew w.heap.size 40 3 c v h ao n cap ∧ SL .i64 w1.drew ao n f ∧ Below w.heap.size w w1.drew) := ⟨M1.below (Below.drawn b1 1) M1.lt, HA.out.below (Below.drawn b1 1), HB0.out.trans ((Below.drawn b1 1).mono HB0.out.size)⟩
    clear hW M1 HA HB0 b1
    go_wp2_with fail
    obtain ⟨m0, m1, m2, m3, m4⟩ := (show MB w1 w.heap.size 40 3 c v h ao n cap from H5.out.1).cells
    refine wp_region_held_drew (S := (fun w' => w'.cell? ⟨w.heap.size, 0, none⟩ = some (.int .i64 3) ∧ w'.cell? ⟨w.heap.size, 1, none⟩ = some (.int .i64 c) ∧ w'.cell? ⟨w.heap.size, 2, none⟩ = some (.int .i64 v) ∧ w'.cell? ⟨w.heap.size, 3, none⟩ = some (.int .i64 h) ∧ w'.cell? ⟨w.heap.size, 4, none⟩ = some (.slice ao n cap))) (by kernel_rfl) ?_ (fun hHeld => ?_)
    · exact ⟨m0, m1, m2, m3, m4⟩
    refine wpAnyH_take (i := 0) (oi := { dst := some 6, op := Op.move (Operand.tmp 3), type := 101, pos := "l04_msg.go:60", after := #[], guard := none }) (v := ?_) rfl (by kernel_rfl) (by kernel_rfl) (by kernel_rfl) (fun _ _ _ h => h) (Or.inl ⟨by rfl, ?_⟩) (by assumption) ?_
    rotate_left 1
    · (intro wq hSw; (try dsimp only at hSw); go_simp; try with_reducible rfl)
    try simp only [Act.put, List.setIfInBounds_toArray, List.set_cons_zero, List.set_cons_succ]
    refine wpAnyH_take (i := 1) (oi := { dst := some 7, op := Op.binOp BinOp.neq 101 (Operand.tmp 6) (Operand.const Value.nilIface) 101, type := 4, pos := "l04_msg.go:60", after := #[{ on := 0, ground := Ground.data }], guard := none }) (v := ?_) rfl (by kernel_rfl) (by kernel_rfl) (by kernel_rfl) (fun _ _ _ h => h) (Or.inl ⟨by rfl, ?_⟩) (by assumption) ?_
    rotate_left 1
    · (intro wq hSw; (try dsimp only at hSw); go_simp; try with_reducible rfl)
    try simp only [Act.put, List.setIfInBounds_toArray, List.set_cons_zero, List.set_cons_succ]
    refine wpAnyH_take (i := 2) (oi := { dst := some 8, op := Op.move (Operand.tmp 7), type := 4, pos := "l04_msg.go:60", after := #[{ on := 1, ground := Ground.data }], guard := none }) (v := ?_) rfl (by kernel_rfl) (by kernel_rfl) (by kernel_rfl) (fun _ _ _ h => h) (Or.inl ⟨by rfl, ?_⟩) (by assumption) ?_
    rotate_left 1
    · (intro wq hSw; (try dsimp only at hSw); go_simp; try with_reducible rfl)
    try simp only [Act.put, List.setIfInBounds_toArray, List.set_cons_zero, List.set_cons_succ]
    refine wpAnyH_take (i := 3) (oi := { dst := some 9, op := Op.move (Operand.tmp 3), type := 101, pos := "l04_msg.go:60", after := #[{ on := 2, ground := Ground.guard }], guard := some (2, true) }) (v := ?_) rfl (by kernel_rfl) (by kernel_rfl) (by kernel_rfl) (fun _ _ _ h => h) (Or.inl ⟨by rfl, ?_⟩) (by assumption) ?_
    rotate_left 1
    · (intro wq hSw; (try dsimp only at hSw); go_simp; try with_reducible rfl)
    try simp only [Act.put, List.setIfInBounds_toArray, List.set_cons_zero, List.set_cons_succ]
    refine wpAnyH_ready (rs := [4]) (by kernel_rfl) (by simp) ?_
    refine AllReadyH.cons (o := { dst := some 10, op := Op.call { callee := Callee.invoke (Operand.tmp 9) "loop.example/g00399/impl.inBounds", args := #[], argTypes := #[] }, type := 4, pos := "l04_msg.go:60", after := #[{ on := 3, ground := Ground.data }, { on := 2, ground := Ground.chain }, { on := 2, ground := Ground.guard }], guard := some (2, true) }) rfl (fun K hK => ?_) AllReadyH.nil
    go_simp
    refine (hbnd.out _).mono ?_
    rintro e w6 ⟨rfl, b6⟩
    have H6 : Hid (MB w6 w.heap.size 40 3 c v h ao n cap ∧ SL .i64 w6 ao n f ∧ Below w.heap.size w w6) := ⟨H5.out.1.below b6 H5.out.1.lt, H5.out.2.1.below b6, H5.out.2.2.trans (b6.mono H5.out.2.2.size)⟩
    have hk6 := H6.out.1.cells
    clear b6
    go_wp2_with fail
    refine hK.out _ _ ?_ (fun hHeld => ?_)
    · exact hk6
    clear hK K
    try simp only [Act.put, List.setIfInBounds_toArray, List.set_cons_zero, List.set_cons_succ]
    refine wpAnyH_take (i := 5) (oi := { dst := some 11, op := Op.pick (Operand.tmp 8) (Operand.tmp 10) (Operand.const (Value.bool false)), type := 4, pos := "l04_msg.go:60", after := #[{ on := 2, ground := Ground.data }, { on := 4, ground := Ground.data }], guard := none }) (v := ?_) rfl (by kernel_rfl) (by kernel_rfl) (by kernel_rfl) (fun _ _ _ h => h) (Or.inl ⟨by rfl, ?_⟩) (by assumption) ?_
    rotate_left 1
    · (intro wq hSw; (try dsimp only at hSw); go_simp; try with_reducible rfl)
    try simp only [Act.put, List.setIfInBounds_toArray, List.set_cons_zero, List.set_cons_succ]
    refine wpAnyH_take (i := 6) (oi := { dst := some 12, op := Op.move (Operand.tmp 11), type := 4, pos := "l04_msg.go:60", after := #[{ on := 5, ground := Ground.data }, { on := 4, ground := Ground.chain }], guard := none }) (v := ?_) rfl (by kernel_rfl) (by kernel_rfl) (by kernel_rfl) (fun _ _ _ h => h) (Or.inl ⟨by rfl, ?_⟩) (by assumption) ?_
    rotate_left 1
    · (intro wq hSw; (try dsimp only at hSw); go_simp; try with_reducible rfl)
    try simp only [Act.put, List.setIfInBounds_toArray, List.set_cons_zero, List.set_cons_succ]
    refine wpAnyH_take (i := 7) (oi := { dst := some 13, op := Op.load 40 (Operand.tmp 1), type := 40, pos := "l04_msg.go:60", after := #[{ on := 6, ground := Ground.guard }], guard := some (6, true) }) (v := undef) rfl (by kernel_rfl) (by kernel_rfl) (by kernel_rfl) (fun _ _ _ h => h) (Or.inr ⟨by rfl, rfl⟩) (by assumption) ?_
    try simp only [Act.put, List.setIfInBounds_toArray, List.set_cons_zero, List.set_cons_succ]
    refine wpAnyH_take (i := 8) (oi := { dst := some 14, op := Op.move (Operand.tmp 3), type := 101, pos := "l04_msg.go:60", after := #[{ on := 6, ground := Ground.guard }], guard := some (6, true) }) (v := undef) rfl (by kernel_rfl) (by kernel_rfl) (by kernel_rfl) (fun _ _ _ h => h) (Or.inr ⟨by rfl, rfl⟩) (by assumption) ?_
    try simp only [Act.put, List.setIfInBounds_toArray, List.set_cons_zero, List.set_cons_succ]
    refine wpAnyH_take (i := 9) (oi := { dst := some 15, op := Op.call { callee := Callee.value (Operand.func 98), args := #[Operand.tmp 14], argTypes := #[101] }, type := 40, pos := "l04_msg.go:60", after := #[{ on := 8, ground := Ground.data }, { on := 6, ground := Ground.chain }, { on := 6, ground := Ground.guard }], guard := some (6, true) }) (v := undef) rfl (by kernel_rfl) (by kernel_rfl) (by kernel_rfl) (fun _ _ _ h => h) (Or.inr ⟨by rfl, rfl⟩) (by assumption) ?_
    try simp only [Act.put, List.setIfInBounds_toArray, List.set_cons_zero, List.set_cons_succ]
    refine wpAnyH_take (i := 10) (oi := { dst := some 16, op := Op.call { callee := Callee.value (Operand.func 97), args := #[Operand.tmp 13, Operand.tmp 15], argTypes := #[40, 40] }, type := 4, pos := "l04_msg.go:60", after := #[{ on := 7, ground := Ground.data }, { on := 9, ground := Ground.data }, { on := 9, ground := Ground.chain }, { on := 6, ground := Ground.guard }], guard := some (6, true) }) (v := undef) rfl (by kernel_rfl) (by kernel_rfl) (by kernel_rfl) (fun _ _ _ h => h) (Or.inr ⟨by rfl, rfl⟩) (by assumption) ?_
    try simp only [Act.put, List.setIfInBounds_toArray, List.set_cons_zero, List.set_cons_succ]
    refine wpAnyH_take (i := 11) (oi := { dst := some 17, op := Op.pick (Operand.tmp 12) (Operand.tmp 16) (Operand.const (Value.bool false)), type := 4, pos := "l04_msg.go:60", after := #[{ on := 6, ground := Ground.data }, { on := 10, ground := Ground.data }], guard := none }) (v := ?_) rfl (by kernel_rfl) (by kernel_rfl) (by kernel_rfl) (fun _ _ _ h => h) (Or.inl ⟨by rfl, ?_⟩) (by assumption) ?_
    rotate_left 1
    · (intro wq hSw; (try dsimp only at hSw); go_simp; try with_reducible rfl)
    try simp only [Act.put, List.setIfInBounds_toArray, List.set_cons_zero, List.set_cons_succ]
    refine wpAnyH_take (i := 12) (oi := { dst := some 2, op := Op.assign (Operand.tmp 17), type := 4, pos := "l04_msg.go:60", after := #[{ on := 11, ground := Ground.data }, { on := 10, ground := Ground.chain }, { on := 0, ground := Ground.phase }, { on := 1, ground := Ground.phase }, { on := 2, ground := Ground.phase }, { on := 3, ground := Ground.phase }, { on := 4, ground := Ground.phase }, { on := 5, ground := Ground.phase }, { on := 6, ground := Ground.phase }, { on := 7, ground := Ground.phase }, { on := 8, ground := Ground.phase }, { on := 9, ground := Ground.phase }, { on := 10, ground := Ground.phase }, { on := 11, ground := Ground.phase }], guard := none }) (v := ?_) rfl (by kernel_rfl) (by kernel_rfl) (by kernel_rfl) (fun _ _ _ h => h) (Or.inl ⟨by rfl, ?_⟩) (by assumption) ?_
    rotate_left 1
    · (intro wq hSw; (try dsimp only at hSw); go_simp; try with_reducible rfl)
    try simp only [Act.put, List.setIfInBounds_toArray, List.set_cons_zero, List.set_cons_succ]
    refine wpAnyH_done (by kernel_rfl) ?_ _
    go_wp2
    go_ret
    exact Tells.no HN.out H6.out.2.2
  | true =>
    clear HN
    replace HY := HY rfl
    go_enter Try.func37, Try.ntmps37
    go_wp2_with fail
    rw [← hW]
    refine (sayof3 ao n cap c v h _).mono ?_
    rintro e w1 ⟨rfl, b1⟩
    have H5 : Hid (MB w1.drew w.heap.size 40 3 c v h ao n cap ∧ SL .i64 w1.drew ao n f ∧ Below w.heap.size w w1.drew) := ⟨M1.below (Below.drawn b1 1) M1.lt, HA.out.below (Below.drawn b1 1), HB0.out.trans ((Below.drawn b1 1).mono HB0.out.size)⟩
    clear hW M1 HA HB0 b1
    go_wp2_with fail
    obtain ⟨m0, m1, m2, m3, m4⟩ := (show MB w1 w.heap.size 40 3 c v h ao n cap from H5.out.1).cells
    refine wp_region_held_drew (S := (fun w' => w'.cell? ⟨w.heap.size, 0, none⟩ = some (.int .i64 3) ∧ w'.cell? ⟨w.heap.size, 1, none⟩ = some (.int .i64 c) ∧ w'.cell? ⟨w.heap.size, 2, none⟩ = some (.int .i64 v) ∧ w'.cell? ⟨w.heap.size, 3, none⟩ = some (.int .i64 h) ∧ w'.cell? ⟨w.heap.size, 4, none⟩ = some (.slice ao n cap))) (by kernel_rfl) ?_ (fun hHeld => ?_)
    · exact ⟨m0, m1, m2, m3, m4⟩
    refine wpAnyH_take (i := 0) (oi := { dst := some 6, op := Op.move (Operand.tmp 3), type := 101, pos := "l04_msg.go:60", after := #[], guard := none }) (v := ?_) rfl (by kernel_rfl) (by kernel_rfl) (by kernel_rfl) (fun _ _ _ h => h) (Or.inl ⟨by rfl, ?_⟩) (by assumption) ?_
    rotate_left 1
    · (intro wq hSw; (try dsimp only at hSw); go_simp; try with_reducible rfl)
    try simp only [Act.put, List.setIfInBounds_toArray, List.set_cons_zero, List.set_cons_succ]
    refine wpAnyH_take (i := 1) (oi := { dst := some 7, op := Op.binOp BinOp.neq 101 (Operand.tmp 6) (Operand.const Value.nilIface) 101, type := 4, pos := "l04_msg.go:60", after := #[{ on := 0, ground := Ground.data }], guard := none }) (v := ?_) rfl (by kernel_rfl) (by kernel_rfl) (by kernel_rfl) (fun _ _ _ h => h) (Or.inl ⟨by rfl, ?_⟩) (by assumption) ?_
    rotate_left 1
    · (intro wq hSw; (try dsimp only at hSw); go_simp; try with_reducible rfl)
    try simp only [Act.put, List.setIfInBounds_toArray, List.set_cons_zero, List.set_cons_succ]
    refine wpAnyH_take (i := 2) (oi := { dst := some 8, op := Op.move (Operand.tmp 7), type := 4, pos := "l04_msg.go:60", after := #[{ on := 1, ground := Ground.data }], guard := none }) (v := ?_) rfl (by kernel_rfl) (by kernel_rfl) (by kernel_rfl) (fun _ _ _ h => h) (Or.inl ⟨by rfl, ?_⟩) (by assumption) ?_
    rotate_left 1
    · (intro wq hSw; (try dsimp only at hSw); go_simp; try with_reducible rfl)
    try simp only [Act.put, List.setIfInBounds_toArray, List.set_cons_zero, List.set_cons_succ]
    refine wpAnyH_take (i := 3) (oi := { dst := some 9, op := Op.move (Operand.tmp 3), type := 101, pos := "l04_msg.go:60", after := #[{ on := 2, ground := Ground.guard }], guard := some (2, true) }) (v := ?_) rfl (by kernel_rfl) (by kernel_rfl) (by kernel_rfl) (fun _ _ _ h => h) (Or.inl ⟨by rfl, ?_⟩) (by assumption) ?_
    rotate_left 1
    · (intro wq hSw; (try dsimp only at hSw); go_simp; try with_reducible rfl)
    try simp only [Act.put, List.setIfInBounds_toArray, List.set_cons_zero, List.set_cons_succ]
    refine wpAnyH_ready (rs := [4]) (by kernel_rfl) (by simp) ?_
    refine AllReadyH.cons (o := { dst := some 10, op := Op.call { callee := Callee.invoke (Operand.tmp 9) "loop.example/g00399/impl.inBounds", args := #[], argTypes := #[] }, type := 4, pos := "l04_msg.go:60", after := #[{ on := 3, ground := Ground.data }, { on := 2, ground := Ground.chain }, { on := 2, ground := Ground.guard }], guard := some (2, true) }) rfl (fun K hK => ?_) AllReadyH.nil
    go_simp
    refine (hbnd.out _).mono ?_
    rintro e w6 ⟨rfl, b6⟩
    have H6 : Hid (MB w6 w.heap.size 40 3 c v h ao n cap ∧ SL .i64 w6 ao n f ∧ Below w.heap.size w w6) := ⟨H5.out.1.below b6 H5.out.1.lt, H5.out.2.1.below b6, H5.out.2.2.trans (b6.mono H5.out.2.2.size)⟩
    have hk6 := H6.out.1.cells
    clear b6
    go_wp2_with fail
    refine hK.out _ _ ?_ (fun hHeld => ?_)
    · exact hk6
    clear hK K
    try simp only [Act.put, List.setIfInBounds_toArray, List.set_cons_zero, List.set_cons_succ]
    refine wpAnyH_take (i := 5) (oi := { dst := some 11, op := Op.pick (Operand.tmp 8) (Operand.tmp 10) (Operand.const (Value.bool false)), type := 4, pos := "l04_msg.go:60", after := #[{ on := 2, ground := Ground.data }, { on := 4, ground := Ground.data }], guard := none }) (v := ?_) rfl (by kernel_rfl) (by kernel_rfl) (by kernel_rfl) (fun _ _ _ h => h) (Or.inl ⟨by rfl, ?_⟩) (by assumption) ?_
    rotate_left 1
    · (intro wq hSw; (try dsimp only at hSw); go_simp; try with_reducible rfl)
    try simp only [Act.put, List.setIfInBounds_toArray, List.set_cons_zero, List.set_cons_succ]
    refine wpAnyH_take (i := 6) (oi := { dst := some 12, op := Op.move (Operand.tmp 11), type := 4, pos := "l04_msg.go:60", after := #[{ on := 5, ground := Ground.data }, { on := 4, ground := Ground.chain }], guard := none }) (v := ?_) rfl (by kernel_rfl) (by kernel_rfl) (by kernel_rfl) (fun _ _ _ h => h) (Or.inl ⟨by rfl, ?_⟩) (by assumption) ?_
    rotate_left 1
    · (intro wq hSw; (try dsimp only at hSw); go_simp; try with_reducible rfl)
    try simp only [Act.put, List.setIfInBounds_toArray, List.set_cons_zero, List.set_cons_succ]
    refine wpAnyH_take (i := 7) (oi := { dst := some 13, op := Op.load 40 (Operand.tmp 1), type := 40, pos := "l04_msg.go:60", after := #[{ on := 6, ground := Ground.guard }], guard := some (6, true) }) (v := ?_) rfl (by kernel_rfl) (by kernel_rfl) (by kernel_rfl) (fun _ _ _ h => h) (Or.inl ⟨by rfl, ?_⟩) (by assumption) ?_
    rotate_left 1
    · (intro wq hSw; (try dsimp only at hSw); go_simp; try with_reducible rfl)
    try simp only [Act.put, List.setIfInBounds_toArray, List.set_cons_zero, List.set_cons_succ]
    refine wpAnyH_take (i := 8) (oi := { dst := some 14, op := Op.move (Operand.tmp 3), type := 101, pos := "l04_msg.go:60", after := #[{ on := 6, ground := Ground.guard }], guard := some (6, true) }) (v := ?_) rfl (by kernel_rfl) (by kernel_rfl) (by kernel_rfl) (fun _ _ _ h => h) (Or.inl ⟨by rfl, ?_⟩) (by assumption) ?_
    rotate_left 1
    · (intro wq hSw; (try dsimp only at hSw); go_simp; try with_reducible rfl)
    try simp only [Act.put, List.setIfInBounds_toArray, List.set_cons_zero, List.set_cons_succ]
    refine wpAnyH_ready (rs := [9]) (by kernel_rfl) (by simp) ?_
    refine AllReadyH.cons (o := { dst := some 15, op := Op.call { callee := Callee.value (Operand.func 98), args := #[Operand.tmp 14], argTypes := #[101] }, type := 40, pos := "l04_msg.go:60", after := #[{ on := 8, ground := Ground.data }, { on := 6, ground := Ground.chain }, { on := 6, ground := Ground.guard }], guard := some (6, true) }) rfl (fun K hK => ?_) AllReadyH.nil
    go_simp
    refine (saidby3 ao n cap c v h _).mono ?_
    rintro e w7 ⟨rfl, b7⟩
    have H7 : Hid (MB w7 w.heap.size 40 3 c v h ao n cap ∧ SL .i64 w7 ao n f ∧ Below w.heap.size w w7) := ⟨H6.out.1.below b7 H6.out.1.lt, H6.out.2.1.below b7, H6.out.2.2.trans (b7.mono H6.out.2.2.size)⟩
    have hk7 := H7.out.1.cells
    clear b7
    go_wp2_with fail
    refine hK.out _ _ ?_ (fun hHeld => ?_)
    · exact hk7
    clear hK K
    try simp only [Act.put, List.setIfInBounds_toArray, List.set_cons_zero, List.set_cons_succ]
    refine wpAnyH_ready (rs := [10]) (by kernel_rfl) (by simp) ?_
    refine AllReadyH.cons (o := { dst := some 16, op := Op.call { callee := Callee.value (Operand.func 97), args := #[Operand.tmp 13, Operand.tmp 15], argTypes := #[40, 40] }, type := 4, pos := "l04_msg.go:60", after := #[{ on := 7, ground := Ground.data }, { on := 9, ground := Ground.data }, { on := 9, ground := Ground.chain }, { on := 6, ground := Ground.guard }], guard := some (6, true) }) rfl (fun K hK => ?_) AllReadyH.nil
    go_simp
    refine (hsame.out _ H7.out.2.1).mono ?_
    rintro e w8 ⟨rfl, b8⟩
    have H8 : Hid (MB w8 w.heap.size 40 3 c v h ao n cap ∧ SL .i64 w8 ao n f ∧ Below w.heap.size w w8) := ⟨H7.out.1.below b8 H7.out.1.lt, H7.out.2.1.below b8, H7.out.2.2.trans (b8.mono H7.out.2.2.size)⟩
    have hk8 := H8.out.1.cells
    clear b8
    go_wp2_with fail
    refine hK.out _ _ ?_ (fun hHeld => ?_)
    · exact hk8
    clear hK K
    try simp only [Act.put, List.setIfInBounds_toArray, List.set_cons_zero, List.set_cons_succ]
    refine wpAnyH_take (i := 11) (oi := { dst := some 17, op := Op.pick (Operand.tmp 12) (Operand.tmp 16) (Operand.const (Value.bool false)), type := 4, pos := "l04_msg.go:60", after := #[{ on := 6, ground := Ground.data }, { on := 10, ground := Ground.data }], guard := none }) (v := ?_) rfl (by kernel_rfl) (by kernel_rfl) (by kernel_rfl) (fun _ _ _ h => h) (Or.inl ⟨by rfl, ?_⟩) (by assumption) ?_
    rotate_left 1
    · (intro wq hSw; (try dsimp only at hSw); go_simp; try with_reducible rfl)
    try simp only [Act.put, List.setIfInBounds_toArray, List.set_cons_zero, List.set_cons_succ]
    refine wpAnyH_take (i := 12) (oi := { dst := some 2, op := Op.assign (Operand.tmp 17), type := 4, pos := "l04_msg.go:60", after := #[{ on := 11, ground := Ground.data }, { on := 10, ground := Ground.chain }, { on := 0, ground := Ground.phase }, { on := 1, ground := Ground.phase }, { on := 2, ground := Ground.phase }, { on := 3, ground := Ground.phase }, { on := 4, ground := Ground.phase }, { on := 5, ground := Ground.phase }, { on := 6, ground := Ground.phase }, { on := 7, ground := Ground.phase }, { on := 8, ground := Ground.phase }, { on := 9, ground := Ground.phase }, { on := 10, ground := Ground.phase }, { on := 11, ground := Ground.phase }], guard := none }) (v := ?_) rfl (by kernel_rfl) (by kernel_rfl) (by kernel_rfl) (fun _ _ _ h => h) (Or.inl ⟨by rfl, ?_⟩) (by assumption) ?_
    rotate_left 1
    · (intro wq hSw; (try dsimp only at hSw); go_simp; try with_reducible rfl)
    try simp only [Act.put, List.setIfInBounds_toArray, List.set_cons_zero, List.set_cons_succ]
    refine wpAnyH_done (by kernel_rfl) ?_ _
    go_wp2
    go_ret
    cases b2 with
    | true => exact Tells.yes (HY.out.1 rfl) H8.out.2.2
    | false => exact Tells.no (fun x => absurd (HY.out.2 x) (by simp)) H8.out.2.2

set_option maxHeartbeats 1000000 in
set_option maxRecDepth 100000 in
theorem msgok4i (ao : Option Addr) (n cap : Nat) (f : Nat → Int) (c v h : Int) (w : World) (hn : n ≤ 1048576) (hcap : n ≤ cap) (hs : SL .i64 w ao n f) :
    Calls Try.prog 37 #[.agg #[.int .i64 4, .int .i64 c, .int .i64 v, .int .i64 h, .slice ao n cap]] w fun e w' => Tells w w' e (MOk 4 c v h f n) := by
  have HM : Hid (MOk 4 c v h f n ↔ ((0 ≤ c ∧ c ≤ 7) ∧ 0 ≤ v ∧ v ≤ 200) ∧ ((4 : Int) = 4 ∧ c = c ∧ v = v ∧ h = 0) ∧ SameI f f n 0) := by
    show _ ↔ _
    unfold MOk SameI
    constructor
    · rintro (x | x)
      all_goals first
        | exact absurd x.1 (by omega)
        | exact ⟨⟨by omega, x.2.1⟩, by omega, rfl, fun _ _ => rfl⟩
        | exact ⟨by have := x.2.2.2.1; split at this <;> omega, by omega, by omega, fun _ _ => rfl⟩
    · rintro ⟨x, y, z, _⟩
      first
        | exact .inl ⟨rfl, x.2, by omega, by omega, by omega⟩
        | exact .inr ⟨by omega, by omega, by omega, by split <;> omega, by omega⟩
  obtain ⟨W, hW⟩ : ∃ W, W = w.alloc (.cells #[.int .i64 4, .int .i64 c, .int .i64 v, .int .i64 h, .slice ao n cap] 40) := ⟨_, rfl⟩
  have M1 : MB W w.heap.size 40 4 c v h ao n cap := by rw [hW]; exact MB.new w _ _ c v h ao n cap
  have hb : Below w.heap.size w W := by rw [hW]; exact (Below.refl _ _).alloc (Nat.le_refl _) _
  have HA := hide (hs.below hb)
  have HB0 := hide hb
  clear hs hb
  have hbb := tellsB_of ((0 ≤ c ∧ c ≤ 7) ∧ 0 ≤ v ∧ v ≤ 200)
  have hbnd := hide (bnd_copy c v)
  generalize decide ((0 ≤ c ∧ c ≤ 7) ∧ 0 ≤ v ∧ v ≤ 200) = b at hbb hbnd
  obtain ⟨b2, hbb2⟩ := tellsB (((4 : Int) = 4 ∧ c = c ∧ v = v ∧ h = 0) ∧ SameI f f n 0)
  have hsame : Hid (∀ W, SL .i64 W ao n f → Calls Try.prog 97 #[.agg #[.int .i64 4, .int .i64 c, .int .i64 v, .int .i64 h, .slice ao n cap], .agg #[.int .i64 4, .int .i64 c, .int .i64 v, .int .i64 0, .slice none 0 0]] W fun e w' => e = .returned (.bool b2) ∧ Below W.heap.size W w') := fun W hW => samemsg_b ao none n 0 cap 0 f f 4 c v h 4 c v 0 W hn hW (fun i hi => absurd hi (Nat.not_lt_zero _)) b2 hbb2
  have HN : b = false → Hid (¬ MOk 4 c v h f n) := fun e x => by rw [e] at hbb; exact absurd (hbb.2 (HM.out.1 x).1) (by simp)
  have HY : b = true → Hid (b2 = true ↔ MOk 4 c v h f n) := fun e => (show _ ↔ _ from ⟨fun e2 => HM.out.2 ⟨hbb.1 e, hbb2.1 e2⟩, fun x => hbb2.2 (HM.out.1 x).2⟩)
  clear hbb hbb2 HM
  cases b with
  | false =>
    clear HY hsame
    replace HN := HN rfl
    go_enter Try.func37, Try.ntmps37
    go_wp2_with fail
    rw [← hW]
    refine (sayof4 ao n cap c v h _).mono ?_
    rintro e w1 ⟨rfl, b1⟩
    have H5 : Hid (MB w1.drew w.heap.size 40 4 c v h ao n cap ∧ SL .i64 w1.drew ao n f ∧ Below w.heap.size w w1.drew) := ⟨M1.below (Below.drawn b1 1) M1.lt, HA.out.below (Below.drawn b1 1), HB0.out.trans ((Below.drawn b1 1).mono HB0.out.size)⟩
    clear hW M1 HA HB0 b1
    go_wp2_with fail
    obtain ⟨m0, m1, m2, m3, m4⟩ := (show MB w1 w.heap.size 40 4 c v h ao n cap from H5.out.1).cells
    refine wp_region_held_drew (S := (fun w' => w'.cell? ⟨w.heap.size, 0, none⟩ = some (.int .i64 4) ∧ w'.cell? ⟨w.heap.size, 1, none⟩ = some (.int .i64 c) ∧ w'.cell? ⟨w.heap.size, 2, none⟩ = some (.int .i64 v) ∧ w'.cell? ⟨w.heap.size, 3, none⟩ = some (.int .i64 h) ∧ w'.cell? ⟨w.heap.size, 4, none⟩ = some (.slice ao n cap))) (by kernel_rfl) ?_ (fun hHeld => ?_)
    · exact ⟨m0, m1, m2, m3, m4⟩
    refine wpAnyH_take (i := 0) (oi := { dst := some 6, op := Op.move (Operand.tmp 3), type := 101, pos := "l04_msg.go:60", after := #[], guard := none }) (v := ?_) rfl (by kernel_rfl) (by kernel_rfl) (by kernel_rfl) (fun _ _ _ h => h) (Or.inl ⟨by rfl, ?_⟩) (by assumption) ?_
    rotate_left 1
    · (intro wq hSw; (try dsimp only at hSw); go_simp; try with_reducible rfl)
    try simp only [Act.put, List.setIfInBounds_toArray, List.set_cons_zero, List.set_cons_succ]
    refine wpAnyH_take (i := 1) (oi := { dst := some 7, op := Op.binOp BinOp.neq 101 (Operand.tmp 6) (Operand.const Value.nilIface) 101, type := 4, pos := "l04_msg.go:60", after := #[{ on := 0, ground := Ground.data }], guard := none }) (v := ?_) rfl (by kernel_rfl) (by kernel_rfl) (by kernel_rfl) (fun _ _ _ h => h) (Or.inl ⟨by rfl, ?_⟩) (by assumption) ?_
    rotate_left 1
    · (intro wq hSw; (try dsimp only at hSw); go_simp; try with_reducible rfl)
    try simp only [Act.put, List.setIfInBounds_toArray, List.set_cons_zero, List.set_cons_succ]
    refine wpAnyH_take (i := 2) (oi := { dst := some 8, op := Op.move (Operand.tmp 7), type := 4, pos := "l04_msg.go:60", after := #[{ on := 1, ground := Ground.data }], guard := none }) (v := ?_) rfl (by kernel_rfl) (by kernel_rfl) (by kernel_rfl) (fun _ _ _ h => h) (Or.inl ⟨by rfl, ?_⟩) (by assumption) ?_
    rotate_left 1
    · (intro wq hSw; (try dsimp only at hSw); go_simp; try with_reducible rfl)
    try simp only [Act.put, List.setIfInBounds_toArray, List.set_cons_zero, List.set_cons_succ]
    refine wpAnyH_take (i := 3) (oi := { dst := some 9, op := Op.move (Operand.tmp 3), type := 101, pos := "l04_msg.go:60", after := #[{ on := 2, ground := Ground.guard }], guard := some (2, true) }) (v := ?_) rfl (by kernel_rfl) (by kernel_rfl) (by kernel_rfl) (fun _ _ _ h => h) (Or.inl ⟨by rfl, ?_⟩) (by assumption) ?_
    rotate_left 1
    · (intro wq hSw; (try dsimp only at hSw); go_simp; try with_reducible rfl)
    try simp only [Act.put, List.setIfInBounds_toArray, List.set_cons_zero, List.set_cons_succ]
    refine wpAnyH_ready (rs := [4]) (by kernel_rfl) (by simp) ?_
    refine AllReadyH.cons (o := { dst := some 10, op := Op.call { callee := Callee.invoke (Operand.tmp 9) "loop.example/g00399/impl.inBounds", args := #[], argTypes := #[] }, type := 4, pos := "l04_msg.go:60", after := #[{ on := 3, ground := Ground.data }, { on := 2, ground := Ground.chain }, { on := 2, ground := Ground.guard }], guard := some (2, true) }) rfl (fun K hK => ?_) AllReadyH.nil
    go_simp
    refine (hbnd.out _).mono ?_
    rintro e w6 ⟨rfl, b6⟩
    have H6 : Hid (MB w6 w.heap.size 40 4 c v h ao n cap ∧ SL .i64 w6 ao n f ∧ Below w.heap.size w w6) := ⟨H5.out.1.below b6 H5.out.1.lt, H5.out.2.1.below b6, H5.out.2.2.trans (b6.mono H5.out.2.2.size)⟩
    have hk6 := H6.out.1.cells
    clear b6
    go_wp2_with fail
    refine hK.out _ _ ?_ (fun hHeld => ?_)
    · exact hk6
    clear hK K
    try simp only [Act.put, List.setIfInBounds_toArray, List.set_cons_zero, List.set_cons_succ]
    refine wpAnyH_take (i := 5) (oi := { dst := some 11, op := Op.pick (Operand.tmp 8) (Operand.tmp 10) (Operand.const (Value.bool false)), type := 4, pos := "l04_msg.go:60", after := #[{ on := 2, ground := Ground.data }, { on := 4, ground := Ground.data }], guard := none }) (v := ?_) rfl (by kernel_rfl) (by kernel_rfl) (by kernel_rfl) (fun _ _ _ h => h) (Or.inl ⟨by rfl, ?_⟩) (by assumption) ?_
    rotate_left 1
    · (intro wq hSw; (try dsimp only at hSw); go_simp; try with_reducible rfl)
    try simp only [Act.put, List.setIfInBounds_toArray, List.set_cons_zero, List.set_cons_succ]
    refine wpAnyH_take (i := 6) (oi := { dst := some 12, op := Op.move (Operand.tmp 11), type := 4, pos := "l04_msg.go:60", after := #[{ on := 5, ground := Ground.data }, { on := 4, ground := Ground.chain }], guard := none }) (v := ?_) rfl (by kernel_rfl) (by kernel_rfl) (by kernel_rfl) (fun _ _ _ h => h) (Or.inl ⟨by rfl, ?_⟩) (by assumption) ?_
    rotate_left 1
    · (intro wq hSw; (try dsimp only at hSw); go_simp; try with_reducible rfl)
    try simp only [Act.put, List.setIfInBounds_toArray, List.set_cons_zero, List.set_cons_succ]
    refine wpAnyH_take (i := 7) (oi := { dst := some 13, op := Op.load 40 (Operand.tmp 1), type := 40, pos := "l04_msg.go:60", after := #[{ on := 6, ground := Ground.guard }], guard := some (6, true) }) (v := undef) rfl (by kernel_rfl) (by kernel_rfl) (by kernel_rfl) (fun _ _ _ h => h) (Or.inr ⟨by rfl, rfl⟩) (by assumption) ?_
    try simp only [Act.put, List.setIfInBounds_toArray, List.set_cons_zero, List.set_cons_succ]
    refine wpAnyH_take (i := 8) (oi := { dst := some 14, op := Op.move (Operand.tmp 3), type := 101, pos := "l04_msg.go:60", after := #[{ on := 6, ground := Ground.guard }], guard := some (6, true) }) (v := undef) rfl (by kernel_rfl) (by kernel_rfl) (by kernel_rfl) (fun _ _ _ h => h) (Or.inr ⟨by rfl, rfl⟩) (by assumption) ?_
    try simp only [Act.put, List.setIfInBounds_toArray, List.set_cons_zero, List.set_cons_succ]
    refine wpAnyH_take (i := 9) (oi := { dst := some 15, op := Op.call { callee := Callee.value (Operand.func 98), args := #[Operand.tmp 14], argTypes := #[101] }, type := 40, pos := "l04_msg.go:60", after := #[{ on := 8, ground := Ground.data }, { on := 6, ground := Ground.chain }, { on := 6, ground := Ground.guard }], guard := some (6, true) }) (v := undef) rfl (by kernel_rfl) (by kernel_rfl) (by kernel_rfl) (fun _ _ _ h => h) (Or.inr ⟨by rfl, rfl⟩) (by assumption) ?_
    try simp only [Act.put, List.setIfInBounds_toArray, List.set_cons_zero, List.set_cons_succ]
    refine wpAnyH_take (i := 10) (oi := { dst := some 16, op := Op.call { callee := Callee.value (Operand.func 97), args := #[Operand.tmp 13, Operand.tmp 15], argTypes := #[40, 40] }, type := 4, pos := "l04_msg.go:60", after := #[{ on := 7, ground := Ground.data }, { on := 9, ground := Ground.data }, { on := 9, ground := Ground.chain }, { on := 6, ground := Ground.guard }], guard := some (6, true) }) (v := undef) rfl (by kernel_rfl) (by kernel_rfl) (by kernel_rfl) (fun _ _ _ h => h) (Or.inr ⟨by rfl, rfl⟩) (by assumption) ?_
    try simp only [Act.put, List.setIfInBounds_toArray, List.set_cons_zero, List.set_cons_succ]
    refine wpAnyH_take (i := 11) (oi := { dst := some 17, op := Op.pick (Operand.tmp 12) (Operand.tmp 16) (Operand.const (Value.bool false)), type := 4, pos := "l04_msg.go:60", after := #[{ on := 6, ground := Ground.data }, { on := 10, ground := Ground.data }], guard := none }) (v := ?_) rfl (by kernel_rfl) (by kernel_rfl) (by kernel_rfl) (fun _ _ _ h => h) (Or.inl ⟨by rfl, ?_⟩) (by assumption) ?_
    rotate_left 1
    · (intro wq hSw; (try dsimp only at hSw); go_simp; try with_reducible rfl)
    try simp only [Act.put, List.setIfInBounds_toArray, List.set_cons_zero, List.set_cons_succ]
    refine wpAnyH_take (i := 12) (oi := { dst := some 2, op := Op.assign (Operand.tmp 17), type := 4, pos := "l04_msg.go:60", after := #[{ on := 11, ground := Ground.data }, { on := 10, ground := Ground.chain }, { on := 0, ground := Ground.phase }, { on := 1, ground := Ground.phase }, { on := 2, ground := Ground.phase }, { on := 3, ground := Ground.phase }, { on := 4, ground := Ground.phase }, { on := 5, ground := Ground.phase }, { on := 6, ground := Ground.phase }, { on := 7, ground := Ground.phase }, { on := 8, ground := Ground.phase }, { on := 9, ground := Ground.phase }, { on := 10, ground := Ground.phase }, { on := 11, ground := Ground.phase }], guard := none }) (v := ?_) rfl (by kernel_rfl) (by kernel_rfl) (by kernel_rfl) (fun _ _ _ h => h) (Or.inl ⟨by rfl, ?_⟩) (by assumption) ?_
    rotate_left 1
    · (intro wq hSw; (try dsimp only at hSw); go_simp; try with_reducible rfl)
    try simp only [Act.put, List.setIfInBounds_toArray, List.set_cons_zero, List.set_cons_succ]
    refine wpAnyH_done (by kernel_rfl) ?_ _
    go_wp2
    go_ret
    exact Tells.no HN.out H6.out.2.2
  | true =>
    clear HN
    replace HY := HY rfl
    go_enter Try.func37, Try.ntmps37
    go_wp2_with fail
    rw [← hW]
    refine (sayof4 ao n cap c v h _).mono ?_
    rintro e w1 ⟨rfl, b1⟩
    have H5 : Hid (MB w1.drew w.heap.size 40 4 c v h ao n cap ∧ SL .i64 w1.drew ao n f ∧ Below w.heap.size w w1.drew) := ⟨M1.below (Below.drawn b1 1) M1.lt, HA.out.below (Below.drawn b1 1), HB0.out.trans ((Below.drawn b1 1).mono HB0.out.size)⟩
    clear hW M1 HA HB0 b1
    go_wp2_with fail
    obtain ⟨m0, m1, m2, m3, m4⟩ := (show MB w1 w.heap.size 40 4 c v h ao n cap from H5.out.1).cells
    refine wp_region_held_drew (S := (fun w' => w'.cell? ⟨w.heap.size, 0, none⟩ = some (.int .i64 4) ∧ w'.cell? ⟨w.heap.size, 1, none⟩ = some (.int .i64 c) ∧ w'.cell? ⟨w.heap.size, 2, none⟩ = some (.int .i64 v) ∧ w'.cell? ⟨w.heap.size, 3, none⟩ = some (.int .i64 h) ∧ w'.cell? ⟨w.heap.size, 4, none⟩ = some (.slice ao n cap))) (by kernel_rfl) ?_ (fun hHeld => ?_)
    · exact ⟨m0, m1, m2, m3, m4⟩
    refine wpAnyH_take (i := 0) (oi := { dst := some 6, op := Op.move (Operand.tmp 3), type := 101, pos := "l04_msg.go:60", after := #[], guard := none }) (v := ?_) rfl (by kernel_rfl) (by kernel_rfl) (by kernel_rfl) (fun _ _ _ h => h) (Or.inl ⟨by rfl, ?_⟩) (by assumption) ?_
    rotate_left 1
    · (intro wq hSw; (try dsimp only at hSw); go_simp; try with_reducible rfl)
    try simp only [Act.put, List.setIfInBounds_toArray, List.set_cons_zero, List.set_cons_succ]
    refine wpAnyH_take (i := 1) (oi := { dst := some 7, op := Op.binOp BinOp.neq 101 (Operand.tmp 6) (Operand.const Value.nilIface) 101, type := 4, pos := "l04_msg.go:60", after := #[{ on := 0, ground := Ground.data }], guard := none }) (v := ?_) rfl (by kernel_rfl) (by kernel_rfl) (by kernel_rfl) (fun _ _ _ h => h) (Or.inl ⟨by rfl, ?_⟩) (by assumption) ?_
    rotate_left 1
    · (intro wq hSw; (try dsimp only at hSw); go_simp; try with_reducible rfl)
    try simp only [Act.put, List.setIfInBounds_toArray, List.set_cons_zero, List.set_cons_succ]
    refine wpAnyH_take (i := 2) (oi := { dst := some 8, op := Op.move (Operand.tmp 7), type := 4, pos := "l04_msg.go:60", after := #[{ on := 1, ground := Ground.data }], guard := none }) (v := ?_) rfl (by kernel_rfl) (by kernel_rfl) (by kernel_rfl) (fun _ _ _ h => h) (Or.inl ⟨by rfl, ?_⟩) (by assumption) ?_
    rotate_left 1
    · (intro wq hSw; (try dsimp only at hSw); go_simp; try with_reducible rfl)
    try simp only [Act.put, List.setIfInBounds_toArray, List.set_cons_zero, List.set_cons_succ]
    refine wpAnyH_take (i := 3) (oi := { dst := some 9, op := Op.move (Operand.tmp 3), type := 101, pos := "l04_msg.go:60", after := #[{ on := 2, ground := Ground.guard }], guard := some (2, true) }) (v := ?_) rfl (by kernel_rfl) (by kernel_rfl) (by kernel_rfl) (fun _ _ _ h => h) (Or.inl ⟨by rfl, ?_⟩) (by assumption) ?_
    rotate_left 1
    · (intro wq hSw; (try dsimp only at hSw); go_simp; try with_reducible rfl)
    try simp only [Act.put, List.setIfInBounds_toArray, List.set_cons_zero, List.set_cons_succ]
    refine wpAnyH_ready (rs := [4]) (by kernel_rfl) (by simp) ?_
    refine AllReadyH.cons (o := { dst := some 10, op := Op.call { callee := Callee.invoke (Operand.tmp 9) "loop.example/g00399/impl.inBounds", args := #[], argTypes := #[] }, type := 4, pos := "l04_msg.go:60", after := #[{ on := 3, ground := Ground.data }, { on := 2, ground := Ground.chain }, { on := 2, ground := Ground.guard }], guard := some (2, true) }) rfl (fun K hK => ?_) AllReadyH.nil
    go_simp
    refine (hbnd.out _).mono ?_
    rintro e w6 ⟨rfl, b6⟩
    have H6 : Hid (MB w6 w.heap.size 40 4 c v h ao n cap ∧ SL .i64 w6 ao n f ∧ Below w.heap.size w w6) := ⟨H5.out.1.below b6 H5.out.1.lt, H5.out.2.1.below b6, H5.out.2.2.trans (b6.mono H5.out.2.2.size)⟩
    have hk6 := H6.out.1.cells
    clear b6
    go_wp2_with fail
    refine hK.out _ _ ?_ (fun hHeld => ?_)
    · exact hk6
    clear hK K
    try simp only [Act.put, List.setIfInBounds_toArray, List.set_cons_zero, List.set_cons_succ]
    refine wpAnyH_take (i := 5) (oi := { dst := some 11, op := Op.pick (Operand.tmp 8) (Operand.tmp 10) (Operand.const (Value.bool false)), type := 4, pos := "l04_msg.go:60", after := #[{ on := 2, ground := Ground.data }, { on := 4, ground := Ground.data }], guard := none }) (v := ?_) rfl (by kernel_rfl) (by kernel_rfl) (by kernel_rfl) (fun _ _ _ h => h) (Or.inl ⟨by rfl, ?_⟩) (by assumption) ?_
    rotate_left 1
    · (intro wq hSw; (try dsimp only at hSw); go_simp; try with_reducible rfl)
    try simp only [Act.put, List.setIfInBounds_toArray, List.set_cons_zero, List.set_cons_succ]
    refine wpAnyH_take (i := 6) (oi := { dst := some 12, op := Op.move (Operand.tmp 11), type := 4, pos := "l04_msg.go:60", after := #[{ on := 5, ground := Ground.data }, { on := 4, ground := Ground.chain }], guard := none }) (v := ?_) rfl (by kernel_rfl) (by kernel_rfl) (by kernel_rfl) (fun _ _ _ h => h) (Or.inl ⟨by rfl, ?_⟩) (by assumption) ?_
    rotate_left 1
    · (intro wq hSw; (try dsimp only at hSw); go_simp; try with_reducible rfl)
    try simp only [Act.put, List.setIfInBounds_toArray, List.set_cons_zero, List.set_cons_succ]
    refine wpAnyH_take (i := 7) (oi := { dst := some 13, op := Op.load 40 (Operand.tmp 1), type := 40, pos := "l04_msg.go:60", after := #[{ on := 6, ground := Ground.guard }], guard := some (6, true) }) (v := ?_) rfl (by kernel_rfl) (by kernel_rfl) (by kernel_rfl) (fun _ _ _ h => h) (Or.inl ⟨by rfl, ?_⟩) (by assumption) ?_
    rotate_left 1
    · (intro wq hSw; (try dsimp only at hSw); go_simp; try with_reducible rfl)
    try simp only [Act.put, List.setIfInBounds_toArray, List.set_cons_zero, List.set_cons_succ]
    refine wpAnyH_take (i := 8) (oi := { dst := some 14, op := Op.move (Operand.tmp 3), type := 101, pos := "l04_msg.go:60", after := #[{ on := 6, ground := Ground.guard }], guard := some (6, true) }) (v := ?_) rfl (by kernel_rfl) (by kernel_rfl) (by kernel_rfl) (fun _ _ _ h => h) (Or.inl ⟨by rfl, ?_⟩) (by assumption) ?_
    rotate_left 1
    · (intro wq hSw; (try dsimp only at hSw); go_simp; try with_reducible rfl)
    try simp only [Act.put, List.setIfInBounds_toArray, List.set_cons_zero, List.set_cons_succ]
    refine wpAnyH_ready (rs := [9]) (by kernel_rfl) (by simp) ?_
    refine AllReadyH.cons (o := { dst := some 15, op := Op.call { callee := Callee.value (Operand.func 98), args := #[Operand.tmp 14], argTypes := #[101] }, type := 40, pos := "l04_msg.go:60", after := #[{ on := 8, ground := Ground.data }, { on := 6, ground := Ground.chain }, { on := 6, ground := Ground.guard }], guard := some (6, true) }) rfl (fun K hK => ?_) AllReadyH.nil
    go_simp
    refine (saidby4 ao n cap c v h _).mono ?_
    rintro e w7 ⟨rfl, b7⟩
    have H7 : Hid (MB w7 w.heap.size 40 4 c v h ao n cap ∧ SL .i64 w7 ao n f ∧ Below w.heap.size w w7) := ⟨H6.out.1.below b7 H6.out.1.lt, H6.out.2.1.below b7, H6.out.2.2.trans (b7.mono H6.out.2.2.size)⟩
    have hk7 := H7.out.1.cells
    clear b7
    go_wp2_with fail
    refine hK.out _ _ ?_ (fun hHeld => ?_)
    · exact hk7
    clear hK K
    try simp only [Act.put, List.setIfInBounds_toArray, List.set_cons_zero, List.set_cons_succ]
    refine wpAnyH_ready (rs := [10]) (by kernel_rfl) (by simp) ?_
    refine AllReadyH.cons (o := { dst := some 16, op := Op.call { callee := Callee.value (Operand.func 97), args := #[Operand.tmp 13, Operand.tmp 15], argTypes := #[40, 40] }, type := 4, pos := "l04_msg.go:60", after := #[{ on := 7, ground := Ground.data }, { on := 9, ground := Ground.data }, { on := 9, ground := Ground.chain }, { on := 6, ground := Ground.guard }], guard := some (6, true) }) rfl (fun K hK => ?_) AllReadyH.nil
    go_simp
    refine (hsame.out _ H7.out.2.1).mono ?_
    rintro e w8 ⟨rfl, b8⟩
    have H8 : Hid (MB w8 w.heap.size 40 4 c v h ao n cap ∧ SL .i64 w8 ao n f ∧ Below w.heap.size w w8) := ⟨H7.out.1.below b8 H7.out.1.lt, H7.out.2.1.below b8, H7.out.2.2.trans (b8.mono H7.out.2.2.size)⟩
    have hk8 := H8.out.1.cells
    clear b8
    go_wp2_with fail
    refine hK.out _ _ ?_ (fun hHeld => ?_)
    · exact hk8
    clear hK K
    try simp only [Act.put, List.setIfInBounds_toArray, List.set_cons_zero, List.set_cons_succ]
    refine wpAnyH_take (i := 11) (oi := { dst := some 17, op := Op.pick (Operand.tmp 12) (Operand.tmp 16) (Operand.const (Value.bool false)), type := 4, pos := "l04_msg.go:60", after := #[{ on := 6, ground := Ground.data }, { on := 10, ground := Ground.data }], guard := none }) (v := ?_) rfl (by kernel_rfl) (by kernel_rfl) (by kernel_rfl) (fun _ _ _ h => h) (Or.inl ⟨by rfl, ?_⟩) (by assumption) ?_
    rotate_left 1
    · (intro wq hSw; (try dsimp only at hSw); go_simp; try with_reducible rfl)
    try simp only [Act.put, List.setIfInBounds_toArray, List.set_cons_zero, List.set_cons_succ]
    refine wpAnyH_take (i := 12) (oi := { dst := some 2, op := Op.assign (Operand.tmp 17), type := 4, pos := "l04_msg.go:60", after := #[{ on := 11, ground := Ground.data }, { on := 10, ground := Ground.chain }, { on := 0, ground := Ground.phase }, { on := 1, ground := Ground.phase }, { on := 2, ground := Ground.phase }, { on := 3, ground := Ground.phase }, { on := 4, ground := Ground.phase }, { on := 5, ground := Ground.phase }, { on := 6, ground := Ground.phase }, { on := 7, ground := Ground.phase }, { on := 8, ground := Ground.phase }, { on := 9, ground := Ground.phase }, { on := 10, ground := Ground.phase }, { on := 11, ground := Ground.phase }], guard := none }) (v := ?_) rfl (by kernel_rfl) (by kernel_rfl) (by kernel_rfl) (fun _ _ _ h => h) (Or.inl ⟨by rfl, ?_⟩) (by assumption) ?_
    rotate_left 1
    · (intro wq hSw; (try dsimp only at hSw); go_simp; try with_reducible rfl)
    try simp only [Act.put, List.setIfInBounds_toArray, List.set_cons_zero, List.set_cons_succ]
    refine wpAnyH_done (by kernel_rfl) ?_ _
    go_wp2
    go_ret
    cases b2 with
    | true => exact Tells.yes (HY.out.1 rfl) H8.out.2.2
    | false => exact Tells.no (fun x => absurd (HY.out.2 x) (by simp)) H8.out.2.2

set_option maxHeartbeats 1000000 in
set_option maxRecDepth 100000 in
theorem msgok5i (ao : Option Addr) (n cap : Nat) (f : Nat → Int) (c v h : Int) (w : World) (hn : n ≤ 1048576) (hcap : n ≤ cap) (hs : SL .i64 w ao n f) :
    Calls Try.prog 37 #[.agg #[.int .i64 5, .int .i64 c, .int .i64 v, .int .i64 h, .slice ao n cap]] w fun e w' => Tells w w' e (MOk 5 c v h f n) := by
  have HM : Hid (MOk 5 c v h f n ↔ ((0 ≤ v ∧ v ≤ 200) ∧ GOk f n) ∧ ((5 : Int) = 5 ∧ c = 0 ∧ v = v ∧ h = 0) ∧ SameI f f n n) := by
    show _ ↔ _
    unfold MOk SameI
    constructor
    · rintro (x | x)
      all_goals first
        | exact absurd x.1 (by omega)
        | exact ⟨⟨by omega, x.2.1⟩, by omega, rfl, fun _ _ => rfl⟩
        | exact ⟨by have := x.2.2.2.1; split at this <;> omega, by omega, by omega, fun _ _ => rfl⟩
    · rintro ⟨x, y, z, _⟩
      first
        | exact .inl ⟨rfl, x.2, by omega, by omega, by omega⟩
        | exact .inr ⟨by omega, by omega, by omega, by split <;> omega, by omega⟩
  obtain ⟨W, hW⟩ : ∃ W, W = w.alloc (.cells #[.int .i64 5, .int .i64 c, .int .i64 v, .int .i64 h, .slice ao n cap] 40) := ⟨_, rfl⟩
  have M1 : MB W w.heap.size 40 5 c v h ao n cap := by rw [hW]; exact MB.new w _ _ c v h ao n cap
  have hb : Below w.heap.size w W := by rw [hW]; exact (Below.refl _ _).alloc (Nat.le_refl _) _
  have HA := hide (hs.below hb)
  have HB0 := hide hb
  clear hs hb
  obtain ⟨b, hbb⟩ := tellsB ((0 ≤ v ∧ v ≤ 200) ∧ GOk f n)
  have hbnd : Hid (∀ W, SL .i64 W ao n f → Calls Try.prog 170 #[.agg #[.int .i64 v, .slice ao n cap]] W fun e w' => e = .returned (.bool b) ∧ Below W.heap.size W w') := fun W hW => bnd_done ao n cap f v W hn hcap hW b hbb
  obtain ⟨b2, hbb2⟩ := tellsB (((5 : Int) = 5 ∧ c = 0 ∧ v = v ∧ h = 0) ∧ SameI f f n n)
  have hsame : Hid (∀ W, SL .i64 W ao n f → Calls Try.prog 97 #[.agg #[.int .i64 5, .int .i64 c, .int .i64 v, .int .i64 h, .slice ao n cap], .agg #[.int .i64 5, .int .i64 0, .int .i64 v, .int .i64 0, .slice ao n cap]] W fun e w' => e = .returned (.bool b2) ∧ Below W.heap.size W w') := fun W hW => samemsg_b ao ao n n cap cap f f 5 c v h 5 0 v 0 W hn hW hW b2 hbb2
  have HN : b = false → Hid (¬ MOk 5 c v h f n) := fun e x => by rw [e] at hbb; exact absurd (hbb.2 (HM.out.1 x).1) (by simp)
  have HY : b = true → Hid (b2 = true ↔ MOk 5 c v h f n) := fun e => (show _ ↔ _ from ⟨fun e2 => HM.out.2 ⟨hbb.1 e, hbb2.1 e2⟩, fun x => hbb2.2 (HM.out.1 x).2⟩)
  clear hbb hbb2 HM
  cases b with
  | false =>
    clear HY hsame
    replace HN := HN rfl
    go_enter Try.func37, Try.ntmps37
    go_wp2_with fail
    rw [← hW]
    refine (sayof5 ao n cap c v h _).mono ?_
    rintro e w1 ⟨rfl, b1⟩
    have H5 : Hid (MB w1.drew w.heap.size 40 5 c v h ao n cap ∧ SL .i64 w1.drew ao n f ∧ Below w.heap.size w w1.drew) := ⟨M1.below (Below.drawn b1 1) M1.lt, HA.out.below (Below.drawn b1 1), HB0.out.trans ((Below.drawn b1 1).mono HB0.out.size)⟩
    clear hW M1 HA HB0 b1
    go_wp2_with fail
    obtain ⟨m0, m1, m2, m3, m4⟩ := (show MB w1 w.heap.size 40 5 c v h ao n cap from H5.out.1).cells
    refine wp_region_held_drew (S := (fun w' => w'.cell? ⟨w.heap.size, 0, none⟩ = some (.int .i64 5) ∧ w'.cell? ⟨w.heap.size, 1, none⟩ = some (.int .i64 c) ∧ w'.cell? ⟨w.heap.size, 2, none⟩ = some (.int .i64 v) ∧ w'.cell? ⟨w.heap.size, 3, none⟩ = some (.int .i64 h) ∧ w'.cell? ⟨w.heap.size, 4, none⟩ = some (.slice ao n cap))) (by kernel_rfl) ?_ (fun hHeld => ?_)
    · exact ⟨m0, m1, m2, m3, m4⟩
    refine wpAnyH_take (i := 0) (oi := { dst := some 6, op := Op.move (Operand.tmp 3), type := 101, pos := "l04_msg.go:60", after := #[], guard := none }) (v := ?_) rfl (by kernel_rfl) (by kernel_rfl) (by kernel_rfl) (fun _ _ _ h => h) (Or.inl ⟨by rfl, ?_⟩) (by assumption) ?_
    rotate_left 1
    · (intro wq hSw; (try dsimp only at hSw); go_simp; try with_reducible rfl)
    try simp only [Act.put, List.setIfInBounds_toArray, List.set_cons_zero, List.set_cons_succ]
    refine wpAnyH_take (i := 1) (oi := { dst := some 7, op := Op.binOp BinOp.neq 101 (Operand.tmp 6) (Operand.const Value.nilIface) 101, type := 4, pos := "l04_msg.go:60", after := #[{ on := 0, ground := Ground.data }], guard := none }) (v := ?_) rfl (by kernel_rfl) (by kernel_rfl) (by kernel_rfl) (fun _ _ _ h => h) (Or.inl ⟨by rfl, ?_⟩) (by assumption) ?_
    rotate_left 1
    · (intro wq hSw; (try dsimp only at hSw); go_simp; try with_reducible rfl)
    try simp only [Act.put, List.setIfInBounds_toArray, List.set_cons_zero, List.set_cons_succ]
    refine wpAnyH_take (i := 2) (oi := { dst := some 8, op := Op.move (Operand.tmp 7), type := 4, pos := "l04_msg.go:60", after := #[{ on := 1, ground := Ground.data }], guard := none }) (v := ?_) rfl (by kernel_rfl) (by kernel_rfl) (by kernel_rfl) (fun _ _ _ h => h) (Or.inl ⟨by rfl, ?_⟩) (by assumption) ?_
    rotate_left 1
    · (intro wq hSw; (try dsimp only at hSw); go_simp; try with_reducible rfl)
    try simp only [Act.put, List.setIfInBounds_toArray, List.set_cons_zero, List.set_cons_succ]
    refine wpAnyH_take (i := 3) (oi := { dst := some 9, op := Op.move (Operand.tmp 3), type := 101, pos := "l04_msg.go:60", after := #[{ on := 2, ground := Ground.guard }], guard := some (2, true) }) (v := ?_) rfl (by kernel_rfl) (by kernel_rfl) (by kernel_rfl) (fun _ _ _ h => h) (Or.inl ⟨by rfl, ?_⟩) (by assumption) ?_
    rotate_left 1
    · (intro wq hSw; (try dsimp only at hSw); go_simp; try with_reducible rfl)
    try simp only [Act.put, List.setIfInBounds_toArray, List.set_cons_zero, List.set_cons_succ]
    refine wpAnyH_ready (rs := [4]) (by kernel_rfl) (by simp) ?_
    refine AllReadyH.cons (o := { dst := some 10, op := Op.call { callee := Callee.invoke (Operand.tmp 9) "loop.example/g00399/impl.inBounds", args := #[], argTypes := #[] }, type := 4, pos := "l04_msg.go:60", after := #[{ on := 3, ground := Ground.data }, { on := 2, ground := Ground.chain }, { on := 2, ground := Ground.guard }], guard := some (2, true) }) rfl (fun K hK => ?_) AllReadyH.nil
    go_simp
    refine (hbnd.out _ H5.out.2.1).mono ?_
    rintro e w6 ⟨rfl, b6⟩
    have H6 : Hid (MB w6 w.heap.size 40 5 c v h ao n cap ∧ SL .i64 w6 ao n f ∧ Below w.heap.size w w6) := ⟨H5.out.1.below b6 H5.out.1.lt, H5.out.2.1.below b6, H5.out.2.2.trans (b6.mono H5.out.2.2.size)⟩
    have hk6 := H6.out.1.cells
    clear b6
    go_wp2_with fail
    refine hK.out _ _ ?_ (fun hHeld => ?_)
    · exact hk6
    clear hK K
    try simp only [Act.put, List.setIfInBounds_toArray, List.set_cons_zero, List.set_cons_succ]
    refine wpAnyH_take (i := 5) (oi := { dst := some 11, op := Op.pick (Operand.tmp 8) (Operand.tmp 10) (Operand.const (Value.bool false)), type := 4, pos := "l04_msg.go:60", after := #[{ on := 2, ground := Ground.data }, { on := 4, ground := Ground.data }], guard := none }) (v := ?_) rfl (by kernel_rfl) (by kernel_rfl) (by kernel_rfl) (fun _ _ _ h => h) (Or.inl ⟨by rfl, ?_⟩) (by assumption) ?_
    rotate_left 1
    · (intro wq hSw; (try dsimp only at hSw); go_simp; try with_reducible rfl)
    try simp only [Act.put, List.setIfInBounds_toArray, List.set_cons_zero, List.set_cons_succ]
    refine wpAnyH_take (i := 6) (oi := { dst := some 12, op := Op.move (Operand.tmp 11), type := 4, pos := "l04_msg.go:60", after := #[{ on := 5, ground := Ground.data }, { on := 4, ground := Ground.chain }], guard := none }) (v := ?_) rfl (by kernel_rfl) (by kernel_rfl) (by kernel_rfl) (fun _ _ _ h => h) (Or.inl ⟨by rfl, ?_⟩) (by assumption) ?_
    rotate_left 1
    · (intro wq hSw; (try dsimp only at hSw); go_simp; try with_reducible rfl)
    try simp only [Act.put, List.setIfInBounds_toArray, List.set_cons_zero, List.set_cons_succ]
    refine wpAnyH_take (i := 7) (oi := { dst := some 13, op := Op.load 40 (Operand.tmp 1), type := 40, pos := "l04_msg.go:60", after := #[{ on := 6, ground := Ground.guard }], guard := some (6, true) }) (v := undef) rfl (by kernel_rfl) (by kernel_rfl) (by kernel_rfl) (fun _ _ _ h => h) (Or.inr ⟨by rfl, rfl⟩) (by assumption) ?_
    try simp only [Act.put, List.setIfInBounds_toArray, List.set_cons_zero, List.set_cons_succ]
    refine wpAnyH_take (i := 8) (oi := { dst := some 14, op := Op.move (Operand.tmp 3), type := 101, pos := "l04_msg.go:60", after := #[{ on := 6, ground := Ground.guard }], guard := some (6, true) }) (v := undef) rfl (by kernel_rfl) (by kernel_rfl) (by kernel_rfl) (fun _ _ _ h => h) (Or.inr ⟨by rfl, rfl⟩) (by assumption) ?_
    try simp only [Act.put, List.setIfInBounds_toArray, List.set_cons_zero, List.set_cons_succ]
    refine wpAnyH_take (i := 9) (oi := { dst := some 15, op := Op.call { callee := Callee.value (Operand.func 98), args := #[Operand.tmp 14], argTypes := #[101] }, type := 40, pos := "l04_msg.go:60", after := #[{ on := 8, ground := Ground.data }, { on := 6, ground := Ground.chain }, { on := 6, ground := Ground.guard }], guard := some (6, true) }) (v := undef) rfl (by kernel_rfl) (by kernel_rfl) (by kernel_rfl) (fun _ _ _ h => h) (Or.inr ⟨by rfl, rfl⟩) (by assumption) ?_
    try simp only [Act.put, List.setIfInBounds_toArray, List.set_cons_zero, List.set_cons_succ]
    refine wpAnyH_take (i := 10) (oi := { dst := some 16, op := Op.call { callee := Callee.value (Operand.func 97), args := #[Operand.tmp 13, Operand.tmp 15], argTypes := #[40, 40] }, type := 4, pos := "l04_msg.go:60", after := #[{ on := 7, ground := Ground.data }, { on := 9, ground := Ground.data }, { on := 9, ground := Ground.chain }, { on := 6, ground := Ground.guard }], guard := some (6, true) }) (v := undef) rfl (by kernel_rfl) (by kernel_rfl) (by kernel_rfl) (fun _ _ _ h => h) (Or.inr ⟨by rfl, rfl⟩) (by assumption) ?_
    try simp only [Act.put, List.setIfInBounds_toArray, List.set_cons_zero, List.set_cons_succ]
    refine wpAnyH_take (i := 11) (oi := { dst := some 17, op := Op.pick (Operand.tmp 12) (Operand.tmp 16) (Operand.const (Value.bool false)), type := 4, pos := "l04_msg.go:60", after := #[{ on := 6, ground := Ground.data }, { on := 10, ground := Ground.data }], guard := none }) (v := ?_) rfl (by kernel_rfl) (by kernel_rfl) (by kernel_rfl) (fun _ _ _ h => h) (Or.inl ⟨by rfl, ?_⟩) (by assumption) ?_
    rotate_left 1
    · (intro wq hSw; (try dsimp only at hSw); go_simp; try with_reducible rfl)
    try simp only [Act.put, List.setIfInBounds_toArray, List.set_cons_zero, List.set_cons_succ]
    refine wpAnyH_take (i := 12) (oi := { dst := some 2, op := Op.assign (Operand.tmp 17), type := 4, pos := "l04_msg.go:60", after := #[{ on := 11, ground := Ground.data }, { on := 10, ground := Ground.chain }, { on := 0, ground := Ground.phase }, { on := 1, ground := Ground.phase }, { on := 2, ground := Ground.phase }, { on := 3, ground := Ground.phase }, { on := 4, ground := Ground.phase }, { on := 5, ground := Ground.phase }, { on := 6, ground := Ground.phase }, { on := 7, ground := Ground.phase }, { on := 8, ground := Ground.phase }, { on := 9, ground := Ground.phase }, { on := 10, ground := Ground.phase }, { on := 11, ground := Ground.phase }], guard := none }) (v := ?_) rfl (by kernel_rfl) (by kernel_rfl) (by kernel_rfl) (fun _ _ _ h => h) (Or.inl ⟨by rfl, ?_⟩) (by assumption) ?_
    rotate_left 1
    · (intro wq hSw; (try dsimp only at hSw); go_simp; try with_reducible rfl)
    try simp only [Act.put, List.setIfInBounds_toArray, List.set_cons_zero, List.set_cons_succ]
    refine wpAnyH_done (by kernel_rfl) ?_ _
    go_wp2
    go_ret
    exact Tells.no HN.out H6.out.2.2
  | true =>
    clear HN
    replace HY := HY rfl
    go_enter Try.func37, Try.ntmps37
    go_wp2_with fail
    rw [← hW]
    refine (sayof5 ao n cap c v h _).mono ?_
    rintro e w1 ⟨rfl, b1⟩
    have H5 : Hid (MB w1.drew w.heap.size 40 5 c v h ao n cap ∧ SL .i64 w1.drew ao n f ∧ Below w.heap.size w w1.drew) := ⟨M1.below (Below.drawn b1 1) M1.lt, HA.out.below (Below.drawn b1 1), HB0.out.trans ((Below.drawn b1 1).mono HB0.out.size)⟩
    clear hW M1 HA HB0 b1
    go_wp2_with fail
    obtain ⟨m0, m1, m2, m3, m4⟩ := (show MB w1 w.heap.size 40 5 c v h ao n cap from H5.out.1).cells
    refine wp_region_held_drew (S := (fun w' => w'.cell? ⟨w.heap.size, 0, none⟩ = some (.int .i64 5) ∧ w'.cell? ⟨w.heap.size, 1, none⟩ = some (.int .i64 c) ∧ w'.cell? ⟨w.heap.size, 2, none⟩ = some (.int .i64 v) ∧ w'.cell? ⟨w.heap.size, 3, none⟩ = some (.int .i64 h) ∧ w'.cell? ⟨w.heap.size, 4, none⟩ = some (.slice ao n cap))) (by kernel_rfl) ?_ (fun hHeld => ?_)
    · exact ⟨m0, m1, m2, m3, m4⟩
    refine wpAnyH_take (i := 0) (oi := { dst := some 6, op := Op.move (Operand.tmp 3), type := 101, pos := "l04_msg.go:60", after := #[], guard := none }) (v := ?_) rfl (by kernel_rfl) (by kernel_rfl) (by kernel_rfl) (fun _ _ _ h => h) (Or.inl ⟨by rfl, ?_⟩) (by assumption) ?_
    rotate_left 1
    · (intro wq hSw; (try dsimp only at hSw); go_simp; try with_reducible rfl)
    try simp only [Act.put, List.setIfInBounds_toArray, List.set_cons_zero, List.set_cons_succ]
    refine wpAnyH_take (i := 1) (oi := { dst := some 7, op := Op.binOp BinOp.neq 101 (Operand.tmp 6) (Operand.const Value.nilIface) 101, type := 4, pos := "l04_msg.go:60", after := #[{ on := 0, ground := Ground.data }], guard := none }) (v := ?_) rfl (by kernel_rfl) (by kernel_rfl) (by kernel_rfl) (fun _ _ _ h => h) (Or.inl ⟨by rfl, ?_⟩) (by assumption) ?_
    rotate_left 1
    · (intro wq hSw; (try dsimp only at hSw); go_simp; try with_reducible rfl)
    try simp only [Act.put, List.setIfInBounds_toArray, List.set_cons_zero, List.set_cons_succ]
    refine wpAnyH_take (i := 2) (oi := { dst := some 8, op := Op.move (Operand.tmp 7), type := 4, pos := "l04_msg.go:60", after := #[{ on := 1, ground := Ground.data }], guard := none }) (v := ?_) rfl (by kernel_rfl) (by kernel_rfl) (by kernel_rfl) (fun _ _ _ h => h) (Or.inl ⟨by rfl, ?_⟩) (by assumption) ?_
    rotate_left 1
    · (intro wq hSw; (try dsimp only at hSw); go_simp; try with_reducible rfl)
    try simp only [Act.put, List.setIfInBounds_toArray, List.set_cons_zero, List.set_cons_succ]
    refine wpAnyH_take (i := 3) (oi := { dst := some 9, op := Op.move (Operand.tmp 3), type := 101, pos := "l04_msg.go:60", after := #[{ on := 2, ground := Ground.guard }], guard := some (2, true) }) (v := ?_) rfl (by kernel_rfl) (by kernel_rfl) (by kernel_rfl) (fun _ _ _ h => h) (Or.inl ⟨by rfl, ?_⟩) (by assumption) ?_
    rotate_left 1
    · (intro wq hSw; (try dsimp only at hSw); go_simp; try with_reducible rfl)
    try simp only [Act.put, List.setIfInBounds_toArray, List.set_cons_zero, List.set_cons_succ]
    refine wpAnyH_ready (rs := [4]) (by kernel_rfl) (by simp) ?_
    refine AllReadyH.cons (o := { dst := some 10, op := Op.call { callee := Callee.invoke (Operand.tmp 9) "loop.example/g00399/impl.inBounds", args := #[], argTypes := #[] }, type := 4, pos := "l04_msg.go:60", after := #[{ on := 3, ground := Ground.data }, { on := 2, ground := Ground.chain }, { on := 2, ground := Ground.guard }], guard := some (2, true) }) rfl (fun K hK => ?_) AllReadyH.nil
    go_simp
    refine (hbnd.out _ H5.out.2.1).mono ?_
    rintro e w6 ⟨rfl, b6⟩
    have H6 : Hid (MB w6 w.heap.size 40 5 c v h ao n cap ∧ SL .i64 w6 ao n f ∧ Below w.heap.size w w6) := ⟨H5.out.1.below b6 H5.out.1.lt, H5.out.2.1.below b6, H5.out.2.2.trans (b6.mono H5.out.2.2.size)⟩
    have hk6 := H6.out.1.cells
    clear b6
    go_wp2_with fail
    refine hK.out _ _ ?_ (fun hHeld => ?_)
    · exact hk6
    clear hK K
    try simp only [Act.put, List.setIfInBounds_toArray, List.set_cons_zero, List.set_cons_succ]
    refine wpAnyH_take (i := 5) (oi := { dst := some 11, op := Op.pick (Operand.tmp 8) (Operand.tmp 10) (Operand.const (Value.bool false)), type := 4, pos := "l04_msg.go:60", after := #[{ on := 2, ground := Ground.data }, { on := 4, ground := Ground.data }], guard := none }) (v := ?_) rfl (by kernel_rfl) (by kernel_rfl) (by kernel_rfl) (fun _ _ _ h => h) (Or.inl ⟨by rfl, ?_⟩) (by assumption) ?_
    rotate_left 1
    · (intro wq hSw; (try dsimp only at hSw); go_simp; try with_reducible rfl)
    try simp only [Act.put, List.setIfInBounds_toArray, List.set_cons_zero, List.set_cons_succ]
    refine wpAnyH_take (i := 6) (oi := { dst := some 12, op := Op.move (Operand.tmp 11), type := 4, pos := "l04_msg.go:60", after := #[{ on := 5, ground := Ground.data }, { on := 4, ground := Ground.chain }], guard := none }) (v := ?_) rfl (by kernel_rfl) (by kernel_rfl) (by kernel_rfl) (fun _ _ _ h => h) (Or.inl ⟨by rfl, ?_⟩) (by assumption) ?_
    rotate_left 1
    · (intro wq hSw; (try dsimp only at hSw); go_simp; try with_reducible rfl)
    try simp only [Act.put, List.setIfInBounds_toArray, List.set_cons_zero, List.set_cons_succ]
    refine wpAnyH_take (i := 7) (oi := { dst := some 13, op := Op.load 40 (Operand.tmp 1), type := 40, pos := "l04_msg.go:60", after := #[{ on := 6, ground := Ground.guard }], guard := some (6, true) }) (v := ?_) rfl (by kernel_rfl) (by kernel_rfl) (by kernel_rfl) (fun _ _ _ h => h) (Or.inl ⟨by rfl, ?_⟩) (by assumption) ?_
    rotate_left 1
    · (intro wq hSw; (try dsimp only at hSw); go_simp; try with_reducible rfl)
    try simp only [Act.put, List.setIfInBounds_toArray, List.set_cons_zero, List.set_cons_succ]
    refine wpAnyH_take (i := 8) (oi := { dst := some 14, op := Op.move (Operand.tmp 3), type := 101, pos := "l04_msg.go:60", after := #[{ on := 6, ground := Ground.guard }], guard := some (6, true) }) (v := ?_) rfl (by kernel_rfl) (by kernel_rfl) (by kernel_rfl) (fun _ _ _ h => h) (Or.inl ⟨by rfl, ?_⟩) (by assumption) ?_
    rotate_left 1
    · (intro wq hSw; (try dsimp only at hSw); go_simp; try with_reducible rfl)
    try simp only [Act.put, List.setIfInBounds_toArray, List.set_cons_zero, List.set_cons_succ]
    refine wpAnyH_ready (rs := [9]) (by kernel_rfl) (by simp) ?_
    refine AllReadyH.cons (o := { dst := some 15, op := Op.call { callee := Callee.value (Operand.func 98), args := #[Operand.tmp 14], argTypes := #[101] }, type := 40, pos := "l04_msg.go:60", after := #[{ on := 8, ground := Ground.data }, { on := 6, ground := Ground.chain }, { on := 6, ground := Ground.guard }], guard := some (6, true) }) rfl (fun K hK => ?_) AllReadyH.nil
    go_simp
    refine (saidby5 ao n cap c v h _).mono ?_
    rintro e w7 ⟨rfl, b7⟩
    have H7 : Hid (MB w7 w.heap.size 40 5 c v h ao n cap ∧ SL .i64 w7 ao n f ∧ Below w.heap.size w w7) := ⟨H6.out.1.below b7 H6.out.1.lt, H6.out.2.1.below b7, H6.out.2.2.trans (b7.mono H6.out.2.2.size)⟩
    have hk7 := H7.out.1.cells
    clear b7
    go_wp2_with fail
    refine hK.out _ _ ?_ (fun hHeld => ?_)
    · exact hk7
    clear hK K
    try simp only [Act.put, List.setIfInBounds_toArray, List.set_cons_zero, List.set_cons_succ]
    refine wpAnyH_ready (rs := [10]) (by kernel_rfl) (by simp) ?_
    refine AllReadyH.cons (o := { dst := some 16, op := Op.call { callee := Callee.value (Operand.func 97), args := #[Operand.tmp 13, Operand.tmp 15], argTypes := #[40, 40] }, type := 4, pos := "l04_msg.go:60", after := #[{ on := 7, ground := Ground.data }, { on := 9, ground := Ground.data }, { on := 9, ground := Ground.chain }, { on := 6, ground := Ground.guard }], guard := some (6, true) }) rfl (fun K hK => ?_) AllReadyH.nil
    go_simp
    refine (hsame.out _ H7.out.2.1).mono ?_
    rintro e w8 ⟨rfl, b8⟩
    have H8 : Hid (MB w8 w.heap.size 40 5 c v h ao n cap ∧ SL .i64 w8 ao n f ∧ Below w.heap.size w w8) := ⟨H7.out.1.below b8 H7.out.1.lt, H7.out.2.1.below b8, H7.out.2.2.trans (b8.mono H7.out.2.2.size)⟩
    have hk8 := H8.out.1.cells
    clear b8
    go_wp2_with fail
    refine hK.out _ _ ?_ (fun hHeld => ?_)
    · exact hk8
    clear hK K
    try simp only [Act.put, List.setIfInBounds_toArray, List.set_cons_zero, List.set_cons_succ]
    refine wpAnyH_take (i := 11) (oi := { dst := some 17, op := Op.pick (Operand.tmp 12) (Operand.tmp 16) (Operand.const (Value.bool false)), type := 4, pos := "l04_msg.go:60", after := #[{ on := 6, ground := Ground.data }, { on := 10, ground := Ground.data }], guard := none }) (v := ?_) rfl (by kernel_rfl) (by kernel_rfl) (by kernel_rfl) (fun _ _ _ h => h) (Or.inl ⟨by rfl, ?_⟩) (by assumption) ?_
    rotate_left 1
    · (intro wq hSw; (try dsimp only at hSw); go_simp; try with_reducible rfl)
    try simp only [Act.put, List.setIfInBounds_toArray, List.set_cons_zero, List.set_cons_succ]
    refine wpAnyH_take (i := 12) (oi := { dst := some 2, op := Op.assign (Operand.tmp 17), type := 4, pos := "l04_msg.go:60", after := #[{ on := 11, ground := Ground.data }, { on := 10, ground := Ground.chain }, { on := 0, ground := Ground.phase }, { on := 1, ground := Ground.phase }, { on := 2, ground := Ground.phase }, { on := 3, ground := Ground.phase }, { on := 4, ground := Ground.phase }, { on := 5, ground := Ground.phase }, { on := 6, ground := Ground.phase }, { on := 7, ground := Ground.phase }, { on := 8, ground := Ground.phase }, { on := 9, ground := Ground.phase }, { on := 10, ground := Ground.phase }, { on := 11, ground := Ground.phase }], guard := none }) (v := ?_) rfl (by kernel_rfl) (by kernel_rfl) (by kernel_rfl) (fun _ _ _ h => h) (Or.inl ⟨by rfl, ?_⟩) (by assumption) ?_
    rotate_left 1
    · (intro wq hSw; (try dsimp only at hSw); go_simp; try with_reducible rfl)
    try simp only [Act.put, List.setIfInBounds_toArray, List.set_cons_zero, List.set_cons_succ]
    refine wpAnyH_done (by kernel_rfl) ?_ _
    go_wp2
    go_ret
    cases b2 with
    | true => exact Tells.yes (HY.out.1 rfl) H8.out.2.2
    | false => exact Tells.no (fun x => absurd (HY.out.2 x) (by simp)) H8.out.2.2

theorem sayof0 (ao : Option Addr) (n cap : Nat) (k c v h : Int) (w : World) (h5 : k ≠ 5) (h1 : k ≠ 1) (h2 : k ≠ 2) (h3 : k ≠ 3) (h4 : k ≠ 4) :
    Calls Try.prog 96 #[.agg #[.int .i64 k, .int .i64 c, .int .i64 v, .int .i64 h, .slice ao n cap]] w fun e w' => e = .returned .nilIface ∧ Below w.heap.size w w' := by
  have d5 : decide (k = 5) = false := by simpa using h5
  have d1 : decide (k = 1) = false := by simpa using h1
  have d2 : decide (k = 2) = false := by simpa using h2
  have d3 : decide (k = 3) = false := by simpa using h3
  have d4 : decide (k = 4) = false := by simpa using h4
  go_enter Try.func96, Try.ntmps96
  go_wp2
  go_ret
  exact ⟨rfl, (Below.refl _ _).alloc (Nat.le_refl _) _⟩
set_option maxHeartbeats 1000000 in
set_option maxRecDepth 100000 in
theorem msgok0i (ao : Option Addr) (n cap : Nat) (f : Nat → Int) (k c v h : Int) (w : World) (hs : SL .i64 w ao n f) (h5 : k ≠ 5) (h1 : k ≠ 1) (h2 : k ≠ 2) (h3 : k ≠ 3) (h4 : k ≠ 4) :
    Calls Try.prog 37 #[.agg #[.int .i64 k, .int .i64 c, .int .i64 v, .int .i64 h, .slice ao n cap]] w fun e w' => Tells w w' e (MOk k c v h f n) := by
  have HM : Hid (¬ MOk k c v h f n) := fun x => by unfold MOk at x; omega
  obtain ⟨W, hW⟩ : ∃ W, W = w.alloc (.cells #[.int .i64 k, .int .i64 c, .int .i64 v, .int .i64 h, .slice ao n cap] 40) := ⟨_, rfl⟩
  have M1 : MB W w.heap.size 40 k c v h ao n cap := by rw [hW]; exact MB.new w _ _ c v h ao n cap
  have hb : Below w.heap.size w W := by rw [hW]; exact (Below.refl _ _).alloc (Nat.le_refl _) _
  have HA := hide (hs.below hb)
  have HB0 := hide hb
  have hcall := hide (sayof0 ao n cap k c v h W h5 h1 h2 h3 h4)
  clear hs hb h5 h1 h2 h3 h4
  go_enter Try.func37, Try.ntmps37
  go_wp2_with fail
  rw [← hW]
  refine hcall.out.mono ?_
  rintro e w1 ⟨rfl, b1⟩
  have H5 : Hid (MB w1.drew w.heap.size 40 k c v h ao n cap ∧ SL .i64 w1.drew ao n f ∧ Below w.heap.size w w1.drew) := ⟨M1.below (Below.drawn b1 1) M1.lt, HA.out.below (Below.drawn b1 1), HB0.out.trans ((Below.drawn b1 1).mono HB0.out.size)⟩
  clear hW M1 HA HB0 b1 hcall
  go_wp2_with fail
  obtain ⟨m0, m1, m2, m3, m4⟩ := (show MB w1 w.heap.size 40 k c v h ao n cap from H5.out.1).cells
  refine wp_region_held_drew (S := (fun w' => w'.cell? ⟨w.heap.size, 0, none⟩ = some (.int .i64 k) ∧ w'.cell? ⟨w.heap.size, 1, none⟩ = some (.int .i64 c) ∧ w'.cell? ⟨w.heap.size, 2, none⟩ = some (.int .i64 v) ∧ w'.cell? ⟨w.heap.size, 3, none⟩ = some (.int .i64 h) ∧ w'.cell? ⟨w.heap.size, 4, none⟩ = some (.slice ao n cap))) (by kernel_rfl) ?_ (fun hHeld => ?_)
  · exact ⟨m0, m1, m2, m3, m4⟩
  refine wpAnyH_take (i := 0) (oi := { dst := some 6, op := Op.move (Operand.tmp 3), type := 101, pos := "l04_msg.go:60", after := #[], guard := none }) (v := ?_) rfl (by kernel_rfl) (by kernel_rfl) (by kernel_rfl) (fun _ _ _ h => h) (Or.inl ⟨by rfl, ?_⟩) (by assumption) ?_
  rotate_left 1
  · (intro wq hSw; (try dsimp only at hSw); go_simp; try with_reducible rfl)
  try simp only [Act.put, List.setIfInBounds_toArray, List.set_cons_zero, List.set_cons_succ]
  refine wpAnyH_take (i := 1) (oi := { dst := some 7, op := Op.binOp BinOp.neq 101 (Operand.tmp 6) (Operand.const Value.nilIface) 101, type := 4, pos := "l04_msg.go:60", after := #[{ on := 0, ground := Ground.data }], guard := none }) (v := ?_) rfl (by kernel_rfl) (by kernel_rfl) (by kernel_rfl) (fun _ _ _ h => h) (Or.inl ⟨by rfl, ?_⟩) (by assumption) ?_
  rotate_left 1
  · (intro wq hSw; (try dsimp only at hSw); go_simp; try with_reducible rfl)
  try simp only [Act.put, List.setIfInBounds_toArray, List.set_cons_zero, List.set_cons_succ]
  refine wpAnyH_take (i := 2) (oi := { dst := some 8, op := Op.move (Operand.tmp 7), type := 4, pos := "l04_msg.go:60", after := #[{ on := 1, ground := Ground.data }], guard := none }) (v := ?_) rfl (by kernel_rfl) (by kernel_rfl) (by kernel_rfl) (fun _ _ _ h => h) (Or.inl ⟨by rfl, ?_⟩) (by assumption) ?_
  rotate_left 1
  · (intro wq hSw; (try dsimp only at hSw); go_simp; try with_reducible rfl)
  try simp only [Act.put, List.setIfInBounds_toArray, List.set_cons_zero, List.set_cons_succ]
  refine wpAnyH_take (i := 3) (oi := { dst := some 9, op := Op.move (Operand.tmp 3), type := 101, pos := "l04_msg.go:60", after := #[{ on := 2, ground := Ground.guard }], guard := some (2, true) }) (v := undef) rfl (by kernel_rfl) (by kernel_rfl) (by kernel_rfl) (fun _ _ _ h => h) (Or.inr ⟨by rfl, rfl⟩) (by assumption) ?_
  try simp only [Act.put, List.setIfInBounds_toArray, List.set_cons_zero, List.set_cons_succ]
  refine wpAnyH_take (i := 4) (oi := { dst := some 10, op := Op.call { callee := Callee.invoke (Operand.tmp 9) "loop.example/g00399/impl.inBounds", args := #[], argTypes := #[] }, type := 4, pos := "l04_msg.go:60", after := #[{ on := 3, ground := Ground.data }, { on := 2, ground := Ground.chain }, { on := 2, ground := Ground.guard }], guard := some (2, true) }) (v := undef) rfl (by kernel_rfl) (by kernel_rfl) (by kernel_rfl) (fun _ _ _ h => h) (Or.inr ⟨by rfl, rfl⟩) (by assumption) ?_
  try simp only [Act.put, List.setIfInBounds_toArray, List.set_cons_zero, List.set_cons_succ]
  refine wpAnyH_take (i := 5) (oi := { dst := some 11, op := Op.pick (Operand.tmp 8) (Operand.tmp 10) (Operand.const (Value.bool false)), type := 4, pos := "l04_msg.go:60", after := #[{ on := 2, ground := Ground.data }, { on := 4, ground := Ground.data }], guard := none }) (v := ?_) rfl (by kernel_rfl) (by kernel_rfl) (by kernel_rfl) (fun _ _ _ h => h) (Or.inl ⟨by rfl, ?_⟩) (by assumption) ?_
  rotate_left 1
  · (intro wq hSw; (try dsimp only at hSw); go_simp; try with_reducible rfl)
  try simp only [Act.put, List.setIfInBounds_toArray, List.set_cons_zero, List.set_cons_succ]
  refine wpAnyH_take (i := 6) (oi := { dst := some 12, op := Op.move (Operand.tmp 11), type := 4, pos := "l04_msg.go:60", after := #[{ on := 5, ground := Ground.data }, { on := 4, ground := Ground.chain }], guard := none }) (v := ?_) rfl (by kernel_rfl) (by kernel_rfl) (by kernel_rfl) (fun _ _ _ h => h) (Or.inl ⟨by rfl, ?_⟩) (by assumption) ?_
  rotate_left 1
  · (intro wq hSw; (try dsimp only at hSw); go_simp; try with_reducible rfl)
  try simp only [Act.put, List.setIfInBounds_toArray, List.set_cons_zero, List.set_cons_succ]
  refine wpAnyH_take (i := 7) (oi := { dst := some 13, op := Op.load 40 (Operand.tmp 1), type := 40, pos := "l04_msg.go:60", after := #[{ on := 6, ground := Ground.guard }], guard := some (6, true) }) (v := undef) rfl (by kernel_rfl) (by kernel_rfl) (by kernel_rfl) (fun _ _ _ h => h) (Or.inr ⟨by rfl, rfl⟩) (by assumption) ?_
  try simp only [Act.put, List.setIfInBounds_toArray, List.set_cons_zero, List.set_cons_succ]
  refine wpAnyH_take (i := 8) (oi := { dst := some 14, op := Op.move (Operand.tmp 3), type := 101, pos := "l04_msg.go:60", after := #[{ on := 6, ground := Ground.guard }], guard := some (6, true) }) (v := undef) rfl (by kernel_rfl) (by kernel_rfl) (by kernel_rfl) (fun _ _ _ h => h) (Or.inr ⟨by rfl, rfl⟩) (by assumption) ?_
  try simp only [Act.put, List.setIfInBounds_toArray, List.set_cons_zero, List.set_cons_succ]
  refine wpAnyH_take (i := 9) (oi := { dst := some 15, op := Op.call { callee := Callee.value (Operand.func 98), args := #[Operand.tmp 14], argTypes := #[101] }, type := 40, pos := "l04_msg.go:60", after := #[{ on := 8, ground := Ground.data }, { on := 6, ground := Ground.chain }, { on := 6, ground := Ground.guard }], guard := some (6, true) }) (v := undef) rfl (by kernel_rfl) (by kernel_rfl) (by kernel_rfl) (fun _ _ _ h => h) (Or.inr ⟨by rfl, rfl⟩) (by assumption) ?_
  try simp only [Act.put, List.setIfInBounds_toArray, List.set_cons_zero, List.set_cons_succ]
  refine wpAnyH_take (i := 10) (oi := { dst := some 16, op := Op.call { callee := Callee.value (Operand.func 97), args := #[Operand.tmp 13, Operand.tmp 15], argTypes := #[40, 40] }, type := 4, pos := "l04_msg.go:60", after := #[{ on := 7, ground := Ground.data }, { on := 9, ground := Ground.data }, { on := 9, ground := Ground.chain }, { on := 6, ground := Ground.guard }], guard := some (6, true) }) (v := undef) rfl (by kernel_rfl) (by kernel_rfl) (by kernel_rfl) (fun _ _ _ h => h) (Or.inr ⟨by rfl, rfl⟩) (by assumption) ?_
  try simp only [Act.put, List.setIfInBounds_toArray, List.set_cons_zero, List.set_cons_succ]
  refine wpAnyH_take (i := 11) (oi := { dst := some 17, op := Op.pick (Operand.tmp 12) (Operand.tmp 16) (Operand.const (Value.bool false)), type := 4, pos := "l04_msg.go:60", after := #[{ on := 6, ground := Ground.data }, { on := 10, ground := Ground.data }], guard := none }) (v := ?_) rfl (by kernel_rfl) (by kernel_rfl) (by kernel_rfl) (fun _ _ _ h => h) (Or.inl ⟨by rfl, ?_⟩) (by assumption) ?_
  rotate_left 1
  · (intro wq hSw; (try dsimp only at hSw); go_simp; try with_reducible rfl)
  try simp only [Act.put, List.setIfInBounds_toArray, List.set_cons_zero, List.set_cons_succ]
  refine wpAnyH_take (i := 12) (oi := { dst := some 2, op := Op.assign (Operand.tmp 17), type := 4, pos := "l04_msg.go:60", after := #[{ on := 11, ground := Ground.data }, { on := 10, ground := Ground.chain }, { on := 0, ground := Ground.phase }, { on := 1, ground := Ground.phase }, { on := 2, ground := Ground.phase }, { on := 3, ground := Ground.phase }, { on := 4, ground := Ground.phase }, { on := 5, ground := Ground.phase }, { on := 6, ground := Ground.phase }, { on := 7, ground := Ground.phase }, { on := 8, ground := Ground.phase }, { on := 9, ground := Ground.phase }, { on := 10, ground := Ground.phase }, { on := 11, ground := Ground.phase }], guard := none }) (v := ?_) rfl (by kernel_rfl) (by kernel_rfl) (by kernel_rfl) (fun _ _ _ h => h) (Or.inl ⟨by rfl, ?_⟩) (by assumption) ?_
  rotate_left 1
  · (intro wq hSw; (try dsimp only at hSw); go_simp; try with_reducible rfl)
  try simp only [Act.put, List.setIfInBounds_toArray, List.set_cons_zero, List.set_cons_succ]
  refine wpAnyH_done (by kernel_rfl) ?_ _
  go_wp2
  go_ret
  exact Tells.no HM.out H5.out.2.2

theorem msgok_impl (ao : Option Addr) (n cap : Nat) (f : Nat → Int) (k c v h : Int) (w : World) (hn : n ≤ 1048576) (hcap : n ≤ cap) (hs : SL .i64 w ao n f) :
    Calls Try.prog 37 #[.agg #[.int .i64 k, .int .i64 c, .int .i64 v, .int .i64 h, .slice ao n cap]] w fun e w' => Tells w w' e (MOk k c v h f n) := by
  by_cases h5 : k = 5
  · subst h5; exact msgok5i ao n cap f c v h w hn hcap hs
  · by_cases h1 : k = 1
    · subst h1; exact msgok1i ao n cap f c v h w hn hcap hs
    · by_cases h2 : k = 2
      · subst h2; exact msgok2i ao n cap f c v h w hn hcap hs
      · by_cases h3 : k = 3
        · subst h3; exact msgok3i ao n cap f c v h w hn hcap hs
        · by_cases h4 : k = 4
          · subst h4; exact msgok4i ao n cap f c v h w hn hcap hs
          · exact msgok0i ao n cap f k c v h w hs h5 h1 h2 h3 h4
end Go.Proofs.Ytkeojhnifnkpiaa

/- What is known, held against another one, of the program. -/
import Derived.Test.YtabknfmhhjelaaaGreatDoorMtE2Z

namespace Go.Proofs.YtabknfmhhjelaaaGreatDoor
open Go.ChangeShapes Go.WideShapes Go.ChangeAt Go.RowKit
set_option linter.unusedVariables false
set_option linter.unusedSimpArgs false
set_option maxRecDepth 100000

theorem leq_yes (ao bo : Option Addr) (ca cb : Nat) (l l' : List Int) (w : World) (hl : l.length ≤ 1048576) (hA : SL .i64 w ao l.length (fun i => l.getD i 0)) (hB : SL .i64 w bo l'.length (fun i => l'.getD i 0)) (h : l = l') :
    Calls Tryz.prog 77 #[.slice ao l.length ca, .slice bo l'.length cb] w fun e w' => e = .returned (.bool true) ∧ ∃ q, w' = w.drewN q :=
  (leq_impl ao bo ca cb l l' w hl hA hB).mono fun _ _ ⟨h1, h2⟩ => ⟨h1.elim (·.2) (fun x => absurd h x.1), h2⟩
theorem leq_no (ao bo : Option Addr) (ca cb : Nat) (l l' : List Int) (w : World) (hl : l.length ≤ 1048576) (hA : SL .i64 w ao l.length (fun i => l.getD i 0)) (hB : SL .i64 w bo l'.length (fun i => l'.getD i 0)) (h : ¬ l = l') :
    Calls Tryz.prog 77 #[.slice ao l.length ca, .slice bo l'.length cb] w fun e w' => e = .returned (.bool false) ∧ ∃ q, w' = w.drewN q :=
  (leq_impl ao bo ca cb l l' w hl hA hB).mono fun _ _ ⟨h1, h2⟩ => ⟨h1.elim (fun x => absurd x.1 h) (·.2), h2⟩
theorem eqfunc_yes (bo bo' : Option Addr) (n n' bc bc' : Nat) (L L' : Nat → List Int) (w : World) (hn : n ≤ 1048576) (hL : ∀ i, i < n → (L i).length ≤ 1048576) (hA : BV w bo n L) (hB : BV w bo' n' L') (h : n = n' ∧ ∀ i, i < n → L i = L' i) :
    Calls Tryz.prog 78 #[.slice bo n bc, .slice bo' n' bc', .func (.func 79) #[] #[]] w fun e w' => e = .returned (.bool true) ∧ ∃ q, w' = w.drewN q :=
  (eqfunc_impl bo bo' n n' bc bc' L L' w hn hL hA hB).mono fun _ _ ⟨h1, h2⟩ => ⟨h1.elim (·.2) (fun x => absurd h x.1), h2⟩
theorem eqfunc_no (bo bo' : Option Addr) (n n' bc bc' : Nat) (L L' : Nat → List Int) (w : World) (hn : n ≤ 1048576) (hL : ∀ i, i < n → (L i).length ≤ 1048576) (hA : BV w bo n L) (hB : BV w bo' n' L') (h : ¬ (n = n' ∧ ∀ i, i < n → L i = L' i)) :
    Calls Tryz.prog 78 #[.slice bo n bc, .slice bo' n' bc', .func (.func 79) #[] #[]] w fun e w' => e = .returned (.bool false) ∧ ∃ q, w' = w.drewN q :=
  (eqfunc_impl bo bo' n n' bc bc' L L' w hn hL hA hB).mono fun _ _ ⟨h1, h2⟩ => ⟨h1.elim (fun x => absurd x.1 h) (·.2), h2⟩

set_option maxHeartbeats 2000000 in
theorem samem_impl (go bo go' bo' : Option Addr) (gc bc gc' bc' : Nat) (g g' : List Int) (n n' : Nat) (L L' : Nat → List Int) (fi ol he fi' ol' he' : Bool) (la la' : Int) (w : World) (hd : Bd g n L) (hA : MV w go gc bo bc g n L) (hB : MV w go' gc' bo' bc' g' n' L') :
    Calls Tryz.prog 63 #[.agg #[.slice go g.length gc, .slice bo n bc, .bool fi, .bool ol, .bool he, .int .i64 la], .agg #[.slice go' g'.length gc', .slice bo' n' bc', .bool fi', .bool ol', .bool he', .int .i64 la']] w fun e w' => Tells w w' e (SmM g n L fi ol he la g' n' L' fi' ol' he' la') := by
  by_cases h3 : fi = fi'
  case neg =>
    have HN : Hid (¬ SmM g n L fi ol he la g' n' L' fi' ol' he' la') := fun x => h3 x.2.2.1
    have d1 : (fi == fi') = false := by simpa using h3
    obtain ⟨W, hW⟩ : ∃ W, W = ((w.alloc (.cells #[.slice go g.length gc, .slice bo n bc, .bool fi, .bool ol, .bool he, .int .i64 la] 34)).alloc (.cells #[.slice go' g'.length gc', .slice bo' n' bc', .bool fi', .bool ol', .bool he', .int .i64 la'] 34)) := ⟨_, rfl⟩
    have hb : Below w.heap.size w W := by rw [hW]; exact ((Below.refl _ _).alloc (Nat.le_refl _) _).alloc (by simp) _
    have M1 : KB W w.heap.size 34 go g.length gc bo n bc fi ol he la := by rw [hW]; exact (al2 w _ _).1
    have M2 : KB W (w.heap.size + 1) 34 go' g'.length gc' bo' n' bc' fi' ol' he' la' := by rw [hW]; exact (al2 w _ _).2.1
    have H5 : Hid (KB W.drew w.heap.size 34 go g.length gc bo n bc fi ol he la ∧ KB W.drew (w.heap.size + 1) 34 go' g'.length gc' bo' n' bc' fi' ol' he' la' ∧ MV W.drew go gc bo bc g n L ∧ MV W.drew go' gc' bo' bc' g' n' L' ∧ Below w.heap.size w W.drew) := ⟨M1, M2, hA.below (Below.drawn hb 1), hB.below (Below.drawn hb 1), Below.drawn hb 1⟩
    obtain ⟨m0, m1, m2, m3, m4, m5⟩ := M1.cells
    obtain ⟨x0, x1, x2, x3, x4, x5⟩ := M2.cells
    clear M1 M2 hb hA hB
    go_enter Tryz.func63, Tryz.ntmps63
    go_wp2_with fail
    rw [← hW]
    clear hW
    refine wp_region_held_drew (S := (fun w' => (w'.cell? ⟨w.heap.size, 0, none⟩ = some (.slice go g.length gc) ∧ w'.cell? ⟨w.heap.size, 1, none⟩ = some (.slice bo n bc) ∧ w'.cell? ⟨w.heap.size, 2, none⟩ = some (.bool fi) ∧ w'.cell? ⟨w.heap.size, 3, none⟩ = some (.bool ol) ∧ w'.cell? ⟨w.heap.size, 4, none⟩ = some (.bool he) ∧ w'.cell? ⟨w.heap.size, 5, none⟩ = some (.int .i64 la)) ∧ (w'.cell? ⟨w.heap.size + 1, 0, none⟩ = some (.slice go' g'.length gc') ∧ w'.cell? ⟨w.heap.size + 1, 1, none⟩ = some (.slice bo' n' bc') ∧ w'.cell? ⟨w.heap.size + 1, 2, none⟩ = some (.bool fi') ∧ w'.cell? ⟨w.heap.size + 1, 3, none⟩ = some (.bool ol') ∧ w'.cell? ⟨w.heap.size + 1, 4, none⟩ = some (.bool he') ∧ w'.cell? ⟨w.heap.size + 1, 5, none⟩ = some (.int .i64 la')))) (by kernel_rfl) ?_ (fun hHeld => ?_)
    · exact ⟨⟨m0, m1, m2, m3, m4, m5⟩, x0, x1, x2, x3, x4, x5⟩
    refine wpAnyH_take (i := 0) (oi := { dst := some 5, op := Op.load 34 (Operand.tmp 2), type := 34, pos := "l05_meta.go:68", after := #[], guard := none }) (v := ?_) rfl (by kernel_rfl) (by kernel_rfl) (by kernel_rfl) (fun _ _ _ h => h) (Or.inl ⟨by rfl, ?_⟩) (by assumption) ?_
    rotate_left 1
    · (intro wq hSw; (try dsimp only at hSw); go_simp; try with_reducible rfl)
    try simp only [Act.put, ly1, ly2, ly3]
    refine wpAnyH_take (i := 2) (oi := { dst := some 7, op := Op.load 34 (Operand.tmp 3), type := 34, pos := "l05_meta.go:68", after := #[], guard := none }) (v := ?_) rfl (by kernel_rfl) (by kernel_rfl) (by kernel_rfl) (fun _ _ _ h => h) (Or.inl ⟨by rfl, ?_⟩) (by assumption) ?_
    rotate_left 1
    · (intro wq hSw; (try dsimp only at hSw); go_simp; try with_reducible rfl)
    try simp only [Act.put, ly1, ly2, ly3]
    refine wpAnyH_ready (rs := [1]) (by kernel_rfl) (by simp) ?_
    refine AllReadyH.cons (o := { dst := some 6, op := Op.call { callee := Callee.value (Operand.func 76), args := #[Operand.tmp 5], argTypes := #[34] }, type := 91, pos := "l05_meta.go:68", after := #[{ on := 0, ground := Ground.data }], guard := none }) rfl (fun K hK => ?_) AllReadyH.nil
    go_simp
    refine (stateof _ _ _ _ _ _ _ _ _ _ _).mono ?_
    rintro e w6 ⟨rfl, b6⟩
    have H6 : Hid (KB w6 w.heap.size 34 go g.length gc bo n bc fi ol he la ∧ KB w6 (w.heap.size + 1) 34 go' g'.length gc' bo' n' bc' fi' ol' he' la' ∧ MV w6 go gc bo bc g n L ∧ MV w6 go' gc' bo' bc' g' n' L' ∧ Below w.heap.size w w6) := ⟨H5.out.1.b b6, H5.out.2.1.b b6, H5.out.2.2.1.below b6, H5.out.2.2.2.1.below b6, H5.out.2.2.2.2.trans (b6.mono H5.out.2.2.2.2.size)⟩
    have hk6 := And.intro H6.out.1.cells H6.out.2.1.cells
    clear b6
    go_wp2_with fail
    refine hK.out _ _ ?_ (fun hHeld => ?_)
    · exact hk6
    clear hK K
    try simp only [Act.put, ly1, ly2, ly3]
    refine wpAnyH_ready (rs := [3]) (by kernel_rfl) (by simp) ?_
    refine AllReadyH.cons (o := { dst := some 8, op := Op.call { callee := Callee.value (Operand.func 76), args := #[Operand.tmp 7], argTypes := #[34] }, type := 91, pos := "l05_meta.go:68", after := #[{ on := 2, ground := Ground.data }, { on := 1, ground := Ground.chain }], guard := none }) rfl (fun K hK => ?_) AllReadyH.nil
    go_simp
    refine (stateof _ _ _ _ _ _ _ _ _ _ _).mono ?_
    rintro e w7 ⟨rfl, b7⟩
    have H7 : Hid (KB w7 w.heap.size 34 go g.length gc bo n bc fi ol he la ∧ KB w7 (w.heap.size + 1) 34 go' g'.length gc' bo' n' bc' fi' ol' he' la' ∧ MV w7 go gc bo bc g n L ∧ MV w7 go' gc' bo' bc' g' n' L' ∧ Below w.heap.size w w7) := ⟨H6.out.1.b b7, H6.out.2.1.b b7, H6.out.2.2.1.below b7, H6.out.2.2.2.1.below b7, H6.out.2.2.2.2.trans (b7.mono H6.out.2.2.2.2.size)⟩
    have hk7 := And.intro H7.out.1.cells H7.out.2.1.cells
    clear b7
    go_wp2_with fail
    refine hK.out _ _ ?_ (fun hHeld => ?_)
    · exact hk7
    clear hK K
    try simp only [Act.put, ly1, ly2, ly3]
    refine wpAnyH_take (i := 4) (oi := { dst := some 9, op := Op.binOp BinOp.eql 91 (Operand.tmp 6) (Operand.tmp 8) 91, type := 4, pos := "l05_meta.go:68", after := #[{ on := 1, ground := Ground.data }, { on := 3, ground := Ground.data }], guard := none }) (v := ?_) rfl (by kernel_rfl) (by kernel_rfl) (by kernel_rfl) (fun _ _ _ h => h) (Or.inl ⟨by rfl, ?_⟩) (by assumption) ?_
    rotate_left 1
    · (intro wq hSw; (try dsimp only at hSw); go_simp; try with_reducible rfl)
    try simp only [Act.put, ly1, ly2, ly3]
    refine wpAnyH_take (i := 5) (oi := { dst := some 10, op := Op.move (Operand.tmp 9), type := 4, pos := "l05_meta.go:68", after := #[{ on := 4, ground := Ground.data }, { on := 3, ground := Ground.chain }], guard := none }) (v := ?_) rfl (by kernel_rfl) (by kernel_rfl) (by kernel_rfl) (fun _ _ _ h => h) (Or.inl ⟨by rfl, ?_⟩) (by assumption) ?_
    rotate_left 1
    · (intro wq hSw; (try dsimp only at hSw); go_simp; try with_reducible rfl)
    try simp only [Act.put, ly1, ly2, ly3]
    refine wpAnyH_take (i := 6) (oi := { dst := some 11, op := Op.fieldAddr 34 (Operand.tmp 2) 0, type := 0, pos := "l05_meta.go:68", after := #[{ on := 5, ground := Ground.guard }], guard := some (5, true) }) (v := undef) rfl (by kernel_rfl) (by kernel_rfl) (by kernel_rfl) (fun _ _ _ h => h) (Or.inr ⟨by rfl, rfl⟩) (by assumption) ?_
    try simp only [Act.put, ly1, ly2, ly3]
    refine wpAnyH_take (i := 7) (oi := { dst := some 12, op := Op.load 22 (Operand.tmp 11), type := 22, pos := "l05_meta.go:68", after := #[{ on := 6, ground := Ground.data }, { on := 5, ground := Ground.guard }], guard := some (5, true) }) (v := undef) rfl (by kernel_rfl) (by kernel_rfl) (by kernel_rfl) (fun _ _ _ h => h) (Or.inr ⟨by rfl, rfl⟩) (by assumption) ?_
    try simp only [Act.put, ly1, ly2, ly3]
    refine wpAnyH_take (i := 8) (oi := { dst := some 13, op := Op.fieldAddr 34 (Operand.tmp 3) 0, type := 0, pos := "l05_meta.go:68", after := #[{ on := 5, ground := Ground.guard }], guard := some (5, true) }) (v := undef) rfl (by kernel_rfl) (by kernel_rfl) (by kernel_rfl) (fun _ _ _ h => h) (Or.inr ⟨by rfl, rfl⟩) (by assumption) ?_
    try simp only [Act.put, ly1, ly2, ly3]
    refine wpAnyH_take (i := 9) (oi := { dst := some 14, op := Op.load 22 (Operand.tmp 13), type := 22, pos := "l05_meta.go:68", after := #[{ on := 8, ground := Ground.data }, { on := 5, ground := Ground.guard }], guard := some (5, true) }) (v := undef) rfl (by kernel_rfl) (by kernel_rfl) (by kernel_rfl) (fun _ _ _ h => h) (Or.inr ⟨by rfl, rfl⟩) (by assumption) ?_
    try simp only [Act.put, ly1, ly2, ly3]
    refine wpAnyH_take (i := 10) (oi := { dst := some 15, op := Op.call { callee := Callee.value (Operand.func 77), args := #[Operand.tmp 12, Operand.tmp 14], argTypes := #[22, 22] }, type := 4, pos := "l05_meta.go:68", after := #[{ on := 7, ground := Ground.data }, { on := 9, ground := Ground.data }, { on := 5, ground := Ground.chain }, { on := 5, ground := Ground.guard }], guard := some (5, true) }) (v := undef) rfl (by kernel_rfl) (by kernel_rfl) (by kernel_rfl) (fun _ _ _ h => h) (Or.inr ⟨by rfl, rfl⟩) (by assumption) ?_
    try simp only [Act.put, ly1, ly2, ly3]
    refine wpAnyH_take (i := 11) (oi := { dst := some 16, op := Op.pick (Operand.tmp 10) (Operand.tmp 15) (Operand.const (Value.bool false)), type := 4, pos := "l05_meta.go:68", after := #[{ on := 5, ground := Ground.data }, { on := 10, ground := Ground.data }], guard := none }) (v := ?_) rfl (by kernel_rfl) (by kernel_rfl) (by kernel_rfl) (fun _ _ _ h => h) (Or.inl ⟨by rfl, ?_⟩) (by assumption) ?_
    rotate_left 1
    · (intro wq hSw; (try dsimp only at hSw); go_simp; try with_reducible rfl)
    try simp only [Act.put, ly1, ly2, ly3]
    refine wpAnyH_take (i := 12) (oi := { dst := some 17, op := Op.move (Operand.tmp 16), type := 4, pos := "l05_meta.go:68", after := #[{ on := 11, ground := Ground.data }, { on := 10, ground := Ground.chain }], guard := none }) (v := ?_) rfl (by kernel_rfl) (by kernel_rfl) (by kernel_rfl) (fun _ _ _ h => h) (Or.inl ⟨by rfl, ?_⟩) (by assumption) ?_
    rotate_left 1
    · (intro wq hSw; (try dsimp only at hSw); go_simp; try with_reducible rfl)
    try simp only [Act.put, ly1, ly2, ly3]
    refine wpAnyH_take (i := 13) (oi := { dst := some 18, op := Op.fieldAddr 34 (Operand.tmp 2) 1, type := 0, pos := "l05_meta.go:68", after := #[{ on := 12, ground := Ground.guard }], guard := some (12, true) }) (v := undef) rfl (by kernel_rfl) (by kernel_rfl) (by kernel_rfl) (fun _ _ _ h => h) (Or.inr ⟨by rfl, rfl⟩) (by assumption) ?_
    try simp only [Act.put, ly1, ly2, ly3]
    refine wpAnyH_take (i := 14) (oi := { dst := some 19, op := Op.load 23 (Operand.tmp 18), type := 23, pos := "l05_meta.go:68", after := #[{ on := 13, ground := Ground.data }, { on := 12, ground := Ground.guard }], guard := some (12, true) }) (v := undef) rfl (by kernel_rfl) (by kernel_rfl) (by kernel_rfl) (fun _ _ _ h => h) (Or.inr ⟨by rfl, rfl⟩) (by assumption) ?_
    try simp only [Act.put, ly1, ly2, ly3]
    refine wpAnyH_take (i := 15) (oi := { dst := some 20, op := Op.fieldAddr 34 (Operand.tmp 3) 1, type := 0, pos := "l05_meta.go:68", after := #[{ on := 12, ground := Ground.guard }], guard := some (12, true) }) (v := undef) rfl (by kernel_rfl) (by kernel_rfl) (by kernel_rfl) (fun _ _ _ h => h) (Or.inr ⟨by rfl, rfl⟩) (by assumption) ?_
    try simp only [Act.put, ly1, ly2, ly3]
    refine wpAnyH_take (i := 16) (oi := { dst := some 21, op := Op.load 23 (Operand.tmp 20), type := 23, pos := "l05_meta.go:68", after := #[{ on := 15, ground := Ground.data }, { on := 12, ground := Ground.guard }], guard := some (12, true) }) (v := undef) rfl (by kernel_rfl) (by kernel_rfl) (by kernel_rfl) (fun _ _ _ h => h) (Or.inr ⟨by rfl, rfl⟩) (by assumption) ?_
    try simp only [Act.put, ly1, ly2, ly3]
    refine wpAnyH_take (i := 17) (oi := { dst := some 22, op := Op.call { callee := Callee.value (Operand.func 78), args := #[Operand.tmp 19, Operand.tmp 21, Operand.func 79], argTypes := #[23, 23, 39] }, type := 4, pos := "l05_meta.go:68", after := #[{ on := 14, ground := Ground.data }, { on := 16, ground := Ground.data }, { on := 12, ground := Ground.chain }, { on := 12, ground := Ground.guard }], guard := some (12, true) }) (v := undef) rfl (by kernel_rfl) (by kernel_rfl) (by kernel_rfl) (fun _ _ _ h => h) (Or.inr ⟨by rfl, rfl⟩) (by assumption) ?_
    try simp only [Act.put, ly1, ly2, ly3]
    refine wpAnyH_take (i := 18) (oi := { dst := some 23, op := Op.pick (Operand.tmp 17) (Operand.tmp 22) (Operand.const (Value.bool false)), type := 4, pos := "l05_meta.go:68", after := #[{ on := 12, ground := Ground.data }, { on := 17, ground := Ground.data }], guard := none }) (v := ?_) rfl (by kernel_rfl) (by kernel_rfl) (by kernel_rfl) (fun _ _ _ h => h) (Or.inl ⟨by rfl, ?_⟩) (by assumption) ?_
    rotate_left 1
    · (intro wq hSw; (try dsimp only at hSw); go_simp; try with_reducible rfl)
    try simp only [Act.put, ly1, ly2, ly3]
    refine wpAnyH_take (i := 19) (oi := { dst := some 4, op := Op.assign (Operand.tmp 23), type := 4, pos := "l05_meta.go:68", after := #[{ on := 18, ground := Ground.data }, { on := 17, ground := Ground.chain }, { on := 0, ground := Ground.phase }, { on := 1, ground := Ground.phase }, { on := 2, ground := Ground.phase }, { on := 3, ground := Ground.phase }, { on := 4, ground := Ground.phase }, { on := 5, ground := Ground.phase }, { on := 6, ground := Ground.phase }, { on := 7, ground := Ground.phase }, { on := 8, ground := Ground.phase }, { on := 9, ground := Ground.phase }, { on := 10, ground := Ground.phase }, { on := 11, ground := Ground.phase }, { on := 12, ground := Ground.phase }, { on := 13, ground := Ground.phase }, { on := 14, ground := Ground.phase }, { on := 15, ground := Ground.phase }, { on := 16, ground := Ground.phase }, { on := 17, ground := Ground.phase }, { on := 18, ground := Ground.phase }], guard := none }) (v := ?_) rfl (by kernel_rfl) (by kernel_rfl) (by kernel_rfl) (fun _ _ _ h => h) (Or.inl ⟨by rfl, ?_⟩) (by assumption) ?_
    rotate_left 1
    · (intro wq hSw; (try dsimp only at hSw); go_simp; try with_reducible rfl)
    try simp only [Act.put, ly1, ly2, ly3]
    refine wpAnyH_done (by kernel_rfl) ?_ _
    go_wp2
    go_ret
    exact Tells.no HN.out (H7.out.2.2.2.2)
  subst h3
  by_cases h4 : ol = ol'
  case neg =>
    have HN : Hid (¬ SmM g n L fi ol he la g' n' L' fi ol' he' la') := fun x => h4 x.2.2.2.1
    have d1 : (ol == ol') = false := by simpa using h4
    obtain ⟨W, hW⟩ : ∃ W, W = ((w.alloc (.cells #[.slice go g.length gc, .slice bo n bc, .bool fi, .bool ol, .bool he, .int .i64 la] 34)).alloc (.cells #[.slice go' g'.length gc', .slice bo' n' bc', .bool fi, .bool ol', .bool he', .int .i64 la'] 34)) := ⟨_, rfl⟩
    have hb : Below w.heap.size w W := by rw [hW]; exact ((Below.refl _ _).alloc (Nat.le_refl _) _).alloc (by simp) _
    have M1 : KB W w.heap.size 34 go g.length gc bo n bc fi ol he la := by rw [hW]; exact (al2 w _ _).1
    have M2 : KB W (w.heap.size + 1) 34 go' g'.length gc' bo' n' bc' fi ol' he' la' := by rw [hW]; exact (al2 w _ _).2.1
    have H5 : Hid (KB W.drew w.heap.size 34 go g.length gc bo n bc fi ol he la ∧ KB W.drew (w.heap.size + 1) 34 go' g'.length gc' bo' n' bc' fi ol' he' la' ∧ MV W.drew go gc bo bc g n L ∧ MV W.drew go' gc' bo' bc' g' n' L' ∧ Below w.heap.size w W.drew) := ⟨M1, M2, hA.below (Below.drawn hb 1), hB.below (Below.drawn hb 1), Below.drawn hb 1⟩
    obtain ⟨m0, m1, m2, m3, m4, m5⟩ := M1.cells
    obtain ⟨x0, x1, x2, x3, x4, x5⟩ := M2.cells
    clear M1 M2 hb hA hB
    go_enter Tryz.func63, Tryz.ntmps63
    go_wp2_with fail
    rw [← hW]
    clear hW
    refine wp_region_held_drew (S := (fun w' => (w'.cell? ⟨w.heap.size, 0, none⟩ = some (.slice go g.length gc) ∧ w'.cell? ⟨w.heap.size, 1, none⟩ = some (.slice bo n bc) ∧ w'.cell? ⟨w.heap.size, 2, none⟩ = some (.bool fi) ∧ w'.cell? ⟨w.heap.size, 3, none⟩ = some (.bool ol) ∧ w'.cell? ⟨w.heap.size, 4, none⟩ = some (.bool he) ∧ w'.cell? ⟨w.heap.size, 5, none⟩ = some (.int .i64 la)) ∧ (w'.cell? ⟨w.heap.size + 1, 0, none⟩ = some (.slice go' g'.length gc') ∧ w'.cell? ⟨w.heap.size + 1, 1, none⟩ = some (.slice bo' n' bc') ∧ w'.cell? ⟨w.heap.size + 1, 2, none⟩ = some (.bool fi) ∧ w'.cell? ⟨w.heap.size + 1, 3, none⟩ = some (.bool ol') ∧ w'.cell? ⟨w.heap.size + 1, 4, none⟩ = some (.bool he') ∧ w'.cell? ⟨w.heap.size + 1, 5, none⟩ = some (.int .i64 la')))) (by kernel_rfl) ?_ (fun hHeld => ?_)
    · exact ⟨⟨m0, m1, m2, m3, m4, m5⟩, x0, x1, x2, x3, x4, x5⟩
    refine wpAnyH_take (i := 0) (oi := { dst := some 5, op := Op.load 34 (Operand.tmp 2), type := 34, pos := "l05_meta.go:68", after := #[], guard := none }) (v := ?_) rfl (by kernel_rfl) (by kernel_rfl) (by kernel_rfl) (fun _ _ _ h => h) (Or.inl ⟨by rfl, ?_⟩) (by assumption) ?_
    rotate_left 1
    · (intro wq hSw; (try dsimp only at hSw); go_simp; try with_reducible rfl)
    try simp only [Act.put, ly1, ly2, ly3]
    refine wpAnyH_take (i := 2) (oi := { dst := some 7, op := Op.load 34 (Operand.tmp 3), type := 34, pos := "l05_meta.go:68", after := #[], guard := none }) (v := ?_) rfl (by kernel_rfl) (by kernel_rfl) (by kernel_rfl) (fun _ _ _ h => h) (Or.inl ⟨by rfl, ?_⟩) (by assumption) ?_
    rotate_left 1
    · (intro wq hSw; (try dsimp only at hSw); go_simp; try with_reducible rfl)
    try simp only [Act.put, ly1, ly2, ly3]
    refine wpAnyH_ready (rs := [1]) (by kernel_rfl) (by simp) ?_
    refine AllReadyH.cons (o := { dst := some 6, op := Op.call { callee := Callee.value (Operand.func 76), args := #[Operand.tmp 5], argTypes := #[34] }, type := 91, pos := "l05_meta.go:68", after := #[{ on := 0, ground := Ground.data }], guard := none }) rfl (fun K hK => ?_) AllReadyH.nil
    go_simp
    refine (stateof _ _ _ _ _ _ _ _ _ _ _).mono ?_
    rintro e w6 ⟨rfl, b6⟩
    have H6 : Hid (KB w6 w.heap.size 34 go g.length gc bo n bc fi ol he la ∧ KB w6 (w.heap.size + 1) 34 go' g'.length gc' bo' n' bc' fi ol' he' la' ∧ MV w6 go gc bo bc g n L ∧ MV w6 go' gc' bo' bc' g' n' L' ∧ Below w.heap.size w w6) := ⟨H5.out.1.b b6, H5.out.2.1.b b6, H5.out.2.2.1.below b6, H5.out.2.2.2.1.below b6, H5.out.2.2.2.2.trans (b6.mono H5.out.2.2.2.2.size)⟩
    have hk6 := And.intro H6.out.1.cells H6.out.2.1.cells
    clear b6
    go_wp2_with fail
    refine hK.out _ _ ?_ (fun hHeld => ?_)
    · exact hk6
    clear hK K
    try simp only [Act.put, ly1, ly2, ly3]
    refine wpAnyH_ready (rs := [3]) (by kernel_rfl) (by simp) ?_
    refine AllReadyH.cons (o := { dst := some 8, op := Op.call { callee := Callee.value (Operand.func 76), args := #[Operand.tmp 7], argTypes := #[34] }, type := 91, pos := "l05_meta.go:68", after := #[{ on := 2, ground := Ground.data }, { on := 1, ground := Ground.chain }], guard := none }) rfl (fun K hK => ?_) AllReadyH.nil
    go_simp
    refine (stateof _ _ _ _ _ _ _ _ _ _ _).mono ?_
    rintro e w7 ⟨rfl, b7⟩
    have H7 : Hid (KB w7 w.heap.size 34 go g.length gc bo n bc fi ol he la ∧ KB w7 (w.heap.size + 1) 34 go' g'.length gc' bo' n' bc' fi ol' he' la' ∧ MV w7 go gc bo bc g n L ∧ MV w7 go' gc' bo' bc' g' n' L' ∧ Below w.heap.size w w7) := ⟨H6.out.1.b b7, H6.out.2.1.b b7, H6.out.2.2.1.below b7, H6.out.2.2.2.1.below b7, H6.out.2.2.2.2.trans (b7.mono H6.out.2.2.2.2.size)⟩
    have hk7 := And.intro H7.out.1.cells H7.out.2.1.cells
    clear b7
    go_wp2_with fail
    refine hK.out _ _ ?_ (fun hHeld => ?_)
    · exact hk7
    clear hK K
    try simp only [Act.put, ly1, ly2, ly3]
    refine wpAnyH_take (i := 4) (oi := { dst := some 9, op := Op.binOp BinOp.eql 91 (Operand.tmp 6) (Operand.tmp 8) 91, type := 4, pos := "l05_meta.go:68", after := #[{ on := 1, ground := Ground.data }, { on := 3, ground := Ground.data }], guard := none }) (v := ?_) rfl (by kernel_rfl) (by kernel_rfl) (by kernel_rfl) (fun _ _ _ h => h) (Or.inl ⟨by rfl, ?_⟩) (by assumption) ?_
    rotate_left 1
    · (intro wq hSw; (try dsimp only at hSw); go_simp; try with_reducible rfl)
    try simp only [Act.put, ly1, ly2, ly3]
    refine wpAnyH_take (i := 5) (oi := { dst := some 10, op := Op.move (Operand.tmp 9), type := 4, pos := "l05_meta.go:68", after := #[{ on := 4, ground := Ground.data }, { on := 3, ground := Ground.chain }], guard := none }) (v := ?_) rfl (by kernel_rfl) (by kernel_rfl) (by kernel_rfl) (fun _ _ _ h => h) (Or.inl ⟨by rfl, ?_⟩) (by assumption) ?_
    rotate_left 1
    · (intro wq hSw; (try dsimp only at hSw); go_simp; try with_reducible rfl)
    try simp only [Act.put, ly1, ly2, ly3]
    refine wpAnyH_take (i := 6) (oi := { dst := some 11, op := Op.fieldAddr 34 (Operand.tmp 2) 0, type := 0, pos := "l05_meta.go:68", after := #[{ on := 5, ground := Ground.guard }], guard := some (5, true) }) (v := undef) rfl (by kernel_rfl) (by kernel_rfl) (by kernel_rfl) (fun _ _ _ h => h) (Or.inr ⟨by rfl, rfl⟩) (by assumption) ?_
    try simp only [Act.put, ly1, ly2, ly3]
    refine wpAnyH_take (i := 7) (oi := { dst := some 12, op := Op.load 22 (Operand.tmp 11), type := 22, pos := "l05_meta.go:68", after := #[{ on := 6, ground := Ground.data }, { on := 5, ground := Ground.guard }], guard := some (5, true) }) (v := undef) rfl (by kernel_rfl) (by kernel_rfl) (by kernel_rfl) (fun _ _ _ h => h) (Or.inr ⟨by rfl, rfl⟩) (by assumption) ?_
    try simp only [Act.put, ly1, ly2, ly3]
    refine wpAnyH_take (i := 8) (oi := { dst := some 13, op := Op.fieldAddr 34 (Operand.tmp 3) 0, type := 0, pos := "l05_meta.go:68", after := #[{ on := 5, ground := Ground.guard }], guard := some (5, true) }) (v := undef) rfl (by kernel_rfl) (by kernel_rfl) (by kernel_rfl) (fun _ _ _ h => h) (Or.inr ⟨by rfl, rfl⟩) (by assumption) ?_
    try simp only [Act.put, ly1, ly2, ly3]
    refine wpAnyH_take (i := 9) (oi := { dst := some 14, op := Op.load 22 (Operand.tmp 13), type := 22, pos := "l05_meta.go:68", after := #[{ on := 8, ground := Ground.data }, { on := 5, ground := Ground.guard }], guard := some (5, true) }) (v := undef) rfl (by kernel_rfl) (by kernel_rfl) (by kernel_rfl) (fun _ _ _ h => h) (Or.inr ⟨by rfl, rfl⟩) (by assumption) ?_
    try simp only [Act.put, ly1, ly2, ly3]
    refine wpAnyH_take (i := 10) (oi := { dst := some 15, op := Op.call { callee := Callee.value (Operand.func 77), args := #[Operand.tmp 12, Operand.tmp 14], argTypes := #[22, 22] }, type := 4, pos := "l05_meta.go:68", after := #[{ on := 7, ground := Ground.data }, { on := 9, ground := Ground.data }, { on := 5, ground := Ground.chain }, { on := 5, ground := Ground.guard }], guard := some (5, true) }) (v := undef) rfl (by kernel_rfl) (by kernel_rfl) (by kernel_rfl) (fun _ _ _ h => h) (Or.inr ⟨by rfl, rfl⟩) (by assumption) ?_
    try simp only [Act.put, ly1, ly2, ly3]
    refine wpAnyH_take (i := 11) (oi := { dst := some 16, op := Op.pick (Operand.tmp 10) (Operand.tmp 15) (Operand.const (Value.bool false)), type := 4, pos := "l05_meta.go:68", after := #[{ on := 5, ground := Ground.data }, { on := 10, ground := Ground.data }], guard := none }) (v := ?_) rfl (by kernel_rfl) (by kernel_rfl) (by kernel_rfl) (fun _ _ _ h => h) (Or.inl ⟨by rfl, ?_⟩) (by assumption) ?_
    rotate_left 1
    · (intro wq hSw; (try dsimp only at hSw); go_simp; try with_reducible rfl)
    try simp only [Act.put, ly1, ly2, ly3]
    refine wpAnyH_take (i := 12) (oi := { dst := some 17, op := Op.move (Operand.tmp 16), type := 4, pos := "l05_meta.go:68", after := #[{ on := 11, ground := Ground.data }, { on := 10, ground := Ground.chain }], guard := none }) (v := ?_) rfl (by kernel_rfl) (by kernel_rfl) (by kernel_rfl) (fun _ _ _ h => h) (Or.inl ⟨by rfl, ?_⟩) (by assumption) ?_
    rotate_left 1
    · (intro wq hSw; (try dsimp only at hSw); go_simp; try with_reducible rfl)
    try simp only [Act.put, ly1, ly2, ly3]
    refine wpAnyH_take (i := 13) (oi := { dst := some 18, op := Op.fieldAddr 34 (Operand.tmp 2) 1, type := 0, pos := "l05_meta.go:68", after := #[{ on := 12, ground := Ground.guard }], guard := some (12, true) }) (v := undef) rfl (by kernel_rfl) (by kernel_rfl) (by kernel_rfl) (fun _ _ _ h => h) (Or.inr ⟨by rfl, rfl⟩) (by assumption) ?_
    try simp only [Act.put, ly1, ly2, ly3]
    refine wpAnyH_take (i := 14) (oi := { dst := some 19, op := Op.load 23 (Operand.tmp 18), type := 23, pos := "l05_meta.go:68", after := #[{ on := 13, ground := Ground.data }, { on := 12, ground := Ground.guard }], guard := some (12, true) }) (v := undef) rfl (by kernel_rfl) (by kernel_rfl) (by kernel_rfl) (fun _ _ _ h => h) (Or.inr ⟨by rfl, rfl⟩) (by assumption) ?_
    try simp only [Act.put, ly1, ly2, ly3]
    refine wpAnyH_take (i := 15) (oi := { dst := some 20, op := Op.fieldAddr 34 (Operand.tmp 3) 1, type := 0, pos := "l05_meta.go:68", after := #[{ on := 12, ground := Ground.guard }], guard := some (12, true) }) (v := undef) rfl (by kernel_rfl) (by kernel_rfl) (by kernel_rfl) (fun _ _ _ h => h) (Or.inr ⟨by rfl, rfl⟩) (by assumption) ?_
    try simp only [Act.put, ly1, ly2, ly3]
    refine wpAnyH_take (i := 16) (oi := { dst := some 21, op := Op.load 23 (Operand.tmp 20), type := 23, pos := "l05_meta.go:68", after := #[{ on := 15, ground := Ground.data }, { on := 12, ground := Ground.guard }], guard := some (12, true) }) (v := undef) rfl (by kernel_rfl) (by kernel_rfl) (by kernel_rfl) (fun _ _ _ h => h) (Or.inr ⟨by rfl, rfl⟩) (by assumption) ?_
    try simp only [Act.put, ly1, ly2, ly3]
    refine wpAnyH_take (i := 17) (oi := { dst := some 22, op := Op.call { callee := Callee.value (Operand.func 78), args := #[Operand.tmp 19, Operand.tmp 21, Operand.func 79], argTypes := #[23, 23, 39] }, type := 4, pos := "l05_meta.go:68", after := #[{ on := 14, ground := Ground.data }, { on := 16, ground := Ground.data }, { on := 12, ground := Ground.chain }, { on := 12, ground := Ground.guard }], guard := some (12, true) }) (v := undef) rfl (by kernel_rfl) (by kernel_rfl) (by kernel_rfl) (fun _ _ _ h => h) (Or.inr ⟨by rfl, rfl⟩) (by assumption) ?_
    try simp only [Act.put, ly1, ly2, ly3]
    refine wpAnyH_take (i := 18) (oi := { dst := some 23, op := Op.pick (Operand.tmp 17) (Operand.tmp 22) (Operand.const (Value.bool false)), type := 4, pos := "l05_meta.go:68", after := #[{ on := 12, ground := Ground.data }, { on := 17, ground := Ground.data }], guard := none }) (v := ?_) rfl (by kernel_rfl) (by kernel_rfl) (by kernel_rfl) (fun _ _ _ h => h) (Or.inl ⟨by rfl, ?_⟩) (by assumption) ?_
    rotate_left 1
    · (intro wq hSw; (try dsimp only at hSw); go_simp; try with_reducible rfl)
    try simp only [Act.put, ly1, ly2, ly3]
    refine wpAnyH_take (i := 19) (oi := { dst := some 4, op := Op.assign (Operand.tmp 23), type := 4, pos := "l05_meta.go:68", after := #[{ on := 18, ground := Ground.data }, { on := 17, ground := Ground.chain }, { on := 0, ground := Ground.phase }, { on := 1, ground := Ground.phase }, { on := 2, ground := Ground.phase }, { on := 3, ground := Ground.phase }, { on := 4, ground := Ground.phase }, { on := 5, ground := Ground.phase }, { on := 6, ground := Ground.phase }, { on := 7, ground := Ground.phase }, { on := 8, ground := Ground.phase }, { on := 9, ground := Ground.phase }, { on := 10, ground := Ground.phase }, { on := 11, ground := Ground.phase }, { on := 12, ground := Ground.phase }, { on := 13, ground := Ground.phase }, { on := 14, ground := Ground.phase }, { on := 15, ground := Ground.phase }, { on := 16, ground := Ground.phase }, { on := 17, ground := Ground.phase }, { on := 18, ground := Ground.phase }], guard := none }) (v := ?_) rfl (by kernel_rfl) (by kernel_rfl) (by kernel_rfl) (fun _ _ _ h => h) (Or.inl ⟨by rfl, ?_⟩) (by assumption) ?_
    rotate_left 1
    · (intro wq hSw; (try dsimp only at hSw); go_simp; try with_reducible rfl)
    try simp only [Act.put, ly1, ly2, ly3]
    refine wpAnyH_done (by kernel_rfl) ?_ _
    go_wp2
    go_ret
    exact Tells.no HN.out (H7.out.2.2.2.2)
  subst h4
  by_cases h5 : he = he'
  case neg =>
    have HN : Hid (¬ SmM g n L fi ol he la g' n' L' fi ol he' la') := fun x => h5 x.2.2.2.2.1
    have d1 : (he == he') = false := by simpa using h5
    obtain ⟨W, hW⟩ : ∃ W, W = ((w.alloc (.cells #[.slice go g.length gc, .slice bo n bc, .bool fi, .bool ol, .bool he, .int .i64 la] 34)).alloc (.cells #[.slice go' g'.length gc', .slice bo' n' bc', .bool fi, .bool ol, .bool he', .int .i64 la'] 34)) := ⟨_, rfl⟩
    have hb : Below w.heap.size w W := by rw [hW]; exact ((Below.refl _ _).alloc (Nat.le_refl _) _).alloc (by simp) _
    have M1 : KB W w.heap.size 34 go g.length gc bo n bc fi ol he la := by rw [hW]; exact (al2 w _ _).1
    have M2 : KB W (w.heap.size + 1) 34 go' g'.length gc' bo' n' bc' fi ol he' la' := by rw [hW]; exact (al2 w _ _).2.1
    have H5 : Hid (KB W.drew w.heap.size 34 go g.length gc bo n bc fi ol he la ∧ KB W.drew (w.heap.size + 1) 34 go' g'.length gc' bo' n' bc' fi ol he' la' ∧ MV W.drew go gc bo bc g n L ∧ MV W.drew go' gc' bo' bc' g' n' L' ∧ Below w.heap.size w W.drew) := ⟨M1, M2, hA.below (Below.drawn hb 1), hB.below (Below.drawn hb 1), Below.drawn hb 1⟩
    obtain ⟨m0, m1, m2, m3, m4, m5⟩ := M1.cells
    obtain ⟨x0, x1, x2, x3, x4, x5⟩ := M2.cells
    clear M1 M2 hb hA hB
    go_enter Tryz.func63, Tryz.ntmps63
    go_wp2_with fail
    rw [← hW]
    clear hW
    refine wp_region_held_drew (S := (fun w' => (w'.cell? ⟨w.heap.size, 0, none⟩ = some (.slice go g.length gc) ∧ w'.cell? ⟨w.heap.size, 1, none⟩ = some (.slice bo n bc) ∧ w'.cell? ⟨w.heap.size, 2, none⟩ = some (.bool fi) ∧ w'.cell? ⟨w.heap.size, 3, none⟩ = some (.bool ol) ∧ w'.cell? ⟨w.heap.size, 4, none⟩ = some (.bool he) ∧ w'.cell? ⟨w.heap.size, 5, none⟩ = some (.int .i64 la)) ∧ (w'.cell? ⟨w.heap.size + 1, 0, none⟩ = some (.slice go' g'.length gc') ∧ w'.cell? ⟨w.heap.size + 1, 1, none⟩ = some (.slice bo' n' bc') ∧ w'.cell? ⟨w.heap.size + 1, 2, none⟩ = some (.bool fi) ∧ w'.cell? ⟨w.heap.size + 1, 3, none⟩ = some (.bool ol) ∧ w'.cell? ⟨w.heap.size + 1, 4, none⟩ = some (.bool he') ∧ w'.cell? ⟨w.heap.size + 1, 5, none⟩ = some (.int .i64 la')))) (by kernel_rfl) ?_ (fun hHeld => ?_)
    · exact ⟨⟨m0, m1, m2, m3, m4, m5⟩, x0, x1, x2, x3, x4, x5⟩
    refine wpAnyH_take (i := 0) (oi := { dst := some 5, op := Op.load 34 (Operand.tmp 2), type := 34, pos := "l05_meta.go:68", after := #[], guard := none }) (v := ?_) rfl (by kernel_rfl) (by kernel_rfl) (by kernel_rfl) (fun _ _ _ h => h) (Or.inl ⟨by rfl, ?_⟩) (by assumption) ?_
    rotate_left 1
    · (intro wq hSw; (try dsimp only at hSw); go_simp; try with_reducible rfl)
    try simp only [Act.put, ly1, ly2, ly3]
    refine wpAnyH_take (i := 2) (oi := { dst := some 7, op := Op.load 34 (Operand.tmp 3), type := 34, pos := "l05_meta.go:68", after := #[], guard := none }) (v := ?_) rfl (by kernel_rfl) (by kernel_rfl) (by kernel_rfl) (fun _ _ _ h => h) (Or.inl ⟨by rfl, ?_⟩) (by assumption) ?_
    rotate_left 1
    · (intro wq hSw; (try dsimp only at hSw); go_simp; try with_reducible rfl)
    try simp only [Act.put, ly1, ly2, ly3]
    refine wpAnyH_ready (rs := [1]) (by kernel_rfl) (by simp) ?_
    refine AllReadyH.cons (o := { dst := some 6, op := Op.call { callee := Callee.value (Operand.func 76), args := #[Operand.tmp 5], argTypes := #[34] }, type := 91, pos := "l05_meta.go:68", after := #[{ on := 0, ground := Ground.data }], guard := none }) rfl (fun K hK => ?_) AllReadyH.nil
    go_simp
    refine (stateof _ _ _ _ _ _ _ _ _ _ _).mono ?_
    rintro e w6 ⟨rfl, b6⟩
    have H6 : Hid (KB w6 w.heap.size 34 go g.length gc bo n bc fi ol he la ∧ KB w6 (w.heap.size + 1) 34 go' g'.length gc' bo' n' bc' fi ol he' la' ∧ MV w6 go gc bo bc g n L ∧ MV w6 go' gc' bo' bc' g' n' L' ∧ Below w.heap.size w w6) := ⟨H5.out.1.b b6, H5.out.2.1.b b6, H5.out.2.2.1.below b6, H5.out.2.2.2.1.below b6, H5.out.2.2.2.2.trans (b6.mono H5.out.2.2.2.2.size)⟩
    have hk6 := And.intro H6.out.1.cells H6.out.2.1.cells
    clear b6
    go_wp2_with fail
    refine hK.out _ _ ?_ (fun hHeld => ?_)
    · exact hk6
    clear hK K
    try simp only [Act.put, ly1, ly2, ly3]
    refine wpAnyH_ready (rs := [3]) (by kernel_rfl) (by simp) ?_
    refine AllReadyH.cons (o := { dst := some 8, op := Op.call { callee := Callee.value (Operand.func 76), args := #[Operand.tmp 7], argTypes := #[34] }, type := 91, pos := "l05_meta.go:68", after := #[{ on := 2, ground := Ground.data }, { on := 1, ground := Ground.chain }], guard := none }) rfl (fun K hK => ?_) AllReadyH.nil
    go_simp
    refine (stateof _ _ _ _ _ _ _ _ _ _ _).mono ?_
    rintro e w7 ⟨rfl, b7⟩
    have H7 : Hid (KB w7 w.heap.size 34 go g.length gc bo n bc fi ol he la ∧ KB w7 (w.heap.size + 1) 34 go' g'.length gc' bo' n' bc' fi ol he' la' ∧ MV w7 go gc bo bc g n L ∧ MV w7 go' gc' bo' bc' g' n' L' ∧ Below w.heap.size w w7) := ⟨H6.out.1.b b7, H6.out.2.1.b b7, H6.out.2.2.1.below b7, H6.out.2.2.2.1.below b7, H6.out.2.2.2.2.trans (b7.mono H6.out.2.2.2.2.size)⟩
    have hk7 := And.intro H7.out.1.cells H7.out.2.1.cells
    clear b7
    go_wp2_with fail
    refine hK.out _ _ ?_ (fun hHeld => ?_)
    · exact hk7
    clear hK K
    try simp only [Act.put, ly1, ly2, ly3]
    refine wpAnyH_take (i := 4) (oi := { dst := some 9, op := Op.binOp BinOp.eql 91 (Operand.tmp 6) (Operand.tmp 8) 91, type := 4, pos := "l05_meta.go:68", after := #[{ on := 1, ground := Ground.data }, { on := 3, ground := Ground.data }], guard := none }) (v := ?_) rfl (by kernel_rfl) (by kernel_rfl) (by kernel_rfl) (fun _ _ _ h => h) (Or.inl ⟨by rfl, ?_⟩) (by assumption) ?_
    rotate_left 1
    · (intro wq hSw; (try dsimp only at hSw); go_simp; try with_reducible rfl)
    try simp only [Act.put, ly1, ly2, ly3]
    refine wpAnyH_take (i := 5) (oi := { dst := some 10, op := Op.move (Operand.tmp 9), type := 4, pos := "l05_meta.go:68", after := #[{ on := 4, ground := Ground.data }, { on := 3, ground := Ground.chain }], guard := none }) (v := ?_) rfl (by kernel_rfl) (by kernel_rfl) (by kernel_rfl) (fun _ _ _ h => h) (Or.inl ⟨by rfl, ?_⟩) (by assumption) ?_
    rotate_left 1
    · (intro wq hSw; (try dsimp only at hSw); go_simp; try with_reducible rfl)
    try simp only [Act.put, ly1, ly2, ly3]
    refine wpAnyH_take (i := 6) (oi := { dst := some 11, op := Op.fieldAddr 34 (Operand.tmp 2) 0, type := 0, pos := "l05_meta.go:68", after := #[{ on := 5, ground := Ground.guard }], guard := some (5, true) }) (v := undef) rfl (by kernel_rfl) (by kernel_rfl) (by kernel_rfl) (fun _ _ _ h => h) (Or.inr ⟨by rfl, rfl⟩) (by assumption) ?_
    try simp only [Act.put, ly1, ly2, ly3]
    refine wpAnyH_take (i := 7) (oi := { dst := some 12, op := Op.load 22 (Operand.tmp 11), type := 22, pos := "l05_meta.go:68", after := #[{ on := 6, ground := Ground.data }, { on := 5, ground := Ground.guard }], guard := some (5, true) }) (v := undef) rfl (by kernel_rfl) (by kernel_rfl) (by kernel_rfl) (fun _ _ _ h => h) (Or.inr ⟨by rfl, rfl⟩) (by assumption) ?_
    try simp only [Act.put, ly1, ly2, ly3]
    refine wpAnyH_take (i := 8) (oi := { dst := some 13, op := Op.fieldAddr 34 (Operand.tmp 3) 0, type := 0, pos := "l05_meta.go:68", after := #[{ on := 5, ground := Ground.guard }], guard := some (5, true) }) (v := undef) rfl (by kernel_rfl) (by kernel_rfl) (by kernel_rfl) (fun _ _ _ h => h) (Or.inr ⟨by rfl, rfl⟩) (by assumption) ?_
    try simp only [Act.put, ly1, ly2, ly3]
    refine wpAnyH_take (i := 9) (oi := { dst := some 14, op := Op.load 22 (Operand.tmp 13), type := 22, pos := "l05_meta.go:68", after := #[{ on := 8, ground := Ground.data }, { on := 5, ground := Ground.guard }], guard := some (5, true) }) (v := undef) rfl (by kernel_rfl) (by kernel_rfl) (by kernel_rfl) (fun _ _ _ h => h) (Or.inr ⟨by rfl, rfl⟩) (by assumption) ?_
    try simp only [Act.put, ly1, ly2, ly3]
    refine wpAnyH_take (i := 10) (oi := { dst := some 15, op := Op.call { callee := Callee.value (Operand.func 77), args := #[Operand.tmp 12, Operand.tmp 14], argTypes := #[22, 22] }, type := 4, pos := "l05_meta.go:68", after := #[{ on := 7, ground := Ground.data }, { on := 9, ground := Ground.data }, { on := 5, ground := Ground.chain }, { on := 5, ground := Ground.guard }], guard := some (5, true) }) (v := undef) rfl (by kernel_rfl) (by kernel_rfl) (by kernel_rfl) (fun _ _ _ h => h) (Or.inr ⟨by rfl, rfl⟩) (by assumption) ?_
    try simp only [Act.put, ly1, ly2, ly3]
    refine wpAnyH_take (i := 11) (oi := { dst := some 16, op := Op.pick (Operand.tmp 10) (Operand.tmp 15) (Operand.const (Value.bool false)), type := 4, pos := "l05_meta.go:68", after := #[{ on := 5, ground := Ground.data }, { on := 10, ground := Ground.data }], guard := none }) (v := ?_) rfl (by kernel_rfl) (by kernel_rfl) (by kernel_rfl) (fun _ _ _ h => h) (Or.inl ⟨by rfl, ?_⟩) (by assumption) ?_
    rotate_left 1
    · (intro wq hSw; (try dsimp only at hSw); go_simp; try with_reducible rfl)
    try simp only [Act.put, ly1, ly2, ly3]
    refine wpAnyH_take (i := 12) (oi := { dst := some 17, op := Op.move (Operand.tmp 16), type := 4, pos := "l05_meta.go:68", after := #[{ on := 11, ground := Ground.data }, { on := 10, ground := Ground.chain }], guard := none }) (v := ?_) rfl (by kernel_rfl) (by kernel_rfl) (by kernel_rfl) (fun _ _ _ h => h) (Or.inl ⟨by rfl, ?_⟩) (by assumption) ?_
    rotate_left 1
    · (intro wq hSw; (try dsimp only at hSw); go_simp; try with_reducible rfl)
    try simp only [Act.put, ly1, ly2, ly3]
    refine wpAnyH_take (i := 13) (oi := { dst := some 18, op := Op.fieldAddr 34 (Operand.tmp 2) 1, type := 0, pos := "l05_meta.go:68", after := #[{ on := 12, ground := Ground.guard }], guard := some (12, true) }) (v := undef) rfl (by kernel_rfl) (by kernel_rfl) (by kernel_rfl) (fun _ _ _ h => h) (Or.inr ⟨by rfl, rfl⟩) (by assumption) ?_
    try simp only [Act.put, ly1, ly2, ly3]
    refine wpAnyH_take (i := 14) (oi := { dst := some 19, op := Op.load 23 (Operand.tmp 18), type := 23, pos := "l05_meta.go:68", after := #[{ on := 13, ground := Ground.data }, { on := 12, ground := Ground.guard }], guard := some (12, true) }) (v := undef) rfl (by kernel_rfl) (by kernel_rfl) (by kernel_rfl) (fun _ _ _ h => h) (Or.inr ⟨by rfl, rfl⟩) (by assumption) ?_
    try simp only [Act.put, ly1, ly2, ly3]
    refine wpAnyH_take (i := 15) (oi := { dst := some 20, op := Op.fieldAddr 34 (Operand.tmp 3) 1, type := 0, pos := "l05_meta.go:68", after := #[{ on := 12, ground := Ground.guard }], guard := some (12, true) }) (v := undef) rfl (by kernel_rfl) (by kernel_rfl) (by kernel_rfl) (fun _ _ _ h => h) (Or.inr ⟨by rfl, rfl⟩) (by assumption) ?_
    try simp only [Act.put, ly1, ly2, ly3]
    refine wpAnyH_take (i := 16) (oi := { dst := some 21, op := Op.load 23 (Operand.tmp 20), type := 23, pos := "l05_meta.go:68", after := #[{ on := 15, ground := Ground.data }, { on := 12, ground := Ground.guard }], guard := some (12, true) }) (v := undef) rfl (by kernel_rfl) (by kernel_rfl) (by kernel_rfl) (fun _ _ _ h => h) (Or.inr ⟨by rfl, rfl⟩) (by assumption) ?_
    try simp only [Act.put, ly1, ly2, ly3]
    refine wpAnyH_take (i := 17) (oi := { dst := some 22, op := Op.call { callee := Callee.value (Operand.func 78), args := #[Operand.tmp 19, Operand.tmp 21, Operand.func 79], argTypes := #[23, 23, 39] }, type := 4, pos := "l05_meta.go:68", after := #[{ on := 14, ground := Ground.data }, { on := 16, ground := Ground.data }, { on := 12, ground := Ground.chain }, { on := 12, ground := Ground.guard }], guard := some (12, true) }) (v := undef) rfl (by kernel_rfl) (by kernel_rfl) (by kernel_rfl) (fun _ _ _ h => h) (Or.inr ⟨by rfl, rfl⟩) (by assumption) ?_
    try simp only [Act.put, ly1, ly2, ly3]
    refine wpAnyH_take (i := 18) (oi := { dst := some 23, op := Op.pick (Operand.tmp 17) (Operand.tmp 22) (Operand.const (Value.bool false)), type := 4, pos := "l05_meta.go:68", after := #[{ on := 12, ground := Ground.data }, { on := 17, ground := Ground.data }], guard := none }) (v := ?_) rfl (by kernel_rfl) (by kernel_rfl) (by kernel_rfl) (fun _ _ _ h => h) (Or.inl ⟨by rfl, ?_⟩) (by assumption) ?_
    rotate_left 1
    · (intro wq hSw; (try dsimp only at hSw); go_simp; try with_reducible rfl)
    try simp only [Act.put, ly1, ly2, ly3]
    refine wpAnyH_take (i := 19) (oi := { dst := some 4, op := Op.assign (Operand.tmp 23), type := 4, pos := "l05_meta.go:68", after := #[{ on := 18, ground := Ground.data }, { on := 17, ground := Ground.chain }, { on := 0, ground := Ground.phase }, { on := 1, ground := Ground.phase }, { on := 2, ground := Ground.phase }, { on := 3, ground := Ground.phase }, { on := 4, ground := Ground.phase }, { on := 5, ground := Ground.phase }, { on := 6, ground := Ground.phase }, { on := 7, ground := Ground.phase }, { on := 8, ground := Ground.phase }, { on := 9, ground := Ground.phase }, { on := 10, ground := Ground.phase }, { on := 11, ground := Ground.phase }, { on := 12, ground := Ground.phase }, { on := 13, ground := Ground.phase }, { on := 14, ground := Ground.phase }, { on := 15, ground := Ground.phase }, { on := 16, ground := Ground.phase }, { on := 17, ground := Ground.phase }, { on := 18, ground := Ground.phase }], guard := none }) (v := ?_) rfl (by kernel_rfl) (by kernel_rfl) (by kernel_rfl) (fun _ _ _ h => h) (Or.inl ⟨by rfl, ?_⟩) (by assumption) ?_
    rotate_left 1
    · (intro wq hSw; (try dsimp only at hSw); go_simp; try with_reducible rfl)
    try simp only [Act.put, ly1, ly2, ly3]
    refine wpAnyH_done (by kernel_rfl) ?_ _
    go_wp2
    go_ret
    exact Tells.no HN.out (H7.out.2.2.2.2)
  subst h5
  by_cases h6 : la = la'
  case neg =>
    have HN : Hid (¬ SmM g n L fi ol he la g' n' L' fi ol he la') := fun x => h6 x.2.2.2.2.2.1
    obtain ⟨W, hW⟩ : ∃ W, W = ((w.alloc (.cells #[.slice go g.length gc, .slice bo n bc, .bool fi, .bool ol, .bool he, .int .i64 la] 34)).alloc (.cells #[.slice go' g'.length gc', .slice bo' n' bc', .bool fi, .bool ol, .bool he, .int .i64 la'] 34)) := ⟨_, rfl⟩
    have hb : Below w.heap.size w W := by rw [hW]; exact ((Below.refl _ _).alloc (Nat.le_refl _) _).alloc (by simp) _
    have M1 : KB W w.heap.size 34 go g.length gc bo n bc fi ol he la := by rw [hW]; exact (al2 w _ _).1
    have M2 : KB W (w.heap.size + 1) 34 go' g'.length gc' bo' n' bc' fi ol he la' := by rw [hW]; exact (al2 w _ _).2.1
    have H5 : Hid (KB W.drew w.heap.size 34 go g.length gc bo n bc fi ol he la ∧ KB W.drew (w.heap.size + 1) 34 go' g'.length gc' bo' n' bc' fi ol he la' ∧ MV W.drew go gc bo bc g n L ∧ MV W.drew go' gc' bo' bc' g' n' L' ∧ Below w.heap.size w W.drew) := ⟨M1, M2, hA.below (Below.drawn hb 1), hB.below (Below.drawn hb 1), Below.drawn hb 1⟩
    obtain ⟨m0, m1, m2, m3, m4, m5⟩ := M1.cells
    obtain ⟨x0, x1, x2, x3, x4, x5⟩ := M2.cells
    clear M1 M2 hb hA hB
    go_enter Tryz.func63, Tryz.ntmps63
    go_wp2_with fail
    rw [← hW]
    clear hW
    refine wp_region_held_drew (S := (fun w' => (w'.cell? ⟨w.heap.size, 0, none⟩ = some (.slice go g.length gc) ∧ w'.cell? ⟨w.heap.size, 1, none⟩ = some (.slice bo n bc) ∧ w'.cell? ⟨w.heap.size, 2, none⟩ = some (.bool fi) ∧ w'.cell? ⟨w.heap.size, 3, none⟩ = some (.bool ol) ∧ w'.cell? ⟨w.heap.size, 4, none⟩ = some (.bool he) ∧ w'.cell? ⟨w.heap.size, 5, none⟩ = some (.int .i64 la)) ∧ (w'.cell? ⟨w.heap.size + 1, 0, none⟩ = some (.slice go' g'.length gc') ∧ w'.cell? ⟨w.heap.size + 1, 1, none⟩ = some (.slice bo' n' bc') ∧ w'.cell? ⟨w.heap.size + 1, 2, none⟩ = some (.bool fi) ∧ w'.cell? ⟨w.heap.size + 1, 3, none⟩ = some (.bool ol) ∧ w'.cell? ⟨w.heap.size + 1, 4, none⟩ = some (.bool he) ∧ w'.cell? ⟨w.heap.size + 1, 5, none⟩ = some (.int .i64 la')))) (by kernel_rfl) ?_ (fun hHeld => ?_)
    · exact ⟨⟨m0, m1, m2, m3, m4, m5⟩, x0, x1, x2, x3, x4, x5⟩
    refine wpAnyH_take (i := 0) (oi := { dst := some 5, op := Op.load 34 (Operand.tmp 2), type := 34, pos := "l05_meta.go:68", after := #[], guard := none }) (v := ?_) rfl (by kernel_rfl) (by kernel_rfl) (by kernel_rfl) (fun _ _ _ h => h) (Or.inl ⟨by rfl, ?_⟩) (by assumption) ?_
    rotate_left 1
    · (intro wq hSw; (try dsimp only at hSw); go_simp; try with_reducible rfl)
    try simp only [Act.put, ly1, ly2, ly3]
    refine wpAnyH_take (i := 2) (oi := { dst := some 7, op := Op.load 34 (Operand.tmp 3), type := 34, pos := "l05_meta.go:68", after := #[], guard := none }) (v := ?_) rfl (by kernel_rfl) (by kernel_rfl) (by kernel_rfl) (fun _ _ _ h => h) (Or.inl ⟨by rfl, ?_⟩) (by assumption) ?_
    rotate_left 1
    · (intro wq hSw; (try dsimp only at hSw); go_simp; try with_reducible rfl)
    try simp only [Act.put, ly1, ly2, ly3]
    refine wpAnyH_ready (rs := [1]) (by kernel_rfl) (by simp) ?_
    refine AllReadyH.cons (o := { dst := some 6, op := Op.call { callee := Callee.value (Operand.func 76), args := #[Operand.tmp 5], argTypes := #[34] }, type := 91, pos := "l05_meta.go:68", after := #[{ on := 0, ground := Ground.data }], guard := none }) rfl (fun K hK => ?_) AllReadyH.nil
    go_simp
    refine (stateof _ _ _ _ _ _ _ _ _ _ _).mono ?_
    rintro e w6 ⟨rfl, b6⟩
    have H6 : Hid (KB w6 w.heap.size 34 go g.length gc bo n bc fi ol he la ∧ KB w6 (w.heap.size + 1) 34 go' g'.length gc' bo' n' bc' fi ol he la' ∧ MV w6 go gc bo bc g n L ∧ MV w6 go' gc' bo' bc' g' n' L' ∧ Below w.heap.size w w6) := ⟨H5.out.1.b b6, H5.out.2.1.b b6, H5.out.2.2.1.below b6, H5.out.2.2.2.1.below b6, H5.out.2.2.2.2.trans (b6.mono H5.out.2.2.2.2.size)⟩
    have hk6 := And.intro H6.out.1.cells H6.out.2.1.cells
    clear b6
    go_wp2_with fail
    refine hK.out _ _ ?_ (fun hHeld => ?_)
    · exact hk6
    clear hK K
    try simp only [Act.put, ly1, ly2, ly3]
    refine wpAnyH_ready (rs := [3]) (by kernel_rfl) (by simp) ?_
    refine AllReadyH.cons (o := { dst := some 8, op := Op.call { callee := Callee.value (Operand.func 76), args := #[Operand.tmp 7], argTypes := #[34] }, type := 91, pos := "l05_meta.go:68", after := #[{ on := 2, ground := Ground.data }, { on := 1, ground := Ground.chain }], guard := none }) rfl (fun K hK => ?_) AllReadyH.nil
    go_simp
    refine (stateof _ _ _ _ _ _ _ _ _ _ _).mono ?_
    rintro e w7 ⟨rfl, b7⟩
    have H7 : Hid (KB w7 w.heap.size 34 go g.length gc bo n bc fi ol he la ∧ KB w7 (w.heap.size + 1) 34 go' g'.length gc' bo' n' bc' fi ol he la' ∧ MV w7 go gc bo bc g n L ∧ MV w7 go' gc' bo' bc' g' n' L' ∧ Below w.heap.size w w7) := ⟨H6.out.1.b b7, H6.out.2.1.b b7, H6.out.2.2.1.below b7, H6.out.2.2.2.1.below b7, H6.out.2.2.2.2.trans (b7.mono H6.out.2.2.2.2.size)⟩
    have hk7 := And.intro H7.out.1.cells H7.out.2.1.cells
    clear b7
    go_wp2_with fail
    refine hK.out _ _ ?_ (fun hHeld => ?_)
    · exact hk7
    clear hK K
    try simp only [Act.put, ly1, ly2, ly3]
    refine wpAnyH_take (i := 4) (oi := { dst := some 9, op := Op.binOp BinOp.eql 91 (Operand.tmp 6) (Operand.tmp 8) 91, type := 4, pos := "l05_meta.go:68", after := #[{ on := 1, ground := Ground.data }, { on := 3, ground := Ground.data }], guard := none }) (v := ?_) rfl (by kernel_rfl) (by kernel_rfl) (by kernel_rfl) (fun _ _ _ h => h) (Or.inl ⟨by rfl, ?_⟩) (by assumption) ?_
    rotate_left 1
    · (intro wq hSw; (try dsimp only at hSw); go_simp; try with_reducible rfl)
    try simp only [Act.put, ly1, ly2, ly3]
    refine wpAnyH_take (i := 5) (oi := { dst := some 10, op := Op.move (Operand.tmp 9), type := 4, pos := "l05_meta.go:68", after := #[{ on := 4, ground := Ground.data }, { on := 3, ground := Ground.chain }], guard := none }) (v := ?_) rfl (by kernel_rfl) (by kernel_rfl) (by kernel_rfl) (fun _ _ _ h => h) (Or.inl ⟨by rfl, ?_⟩) (by assumption) ?_
    rotate_left 1
    · (intro wq hSw; (try dsimp only at hSw); go_simp; try with_reducible rfl)
    try simp only [Act.put, ly1, ly2, ly3]
    refine wpAnyH_take (i := 6) (oi := { dst := some 11, op := Op.fieldAddr 34 (Operand.tmp 2) 0, type := 0, pos := "l05_meta.go:68", after := #[{ on := 5, ground := Ground.guard }], guard := some (5, true) }) (v := undef) rfl (by kernel_rfl) (by kernel_rfl) (by kernel_rfl) (fun _ _ _ h => h) (Or.inr ⟨by rfl, rfl⟩) (by assumption) ?_
    try simp only [Act.put, ly1, ly2, ly3]
    refine wpAnyH_take (i := 7) (oi := { dst := some 12, op := Op.load 22 (Operand.tmp 11), type := 22, pos := "l05_meta.go:68", after := #[{ on := 6, ground := Ground.data }, { on := 5, ground := Ground.guard }], guard := some (5, true) }) (v := undef) rfl (by kernel_rfl) (by kernel_rfl) (by kernel_rfl) (fun _ _ _ h => h) (Or.inr ⟨by rfl, rfl⟩) (by assumption) ?_
    try simp only [Act.put, ly1, ly2, ly3]
    refine wpAnyH_take (i := 8) (oi := { dst := some 13, op := Op.fieldAddr 34 (Operand.tmp 3) 0, type := 0, pos := "l05_meta.go:68", after := #[{ on := 5, ground := Ground.guard }], guard := some (5, true) }) (v := undef) rfl (by kernel_rfl) (by kernel_rfl) (by kernel_rfl) (fun _ _ _ h => h) (Or.inr ⟨by rfl, rfl⟩) (by assumption) ?_
    try simp only [Act.put, ly1, ly2, ly3]
    refine wpAnyH_take (i := 9) (oi := { dst := some 14, op := Op.load 22 (Operand.tmp 13), type := 22, pos := "l05_meta.go:68", after := #[{ on := 8, ground := Ground.data }, { on := 5, ground := Ground.guard }], guard := some (5, true) }) (v := undef) rfl (by kernel_rfl) (by kernel_rfl) (by kernel_rfl) (fun _ _ _ h => h) (Or.inr ⟨by rfl, rfl⟩) (by assumption) ?_
    try simp only [Act.put, ly1, ly2, ly3]
    refine wpAnyH_take (i := 10) (oi := { dst := some 15, op := Op.call { callee := Callee.value (Operand.func 77), args := #[Operand.tmp 12, Operand.tmp 14], argTypes := #[22, 22] }, type := 4, pos := "l05_meta.go:68", after := #[{ on := 7, ground := Ground.data }, { on := 9, ground := Ground.data }, { on := 5, ground := Ground.chain }, { on := 5, ground := Ground.guard }], guard := some (5, true) }) (v := undef) rfl (by kernel_rfl) (by kernel_rfl) (by kernel_rfl) (fun _ _ _ h => h) (Or.inr ⟨by rfl, rfl⟩) (by assumption) ?_
    try simp only [Act.put, ly1, ly2, ly3]
    refine wpAnyH_take (i := 11) (oi := { dst := some 16, op := Op.pick (Operand.tmp 10) (Operand.tmp 15) (Operand.const (Value.bool false)), type := 4, pos := "l05_meta.go:68", after := #[{ on := 5, ground := Ground.data }, { on := 10, ground := Ground.data }], guard := none }) (v := ?_) rfl (by kernel_rfl) (by kernel_rfl) (by kernel_rfl) (fun _ _ _ h => h) (Or.inl ⟨by rfl, ?_⟩) (by assumption) ?_
    rotate_left 1
    · (intro wq hSw; (try dsimp only at hSw); go_simp; try with_reducible rfl)
    try simp only [Act.put, ly1, ly2, ly3]
    refine wpAnyH_take (i := 12) (oi := { dst := some 17, op := Op.move (Operand.tmp 16), type := 4, pos := "l05_meta.go:68", after := #[{ on := 11, ground := Ground.data }, { on := 10, ground := Ground.chain }], guard := none }) (v := ?_) rfl (by kernel_rfl) (by kernel_rfl) (by kernel_rfl) (fun _ _ _ h => h) (Or.inl ⟨by rfl, ?_⟩) (by assumption) ?_
    rotate_left 1
    · (intro wq hSw; (try dsimp only at hSw); go_simp; try with_reducible rfl)
    try simp only [Act.put, ly1, ly2, ly3]
    refine wpAnyH_take (i := 13) (oi := { dst := some 18, op := Op.fieldAddr 34 (Operand.tmp 2) 1, type := 0, pos := "l05_meta.go:68", after := #[{ on := 12, ground := Ground.guard }], guard := some (12, true) }) (v := undef) rfl (by kernel_rfl) (by kernel_rfl) (by kernel_rfl) (fun _ _ _ h => h) (Or.inr ⟨by rfl, rfl⟩) (by assumption) ?_
    try simp only [Act.put, ly1, ly2, ly3]
    refine wpAnyH_take (i := 14) (oi := { dst := some 19, op := Op.load 23 (Operand.tmp 18), type := 23, pos := "l05_meta.go:68", after := #[{ on := 13, ground := Ground.data }, { on := 12, ground := Ground.guard }], guard := some (12, true) }) (v := undef) rfl (by kernel_rfl) (by kernel_rfl) (by kernel_rfl) (fun _ _ _ h => h) (Or.inr ⟨by rfl, rfl⟩) (by assumption) ?_
    try simp only [Act.put, ly1, ly2, ly3]
    refine wpAnyH_take (i := 15) (oi := { dst := some 20, op := Op.fieldAddr 34 (Operand.tmp 3) 1, type := 0, pos := "l05_meta.go:68", after := #[{ on := 12, ground := Ground.guard }], guard := some (12, true) }) (v := undef) rfl (by kernel_rfl) (by kernel_rfl) (by kernel_rfl) (fun _ _ _ h => h) (Or.inr ⟨by rfl, rfl⟩) (by assumption) ?_
    try simp only [Act.put, ly1, ly2, ly3]
    refine wpAnyH_take (i := 16) (oi := { dst := some 21, op := Op.load 23 (Operand.tmp 20), type := 23, pos := "l05_meta.go:68", after := #[{ on := 15, ground := Ground.data }, { on := 12, ground := Ground.guard }], guard := some (12, true) }) (v := undef) rfl (by kernel_rfl) (by kernel_rfl) (by kernel_rfl) (fun _ _ _ h => h) (Or.inr ⟨by rfl, rfl⟩) (by assumption) ?_
    try simp only [Act.put, ly1, ly2, ly3]
    refine wpAnyH_take (i := 17) (oi := { dst := some 22, op := Op.call { callee := Callee.value (Operand.func 78), args := #[Operand.tmp 19, Operand.tmp 21, Operand.func 79], argTypes := #[23, 23, 39] }, type := 4, pos := "l05_meta.go:68", after := #[{ on := 14, ground := Ground.data }, { on := 16, ground := Ground.data }, { on := 12, ground := Ground.chain }, { on := 12, ground := Ground.guard }], guard := some (12, true) }) (v := undef) rfl (by kernel_rfl) (by kernel_rfl) (by kernel_rfl) (fun _ _ _ h => h) (Or.inr ⟨by rfl, rfl⟩) (by assumption) ?_
    try simp only [Act.put, ly1, ly2, ly3]
    refine wpAnyH_take (i := 18) (oi := { dst := some 23, op := Op.pick (Operand.tmp 17) (Operand.tmp 22) (Operand.const (Value.bool false)), type := 4, pos := "l05_meta.go:68", after := #[{ on := 12, ground := Ground.data }, { on := 17, ground := Ground.data }], guard := none }) (v := ?_) rfl (by kernel_rfl) (by kernel_rfl) (by kernel_rfl) (fun _ _ _ h => h) (Or.inl ⟨by rfl, ?_⟩) (by assumption) ?_
    rotate_left 1
    · (intro wq hSw; (try dsimp only at hSw); go_simp; try with_reducible rfl)
    try simp only [Act.put, ly1, ly2, ly3]
    refine wpAnyH_take (i := 19) (oi := { dst := some 4, op := Op.assign (Operand.tmp 23), type := 4, pos := "l05_meta.go:68", after := #[{ on := 18, ground := Ground.data }, { on := 17, ground := Ground.chain }, { on := 0, ground := Ground.phase }, { on := 1, ground := Ground.phase }, { on := 2, ground := Ground.phase }, { on := 3, ground := Ground.phase }, { on := 4, ground := Ground.phase }, { on := 5, ground := Ground.phase }, { on := 6, ground := Ground.phase }, { on := 7, ground := Ground.phase }, { on := 8, ground := Ground.phase }, { on := 9, ground := Ground.phase }, { on := 10, ground := Ground.phase }, { on := 11, ground := Ground.phase }, { on := 12, ground := Ground.phase }, { on := 13, ground := Ground.phase }, { on := 14, ground := Ground.phase }, { on := 15, ground := Ground.phase }, { on := 16, ground := Ground.phase }, { on := 17, ground := Ground.phase }, { on := 18, ground := Ground.phase }], guard := none }) (v := ?_) rfl (by kernel_rfl) (by kernel_rfl) (by kernel_rfl) (fun _ _ _ h => h) (Or.inl ⟨by rfl, ?_⟩) (by assumption) ?_
    rotate_left 1
    · (intro wq hSw; (try dsimp only at hSw); go_simp; try with_reducible rfl)
    try simp only [Act.put, ly1, ly2, ly3]
    refine wpAnyH_done (by kernel_rfl) ?_ _
    go_wp2
    go_ret
    exact Tells.no HN.out (H7.out.2.2.2.2)
  subst h6
  by_cases h2 : g = g'
  case neg =>
    have HN : Hid (¬ SmM g n L fi ol he la g' n' L' fi ol he la) := fun x => h2 x.2.1
    have HG := hide h2
    clear h2
    obtain ⟨W, hW⟩ : ∃ W, W = ((w.alloc (.cells #[.slice go g.length gc, .slice bo n bc, .bool fi, .bool ol, .bool he, .int .i64 la] 34)).alloc (.cells #[.slice go' g'.length gc', .slice bo' n' bc', .bool fi, .bool ol, .bool he, .int .i64 la] 34)) := ⟨_, rfl⟩
    have hb : Below w.heap.size w W := by rw [hW]; exact ((Below.refl _ _).alloc (Nat.le_refl _) _).alloc (by simp) _
    have M1 : KB W w.heap.size 34 go g.length gc bo n bc fi ol he la := by rw [hW]; exact (al2 w _ _).1
    have M2 : KB W (w.heap.size + 1) 34 go' g'.length gc' bo' n' bc' fi ol he la := by rw [hW]; exact (al2 w _ _).2.1
    have H5 : Hid (KB W.drew w.heap.size 34 go g.length gc bo n bc fi ol he la ∧ KB W.drew (w.heap.size + 1) 34 go' g'.length gc' bo' n' bc' fi ol he la ∧ MV W.drew go gc bo bc g n L ∧ MV W.drew go' gc' bo' bc' g' n' L' ∧ Below w.heap.size w W.drew) := ⟨M1, M2, hA.below (Below.drawn hb 1), hB.below (Below.drawn hb 1), Below.drawn hb 1⟩
    obtain ⟨m0, m1, m2, m3, m4, m5⟩ := M1.cells
    obtain ⟨x0, x1, x2, x3, x4, x5⟩ := M2.cells
    clear M1 M2 hb hA hB
    go_enter Tryz.func63, Tryz.ntmps63
    go_wp2_with fail
    rw [← hW]
    clear hW
    refine wp_region_held_drew (S := (fun w' => (w'.cell? ⟨w.heap.size, 0, none⟩ = some (.slice go g.length gc) ∧ w'.cell? ⟨w.heap.size, 1, none⟩ = some (.slice bo n bc) ∧ w'.cell? ⟨w.heap.size, 2, none⟩ = some (.bool fi) ∧ w'.cell? ⟨w.heap.size, 3, none⟩ = some (.bool ol) ∧ w'.cell? ⟨w.heap.size, 4, none⟩ = some (.bool he) ∧ w'.cell? ⟨w.heap.size, 5, none⟩ = some (.int .i64 la)) ∧ (w'.cell? ⟨w.heap.size + 1, 0, none⟩ = some (.slice go' g'.length gc') ∧ w'.cell? ⟨w.heap.size + 1, 1, none⟩ = some (.slice bo' n' bc') ∧ w'.cell? ⟨w.heap.size + 1, 2, none⟩ = some (.bool fi) ∧ w'.cell? ⟨w.heap.size + 1, 3, none⟩ = some (.bool ol) ∧ w'.cell? ⟨w.heap.size + 1, 4, none⟩ = some (.bool he) ∧ w'.cell? ⟨w.heap.size + 1, 5, none⟩ = some (.int .i64 la)))) (by kernel_rfl) ?_ (fun hHeld => ?_)
    · exact ⟨⟨m0, m1, m2, m3, m4, m5⟩, x0, x1, x2, x3, x4, x5⟩
    refine wpAnyH_take (i := 0) (oi := { dst := some 5, op := Op.load 34 (Operand.tmp 2), type := 34, pos := "l05_meta.go:68", after := #[], guard := none }) (v := ?_) rfl (by kernel_rfl) (by kernel_rfl) (by kernel_rfl) (fun _ _ _ h => h) (Or.inl ⟨by rfl, ?_⟩) (by assumption) ?_
    rotate_left 1
    · (intro wq hSw; (try dsimp only at hSw); go_simp; try with_reducible rfl)
    try simp only [Act.put, ly1, ly2, ly3]
    refine wpAnyH_take (i := 2) (oi := { dst := some 7, op := Op.load 34 (Operand.tmp 3), type := 34, pos := "l05_meta.go:68", after := #[], guard := none }) (v := ?_) rfl (by kernel_rfl) (by kernel_rfl) (by kernel_rfl) (fun _ _ _ h => h) (Or.inl ⟨by rfl, ?_⟩) (by assumption) ?_
    rotate_left 1
    · (intro wq hSw; (try dsimp only at hSw); go_simp; try with_reducible rfl)
    try simp only [Act.put, ly1, ly2, ly3]
    refine wpAnyH_ready (rs := [1]) (by kernel_rfl) (by simp) ?_
    refine AllReadyH.cons (o := { dst := some 6, op := Op.call { callee := Callee.value (Operand.func 76), args := #[Operand.tmp 5], argTypes := #[34] }, type := 91, pos := "l05_meta.go:68", after := #[{ on := 0, ground := Ground.data }], guard := none }) rfl (fun K hK => ?_) AllReadyH.nil
    go_simp
    refine (stateof _ _ _ _ _ _ _ _ _ _ _).mono ?_
    rintro e w6 ⟨rfl, b6⟩
    have H6 : Hid (KB w6 w.heap.size 34 go g.length gc bo n bc fi ol he la ∧ KB w6 (w.heap.size + 1) 34 go' g'.length gc' bo' n' bc' fi ol he la ∧ MV w6 go gc bo bc g n L ∧ MV w6 go' gc' bo' bc' g' n' L' ∧ Below w.heap.size w w6) := ⟨H5.out.1.b b6, H5.out.2.1.b b6, H5.out.2.2.1.below b6, H5.out.2.2.2.1.below b6, H5.out.2.2.2.2.trans (b6.mono H5.out.2.2.2.2.size)⟩
    have hk6 := And.intro H6.out.1.cells H6.out.2.1.cells
    clear b6
    go_wp2_with fail
    refine hK.out _ _ ?_ (fun hHeld => ?_)
    · exact hk6
    clear hK K
    try simp only [Act.put, ly1, ly2, ly3]
    refine wpAnyH_ready (rs := [3]) (by kernel_rfl) (by simp) ?_
    refine AllReadyH.cons (o := { dst := some 8, op := Op.call { callee := Callee.value (Operand.func 76), args := #[Operand.tmp 7], argTypes := #[34] }, type := 91, pos := "l05_meta.go:68", after := #[{ on := 2, ground := Ground.data }, { on := 1, ground := Ground.chain }], guard := none }) rfl (fun K hK => ?_) AllReadyH.nil
    go_simp
    refine (stateof _ _ _ _ _ _ _ _ _ _ _).mono ?_
    rintro e w7 ⟨rfl, b7⟩
    have H7 : Hid (KB w7 w.heap.size 34 go g.length gc bo n bc fi ol he la ∧ KB w7 (w.heap.size + 1) 34 go' g'.length gc' bo' n' bc' fi ol he la ∧ MV w7 go gc bo bc g n L ∧ MV w7 go' gc' bo' bc' g' n' L' ∧ Below w.heap.size w w7) := ⟨H6.out.1.b b7, H6.out.2.1.b b7, H6.out.2.2.1.below b7, H6.out.2.2.2.1.below b7, H6.out.2.2.2.2.trans (b7.mono H6.out.2.2.2.2.size)⟩
    have hk7 := And.intro H7.out.1.cells H7.out.2.1.cells
    clear b7
    go_wp2_with fail
    refine hK.out _ _ ?_ (fun hHeld => ?_)
    · exact hk7
    clear hK K
    try simp only [Act.put, ly1, ly2, ly3]
    refine wpAnyH_take (i := 4) (oi := { dst := some 9, op := Op.binOp BinOp.eql 91 (Operand.tmp 6) (Operand.tmp 8) 91, type := 4, pos := "l05_meta.go:68", after := #[{ on := 1, ground := Ground.data }, { on := 3, ground := Ground.data }], guard := none }) (v := ?_) rfl (by kernel_rfl) (by kernel_rfl) (by kernel_rfl) (fun _ _ _ h => h) (Or.inl ⟨by rfl, ?_⟩) (by assumption) ?_
    rotate_left 1
    · (intro wq hSw; (try dsimp only at hSw); go_simp; try with_reducible rfl)
    try simp only [Act.put, ly1, ly2, ly3]
    refine wpAnyH_take (i := 5) (oi := { dst := some 10, op := Op.move (Operand.tmp 9), type := 4, pos := "l05_meta.go:68", after := #[{ on := 4, ground := Ground.data }, { on := 3, ground := Ground.chain }], guard := none }) (v := ?_) rfl (by kernel_rfl) (by kernel_rfl) (by kernel_rfl) (fun _ _ _ h => h) (Or.inl ⟨by rfl, ?_⟩) (by assumption) ?_
    rotate_left 1
    · (intro wq hSw; (try dsimp only at hSw); go_simp; try with_reducible rfl)
    try simp only [Act.put, ly1, ly2, ly3]
    refine wpAnyH_take (i := 6) (oi := { dst := some 11, op := Op.fieldAddr 34 (Operand.tmp 2) 0, type := 0, pos := "l05_meta.go:68", after := #[{ on := 5, ground := Ground.guard }], guard := some (5, true) }) (v := ?_) rfl (by kernel_rfl) (by kernel_rfl) (by kernel_rfl) (fun _ _ _ h => h) (Or.inl ⟨by rfl, ?_⟩) (by assumption) ?_
    rotate_left 1
    · (intro wq hSw; (try dsimp only at hSw); go_simp; try with_reducible rfl)
    try simp only [Act.put, ly1, ly2, ly3]
    refine wpAnyH_take (i := 7) (oi := { dst := some 12, op := Op.load 22 (Operand.tmp 11), type := 22, pos := "l05_meta.go:68", after := #[{ on := 6, ground := Ground.data }, { on := 5, ground := Ground.guard }], guard := some (5, true) }) (v := ?_) rfl (by kernel_rfl) (by kernel_rfl) (by kernel_rfl) (fun _ _ _ h => h) (Or.inl ⟨by rfl, ?_⟩) (by assumption) ?_
    rotate_left 1
    · (intro wq hSw; (try dsimp only at hSw); go_simp; try with_reducible rfl)
    try simp only [Act.put, ly1, ly2, ly3]
    refine wpAnyH_take (i := 8) (oi := { dst := some 13, op := Op.fieldAddr 34 (Operand.tmp 3) 0, type := 0, pos := "l05_meta.go:68", after := #[{ on := 5, ground := Ground.guard }], guard := some (5, true) }) (v := ?_) rfl (by kernel_rfl) (by kernel_rfl) (by kernel_rfl) (fun _ _ _ h => h) (Or.inl ⟨by rfl, ?_⟩) (by assumption) ?_
    rotate_left 1
    · (intro wq hSw; (try dsimp only at hSw); go_simp; try with_reducible rfl)
    try simp only [Act.put, ly1, ly2, ly3]
    refine wpAnyH_take (i := 9) (oi := { dst := some 14, op := Op.load 22 (Operand.tmp 13), type := 22, pos := "l05_meta.go:68", after := #[{ on := 8, ground := Ground.data }, { on := 5, ground := Ground.guard }], guard := some (5, true) }) (v := ?_) rfl (by kernel_rfl) (by kernel_rfl) (by kernel_rfl) (fun _ _ _ h => h) (Or.inl ⟨by rfl, ?_⟩) (by assumption) ?_
    rotate_left 1
    · (intro wq hSw; (try dsimp only at hSw); go_simp; try with_reducible rfl)
    try simp only [Act.put, ly1, ly2, ly3]
    refine wpAnyH_ready (rs := [10]) (by kernel_rfl) (by simp) ?_
    refine AllReadyH.cons (o := { dst := some 15, op := Op.call { callee := Callee.value (Operand.func 77), args := #[Operand.tmp 12, Operand.tmp 14], argTypes := #[22, 22] }, type := 4, pos := "l05_meta.go:68", after := #[{ on := 7, ground := Ground.data }, { on := 9, ground := Ground.data }, { on := 5, ground := Ground.chain }, { on := 5, ground := Ground.guard }], guard := some (5, true) }) rfl (fun K hK => ?_) AllReadyH.nil
    go_simp
    refine (leq_no go go' gc gc' g g' _ hd.1 H7.out.2.2.1.2.1 H7.out.2.2.2.1.2.1 HG.out).mono ?_
    rintro e w8 ⟨rfl, q8, hw8⟩
    have b8 : Below w7.heap.size w7 w8 := hw8 ▸ Below.drawn (Below.refl _ _) q8
    clear hw8
    have H8 : Hid (KB w8 w.heap.size 34 go g.length gc bo n bc fi ol he la ∧ KB w8 (w.heap.size + 1) 34 go' g'.length gc' bo' n' bc' fi ol he la ∧ MV w8 go gc bo bc g n L ∧ MV w8 go' gc' bo' bc' g' n' L' ∧ Below w.heap.size w w8) := ⟨H7.out.1.b b8, H7.out.2.1.b b8, H7.out.2.2.1.below b8, H7.out.2.2.2.1.below b8, H7.out.2.2.2.2.trans (b8.mono H7.out.2.2.2.2.size)⟩
    have hk8 := And.intro H8.out.1.cells H8.out.2.1.cells
    clear b8
    go_wp2_with fail
    refine hK.out _ _ ?_ (fun hHeld => ?_)
    · exact hk8
    clear hK K
    try simp only [Act.put, ly1, ly2, ly3]
    refine wpAnyH_take (i := 11) (oi := { dst := some 16, op := Op.pick (Operand.tmp 10) (Operand.tmp 15) (Operand.const (Value.bool false)), type := 4, pos := "l05_meta.go:68", after := #[{ on := 5, ground := Ground.data }, { on := 10, ground := Ground.data }], guard := none }) (v := ?_) rfl (by kernel_rfl) (by kernel_rfl) (by kernel_rfl) (fun _ _ _ h => h) (Or.inl ⟨by rfl, ?_⟩) (by assumption) ?_
    rotate_left 1
    · (intro wq hSw; (try dsimp only at hSw); go_simp; try with_reducible rfl)
    try simp only [Act.put, ly1, ly2, ly3]
    refine wpAnyH_take (i := 12) (oi := { dst := some 17, op := Op.move (Operand.tmp 16), type := 4, pos := "l05_meta.go:68", after := #[{ on := 11, ground := Ground.data }, { on := 10, ground := Ground.chain }], guard := none }) (v := ?_) rfl (by kernel_rfl) (by kernel_rfl) (by kernel_rfl) (fun _ _ _ h => h) (Or.inl ⟨by rfl, ?_⟩) (by assumption) ?_
    rotate_left 1
    · (intro wq hSw; (try dsimp only at hSw); go_simp; try with_reducible rfl)
    try simp only [Act.put, ly1, ly2, ly3]
    refine wpAnyH_take (i := 13) (oi := { dst := some 18, op := Op.fieldAddr 34 (Operand.tmp 2) 1, type := 0, pos := "l05_meta.go:68", after := #[{ on := 12, ground := Ground.guard }], guard := some (12, true) }) (v := undef) rfl (by kernel_rfl) (by kernel_rfl) (by kernel_rfl) (fun _ _ _ h => h) (Or.inr ⟨by rfl, rfl⟩) (by assumption) ?_
    try simp only [Act.put, ly1, ly2, ly3]
    refine wpAnyH_take (i := 14) (oi := { dst := some 19, op := Op.load 23 (Operand.tmp 18), type := 23, pos := "l05_meta.go:68", after := #[{ on := 13, ground := Ground.data }, { on := 12, ground := Ground.guard }], guard := some (12, true) }) (v := undef) rfl (by kernel_rfl) (by kernel_rfl) (by kernel_rfl) (fun _ _ _ h => h) (Or.inr ⟨by rfl, rfl⟩) (by assumption) ?_
    try simp only [Act.put, ly1, ly2, ly3]
    refine wpAnyH_take (i := 15) (oi := { dst := some 20, op := Op.fieldAddr 34 (Operand.tmp 3) 1, type := 0, pos := "l05_meta.go:68", after := #[{ on := 12, ground := Ground.guard }], guard := some (12, true) }) (v := undef) rfl (by kernel_rfl) (by kernel_rfl) (by kernel_rfl) (fun _ _ _ h => h) (Or.inr ⟨by rfl, rfl⟩) (by assumption) ?_
    try simp only [Act.put, ly1, ly2, ly3]
    refine wpAnyH_take (i := 16) (oi := { dst := some 21, op := Op.load 23 (Operand.tmp 20), type := 23, pos := "l05_meta.go:68", after := #[{ on := 15, ground := Ground.data }, { on := 12, ground := Ground.guard }], guard := some (12, true) }) (v := undef) rfl (by kernel_rfl) (by kernel_rfl) (by kernel_rfl) (fun _ _ _ h => h) (Or.inr ⟨by rfl, rfl⟩) (by assumption) ?_
    try simp only [Act.put, ly1, ly2, ly3]
    refine wpAnyH_take (i := 17) (oi := { dst := some 22, op := Op.call { callee := Callee.value (Operand.func 78), args := #[Operand.tmp 19, Operand.tmp 21, Operand.func 79], argTypes := #[23, 23, 39] }, type := 4, pos := "l05_meta.go:68", after := #[{ on := 14, ground := Ground.data }, { on := 16, ground := Ground.data }, { on := 12, ground := Ground.chain }, { on := 12, ground := Ground.guard }], guard := some (12, true) }) (v := undef) rfl (by kernel_rfl) (by kernel_rfl) (by kernel_rfl) (fun _ _ _ h => h) (Or.inr ⟨by rfl, rfl⟩) (by assumption) ?_
    try simp only [Act.put, ly1, ly2, ly3]
    refine wpAnyH_take (i := 18) (oi := { dst := some 23, op := Op.pick (Operand.tmp 17) (Operand.tmp 22) (Operand.const (Value.bool false)), type := 4, pos := "l05_meta.go:68", after := #[{ on := 12, ground := Ground.data }, { on := 17, ground := Ground.data }], guard := none }) (v := ?_) rfl (by kernel_rfl) (by kernel_rfl) (by kernel_rfl) (fun _ _ _ h => h) (Or.inl ⟨by rfl, ?_⟩) (by assumption) ?_
    rotate_left 1
    · (intro wq hSw; (try dsimp only at hSw); go_simp; try with_reducible rfl)
    try simp only [Act.put, ly1, ly2, ly3]
    refine wpAnyH_take (i := 19) (oi := { dst := some 4, op := Op.assign (Operand.tmp 23), type := 4, pos := "l05_meta.go:68", after := #[{ on := 18, ground := Ground.data }, { on := 17, ground := Ground.chain }, { on := 0, ground := Ground.phase }, { on := 1, ground := Ground.phase }, { on := 2, ground := Ground.phase }, { on := 3, ground := Ground.phase }, { on := 4, ground := Ground.phase }, { on := 5, ground := Ground.phase }, { on := 6, ground := Ground.phase }, { on := 7, ground := Ground.phase }, { on := 8, ground := Ground.phase }, { on := 9, ground := Ground.phase }, { on := 10, ground := Ground.phase }, { on := 11, ground := Ground.phase }, { on := 12, ground := Ground.phase }, { on := 13, ground := Ground.phase }, { on := 14, ground := Ground.phase }, { on := 15, ground := Ground.phase }, { on := 16, ground := Ground.phase }, { on := 17, ground := Ground.phase }, { on := 18, ground := Ground.phase }], guard := none }) (v := ?_) rfl (by kernel_rfl) (by kernel_rfl) (by kernel_rfl) (fun _ _ _ h => h) (Or.inl ⟨by rfl, ?_⟩) (by assumption) ?_
    rotate_left 1
    · (intro wq hSw; (try dsimp only at hSw); go_simp; try with_reducible rfl)
    try simp only [Act.put, ly1, ly2, ly3]
    refine wpAnyH_done (by kernel_rfl) ?_ _
    go_wp2
    go_ret
    exact Tells.no HN.out (H8.out.2.2.2.2)
  have HG := hide h2
  clear h2
  by_cases h7 : n = n' ∧ ∀ i, i < n → L i = L' i
  case neg =>
    have HN : Hid (¬ SmM g n L fi ol he la g' n' L' fi ol he la) := fun x => h7 ⟨x.1, x.2.2.2.2.2.2⟩
    have HL := hide h7
    clear h7
    obtain ⟨W, hW⟩ : ∃ W, W = ((w.alloc (.cells #[.slice go g.length gc, .slice bo n bc, .bool fi, .bool ol, .bool he, .int .i64 la] 34)).alloc (.cells #[.slice go' g'.length gc', .slice bo' n' bc', .bool fi, .bool ol, .bool he, .int .i64 la] 34)) := ⟨_, rfl⟩
    have hb : Below w.heap.size w W := by rw [hW]; exact ((Below.refl _ _).alloc (Nat.le_refl _) _).alloc (by simp) _
    have M1 : KB W w.heap.size 34 go g.length gc bo n bc fi ol he la := by rw [hW]; exact (al2 w _ _).1
    have M2 : KB W (w.heap.size + 1) 34 go' g'.length gc' bo' n' bc' fi ol he la := by rw [hW]; exact (al2 w _ _).2.1
    have H5 : Hid (KB W.drew w.heap.size 34 go g.length gc bo n bc fi ol he la ∧ KB W.drew (w.heap.size + 1) 34 go' g'.length gc' bo' n' bc' fi ol he la ∧ MV W.drew go gc bo bc g n L ∧ MV W.drew go' gc' bo' bc' g' n' L' ∧ Below w.heap.size w W.drew) := ⟨M1, M2, hA.below (Below.drawn hb 1), hB.below (Below.drawn hb 1), Below.drawn hb 1⟩
    obtain ⟨m0, m1, m2, m3, m4, m5⟩ := M1.cells
    obtain ⟨x0, x1, x2, x3, x4, x5⟩ := M2.cells
    clear M1 M2 hb hA hB
    go_enter Tryz.func63, Tryz.ntmps63
    go_wp2_with fail
    rw [← hW]
    clear hW
    refine wp_region_held_drew (S := (fun w' => (w'.cell? ⟨w.heap.size, 0, none⟩ = some (.slice go g.length gc) ∧ w'.cell? ⟨w.heap.size, 1, none⟩ = some (.slice bo n bc) ∧ w'.cell? ⟨w.heap.size, 2, none⟩ = some (.bool fi) ∧ w'.cell? ⟨w.heap.size, 3, none⟩ = some (.bool ol) ∧ w'.cell? ⟨w.heap.size, 4, none⟩ = some (.bool he) ∧ w'.cell? ⟨w.heap.size, 5, none⟩ = some (.int .i64 la)) ∧ (w'.cell? ⟨w.heap.size + 1, 0, none⟩ = some (.slice go' g'.length gc') ∧ w'.cell? ⟨w.heap.size + 1, 1, none⟩ = some (.slice bo' n' bc') ∧ w'.cell? ⟨w.heap.size + 1, 2, none⟩ = some (.bool fi) ∧ w'.cell? ⟨w.heap.size + 1, 3, none⟩ = some (.bool ol) ∧ w'.cell? ⟨w.heap.size + 1, 4, none⟩ = some (.bool he) ∧ w'.cell? ⟨w.heap.size + 1, 5, none⟩ = some (.int .i64 la)))) (by kernel_rfl) ?_ (fun hHeld => ?_)
    · exact ⟨⟨m0, m1, m2, m3, m4, m5⟩, x0, x1, x2, x3, x4, x5⟩
    refine wpAnyH_take (i := 0) (oi := { dst := some 5, op := Op.load 34 (Operand.tmp 2), type := 34, pos := "l05_meta.go:68", after := #[], guard := none }) (v := ?_) rfl (by kernel_rfl) (by kernel_rfl) (by kernel_rfl) (fun _ _ _ h => h) (Or.inl ⟨by rfl, ?_⟩) (by assumption) ?_
    rotate_left 1
    · (intro wq hSw; (try dsimp only at hSw); go_simp; try with_reducible rfl)
    try simp only [Act.put, ly1, ly2, ly3]
    refine wpAnyH_take (i := 2) (oi := { dst := some 7, op := Op.load 34 (Operand.tmp 3), type := 34, pos := "l05_meta.go:68", after := #[], guard := none }) (v := ?_) rfl (by kernel_rfl) (by kernel_rfl) (by kernel_rfl) (fun _ _ _ h => h) (Or.inl ⟨by rfl, ?_⟩) (by assumption) ?_
    rotate_left 1
    · (intro wq hSw; (try dsimp only at hSw); go_simp; try with_reducible rfl)
    try simp only [Act.put, ly1, ly2, ly3]
    refine wpAnyH_ready (rs := [1]) (by kernel_rfl) (by simp) ?_
    refine AllReadyH.cons (o := { dst := some 6, op := Op.call { callee := Callee.value (Operand.func 76), args := #[Operand.tmp 5], argTypes := #[34] }, type := 91, pos := "l05_meta.go:68", after := #[{ on := 0, ground := Ground.data }], guard := none }) rfl (fun K hK => ?_) AllReadyH.nil
    go_simp
    refine (stateof _ _ _ _ _ _ _ _ _ _ _).mono ?_
    rintro e w6 ⟨rfl, b6⟩
    have H6 : Hid (KB w6 w.heap.size 34 go g.length gc bo n bc fi ol he la ∧ KB w6 (w.heap.size + 1) 34 go' g'.length gc' bo' n' bc' fi ol he la ∧ MV w6 go gc bo bc g n L ∧ MV w6 go' gc' bo' bc' g' n' L' ∧ Below w.heap.size w w6) := ⟨H5.out.1.b b6, H5.out.2.1.b b6, H5.out.2.2.1.below b6, H5.out.2.2.2.1.below b6, H5.out.2.2.2.2.trans (b6.mono H5.out.2.2.2.2.size)⟩
    have hk6 := And.intro H6.out.1.cells H6.out.2.1.cells
    clear b6
    go_wp2_with fail
    refine hK.out _ _ ?_ (fun hHeld => ?_)
    · exact hk6
    clear hK K
    try simp only [Act.put, ly1, ly2, ly3]
    refine wpAnyH_ready (rs := [3]) (by kernel_rfl) (by simp) ?_
    refine AllReadyH.cons (o := { dst := some 8, op := Op.call { callee := Callee.value (Operand.func 76), args := #[Operand.tmp 7], argTypes := #[34] }, type := 91, pos := "l05_meta.go:68", after := #[{ on := 2, ground := Ground.data }, { on := 1, ground := Ground.chain }], guard := none }) rfl (fun K hK => ?_) AllReadyH.nil
    go_simp
    refine (stateof _ _ _ _ _ _ _ _ _ _ _).mono ?_
    rintro e w7 ⟨rfl, b7⟩
    have H7 : Hid (KB w7 w.heap.size 34 go g.length gc bo n bc fi ol he la ∧ KB w7 (w.heap.size + 1) 34 go' g'.length gc' bo' n' bc' fi ol he la ∧ MV w7 go gc bo bc g n L ∧ MV w7 go' gc' bo' bc' g' n' L' ∧ Below w.heap.size w w7) := ⟨H6.out.1.b b7, H6.out.2.1.b b7, H6.out.2.2.1.below b7, H6.out.2.2.2.1.below b7, H6.out.2.2.2.2.trans (b7.mono H6.out.2.2.2.2.size)⟩
    have hk7 := And.intro H7.out.1.cells H7.out.2.1.cells
    clear b7
    go_wp2_with fail
    refine hK.out _ _ ?_ (fun hHeld => ?_)
    · exact hk7
    clear hK K
    try simp only [Act.put, ly1, ly2, ly3]
    refine wpAnyH_take (i := 4) (oi := { dst := some 9, op := Op.binOp BinOp.eql 91 (Operand.tmp 6) (Operand.tmp 8) 91, type := 4, pos := "l05_meta.go:68", after := #[{ on := 1, ground := Ground.data }, { on := 3, ground := Ground.data }], guard := none }) (v := ?_) rfl (by kernel_rfl) (by kernel_rfl) (by kernel_rfl) (fun _ _ _ h => h) (Or.inl ⟨by rfl, ?_⟩) (by assumption) ?_
    rotate_left 1
    · (intro wq hSw; (try dsimp only at hSw); go_simp; try with_reducible rfl)
    try simp only [Act.put, ly1, ly2, ly3]
    refine wpAnyH_take (i := 5) (oi := { dst := some 10, op := Op.move (Operand.tmp 9), type := 4, pos := "l05_meta.go:68", after := #[{ on := 4, ground := Ground.data }, { on := 3, ground := Ground.chain }], guard := none }) (v := ?_) rfl (by kernel_rfl) (by kernel_rfl) (by kernel_rfl) (fun _ _ _ h => h) (Or.inl ⟨by rfl, ?_⟩) (by assumption) ?_
    rotate_left 1
    · (intro wq hSw; (try dsimp only at hSw); go_simp; try with_reducible rfl)
    try simp only [Act.put, ly1, ly2, ly3]
    refine wpAnyH_take (i := 6) (oi := { dst := some 11, op := Op.fieldAddr 34 (Operand.tmp 2) 0, type := 0, pos := "l05_meta.go:68", after := #[{ on := 5, ground := Ground.guard }], guard := some (5, true) }) (v := ?_) rfl (by kernel_rfl) (by kernel_rfl) (by kernel_rfl) (fun _ _ _ h => h) (Or.inl ⟨by rfl, ?_⟩) (by assumption) ?_
    rotate_left 1
    · (intro wq hSw; (try dsimp only at hSw); go_simp; try with_reducible rfl)
    try simp only [Act.put, ly1, ly2, ly3]
    refine wpAnyH_take (i := 7) (oi := { dst := some 12, op := Op.load 22 (Operand.tmp 11), type := 22, pos := "l05_meta.go:68", after := #[{ on := 6, ground := Ground.data }, { on := 5, ground := Ground.guard }], guard := some (5, true) }) (v := ?_) rfl (by kernel_rfl) (by kernel_rfl) (by kernel_rfl) (fun _ _ _ h => h) (Or.inl ⟨by rfl, ?_⟩) (by assumption) ?_
    rotate_left 1
    · (intro wq hSw; (try dsimp only at hSw); go_simp; try with_reducible rfl)
    try simp only [Act.put, ly1, ly2, ly3]
    refine wpAnyH_take (i := 8) (oi := { dst := some 13, op := Op.fieldAddr 34 (Operand.tmp 3) 0, type := 0, pos := "l05_meta.go:68", after := #[{ on := 5, ground := Ground.guard }], guard := some (5, true) }) (v := ?_) rfl (by kernel_rfl) (by kernel_rfl) (by kernel_rfl) (fun _ _ _ h => h) (Or.inl ⟨by rfl, ?_⟩) (by assumption) ?_
    rotate_left 1
    · (intro wq hSw; (try dsimp only at hSw); go_simp; try with_reducible rfl)
    try simp only [Act.put, ly1, ly2, ly3]
    refine wpAnyH_take (i := 9) (oi := { dst := some 14, op := Op.load 22 (Operand.tmp 13), type := 22, pos := "l05_meta.go:68", after := #[{ on := 8, ground := Ground.data }, { on := 5, ground := Ground.guard }], guard := some (5, true) }) (v := ?_) rfl (by kernel_rfl) (by kernel_rfl) (by kernel_rfl) (fun _ _ _ h => h) (Or.inl ⟨by rfl, ?_⟩) (by assumption) ?_
    rotate_left 1
    · (intro wq hSw; (try dsimp only at hSw); go_simp; try with_reducible rfl)
    try simp only [Act.put, ly1, ly2, ly3]
    refine wpAnyH_ready (rs := [10]) (by kernel_rfl) (by simp) ?_
    refine AllReadyH.cons (o := { dst := some 15, op := Op.call { callee := Callee.value (Operand.func 77), args := #[Operand.tmp 12, Operand.tmp 14], argTypes := #[22, 22] }, type := 4, pos := "l05_meta.go:68", after := #[{ on := 7, ground := Ground.data }, { on := 9, ground := Ground.data }, { on := 5, ground := Ground.chain }, { on := 5, ground := Ground.guard }], guard := some (5, true) }) rfl (fun K hK => ?_) AllReadyH.nil
    go_simp
    refine (leq_yes go go' gc gc' g g' _ hd.1 H7.out.2.2.1.2.1 H7.out.2.2.2.1.2.1 HG.out).mono ?_
    rintro e w8 ⟨rfl, q8, hw8⟩
    have b8 : Below w7.heap.size w7 w8 := hw8 ▸ Below.drawn (Below.refl _ _) q8
    clear hw8
    have H8 : Hid (KB w8 w.heap.size 34 go g.length gc bo n bc fi ol he la ∧ KB w8 (w.heap.size + 1) 34 go' g'.length gc' bo' n' bc' fi ol he la ∧ MV w8 go gc bo bc g n L ∧ MV w8 go' gc' bo' bc' g' n' L' ∧ Below w.heap.size w w8) := ⟨H7.out.1.b b8, H7.out.2.1.b b8, H7.out.2.2.1.below b8, H7.out.2.2.2.1.below b8, H7.out.2.2.2.2.trans (b8.mono H7.out.2.2.2.2.size)⟩
    have hk8 := And.intro H8.out.1.cells H8.out.2.1.cells
    clear b8
    go_wp2_with fail
    refine hK.out _ _ ?_ (fun hHeld => ?_)
    · exact hk8
    clear hK K
    try simp only [Act.put, ly1, ly2, ly3]
    refine wpAnyH_take (i := 11) (oi := { dst := some 16, op := Op.pick (Operand.tmp 10) (Operand.tmp 15) (Operand.const (Value.bool false)), type := 4, pos := "l05_meta.go:68", after := #[{ on := 5, ground := Ground.data }, { on := 10, ground := Ground.data }], guard := none }) (v := ?_) rfl (by kernel_rfl) (by kernel_rfl) (by kernel_rfl) (fun _ _ _ h => h) (Or.inl ⟨by rfl, ?_⟩) (by assumption) ?_
    rotate_left 1
    · (intro wq hSw; (try dsimp only at hSw); go_simp; try with_reducible rfl)
    try simp only [Act.put, ly1, ly2, ly3]
    refine wpAnyH_take (i := 12) (oi := { dst := some 17, op := Op.move (Operand.tmp 16), type := 4, pos := "l05_meta.go:68", after := #[{ on := 11, ground := Ground.data }, { on := 10, ground := Ground.chain }], guard := none }) (v := ?_) rfl (by kernel_rfl) (by kernel_rfl) (by kernel_rfl) (fun _ _ _ h => h) (Or.inl ⟨by rfl, ?_⟩) (by assumption) ?_
    rotate_left 1
    · (intro wq hSw; (try dsimp only at hSw); go_simp; try with_reducible rfl)
    try simp only [Act.put, ly1, ly2, ly3]
    refine wpAnyH_take (i := 13) (oi := { dst := some 18, op := Op.fieldAddr 34 (Operand.tmp 2) 1, type := 0, pos := "l05_meta.go:68", after := #[{ on := 12, ground := Ground.guard }], guard := some (12, true) }) (v := ?_) rfl (by kernel_rfl) (by kernel_rfl) (by kernel_rfl) (fun _ _ _ h => h) (Or.inl ⟨by rfl, ?_⟩) (by assumption) ?_
    rotate_left 1
    · (intro wq hSw; (try dsimp only at hSw); go_simp; try with_reducible rfl)
    try simp only [Act.put, ly1, ly2, ly3]
    refine wpAnyH_take (i := 14) (oi := { dst := some 19, op := Op.load 23 (Operand.tmp 18), type := 23, pos := "l05_meta.go:68", after := #[{ on := 13, ground := Ground.data }, { on := 12, ground := Ground.guard }], guard := some (12, true) }) (v := ?_) rfl (by kernel_rfl) (by kernel_rfl) (by kernel_rfl) (fun _ _ _ h => h) (Or.inl ⟨by rfl, ?_⟩) (by assumption) ?_
    rotate_left 1
    · (intro wq hSw; (try dsimp only at hSw); go_simp; try with_reducible rfl)
    try simp only [Act.put, ly1, ly2, ly3]
    refine wpAnyH_take (i := 15) (oi := { dst := some 20, op := Op.fieldAddr 34 (Operand.tmp 3) 1, type := 0, pos := "l05_meta.go:68", after := #[{ on := 12, ground := Ground.guard }], guard := some (12, true) }) (v := ?_) rfl (by kernel_rfl) (by kernel_rfl) (by kernel_rfl) (fun _ _ _ h => h) (Or.inl ⟨by rfl, ?_⟩) (by assumption) ?_
    rotate_left 1
    · (intro wq hSw; (try dsimp only at hSw); go_simp; try with_reducible rfl)
    try simp only [Act.put, ly1, ly2, ly3]
    refine wpAnyH_take (i := 16) (oi := { dst := some 21, op := Op.load 23 (Operand.tmp 20), type := 23, pos := "l05_meta.go:68", after := #[{ on := 15, ground := Ground.data }, { on := 12, ground := Ground.guard }], guard := some (12, true) }) (v := ?_) rfl (by kernel_rfl) (by kernel_rfl) (by kernel_rfl) (fun _ _ _ h => h) (Or.inl ⟨by rfl, ?_⟩) (by assumption) ?_
    rotate_left 1
    · (intro wq hSw; (try dsimp only at hSw); go_simp; try with_reducible rfl)
    try simp only [Act.put, ly1, ly2, ly3]
    refine wpAnyH_ready (rs := [17]) (by kernel_rfl) (by simp) ?_
    refine AllReadyH.cons (o := { dst := some 22, op := Op.call { callee := Callee.value (Operand.func 78), args := #[Operand.tmp 19, Operand.tmp 21, Operand.func 79], argTypes := #[23, 23, 39] }, type := 4, pos := "l05_meta.go:68", after := #[{ on := 14, ground := Ground.data }, { on := 16, ground := Ground.data }, { on := 12, ground := Ground.chain }, { on := 12, ground := Ground.guard }], guard := some (12, true) }) rfl (fun K hK => ?_) AllReadyH.nil
    go_simp
    refine (eqfunc_no bo bo' n n' bc bc' L L' _ hd.2.1 hd.2.2 H8.out.2.2.1.2.2 H8.out.2.2.2.1.2.2 HL.out).mono ?_
    rintro e w9 ⟨rfl, q9, hw9⟩
    have b9 : Below w8.heap.size w8 w9 := hw9 ▸ Below.drawn (Below.refl _ _) q9
    clear hw9
    have H9 : Hid (KB w9 w.heap.size 34 go g.length gc bo n bc fi ol he la ∧ KB w9 (w.heap.size + 1) 34 go' g'.length gc' bo' n' bc' fi ol he la ∧ MV w9 go gc bo bc g n L ∧ MV w9 go' gc' bo' bc' g' n' L' ∧ Below w.heap.size w w9) := ⟨H8.out.1.b b9, H8.out.2.1.b b9, H8.out.2.2.1.below b9, H8.out.2.2.2.1.below b9, H8.out.2.2.2.2.trans (b9.mono H8.out.2.2.2.2.size)⟩
    have hk9 := And.intro H9.out.1.cells H9.out.2.1.cells
    clear b9
    go_wp2_with fail
    refine hK.out _ _ ?_ (fun hHeld => ?_)
    · exact hk9
    clear hK K
    try simp only [Act.put, ly1, ly2, ly3]
    refine wpAnyH_take (i := 18) (oi := { dst := some 23, op := Op.pick (Operand.tmp 17) (Operand.tmp 22) (Operand.const (Value.bool false)), type := 4, pos := "l05_meta.go:68", after := #[{ on := 12, ground := Ground.data }, { on := 17, ground := Ground.data }], guard := none }) (v := ?_) rfl (by kernel_rfl) (by kernel_rfl) (by kernel_rfl) (fun _ _ _ h => h) (Or.inl ⟨by rfl, ?_⟩) (by assumption) ?_
    rotate_left 1
    · (intro wq hSw; (try dsimp only at hSw); go_simp; try with_reducible rfl)
    try simp only [Act.put, ly1, ly2, ly3]
    refine wpAnyH_take (i := 19) (oi := { dst := some 4, op := Op.assign (Operand.tmp 23), type := 4, pos := "l05_meta.go:68", after := #[{ on := 18, ground := Ground.data }, { on := 17, ground := Ground.chain }, { on := 0, ground := Ground.phase }, { on := 1, ground := Ground.phase }, { on := 2, ground := Ground.phase }, { on := 3, ground := Ground.phase }, { on := 4, ground := Ground.phase }, { on := 5, ground := Ground.phase }, { on := 6, ground := Ground.phase }, { on := 7, ground := Ground.phase }, { on := 8, ground := Ground.phase }, { on := 9, ground := Ground.phase }, { on := 10, ground := Ground.phase }, { on := 11, ground := Ground.phase }, { on := 12, ground := Ground.phase }, { on := 13, ground := Ground.phase }, { on := 14, ground := Ground.phase }, { on := 15, ground := Ground.phase }, { on := 16, ground := Ground.phase }, { on := 17, ground := Ground.phase }, { on := 18, ground := Ground.phase }], guard := none }) (v := ?_) rfl (by kernel_rfl) (by kernel_rfl) (by kernel_rfl) (fun _ _ _ h => h) (Or.inl ⟨by rfl, ?_⟩) (by assumption) ?_
    rotate_left 1
    · (intro wq hSw; (try dsimp only at hSw); go_simp; try with_reducible rfl)
    try simp only [Act.put, ly1, ly2, ly3]
    refine wpAnyH_done (by kernel_rfl) ?_ _
    go_wp2
    go_ret
    exact Tells.no HN.out (H9.out.2.2.2.2)
  have HL := hide h7
  clear h7
  obtain ⟨W, hW⟩ : ∃ W, W = ((w.alloc (.cells #[.slice go g.length gc, .slice bo n bc, .bool fi, .bool ol, .bool he, .int .i64 la] 34)).alloc (.cells #[.slice go' g'.length gc', .slice bo' n' bc', .bool fi, .bool ol, .bool he, .int .i64 la] 34)) := ⟨_, rfl⟩
  have hb : Below w.heap.size w W := by rw [hW]; exact ((Below.refl _ _).alloc (Nat.le_refl _) _).alloc (by simp) _
  have M1 : KB W w.heap.size 34 go g.length gc bo n bc fi ol he la := by rw [hW]; exact (al2 w _ _).1
  have M2 : KB W (w.heap.size + 1) 34 go' g'.length gc' bo' n' bc' fi ol he la := by rw [hW]; exact (al2 w _ _).2.1
  have H5 : Hid (KB W.drew w.heap.size 34 go g.length gc bo n bc fi ol he la ∧ KB W.drew (w.heap.size + 1) 34 go' g'.length gc' bo' n' bc' fi ol he la ∧ MV W.drew go gc bo bc g n L ∧ MV W.drew go' gc' bo' bc' g' n' L' ∧ Below w.heap.size w W.drew) := ⟨M1, M2, hA.below (Below.drawn hb 1), hB.below (Below.drawn hb 1), Below.drawn hb 1⟩
  obtain ⟨m0, m1, m2, m3, m4, m5⟩ := M1.cells
  obtain ⟨x0, x1, x2, x3, x4, x5⟩ := M2.cells
  clear M1 M2 hb hA hB
  go_enter Tryz.func63, Tryz.ntmps63
  go_wp2_with fail
  rw [← hW]
  clear hW
  refine wp_region_held_drew (S := (fun w' => (w'.cell? ⟨w.heap.size, 0, none⟩ = some (.slice go g.length gc) ∧ w'.cell? ⟨w.heap.size, 1, none⟩ = some (.slice bo n bc) ∧ w'.cell? ⟨w.heap.size, 2, none⟩ = some (.bool fi) ∧ w'.cell? ⟨w.heap.size, 3, none⟩ = some (.bool ol) ∧ w'.cell? ⟨w.heap.size, 4, none⟩ = some (.bool he) ∧ w'.cell? ⟨w.heap.size, 5, none⟩ = some (.int .i64 la)) ∧ (w'.cell? ⟨w.heap.size + 1, 0, none⟩ = some (.slice go' g'.length gc') ∧ w'.cell? ⟨w.heap.size + 1, 1, none⟩ = some (.slice bo' n' bc') ∧ w'.cell? ⟨w.heap.size + 1, 2, none⟩ = some (.bool fi) ∧ w'.cell? ⟨w.heap.size + 1, 3, none⟩ = some (.bool ol) ∧ w'.cell? ⟨w.heap.size + 1, 4, none⟩ = some (.bool he) ∧ w'.cell? ⟨w.heap.size + 1, 5, none⟩ = some (.int .i64 la)))) (by kernel_rfl) ?_ (fun hHeld => ?_)
  · exact ⟨⟨m0, m1, m2, m3, m4, m5⟩, x0, x1, x2, x3, x4, x5⟩
  refine wpAnyH_take (i := 0) (oi := { dst := some 5, op := Op.load 34 (Operand.tmp 2), type := 34, pos := "l05_meta.go:68", after := #[], guard := none }) (v := ?_) rfl (by kernel_rfl) (by kernel_rfl) (by kernel_rfl) (fun _ _ _ h => h) (Or.inl ⟨by rfl, ?_⟩) (by assumption) ?_
  rotate_left 1
  · (intro wq hSw; (try dsimp only at hSw); go_simp; try with_reducible rfl)
  try simp only [Act.put, ly1, ly2, ly3]
  refine wpAnyH_take (i := 2) (oi := { dst := some 7, op := Op.load 34 (Operand.tmp 3), type := 34, pos := "l05_meta.go:68", after := #[], guard := none }) (v := ?_) rfl (by kernel_rfl) (by kernel_rfl) (by kernel_rfl) (fun _ _ _ h => h) (Or.inl ⟨by rfl, ?_⟩) (by assumption) ?_
  rotate_left 1
  · (intro wq hSw; (try dsimp only at hSw); go_simp; try with_reducible rfl)
  try simp only [Act.put, ly1, ly2, ly3]
  refine wpAnyH_ready (rs := [1]) (by kernel_rfl) (by simp) ?_
  refine AllReadyH.cons (o := { dst := some 6, op := Op.call { callee := Callee.value (Operand.func 76), args := #[Operand.tmp 5], argTypes := #[34] }, type := 91, pos := "l05_meta.go:68", after := #[{ on := 0, ground := Ground.data }], guard := none }) rfl (fun K hK => ?_) AllReadyH.nil
  go_simp
  refine (stateof _ _ _ _ _ _ _ _ _ _ _).mono ?_
  rintro e w6 ⟨rfl, b6⟩
  have H6 : Hid (KB w6 w.heap.size 34 go g.length gc bo n bc fi ol he la ∧ KB w6 (w.heap.size + 1) 34 go' g'.length gc' bo' n' bc' fi ol he la ∧ MV w6 go gc bo bc g n L ∧ MV w6 go' gc' bo' bc' g' n' L' ∧ Below w.heap.size w w6) := ⟨H5.out.1.b b6, H5.out.2.1.b b6, H5.out.2.2.1.below b6, H5.out.2.2.2.1.below b6, H5.out.2.2.2.2.trans (b6.mono H5.out.2.2.2.2.size)⟩
  have hk6 := And.intro H6.out.1.cells H6.out.2.1.cells
  clear b6
  go_wp2_with fail
  refine hK.out _ _ ?_ (fun hHeld => ?_)
  · exact hk6
  clear hK K
  try simp only [Act.put, ly1, ly2, ly3]
  refine wpAnyH_ready (rs := [3]) (by kernel_rfl) (by simp) ?_
  refine AllReadyH.cons (o := { dst := some 8, op := Op.call { callee := Callee.value (Operand.func 76), args := #[Operand.tmp 7], argTypes := #[34] }, type := 91, pos := "l05_meta.go:68", after := #[{ on := 2, ground := Ground.data }, { on := 1, ground := Ground.chain }], guard := none }) rfl (fun K hK => ?_) AllReadyH.nil
  go_simp
  refine (stateof _ _ _ _ _ _ _ _ _ _ _).mono ?_
  rintro e w7 ⟨rfl, b7⟩
  have H7 : Hid (KB w7 w.heap.size 34 go g.length gc bo n bc fi ol he la ∧ KB w7 (w.heap.size + 1) 34 go' g'.length gc' bo' n' bc' fi ol he la ∧ MV w7 go gc bo bc g n L ∧ MV w7 go' gc' bo' bc' g' n' L' ∧ Below w.heap.size w w7) := ⟨H6.out.1.b b7, H6.out.2.1.b b7, H6.out.2.2.1.below b7, H6.out.2.2.2.1.below b7, H6.out.2.2.2.2.trans (b7.mono H6.out.2.2.2.2.size)⟩
  have hk7 := And.intro H7.out.1.cells H7.out.2.1.cells
  clear b7
  go_wp2_with fail
  refine hK.out _ _ ?_ (fun hHeld => ?_)
  · exact hk7
  clear hK K
  try simp only [Act.put, ly1, ly2, ly3]
  refine wpAnyH_take (i := 4) (oi := { dst := some 9, op := Op.binOp BinOp.eql 91 (Operand.tmp 6) (Operand.tmp 8) 91, type := 4, pos := "l05_meta.go:68", after := #[{ on := 1, ground := Ground.data }, { on := 3, ground := Ground.data }], guard := none }) (v := ?_) rfl (by kernel_rfl) (by kernel_rfl) (by kernel_rfl) (fun _ _ _ h => h) (Or.inl ⟨by rfl, ?_⟩) (by assumption) ?_
  rotate_left 1
  · (intro wq hSw; (try dsimp only at hSw); go_simp; try with_reducible rfl)
  try simp only [Act.put, ly1, ly2, ly3]
  refine wpAnyH_take (i := 5) (oi := { dst := some 10, op := Op.move (Operand.tmp 9), type := 4, pos := "l05_meta.go:68", after := #[{ on := 4, ground := Ground.data }, { on := 3, ground := Ground.chain }], guard := none }) (v := ?_) rfl (by kernel_rfl) (by kernel_rfl) (by kernel_rfl) (fun _ _ _ h => h) (Or.inl ⟨by rfl, ?_⟩) (by assumption) ?_
  rotate_left 1
  · (intro wq hSw; (try dsimp only at hSw); go_simp; try with_reducible rfl)
  try simp only [Act.put, ly1, ly2, ly3]
  refine wpAnyH_take (i := 6) (oi := { dst := some 11, op := Op.fieldAddr 34 (Operand.tmp 2) 0, type := 0, pos := "l05_meta.go:68", after := #[{ on := 5, ground := Ground.guard }], guard := some (5, true) }) (v := ?_) rfl (by kernel_rfl) (by kernel_rfl) (by kernel_rfl) (fun _ _ _ h => h) (Or.inl ⟨by rfl, ?_⟩) (by assumption) ?_
  rotate_left 1
  · (intro wq hSw; (try dsimp only at hSw); go_simp; try with_reducible rfl)
  try simp only [Act.put, ly1, ly2, ly3]
  refine wpAnyH_take (i := 7) (oi := { dst := some 12, op := Op.load 22 (Operand.tmp 11), type := 22, pos := "l05_meta.go:68", after := #[{ on := 6, ground := Ground.data }, { on := 5, ground := Ground.guard }], guard := some (5, true) }) (v := ?_) rfl (by kernel_rfl) (by kernel_rfl) (by kernel_rfl) (fun _ _ _ h => h) (Or.inl ⟨by rfl, ?_⟩) (by assumption) ?_
  rotate_left 1
  · (intro wq hSw; (try dsimp only at hSw); go_simp; try with_reducible rfl)
  try simp only [Act.put, ly1, ly2, ly3]
  refine wpAnyH_take (i := 8) (oi := { dst := some 13, op := Op.fieldAddr 34 (Operand.tmp 3) 0, type := 0, pos := "l05_meta.go:68", after := #[{ on := 5, ground := Ground.guard }], guard := some (5, true) }) (v := ?_) rfl (by kernel_rfl) (by kernel_rfl) (by kernel_rfl) (fun _ _ _ h => h) (Or.inl ⟨by rfl, ?_⟩) (by assumption) ?_
  rotate_left 1
  · (intro wq hSw; (try dsimp only at hSw); go_simp; try with_reducible rfl)
  try simp only [Act.put, ly1, ly2, ly3]
  refine wpAnyH_take (i := 9) (oi := { dst := some 14, op := Op.load 22 (Operand.tmp 13), type := 22, pos := "l05_meta.go:68", after := #[{ on := 8, ground := Ground.data }, { on := 5, ground := Ground.guard }], guard := some (5, true) }) (v := ?_) rfl (by kernel_rfl) (by kernel_rfl) (by kernel_rfl) (fun _ _ _ h => h) (Or.inl ⟨by rfl, ?_⟩) (by assumption) ?_
  rotate_left 1
  · (intro wq hSw; (try dsimp only at hSw); go_simp; try with_reducible rfl)
  try simp only [Act.put, ly1, ly2, ly3]
  refine wpAnyH_ready (rs := [10]) (by kernel_rfl) (by simp) ?_
  refine AllReadyH.cons (o := { dst := some 15, op := Op.call { callee := Callee.value (Operand.func 77), args := #[Operand.tmp 12, Operand.tmp 14], argTypes := #[22, 22] }, type := 4, pos := "l05_meta.go:68", after := #[{ on := 7, ground := Ground.data }, { on := 9, ground := Ground.data }, { on := 5, ground := Ground.chain }, { on := 5, ground := Ground.guard }], guard := some (5, true) }) rfl (fun K hK => ?_) AllReadyH.nil
  go_simp
  refine (leq_yes go go' gc gc' g g' _ hd.1 H7.out.2.2.1.2.1 H7.out.2.2.2.1.2.1 HG.out).mono ?_
  rintro e w8 ⟨rfl, q8, hw8⟩
  have b8 : Below w7.heap.size w7 w8 := hw8 ▸ Below.drawn (Below.refl _ _) q8
  clear hw8
  have H8 : Hid (KB w8 w.heap.size 34 go g.length gc bo n bc fi ol he la ∧ KB w8 (w.heap.size + 1) 34 go' g'.length gc' bo' n' bc' fi ol he la ∧ MV w8 go gc bo bc g n L ∧ MV w8 go' gc' bo' bc' g' n' L' ∧ Below w.heap.size w w8) := ⟨H7.out.1.b b8, H7.out.2.1.b b8, H7.out.2.2.1.below b8, H7.out.2.2.2.1.below b8, H7.out.2.2.2.2.trans (b8.mono H7.out.2.2.2.2.size)⟩
  have hk8 := And.intro H8.out.1.cells H8.out.2.1.cells
  clear b8
  go_wp2_with fail
  refine hK.out _ _ ?_ (fun hHeld => ?_)
  · exact hk8
  clear hK K
  try simp only [Act.put, ly1, ly2, ly3]
  refine wpAnyH_take (i := 11) (oi := { dst := some 16, op := Op.pick (Operand.tmp 10) (Operand.tmp 15) (Operand.const (Value.bool false)), type := 4, pos := "l05_meta.go:68", after := #[{ on := 5, ground := Ground.data }, { on := 10, ground := Ground.data }], guard := none }) (v := ?_) rfl (by kernel_rfl) (by kernel_rfl) (by kernel_rfl) (fun _ _ _ h => h) (Or.inl ⟨by rfl, ?_⟩) (by assumption) ?_
  rotate_left 1
  · (intro wq hSw; (try dsimp only at hSw); go_simp; try with_reducible rfl)
  try simp only [Act.put, ly1, ly2, ly3]
  refine wpAnyH_take (i := 12) (oi := { dst := some 17, op := Op.move (Operand.tmp 16), type := 4, pos := "l05_meta.go:68", after := #[{ on := 11, ground := Ground.data }, { on := 10, ground := Ground.chain }], guard := none }) (v := ?_) rfl (by kernel_rfl) (by kernel_rfl) (by kernel_rfl) (fun _ _ _ h => h) (Or.inl ⟨by rfl, ?_⟩) (by assumption) ?_
  rotate_left 1
  · (intro wq hSw; (try dsimp only at hSw); go_simp; try with_reducible rfl)
  try simp only [Act.put, ly1, ly2, ly3]
  refine wpAnyH_take (i := 13) (oi := { dst := some 18, op := Op.fieldAddr 34 (Operand.tmp 2) 1, type := 0, pos := "l05_meta.go:68", after := #[{ on := 12, ground := Ground.guard }], guard := some (12, true) }) (v := ?_) rfl (by kernel_rfl) (by kernel_rfl) (by kernel_rfl) (fun _ _ _ h => h) (Or.inl ⟨by rfl, ?_⟩) (by assumption) ?_
  rotate_left 1
  · (intro wq hSw; (try dsimp only at hSw); go_simp; try with_reducible rfl)
  try simp only [Act.put, ly1, ly2, ly3]
  refine wpAnyH_take (i := 14) (oi := { dst := some 19, op := Op.load 23 (Operand.tmp 18), type := 23, pos := "l05_meta.go:68", after := #[{ on := 13, ground := Ground.data }, { on := 12, ground := Ground.guard }], guard := some (12, true) }) (v := ?_) rfl (by kernel_rfl) (by kernel_rfl) (by kernel_rfl) (fun _ _ _ h => h) (Or.inl ⟨by rfl, ?_⟩) (by assumption) ?_
  rotate_left 1
  · (intro wq hSw; (try dsimp only at hSw); go_simp; try with_reducible rfl)
  try simp only [Act.put, ly1, ly2, ly3]
  refine wpAnyH_take (i := 15) (oi := { dst := some 20, op := Op.fieldAddr 34 (Operand.tmp 3) 1, type := 0, pos := "l05_meta.go:68", after := #[{ on := 12, ground := Ground.guard }], guard := some (12, true) }) (v := ?_) rfl (by kernel_rfl) (by kernel_rfl) (by kernel_rfl) (fun _ _ _ h => h) (Or.inl ⟨by rfl, ?_⟩) (by assumption) ?_
  rotate_left 1
  · (intro wq hSw; (try dsimp only at hSw); go_simp; try with_reducible rfl)
  try simp only [Act.put, ly1, ly2, ly3]
  refine wpAnyH_take (i := 16) (oi := { dst := some 21, op := Op.load 23 (Operand.tmp 20), type := 23, pos := "l05_meta.go:68", after := #[{ on := 15, ground := Ground.data }, { on := 12, ground := Ground.guard }], guard := some (12, true) }) (v := ?_) rfl (by kernel_rfl) (by kernel_rfl) (by kernel_rfl) (fun _ _ _ h => h) (Or.inl ⟨by rfl, ?_⟩) (by assumption) ?_
  rotate_left 1
  · (intro wq hSw; (try dsimp only at hSw); go_simp; try with_reducible rfl)
  try simp only [Act.put, ly1, ly2, ly3]
  refine wpAnyH_ready (rs := [17]) (by kernel_rfl) (by simp) ?_
  refine AllReadyH.cons (o := { dst := some 22, op := Op.call { callee := Callee.value (Operand.func 78), args := #[Operand.tmp 19, Operand.tmp 21, Operand.func 79], argTypes := #[23, 23, 39] }, type := 4, pos := "l05_meta.go:68", after := #[{ on := 14, ground := Ground.data }, { on := 16, ground := Ground.data }, { on := 12, ground := Ground.chain }, { on := 12, ground := Ground.guard }], guard := some (12, true) }) rfl (fun K hK => ?_) AllReadyH.nil
  go_simp
  refine (eqfunc_yes bo bo' n n' bc bc' L L' _ hd.2.1 hd.2.2 H8.out.2.2.1.2.2 H8.out.2.2.2.1.2.2 HL.out).mono ?_
  rintro e w9 ⟨rfl, q9, hw9⟩
  have b9 : Below w8.heap.size w8 w9 := hw9 ▸ Below.drawn (Below.refl _ _) q9
  clear hw9
  have H9 : Hid (KB w9 w.heap.size 34 go g.length gc bo n bc fi ol he la ∧ KB w9 (w.heap.size + 1) 34 go' g'.length gc' bo' n' bc' fi ol he la ∧ MV w9 go gc bo bc g n L ∧ MV w9 go' gc' bo' bc' g' n' L' ∧ Below w.heap.size w w9) := ⟨H8.out.1.b b9, H8.out.2.1.b b9, H8.out.2.2.1.below b9, H8.out.2.2.2.1.below b9, H8.out.2.2.2.2.trans (b9.mono H8.out.2.2.2.2.size)⟩
  have hk9 := And.intro H9.out.1.cells H9.out.2.1.cells
  clear b9
  go_wp2_with fail
  refine hK.out _ _ ?_ (fun hHeld => ?_)
  · exact hk9
  clear hK K
  try simp only [Act.put, ly1, ly2, ly3]
  refine wpAnyH_take (i := 18) (oi := { dst := some 23, op := Op.pick (Operand.tmp 17) (Operand.tmp 22) (Operand.const (Value.bool false)), type := 4, pos := "l05_meta.go:68", after := #[{ on := 12, ground := Ground.data }, { on := 17, ground := Ground.data }], guard := none }) (v := ?_) rfl (by kernel_rfl) (by kernel_rfl) (by kernel_rfl) (fun _ _ _ h => h) (Or.inl ⟨by rfl, ?_⟩) (by assumption) ?_
  rotate_left 1
  · (intro wq hSw; (try dsimp only at hSw); go_simp; try with_reducible rfl)
  try simp only [Act.put, ly1, ly2, ly3]
  refine wpAnyH_take (i := 19) (oi := { dst := some 4, op := Op.assign (Operand.tmp 23), type := 4, pos := "l05_meta.go:68", after := #[{ on := 18, ground := Ground.data }, { on := 17, ground := Ground.chain }, { on := 0, ground := Ground.phase }, { on := 1, ground := Ground.phase }, { on := 2, ground := Ground.phase }, { on := 3, ground := Ground.phase }, { on := 4, ground := Ground.phase }, { on := 5, ground := Ground.phase }, { on := 6, ground := Ground.phase }, { on := 7, ground := Ground.phase }, { on := 8, ground := Ground.phase }, { on := 9, ground := Ground.phase }, { on := 10, ground := Ground.phase }, { on := 11, ground := Ground.phase }, { on := 12, ground := Ground.phase }, { on := 13, ground := Ground.phase }, { on := 14, ground := Ground.phase }, { on := 15, ground := Ground.phase }, { on := 16, ground := Ground.phase }, { on := 17, ground := Ground.phase }, { on := 18, ground := Ground.phase }], guard := none }) (v := ?_) rfl (by kernel_rfl) (by kernel_rfl) (by kernel_rfl) (fun _ _ _ h => h) (Or.inl ⟨by rfl, ?_⟩) (by assumption) ?_
  rotate_left 1
  · (intro wq hSw; (try dsimp only at hSw); go_simp; try with_reducible rfl)
  try simp only [Act.put, ly1, ly2, ly3]
  refine wpAnyH_done (by kernel_rfl) ?_ _
  go_wp2
  go_ret
  exact Tells.yes ⟨HL.out.1, HG.out, rfl, rfl, rfl, rfl, HL.out.2⟩ (H9.out.2.2.2.2)
end Go.Proofs.YtabknfmhhjelaaaGreatDoor

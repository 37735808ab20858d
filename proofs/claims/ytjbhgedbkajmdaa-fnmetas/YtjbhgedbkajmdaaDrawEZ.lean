/- l4Dent of the model. -/
import Derived.Test.YtjbhgedbkajmdaaDrawPZ

namespace Go.Proofs.Ytjbhgedbkajmdaa
open Go.ChangeShapes Go.WideShapes Go.ChangeAt Go.RowKit
set_option linter.unusedVariables false
set_option linter.unusedSimpArgs false
set_option maxRecDepth 100000

set_option maxHeartbeats 2000000 in
theorem dent (g n cap : Nat) (ao : Option Addr) (f : Nat → Int) (b rc B : Nat) (L : List Int) (w : World) (hc : Cur w g ao n cap f) (hL : L.length ≤ 2000) (hb : ∀ z ∈ L, 0 ≤ z ∧ z ≤ 255) (hgB : g < B) (hB : B ≤ w.heap.size) (ho : w.ownsRow B 5 1 (.slice (some ⟨b, 0, none⟩) L.length rc) L.length (L.map (.int .u8))) :
    Calls Try.prog 44 #[.pointer (some ⟨g, 0, none⟩), .slice (some ⟨b, 0, none⟩) L.length rc] w fun e w' => ∃ v' L', e = .returned v' ∧ (L' : List Int).length ≤ 2001 ∧ (∀ z ∈ L', 0 ≤ z ∧ z ≤ 255) ∧ w'.ownsRow B 5 1 v' L'.length (L'.map (.int .u8)) ∧ CurW w w' g ao n cap f := by
  obtain ⟨i0, hi, hz0, hz1, hz2⟩ := info_parts Try.info5
  have HC := hide hc
  have HO := hide ho
  have HBy := hide hb
  have hrc : L.length ≤ rc ∧ rc ≤ 9223372036854775807 := by
    rcases ho.2 with ⟨e, _⟩ | ⟨b', cp, cur, e, _, _, h1, h2, _⟩
    · cases e
    · cases e; unfold maxLen at h2; omega
  clear hc ho hb
  go_enter Try.func44, Try.ntmps44
  go_wp2_with fail
  refine (below_every g n cap (L.length + 1) ao f _ (by omega) (by omega) HC.out).mono ?_
  rintro e w1 ⟨⟨x, rfl, hx0, hx1⟩, hcur, hgr⟩
  have H1 : Hid (w1.ownsRow B 5 1 (.slice (some ⟨b, 0, none⟩) L.length rc) L.length (L.map (.int .u8)) ∧ CurW w w1 g ao n cap f) := ⟨owns_cur HO.out hgr hgB, (CurW.refl HC.out).step hcur hgr⟩
  obtain ⟨t, rfl⟩ := Int.eq_ofNat_of_zero_le hx0
  have ht : t ≤ L.length := by omega
  clear hcur hgr HO
  go_wp2_with fail
  refine (below_any g n cap 5 ao f _ (by decide) (by decide) H1.out.2.1).mono ?_
  rintro e w2 ⟨⟨y, rfl, hy0, hy1⟩, hcur, hgr⟩
  have H2 : Hid (w2.ownsRow B 5 1 (.slice (some ⟨b, 0, none⟩) L.length rc) L.length (L.map (.int .u8)) ∧ CurW w w2 g ao n cap f) := ⟨owns_cur H1.out.1 hgr hgB, H1.out.2.step hcur hgr⟩
  clear hcur hgr H1
  have k0 : (0 : Int) ≤ (t : Int) := by omega
  have k1 : (t : Int) ≤ (rc : Int) := by omega
  have k2 : t ≤ rc := by omega
  have k3 : (t : Int) ≤ (L.length : Int) := by omega
  by_cases c0 : y = 0
  · subst c0
    go_wp2_with fail
    go_ret
    refine ⟨_, L.take t, rfl, by simp; omega, fun z hz => HBy.out z (List.mem_of_mem_take hz), ?_, H2.out.2⟩
    rcases H2.out.1.2 with ⟨e, _⟩ | ⟨b', cp, cur, e, h1, h2, h3, h4, h5, h6⟩
    · cases e
    · cases e
      refine ⟨by simp, .inr ⟨b, rc, cur, by simp [Nat.min_eq_left ht], h1, h2, by simp; omega, h4, h5, ?_⟩⟩
      rw [List.map_take, ← h6, List.take_take]
      simp [Nat.min_eq_left ht]
  by_cases c1 : y = 1
  · subst c1
    go_wp2_with fail
    have H2d : Hid (DE w w2 g ao n cap f b w2.heap.size L) := DE.new H2.out.1 hgB H2.out.2
    have hB2 : B ≤ w2.heap.size := Nat.le_trans hB H2.out.2.2.1.size
    clear H2
    by_cases hrt : rc = t
    · have hrt' := hrt.symm
      subst hrt'
      refine wp_region_held_drew (S := fun _ => True) (by kernel_rfl) trivial (fun _ => ?_)
      refine wpAnyH_take (i := 1) (oi := { dst := some 21, op := Op.move (Operand.tmp 1), type := 22, pos := "l04_msg.go:148", after := #[], guard := none }) (v := ?_) rfl (by kernel_rfl) (by kernel_rfl) (by kernel_rfl) (fun _ _ _ h => h) (Or.inl ⟨by rfl, ?_⟩) trivial ?_
      rotate_left 1
      · (intro wq _; go_simp; try with_reducible rfl)
      try simp only [Act.put, List.setIfInBounds_toArray, List.set_cons_zero, List.set_cons_succ]
      refine wpAnyH_take (i := 2) (oi := { dst := some 22, op := Op.move (Operand.tmp 5), type := 3, pos := "l04_msg.go:148", after := #[], guard := none }) (v := ?_) rfl (by kernel_rfl) (by kernel_rfl) (by kernel_rfl) (fun _ _ _ h => h) (Or.inl ⟨by rfl, ?_⟩) trivial ?_
      rotate_left 1
      · (intro wq _; go_simp; try with_reducible rfl)
      try simp only [Act.put, List.setIfInBounds_toArray, List.set_cons_zero, List.set_cons_succ]
      refine wpAnyH_take (i := 3) (oi := { dst := some 23, op := Op.slice 22 (Operand.tmp 21) none (some (Operand.tmp 22)) none, type := 22, pos := "l04_msg.go:148", after := #[{ on := 1, ground := Ground.data }, { on := 2, ground := Ground.data }], guard := none }) (v := ?_) rfl (by kernel_rfl) (by kernel_rfl) (by kernel_rfl) (fun _ _ _ h => h) (Or.inl ⟨by rfl, ?_⟩) trivial ?_
      rotate_left 1
      · (intro wq _; go_simp; try with_reducible rfl)
      try simp only [Act.put, List.setIfInBounds_toArray, List.set_cons_zero, List.set_cons_succ]
      refine wpAnyH_take (i := 5) (oi := { dst := some 25, op := Op.move (Operand.tmp 0), type := 52, pos := "l04_msg.go:148", after := #[], guard := none }) (v := ?_) rfl (by kernel_rfl) (by kernel_rfl) (by kernel_rfl) (fun _ _ _ h => h) (Or.inl ⟨by rfl, ?_⟩) trivial ?_
      rotate_left 1
      · (intro wq _; go_simp; try with_reducible rfl)
      try simp only [Act.put, List.setIfInBounds_toArray, List.set_cons_zero, List.set_cons_succ]
      refine wpAnyH_take (i := 10) (oi := { dst := some 30, op := Op.move (Operand.tmp 1), type := 22, pos := "l04_msg.go:148", after := #[], guard := none }) (v := ?_) rfl (by kernel_rfl) (by kernel_rfl) (by kernel_rfl) (fun _ _ _ h => h) (Or.inl ⟨by rfl, ?_⟩) trivial ?_
      rotate_left 1
      · (intro wq _; go_simp; try with_reducible rfl)
      try simp only [Act.put, List.setIfInBounds_toArray, List.set_cons_zero, List.set_cons_succ]
      refine wpAnyH_take (i := 11) (oi := { dst := some 31, op := Op.move (Operand.tmp 5), type := 3, pos := "l04_msg.go:148", after := #[], guard := none }) (v := ?_) rfl (by kernel_rfl) (by kernel_rfl) (by kernel_rfl) (fun _ _ _ h => h) (Or.inl ⟨by rfl, ?_⟩) trivial ?_
      rotate_left 1
      · (intro wq _; go_simp; try with_reducible rfl)
      try simp only [Act.put, List.setIfInBounds_toArray, List.set_cons_zero, List.set_cons_succ]
      refine wpAnyH_take (i := 12) (oi := { dst := some 32, op := Op.slice 22 (Operand.tmp 30) (some (Operand.tmp 31)) none none, type := 22, pos := "l04_msg.go:148", after := #[{ on := 10, ground := Ground.data }, { on := 11, ground := Ground.data }], guard := none }) (v := ?_) rfl (by kernel_rfl) (by kernel_rfl) (by kernel_rfl) (fun _ _ _ h => h) (Or.inl ⟨by rfl, ?_⟩) trivial ?_
      rotate_left 1
      · (intro wq _; go_simp; try with_reducible rfl)
      try simp only [Act.put, List.setIfInBounds_toArray, List.set_cons_zero, List.set_cons_succ]
      refine wpAnyH_ready (rs := [0, 6]) (by kernel_rfl) (by simp) ?_
      refine AllReadyH.cons (o := { dst := some 20, op := Op.buildSlice 22 0 #[], type := 22, pos := "l04_msg.go:148", after := #[], guard := none }) rfl (fun K hK => ?_) ?_
      · skip
        go_simp
        refine hK.out _ _ trivial (fun _ => ?_)
        clear hK K
        try simp only [Act.put, List.setIfInBounds_toArray, List.set_cons_zero, List.set_cons_succ]
        refine wpAnyH_ready (rs := [4, 6]) (by kernel_rfl) (by simp) ?_
        refine AllReadyH.cons (o := { dst := some 24, op := Op.call { callee := Callee.builtin Builtin.append, args := #[Operand.tmp 20, Operand.tmp 23], argTypes := #[22, 22] }, type := 22, pos := "l04_msg.go:148", after := #[{ on := 0, ground := Ground.data }, { on := 3, ground := Ground.data }], guard := none }) rfl (fun K hK => ?_) ?_
        · skip
          refine step_append_src rfl _ _ 22 rfl w2.heap.size 5 i0 (.int .u8 0) 1 Try.underlying22 hi hz0 hz1 hz2 rfl _ [] rfl (emp w2) _ (L.take t) rfl ((H2d.out.alloc _).drawn.head ht) (by unfold maxLen; simp; omega) (by simp; omega) (H2d.out.alloc _).drawn.2.1 ?_
          intro v24 w4 hown4 hgrow4
          have H4 : Hid (DE w w4 g ao n cap f b w2.heap.size L ∧ w4.ownsRow w2.heap.size 5 1 v24 (L.take t).length ((L.take t).map (.int .u8))) := ⟨(H2d.out.alloc _).drawn.app hgrow4 (fun k hk => (World.ownsRow.lt (emp w2) k hk).1), by simpa using hown4⟩
          clear H2d
          clear hown4 hgrow4
          refine hK.out _ _ trivial (fun _ => ?_)
          clear hK K
          try simp only [Act.put, List.setIfInBounds_toArray, List.set_cons_zero, List.set_cons_succ]
          refine wpAnyH_ready (rs := [6]) (by kernel_rfl) (by simp) ?_
          refine AllReadyH.cons (o := { dst := some 26, op := Op.buildSlice 24 4 #[(0, Operand.const (Value.int IntKind.i64 0)), (1, Operand.const (Value.int IntKind.i64 1)), (2, Operand.const (Value.int IntKind.i64 128)), (3, Operand.const (Value.int IntKind.i64 3))], type := 24, pos := "l04_msg.go:148", after := #[], guard := none }) rfl (fun K hK => ?_) AllReadyH.nil
          go_simp
          refine hK.out _ _ trivial (fun _ => ?_)
          clear hK K
          try simp only [Act.put, List.setIfInBounds_toArray, List.set_cons_zero, List.set_cons_succ]
          have H5 : Hid (DE w (w4.alloc (.cells #[.int .i64 0, .int .i64 1, .int .i64 128, .int .i64 3] 3)) g ao n cap f b w2.heap.size L ∧ (w4.alloc (.cells #[.int .i64 0, .int .i64 1, .int .i64 128, .int .i64 3] 3)).ownsRow w2.heap.size 5 1 v24 (L.take t).length ((L.take t).map (.int .u8))) := ⟨H4.out.1.alloc _, H4.out.2.alloc _⟩
          have HL5 : Hid (PL g w4.heap.size (w4.alloc (.cells #[.int .i64 0, .int .i64 1, .int .i64 128, .int .i64 3] 3))) := PL.new w4 H4.out.1.1.1.lt
          clear H4
          refine wpAnyH_ready (rs := [7]) (by kernel_rfl) (by simp) ?_
          refine AllReadyH.cons (o := { dst := some 27, op := Op.call { callee := Callee.value (Operand.func 51), args := #[Operand.tmp 25, Operand.tmp 26], argTypes := #[52, 24] }, type := 3, pos := "l04_msg.go:148", after := #[{ on := 5, ground := Ground.data }, { on := 6, ground := Ground.data }, { on := 4, ground := Ground.chain }], guard := none }) rfl (fun K hK => ?_) AllReadyH.nil
          go_simp
          refine (pick_any g n cap 4 4 ao (some ⟨w4.heap.size, 0, none⟩) f (fun i => [0, 1, 128, 3].getD i 0) _ (by decide) (by decide) H5.out.1.1.1 HL5.out.cells).mono ?_
          rintro e w7 ⟨⟨j, hj, rfl⟩, hcur, hgr⟩
          have H7 : Hid (DE w w7 g ao n cap f b w2.heap.size L ∧ w7.ownsRow w2.heap.size 5 1 v24 (L.take t).length ((L.take t).map (.int .u8))) := ⟨H5.out.1.cur hcur hgr, owns_cur H5.out.2 hgr H5.out.1.lt⟩
          have hz := pick4 j hj
          generalize ([0, 1, 128, 3] : List Int).getD j 0 = z at hz
          clear hcur hgr H5 HL5 hj
          go_wp2_with fail
          refine hK.out _ _ trivial (fun _ => ?_)
          clear hK K
          try simp only [Act.put, List.setIfInBounds_toArray, List.set_cons_zero, List.set_cons_succ]
          refine wpAnyH_take (i := 8) (oi := { dst := some 28, op := Op.convert 3 5 (Operand.tmp 27), type := 5, pos := "l04_msg.go:148", after := #[{ on := 7, ground := Ground.data }], guard := none }) (v := ?_) rfl (by kernel_rfl) (by kernel_rfl) (by kernel_rfl) (fun _ _ _ h => h) (Or.inl ⟨by rfl, ?_⟩) trivial ?_
          rotate_left 1
          · (intro wq _; go_simp; try with_reducible rfl)
          try simp only [Act.put, List.setIfInBounds_toArray, List.set_cons_zero, List.set_cons_succ]
          refine wpAnyH_ready (rs := [9]) (by kernel_rfl) (by simp) ?_
          refine AllReadyH.cons (o := { dst := some 29, op := Op.buildSlice 22 1 #[(0, Operand.tmp 28)], type := 22, pos := "l04_msg.go:148", after := #[{ on := 8, ground := Ground.data }], guard := none }) rfl (fun K hK => ?_) AllReadyH.nil
          go_simp
          refine hK.out _ _ trivial (fun _ => ?_)
          clear hK K
          try simp only [Act.put, List.setIfInBounds_toArray, List.set_cons_zero, List.set_cons_succ]
          try rw [hz.2]
          refine wpAnyH_ready (rs := [13]) (by kernel_rfl) (by simp) ?_
          refine AllReadyH.cons (o := { dst := some 33, op := Op.call { callee := Callee.builtin Builtin.append, args := #[Operand.tmp 29, Operand.tmp 32], argTypes := #[22, 22] }, type := 22, pos := "l04_msg.go:148", after := #[{ on := 9, ground := Ground.data }, { on := 12, ground := Ground.data }, { on := 7, ground := Ground.chain }], guard := none }) rfl (fun K hK => ?_) AllReadyH.nil
          refine step_append_src rfl _ _ 22 rfl w2.heap.size 5 i0 (.int .u8 0) 1 Try.underlying22 hi hz0 hz1 hz2 rfl _ [z] rfl (gone1 w7 z H7.out.1.2.1) _ (L.drop t) rfl ((H7.out.1.alloc _).nothing hrc.1) (by unfold maxLen; simp; omega) (by simp; omega) (H7.out.1.alloc _).2.1 ?_
          intro v33 w9 hown9 hgrow9
          have H9 : Hid (DE w w9 g ao n cap f b w2.heap.size L ∧ w9.ownsRow w2.heap.size 5 1 v24 (L.take t).length ((L.take t).map (.int .u8)) ∧ w9.ownsRow w2.heap.size 5 1 v33 ([z] ++ L.drop t).length (([z] ++ L.drop t).map (.int .u8))) := ⟨(H7.out.1.alloc _).app hgrow9 (fun k hk => (World.ownsRow.lt (gone1 w7 z H7.out.1.2.1) k hk).1), (H7.out.2.alloc _).kept hgrow9 (.inr (fun e => absurd (World.ownsRow.lt H7.out.2 _ (e.trans rfl)).2 (Nat.lt_irrefl _))), hown9⟩
          clear hown9 hgrow9 H7
          refine hK.out _ _ trivial (fun _ => ?_)
          clear hK K
          try simp only [Act.put, List.setIfInBounds_toArray, List.set_cons_zero, List.set_cons_succ]
          refine wpAnyH_ready (rs := [14]) (by kernel_rfl) (by simp) ?_
          refine AllReadyH.cons (o := { dst := some 34, op := Op.call { callee := Callee.builtin Builtin.append, args := #[Operand.tmp 24, Operand.tmp 33], argTypes := #[22, 22] }, type := 22, pos := "l04_msg.go:148", after := #[{ on := 4, ground := Ground.data }, { on := 13, ground := Ground.data }, { on := 13, ground := Ground.chain }], guard := none }) rfl (fun K hK => ?_) AllReadyH.nil
          refine step_append_src rfl _ _ 22 rfl w2.heap.size 5 i0 (.int .u8 0) 1 Try.underlying22 hi hz0 hz1 hz2 rfl _ (L.take t) rfl H9.out.2.1 _ ([z] ++ L.drop t) rfl (Sr.of_owns H9.out.2.2 (by simp)) (by unfold maxLen; simp; omega) (by simp; omega) H9.out.1.2.1 ?_
          intro v34 w10 hown10 hgrow10
          have H10 : Hid (w10.ownsRow B 5 1 v34 (L.take t ++ ([z] ++ L.drop t)).length ((L.take t ++ ([z] ++ L.drop t)).map (.int .u8)) ∧ CurW w w10 g ao n cap f) := ⟨gmono hown10 hB2, (H9.out.1.app hgrow10 (fun k hk => (World.ownsRow.lt H9.out.2.1 k hk).1)).1⟩
          clear hown10 hgrow10 H9
          refine hK.out _ _ trivial (fun _ => ?_)
          clear hK K
          try simp only [Act.put, List.setIfInBounds_toArray, List.set_cons_zero, List.set_cons_succ]
          refine wpAnyH_ready (rs := [15]) (by kernel_rfl) (by simp) ?_
          refine AllReadyH.cons (o := { dst := some 4, op := Op.assign (Operand.tmp 34), type := 22, pos := "l04_msg.go:148", after := #[{ on := 14, ground := Ground.data }, { on := 14, ground := Ground.chain }, { on := 0, ground := Ground.phase }, { on := 1, ground := Ground.phase }, { on := 2, ground := Ground.phase }, { on := 3, ground := Ground.phase }, { on := 4, ground := Ground.phase }, { on := 5, ground := Ground.phase }, { on := 6, ground := Ground.phase }, { on := 7, ground := Ground.phase }, { on := 8, ground := Ground.phase }, { on := 9, ground := Ground.phase }, { on := 10, ground := Ground.phase }, { on := 11, ground := Ground.phase }, { on := 12, ground := Ground.phase }, { on := 13, ground := Ground.phase }, { on := 14, ground := Ground.phase }], guard := none }) rfl (fun K hK => ?_) AllReadyH.nil
          go_simp
          refine hK.out _ _ trivial (fun _ => ?_)
          clear hK K
          try simp only [Act.put, List.setIfInBounds_toArray, List.set_cons_zero, List.set_cons_succ]
          refine wpAnyH_done (by kernel_rfl) ?_ _
          go_wp2_with fail
          go_ret
          refine ⟨_, L.take t ++ ([z] ++ L.drop t), rfl, by simp; omega, fun u hu => ?_, H10.out⟩
          exact put_in HBy.out hz.1 hu
        refine AllReadyH.cons (o := { dst := some 26, op := Op.buildSlice 24 4 #[(0, Operand.const (Value.int IntKind.i64 0)), (1, Operand.const (Value.int IntKind.i64 1)), (2, Operand.const (Value.int IntKind.i64 128)), (3, Operand.const (Value.int IntKind.i64 3))], type := 24, pos := "l04_msg.go:148", after := #[], guard := none }) rfl (fun K hK => ?_) AllReadyH.nil
        · skip
          go_simp
          refine hK.out _ _ trivial (fun _ => ?_)
          clear hK K
          try simp only [Act.put, List.setIfInBounds_toArray, List.set_cons_zero, List.set_cons_succ]
          refine wpAnyH_ready (rs := [4]) (by kernel_rfl) (by simp) ?_
          refine AllReadyH.cons (o := { dst := some 24, op := Op.call { callee := Callee.builtin Builtin.append, args := #[Operand.tmp 20, Operand.tmp 23], argTypes := #[22, 22] }, type := 22, pos := "l04_msg.go:148", after := #[{ on := 0, ground := Ground.data }, { on := 3, ground := Ground.data }], guard := none }) rfl (fun K hK => ?_) AllReadyH.nil
          refine step_append_src rfl _ _ 22 rfl w2.heap.size 5 i0 (.int .u8 0) 1 Try.underlying22 hi hz0 hz1 hz2 rfl _ [] rfl (emp06 w2 H2d.out.1.1.lt).1 _ (L.take t) rfl (((H2d.out.alloc _).alloc _).drawn.head ht) (by unfold maxLen; simp; omega) (by simp; omega) ((H2d.out.alloc _).alloc _).drawn.2.1 ?_
          intro v24 w4 hown4 hgrow4
          have H4 : Hid (DE w w4 g ao n cap f b w2.heap.size L ∧ w4.ownsRow w2.heap.size 5 1 v24 (L.take t).length ((L.take t).map (.int .u8))) := ⟨((H2d.out.alloc _).alloc _).drawn.app hgrow4 (fun k hk => (World.ownsRow.lt (emp06 w2 H2d.out.1.1.lt).1 k hk).1), by simpa using hown4⟩
          have HL5 : Hid (PL g (w2.heap.size + 1) w4) := (emp06 w2 H2d.out.1.1.lt).2.far hgrow4 (fun e => absurd (show (w2.heap.size + 1) = w2.heap.size from Option.some.inj e) (by omega))
          have H5 := H4
          clear H4 H2d
          clear hown4 hgrow4
          refine hK.out _ _ trivial (fun _ => ?_)
          clear hK K
          try simp only [Act.put, List.setIfInBounds_toArray, List.set_cons_zero, List.set_cons_succ]
          refine wpAnyH_ready (rs := [7]) (by kernel_rfl) (by simp) ?_
          refine AllReadyH.cons (o := { dst := some 27, op := Op.call { callee := Callee.value (Operand.func 51), args := #[Operand.tmp 25, Operand.tmp 26], argTypes := #[52, 24] }, type := 3, pos := "l04_msg.go:148", after := #[{ on := 5, ground := Ground.data }, { on := 6, ground := Ground.data }, { on := 4, ground := Ground.chain }], guard := none }) rfl (fun K hK => ?_) AllReadyH.nil
          go_simp
          refine (pick_any g n cap 4 4 ao (some ⟨(w2.heap.size + 1), 0, none⟩) f (fun i => [0, 1, 128, 3].getD i 0) _ (by decide) (by decide) H5.out.1.1.1 HL5.out.cells).mono ?_
          rintro e w7 ⟨⟨j, hj, rfl⟩, hcur, hgr⟩
          have H7 : Hid (DE w w7 g ao n cap f b w2.heap.size L ∧ w7.ownsRow w2.heap.size 5 1 v24 (L.take t).length ((L.take t).map (.int .u8))) := ⟨H5.out.1.cur hcur hgr, owns_cur H5.out.2 hgr H5.out.1.lt⟩
          have hz := pick4 j hj
          generalize ([0, 1, 128, 3] : List Int).getD j 0 = z at hz
          clear hcur hgr H5 HL5 hj
          go_wp2_with fail
          refine hK.out _ _ trivial (fun _ => ?_)
          clear hK K
          try simp only [Act.put, List.setIfInBounds_toArray, List.set_cons_zero, List.set_cons_succ]
          refine wpAnyH_take (i := 8) (oi := { dst := some 28, op := Op.convert 3 5 (Operand.tmp 27), type := 5, pos := "l04_msg.go:148", after := #[{ on := 7, ground := Ground.data }], guard := none }) (v := ?_) rfl (by kernel_rfl) (by kernel_rfl) (by kernel_rfl) (fun _ _ _ h => h) (Or.inl ⟨by rfl, ?_⟩) trivial ?_
          rotate_left 1
          · (intro wq _; go_simp; try with_reducible rfl)
          try simp only [Act.put, List.setIfInBounds_toArray, List.set_cons_zero, List.set_cons_succ]
          refine wpAnyH_ready (rs := [9]) (by kernel_rfl) (by simp) ?_
          refine AllReadyH.cons (o := { dst := some 29, op := Op.buildSlice 22 1 #[(0, Operand.tmp 28)], type := 22, pos := "l04_msg.go:148", after := #[{ on := 8, ground := Ground.data }], guard := none }) rfl (fun K hK => ?_) AllReadyH.nil
          go_simp
          refine hK.out _ _ trivial (fun _ => ?_)
          clear hK K
          try simp only [Act.put, List.setIfInBounds_toArray, List.set_cons_zero, List.set_cons_succ]
          try rw [hz.2]
          refine wpAnyH_ready (rs := [13]) (by kernel_rfl) (by simp) ?_
          refine AllReadyH.cons (o := { dst := some 33, op := Op.call { callee := Callee.builtin Builtin.append, args := #[Operand.tmp 29, Operand.tmp 32], argTypes := #[22, 22] }, type := 22, pos := "l04_msg.go:148", after := #[{ on := 9, ground := Ground.data }, { on := 12, ground := Ground.data }, { on := 7, ground := Ground.chain }], guard := none }) rfl (fun K hK => ?_) AllReadyH.nil
          refine step_append_src rfl _ _ 22 rfl w2.heap.size 5 i0 (.int .u8 0) 1 Try.underlying22 hi hz0 hz1 hz2 rfl _ [z] rfl (gone1 w7 z H7.out.1.2.1) _ (L.drop t) rfl ((H7.out.1.alloc _).nothing hrc.1) (by unfold maxLen; simp; omega) (by simp; omega) (H7.out.1.alloc _).2.1 ?_
          intro v33 w9 hown9 hgrow9
          have H9 : Hid (DE w w9 g ao n cap f b w2.heap.size L ∧ w9.ownsRow w2.heap.size 5 1 v24 (L.take t).length ((L.take t).map (.int .u8)) ∧ w9.ownsRow w2.heap.size 5 1 v33 ([z] ++ L.drop t).length (([z] ++ L.drop t).map (.int .u8))) := ⟨(H7.out.1.alloc _).app hgrow9 (fun k hk => (World.ownsRow.lt (gone1 w7 z H7.out.1.2.1) k hk).1), (H7.out.2.alloc _).kept hgrow9 (.inr (fun e => absurd (World.ownsRow.lt H7.out.2 _ (e.trans rfl)).2 (Nat.lt_irrefl _))), hown9⟩
          clear hown9 hgrow9 H7
          refine hK.out _ _ trivial (fun _ => ?_)
          clear hK K
          try simp only [Act.put, List.setIfInBounds_toArray, List.set_cons_zero, List.set_cons_succ]
          refine wpAnyH_ready (rs := [14]) (by kernel_rfl) (by simp) ?_
          refine AllReadyH.cons (o := { dst := some 34, op := Op.call { callee := Callee.builtin Builtin.append, args := #[Operand.tmp 24, Operand.tmp 33], argTypes := #[22, 22] }, type := 22, pos := "l04_msg.go:148", after := #[{ on := 4, ground := Ground.data }, { on := 13, ground := Ground.data }, { on := 13, ground := Ground.chain }], guard := none }) rfl (fun K hK => ?_) AllReadyH.nil
          refine step_append_src rfl _ _ 22 rfl w2.heap.size 5 i0 (.int .u8 0) 1 Try.underlying22 hi hz0 hz1 hz2 rfl _ (L.take t) rfl H9.out.2.1 _ ([z] ++ L.drop t) rfl (Sr.of_owns H9.out.2.2 (by simp)) (by unfold maxLen; simp; omega) (by simp; omega) H9.out.1.2.1 ?_
          intro v34 w10 hown10 hgrow10
          have H10 : Hid (w10.ownsRow B 5 1 v34 (L.take t ++ ([z] ++ L.drop t)).length ((L.take t ++ ([z] ++ L.drop t)).map (.int .u8)) ∧ CurW w w10 g ao n cap f) := ⟨gmono hown10 hB2, (H9.out.1.app hgrow10 (fun k hk => (World.ownsRow.lt H9.out.2.1 k hk).1)).1⟩
          clear hown10 hgrow10 H9
          refine hK.out _ _ trivial (fun _ => ?_)
          clear hK K
          try simp only [Act.put, List.setIfInBounds_toArray, List.set_cons_zero, List.set_cons_succ]
          refine wpAnyH_ready (rs := [15]) (by kernel_rfl) (by simp) ?_
          refine AllReadyH.cons (o := { dst := some 4, op := Op.assign (Operand.tmp 34), type := 22, pos := "l04_msg.go:148", after := #[{ on := 14, ground := Ground.data }, { on := 14, ground := Ground.chain }, { on := 0, ground := Ground.phase }, { on := 1, ground := Ground.phase }, { on := 2, ground := Ground.phase }, { on := 3, ground := Ground.phase }, { on := 4, ground := Ground.phase }, { on := 5, ground := Ground.phase }, { on := 6, ground := Ground.phase }, { on := 7, ground := Ground.phase }, { on := 8, ground := Ground.phase }, { on := 9, ground := Ground.phase }, { on := 10, ground := Ground.phase }, { on := 11, ground := Ground.phase }, { on := 12, ground := Ground.phase }, { on := 13, ground := Ground.phase }, { on := 14, ground := Ground.phase }], guard := none }) rfl (fun K hK => ?_) AllReadyH.nil
          go_simp
          refine hK.out _ _ trivial (fun _ => ?_)
          clear hK K
          try simp only [Act.put, List.setIfInBounds_toArray, List.set_cons_zero, List.set_cons_succ]
          refine wpAnyH_done (by kernel_rfl) ?_ _
          go_wp2_with fail
          go_ret
          refine ⟨_, L.take t ++ ([z] ++ L.drop t), rfl, by simp; omega, fun u hu => ?_, H10.out⟩
          exact put_in HBy.out hz.1 hu
      refine AllReadyH.cons (o := { dst := some 26, op := Op.buildSlice 24 4 #[(0, Operand.const (Value.int IntKind.i64 0)), (1, Operand.const (Value.int IntKind.i64 1)), (2, Operand.const (Value.int IntKind.i64 128)), (3, Operand.const (Value.int IntKind.i64 3))], type := 24, pos := "l04_msg.go:148", after := #[], guard := none }) rfl (fun K hK => ?_) AllReadyH.nil
      · skip
        go_simp
        refine hK.out _ _ trivial (fun _ => ?_)
        clear hK K
        try simp only [Act.put, List.setIfInBounds_toArray, List.set_cons_zero, List.set_cons_succ]
        refine wpAnyH_ready (rs := [0]) (by kernel_rfl) (by simp) ?_
        refine AllReadyH.cons (o := { dst := some 20, op := Op.buildSlice 22 0 #[], type := 22, pos := "l04_msg.go:148", after := #[], guard := none }) rfl (fun K hK => ?_) AllReadyH.nil
        go_simp
        refine hK.out _ _ trivial (fun _ => ?_)
        clear hK K
        try simp only [Act.put, List.setIfInBounds_toArray, List.set_cons_zero, List.set_cons_succ]
        refine wpAnyH_ready (rs := [4]) (by kernel_rfl) (by simp) ?_
        refine AllReadyH.cons (o := { dst := some 24, op := Op.call { callee := Callee.builtin Builtin.append, args := #[Operand.tmp 20, Operand.tmp 23], argTypes := #[22, 22] }, type := 22, pos := "l04_msg.go:148", after := #[{ on := 0, ground := Ground.data }, { on := 3, ground := Ground.data }], guard := none }) rfl (fun K hK => ?_) AllReadyH.nil
        refine step_append_src rfl _ _ 22 rfl w2.heap.size 5 i0 (.int .u8 0) 1 Try.underlying22 hi hz0 hz1 hz2 rfl _ [] rfl (emp60 w2 H2d.out.1.1.lt).1 _ (L.take t) rfl (((H2d.out.alloc _).alloc _).drawn.head ht) (by unfold maxLen; simp; omega) (by simp; omega) ((H2d.out.alloc _).alloc _).drawn.2.1 ?_
        intro v24 w4 hown4 hgrow4
        have H4 : Hid (DE w w4 g ao n cap f b w2.heap.size L ∧ w4.ownsRow w2.heap.size 5 1 v24 (L.take t).length ((L.take t).map (.int .u8))) := ⟨((H2d.out.alloc _).alloc _).drawn.app hgrow4 (fun k hk => (World.ownsRow.lt (emp60 w2 H2d.out.1.1.lt).1 k hk).1), by simpa using hown4⟩
        have HL5 : Hid (PL g w2.heap.size w4) := (emp60 w2 H2d.out.1.1.lt).2.far hgrow4 (fun e => absurd (show w2.heap.size = (w2.heap.size + 1) from Option.some.inj e) (by omega))
        have H5 := H4
        clear H4 H2d
        clear hown4 hgrow4
        refine hK.out _ _ trivial (fun _ => ?_)
        clear hK K
        try simp only [Act.put, List.setIfInBounds_toArray, List.set_cons_zero, List.set_cons_succ]
        refine wpAnyH_ready (rs := [7]) (by kernel_rfl) (by simp) ?_
        refine AllReadyH.cons (o := { dst := some 27, op := Op.call { callee := Callee.value (Operand.func 51), args := #[Operand.tmp 25, Operand.tmp 26], argTypes := #[52, 24] }, type := 3, pos := "l04_msg.go:148", after := #[{ on := 5, ground := Ground.data }, { on := 6, ground := Ground.data }, { on := 4, ground := Ground.chain }], guard := none }) rfl (fun K hK => ?_) AllReadyH.nil
        go_simp
        refine (pick_any g n cap 4 4 ao (some ⟨w2.heap.size, 0, none⟩) f (fun i => [0, 1, 128, 3].getD i 0) _ (by decide) (by decide) H5.out.1.1.1 HL5.out.cells).mono ?_
        rintro e w7 ⟨⟨j, hj, rfl⟩, hcur, hgr⟩
        have H7 : Hid (DE w w7 g ao n cap f b w2.heap.size L ∧ w7.ownsRow w2.heap.size 5 1 v24 (L.take t).length ((L.take t).map (.int .u8))) := ⟨H5.out.1.cur hcur hgr, owns_cur H5.out.2 hgr H5.out.1.lt⟩
        have hz := pick4 j hj
        generalize ([0, 1, 128, 3] : List Int).getD j 0 = z at hz
        clear hcur hgr H5 HL5 hj
        go_wp2_with fail
        refine hK.out _ _ trivial (fun _ => ?_)
        clear hK K
        try simp only [Act.put, List.setIfInBounds_toArray, List.set_cons_zero, List.set_cons_succ]
        refine wpAnyH_take (i := 8) (oi := { dst := some 28, op := Op.convert 3 5 (Operand.tmp 27), type := 5, pos := "l04_msg.go:148", after := #[{ on := 7, ground := Ground.data }], guard := none }) (v := ?_) rfl (by kernel_rfl) (by kernel_rfl) (by kernel_rfl) (fun _ _ _ h => h) (Or.inl ⟨by rfl, ?_⟩) trivial ?_
        rotate_left 1
        · (intro wq _; go_simp; try with_reducible rfl)
        try simp only [Act.put, List.setIfInBounds_toArray, List.set_cons_zero, List.set_cons_succ]
        refine wpAnyH_ready (rs := [9]) (by kernel_rfl) (by simp) ?_
        refine AllReadyH.cons (o := { dst := some 29, op := Op.buildSlice 22 1 #[(0, Operand.tmp 28)], type := 22, pos := "l04_msg.go:148", after := #[{ on := 8, ground := Ground.data }], guard := none }) rfl (fun K hK => ?_) AllReadyH.nil
        go_simp
        refine hK.out _ _ trivial (fun _ => ?_)
        clear hK K
        try simp only [Act.put, List.setIfInBounds_toArray, List.set_cons_zero, List.set_cons_succ]
        try rw [hz.2]
        refine wpAnyH_ready (rs := [13]) (by kernel_rfl) (by simp) ?_
        refine AllReadyH.cons (o := { dst := some 33, op := Op.call { callee := Callee.builtin Builtin.append, args := #[Operand.tmp 29, Operand.tmp 32], argTypes := #[22, 22] }, type := 22, pos := "l04_msg.go:148", after := #[{ on := 9, ground := Ground.data }, { on := 12, ground := Ground.data }, { on := 7, ground := Ground.chain }], guard := none }) rfl (fun K hK => ?_) AllReadyH.nil
        refine step_append_src rfl _ _ 22 rfl w2.heap.size 5 i0 (.int .u8 0) 1 Try.underlying22 hi hz0 hz1 hz2 rfl _ [z] rfl (gone1 w7 z H7.out.1.2.1) _ (L.drop t) rfl ((H7.out.1.alloc _).nothing hrc.1) (by unfold maxLen; simp; omega) (by simp; omega) (H7.out.1.alloc _).2.1 ?_
        intro v33 w9 hown9 hgrow9
        have H9 : Hid (DE w w9 g ao n cap f b w2.heap.size L ∧ w9.ownsRow w2.heap.size 5 1 v24 (L.take t).length ((L.take t).map (.int .u8)) ∧ w9.ownsRow w2.heap.size 5 1 v33 ([z] ++ L.drop t).length (([z] ++ L.drop t).map (.int .u8))) := ⟨(H7.out.1.alloc _).app hgrow9 (fun k hk => (World.ownsRow.lt (gone1 w7 z H7.out.1.2.1) k hk).1), (H7.out.2.alloc _).kept hgrow9 (.inr (fun e => absurd (World.ownsRow.lt H7.out.2 _ (e.trans rfl)).2 (Nat.lt_irrefl _))), hown9⟩
        clear hown9 hgrow9 H7
        refine hK.out _ _ trivial (fun _ => ?_)
        clear hK K
        try simp only [Act.put, List.setIfInBounds_toArray, List.set_cons_zero, List.set_cons_succ]
        refine wpAnyH_ready (rs := [14]) (by kernel_rfl) (by simp) ?_
        refine AllReadyH.cons (o := { dst := some 34, op := Op.call { callee := Callee.builtin Builtin.append, args := #[Operand.tmp 24, Operand.tmp 33], argTypes := #[22, 22] }, type := 22, pos := "l04_msg.go:148", after := #[{ on := 4, ground := Ground.data }, { on := 13, ground := Ground.data }, { on := 13, ground := Ground.chain }], guard := none }) rfl (fun K hK => ?_) AllReadyH.nil
        refine step_append_src rfl _ _ 22 rfl w2.heap.size 5 i0 (.int .u8 0) 1 Try.underlying22 hi hz0 hz1 hz2 rfl _ (L.take t) rfl H9.out.2.1 _ ([z] ++ L.drop t) rfl (Sr.of_owns H9.out.2.2 (by simp)) (by unfold maxLen; simp; omega) (by simp; omega) H9.out.1.2.1 ?_
        intro v34 w10 hown10 hgrow10
        have H10 : Hid (w10.ownsRow B 5 1 v34 (L.take t ++ ([z] ++ L.drop t)).length ((L.take t ++ ([z] ++ L.drop t)).map (.int .u8)) ∧ CurW w w10 g ao n cap f) := ⟨gmono hown10 hB2, (H9.out.1.app hgrow10 (fun k hk => (World.ownsRow.lt H9.out.2.1 k hk).1)).1⟩
        clear hown10 hgrow10 H9
        refine hK.out _ _ trivial (fun _ => ?_)
        clear hK K
        try simp only [Act.put, List.setIfInBounds_toArray, List.set_cons_zero, List.set_cons_succ]
        refine wpAnyH_ready (rs := [15]) (by kernel_rfl) (by simp) ?_
        refine AllReadyH.cons (o := { dst := some 4, op := Op.assign (Operand.tmp 34), type := 22, pos := "l04_msg.go:148", after := #[{ on := 14, ground := Ground.data }, { on := 14, ground := Ground.chain }, { on := 0, ground := Ground.phase }, { on := 1, ground := Ground.phase }, { on := 2, ground := Ground.phase }, { on := 3, ground := Ground.phase }, { on := 4, ground := Ground.phase }, { on := 5, ground := Ground.phase }, { on := 6, ground := Ground.phase }, { on := 7, ground := Ground.phase }, { on := 8, ground := Ground.phase }, { on := 9, ground := Ground.phase }, { on := 10, ground := Ground.phase }, { on := 11, ground := Ground.phase }, { on := 12, ground := Ground.phase }, { on := 13, ground := Ground.phase }, { on := 14, ground := Ground.phase }], guard := none }) rfl (fun K hK => ?_) AllReadyH.nil
        go_simp
        refine hK.out _ _ trivial (fun _ => ?_)
        clear hK K
        try simp only [Act.put, List.setIfInBounds_toArray, List.set_cons_zero, List.set_cons_succ]
        refine wpAnyH_done (by kernel_rfl) ?_ _
        go_wp2_with fail
        go_ret
        refine ⟨_, L.take t ++ ([z] ++ L.drop t), rfl, by simp; omega, fun u hu => ?_, H10.out⟩
        exact put_in HBy.out hz.1 hu
    · skip
      refine wp_region_held_drew (S := fun _ => True) (by kernel_rfl) trivial (fun _ => ?_)
      refine wpAnyH_take (i := 1) (oi := { dst := some 21, op := Op.move (Operand.tmp 1), type := 22, pos := "l04_msg.go:148", after := #[], guard := none }) (v := ?_) rfl (by kernel_rfl) (by kernel_rfl) (by kernel_rfl) (fun _ _ _ h => h) (Or.inl ⟨by rfl, ?_⟩) trivial ?_
      rotate_left 1
      · (intro wq _; go_simp; try with_reducible rfl)
      try simp only [Act.put, List.setIfInBounds_toArray, List.set_cons_zero, List.set_cons_succ]
      refine wpAnyH_take (i := 2) (oi := { dst := some 22, op := Op.move (Operand.tmp 5), type := 3, pos := "l04_msg.go:148", after := #[], guard := none }) (v := ?_) rfl (by kernel_rfl) (by kernel_rfl) (by kernel_rfl) (fun _ _ _ h => h) (Or.inl ⟨by rfl, ?_⟩) trivial ?_
      rotate_left 1
      · (intro wq _; go_simp; try with_reducible rfl)
      try simp only [Act.put, List.setIfInBounds_toArray, List.set_cons_zero, List.set_cons_succ]
      refine wpAnyH_take (i := 3) (oi := { dst := some 23, op := Op.slice 22 (Operand.tmp 21) none (some (Operand.tmp 22)) none, type := 22, pos := "l04_msg.go:148", after := #[{ on := 1, ground := Ground.data }, { on := 2, ground := Ground.data }], guard := none }) (v := ?_) rfl (by kernel_rfl) (by kernel_rfl) (by kernel_rfl) (fun _ _ _ h => h) (Or.inl ⟨by rfl, ?_⟩) trivial ?_
      rotate_left 1
      · (intro wq _; go_simp; try with_reducible rfl)
      try simp only [Act.put, List.setIfInBounds_toArray, List.set_cons_zero, List.set_cons_succ]
      refine wpAnyH_take (i := 5) (oi := { dst := some 25, op := Op.move (Operand.tmp 0), type := 52, pos := "l04_msg.go:148", after := #[], guard := none }) (v := ?_) rfl (by kernel_rfl) (by kernel_rfl) (by kernel_rfl) (fun _ _ _ h => h) (Or.inl ⟨by rfl, ?_⟩) trivial ?_
      rotate_left 1
      · (intro wq _; go_simp; try with_reducible rfl)
      try simp only [Act.put, List.setIfInBounds_toArray, List.set_cons_zero, List.set_cons_succ]
      refine wpAnyH_take (i := 10) (oi := { dst := some 30, op := Op.move (Operand.tmp 1), type := 22, pos := "l04_msg.go:148", after := #[], guard := none }) (v := ?_) rfl (by kernel_rfl) (by kernel_rfl) (by kernel_rfl) (fun _ _ _ h => h) (Or.inl ⟨by rfl, ?_⟩) trivial ?_
      rotate_left 1
      · (intro wq _; go_simp; try with_reducible rfl)
      try simp only [Act.put, List.setIfInBounds_toArray, List.set_cons_zero, List.set_cons_succ]
      refine wpAnyH_take (i := 11) (oi := { dst := some 31, op := Op.move (Operand.tmp 5), type := 3, pos := "l04_msg.go:148", after := #[], guard := none }) (v := ?_) rfl (by kernel_rfl) (by kernel_rfl) (by kernel_rfl) (fun _ _ _ h => h) (Or.inl ⟨by rfl, ?_⟩) trivial ?_
      rotate_left 1
      · (intro wq _; go_simp; try with_reducible rfl)
      try simp only [Act.put, List.setIfInBounds_toArray, List.set_cons_zero, List.set_cons_succ]
      refine wpAnyH_take (i := 12) (oi := { dst := some 32, op := Op.slice 22 (Operand.tmp 30) (some (Operand.tmp 31)) none none, type := 22, pos := "l04_msg.go:148", after := #[{ on := 10, ground := Ground.data }, { on := 11, ground := Ground.data }], guard := none }) (v := ?_) rfl (by kernel_rfl) (by kernel_rfl) (by kernel_rfl) (fun _ _ _ h => h) (Or.inl ⟨by rfl, ?_⟩) trivial ?_
      rotate_left 1
      · (intro wq _; go_simp; try with_reducible rfl)
      try simp only [Act.put, List.setIfInBounds_toArray, List.set_cons_zero, List.set_cons_succ]
      refine wpAnyH_ready (rs := [0, 6]) (by kernel_rfl) (by simp) ?_
      refine AllReadyH.cons (o := { dst := some 20, op := Op.buildSlice 22 0 #[], type := 22, pos := "l04_msg.go:148", after := #[], guard := none }) rfl (fun K hK => ?_) ?_
      · skip
        go_simp
        refine hK.out _ _ trivial (fun _ => ?_)
        clear hK K
        try simp only [Act.put, List.setIfInBounds_toArray, List.set_cons_zero, List.set_cons_succ]
        refine wpAnyH_ready (rs := [4, 6]) (by kernel_rfl) (by simp) ?_
        refine AllReadyH.cons (o := { dst := some 24, op := Op.call { callee := Callee.builtin Builtin.append, args := #[Operand.tmp 20, Operand.tmp 23], argTypes := #[22, 22] }, type := 22, pos := "l04_msg.go:148", after := #[{ on := 0, ground := Ground.data }, { on := 3, ground := Ground.data }], guard := none }) rfl (fun K hK => ?_) ?_
        · skip
          refine step_append_src rfl _ _ 22 rfl w2.heap.size 5 i0 (.int .u8 0) 1 Try.underlying22 hi hz0 hz1 hz2 rfl _ [] rfl (emp w2) _ (L.take t) rfl ((H2d.out.alloc _).drawn.head ht) (by unfold maxLen; simp; omega) (by simp; omega) (H2d.out.alloc _).drawn.2.1 ?_
          intro v24 w4 hown4 hgrow4
          have H4 : Hid (DE w w4 g ao n cap f b w2.heap.size L ∧ w4.ownsRow w2.heap.size 5 1 v24 (L.take t).length ((L.take t).map (.int .u8))) := ⟨(H2d.out.alloc _).drawn.app hgrow4 (fun k hk => (World.ownsRow.lt (emp w2) k hk).1), by simpa using hown4⟩
          clear H2d
          clear hown4 hgrow4
          refine hK.out _ _ trivial (fun _ => ?_)
          clear hK K
          try simp only [Act.put, List.setIfInBounds_toArray, List.set_cons_zero, List.set_cons_succ]
          refine wpAnyH_ready (rs := [6]) (by kernel_rfl) (by simp) ?_
          refine AllReadyH.cons (o := { dst := some 26, op := Op.buildSlice 24 4 #[(0, Operand.const (Value.int IntKind.i64 0)), (1, Operand.const (Value.int IntKind.i64 1)), (2, Operand.const (Value.int IntKind.i64 128)), (3, Operand.const (Value.int IntKind.i64 3))], type := 24, pos := "l04_msg.go:148", after := #[], guard := none }) rfl (fun K hK => ?_) AllReadyH.nil
          go_simp
          refine hK.out _ _ trivial (fun _ => ?_)
          clear hK K
          try simp only [Act.put, List.setIfInBounds_toArray, List.set_cons_zero, List.set_cons_succ]
          have H5 : Hid (DE w (w4.alloc (.cells #[.int .i64 0, .int .i64 1, .int .i64 128, .int .i64 3] 3)) g ao n cap f b w2.heap.size L ∧ (w4.alloc (.cells #[.int .i64 0, .int .i64 1, .int .i64 128, .int .i64 3] 3)).ownsRow w2.heap.size 5 1 v24 (L.take t).length ((L.take t).map (.int .u8))) := ⟨H4.out.1.alloc _, H4.out.2.alloc _⟩
          have HL5 : Hid (PL g w4.heap.size (w4.alloc (.cells #[.int .i64 0, .int .i64 1, .int .i64 128, .int .i64 3] 3))) := PL.new w4 H4.out.1.1.1.lt
          clear H4
          refine wpAnyH_ready (rs := [7]) (by kernel_rfl) (by simp) ?_
          refine AllReadyH.cons (o := { dst := some 27, op := Op.call { callee := Callee.value (Operand.func 51), args := #[Operand.tmp 25, Operand.tmp 26], argTypes := #[52, 24] }, type := 3, pos := "l04_msg.go:148", after := #[{ on := 5, ground := Ground.data }, { on := 6, ground := Ground.data }, { on := 4, ground := Ground.chain }], guard := none }) rfl (fun K hK => ?_) AllReadyH.nil
          go_simp
          refine (pick_any g n cap 4 4 ao (some ⟨w4.heap.size, 0, none⟩) f (fun i => [0, 1, 128, 3].getD i 0) _ (by decide) (by decide) H5.out.1.1.1 HL5.out.cells).mono ?_
          rintro e w7 ⟨⟨j, hj, rfl⟩, hcur, hgr⟩
          have H7 : Hid (DE w w7 g ao n cap f b w2.heap.size L ∧ w7.ownsRow w2.heap.size 5 1 v24 (L.take t).length ((L.take t).map (.int .u8))) := ⟨H5.out.1.cur hcur hgr, owns_cur H5.out.2 hgr H5.out.1.lt⟩
          have hz := pick4 j hj
          generalize ([0, 1, 128, 3] : List Int).getD j 0 = z at hz
          clear hcur hgr H5 HL5 hj
          go_wp2_with fail
          refine hK.out _ _ trivial (fun _ => ?_)
          clear hK K
          try simp only [Act.put, List.setIfInBounds_toArray, List.set_cons_zero, List.set_cons_succ]
          refine wpAnyH_take (i := 8) (oi := { dst := some 28, op := Op.convert 3 5 (Operand.tmp 27), type := 5, pos := "l04_msg.go:148", after := #[{ on := 7, ground := Ground.data }], guard := none }) (v := ?_) rfl (by kernel_rfl) (by kernel_rfl) (by kernel_rfl) (fun _ _ _ h => h) (Or.inl ⟨by rfl, ?_⟩) trivial ?_
          rotate_left 1
          · (intro wq _; go_simp; try with_reducible rfl)
          try simp only [Act.put, List.setIfInBounds_toArray, List.set_cons_zero, List.set_cons_succ]
          refine wpAnyH_ready (rs := [9]) (by kernel_rfl) (by simp) ?_
          refine AllReadyH.cons (o := { dst := some 29, op := Op.buildSlice 22 1 #[(0, Operand.tmp 28)], type := 22, pos := "l04_msg.go:148", after := #[{ on := 8, ground := Ground.data }], guard := none }) rfl (fun K hK => ?_) AllReadyH.nil
          go_simp
          refine hK.out _ _ trivial (fun _ => ?_)
          clear hK K
          try simp only [Act.put, List.setIfInBounds_toArray, List.set_cons_zero, List.set_cons_succ]
          try rw [hz.2]
          refine wpAnyH_ready (rs := [13]) (by kernel_rfl) (by simp) ?_
          refine AllReadyH.cons (o := { dst := some 33, op := Op.call { callee := Callee.builtin Builtin.append, args := #[Operand.tmp 29, Operand.tmp 32], argTypes := #[22, 22] }, type := 22, pos := "l04_msg.go:148", after := #[{ on := 9, ground := Ground.data }, { on := 12, ground := Ground.data }, { on := 7, ground := Ground.chain }], guard := none }) rfl (fun K hK => ?_) AllReadyH.nil
          refine step_append_src rfl _ _ 22 rfl w2.heap.size 5 i0 (.int .u8 0) 1 Try.underlying22 hi hz0 hz1 hz2 rfl _ [z] rfl (gone1 w7 z H7.out.1.2.1) _ (L.drop t) rfl (H7.out.1.alloc _).tail (by unfold maxLen; simp; omega) (by simp; omega) (H7.out.1.alloc _).2.1 ?_
          intro v33 w9 hown9 hgrow9
          have H9 : Hid (DE w w9 g ao n cap f b w2.heap.size L ∧ w9.ownsRow w2.heap.size 5 1 v24 (L.take t).length ((L.take t).map (.int .u8)) ∧ w9.ownsRow w2.heap.size 5 1 v33 ([z] ++ L.drop t).length (([z] ++ L.drop t).map (.int .u8))) := ⟨(H7.out.1.alloc _).app hgrow9 (fun k hk => (World.ownsRow.lt (gone1 w7 z H7.out.1.2.1) k hk).1), (H7.out.2.alloc _).kept hgrow9 (.inr (fun e => absurd (World.ownsRow.lt H7.out.2 _ (e.trans rfl)).2 (Nat.lt_irrefl _))), hown9⟩
          clear hown9 hgrow9 H7
          refine hK.out _ _ trivial (fun _ => ?_)
          clear hK K
          try simp only [Act.put, List.setIfInBounds_toArray, List.set_cons_zero, List.set_cons_succ]
          refine wpAnyH_ready (rs := [14]) (by kernel_rfl) (by simp) ?_
          refine AllReadyH.cons (o := { dst := some 34, op := Op.call { callee := Callee.builtin Builtin.append, args := #[Operand.tmp 24, Operand.tmp 33], argTypes := #[22, 22] }, type := 22, pos := "l04_msg.go:148", after := #[{ on := 4, ground := Ground.data }, { on := 13, ground := Ground.data }, { on := 13, ground := Ground.chain }], guard := none }) rfl (fun K hK => ?_) AllReadyH.nil
          refine step_append_src rfl _ _ 22 rfl w2.heap.size 5 i0 (.int .u8 0) 1 Try.underlying22 hi hz0 hz1 hz2 rfl _ (L.take t) rfl H9.out.2.1 _ ([z] ++ L.drop t) rfl (Sr.of_owns H9.out.2.2 (by simp)) (by unfold maxLen; simp; omega) (by simp; omega) H9.out.1.2.1 ?_
          intro v34 w10 hown10 hgrow10
          have H10 : Hid (w10.ownsRow B 5 1 v34 (L.take t ++ ([z] ++ L.drop t)).length ((L.take t ++ ([z] ++ L.drop t)).map (.int .u8)) ∧ CurW w w10 g ao n cap f) := ⟨gmono hown10 hB2, (H9.out.1.app hgrow10 (fun k hk => (World.ownsRow.lt H9.out.2.1 k hk).1)).1⟩
          clear hown10 hgrow10 H9
          refine hK.out _ _ trivial (fun _ => ?_)
          clear hK K
          try simp only [Act.put, List.setIfInBounds_toArray, List.set_cons_zero, List.set_cons_succ]
          refine wpAnyH_ready (rs := [15]) (by kernel_rfl) (by simp) ?_
          refine AllReadyH.cons (o := { dst := some 4, op := Op.assign (Operand.tmp 34), type := 22, pos := "l04_msg.go:148", after := #[{ on := 14, ground := Ground.data }, { on := 14, ground := Ground.chain }, { on := 0, ground := Ground.phase }, { on := 1, ground := Ground.phase }, { on := 2, ground := Ground.phase }, { on := 3, ground := Ground.phase }, { on := 4, ground := Ground.phase }, { on := 5, ground := Ground.phase }, { on := 6, ground := Ground.phase }, { on := 7, ground := Ground.phase }, { on := 8, ground := Ground.phase }, { on := 9, ground := Ground.phase }, { on := 10, ground := Ground.phase }, { on := 11, ground := Ground.phase }, { on := 12, ground := Ground.phase }, { on := 13, ground := Ground.phase }, { on := 14, ground := Ground.phase }], guard := none }) rfl (fun K hK => ?_) AllReadyH.nil
          go_simp
          refine hK.out _ _ trivial (fun _ => ?_)
          clear hK K
          try simp only [Act.put, List.setIfInBounds_toArray, List.set_cons_zero, List.set_cons_succ]
          refine wpAnyH_done (by kernel_rfl) ?_ _
          go_wp2_with fail
          go_ret
          refine ⟨_, L.take t ++ ([z] ++ L.drop t), rfl, by simp; omega, fun u hu => ?_, H10.out⟩
          exact put_in HBy.out hz.1 hu
        refine AllReadyH.cons (o := { dst := some 26, op := Op.buildSlice 24 4 #[(0, Operand.const (Value.int IntKind.i64 0)), (1, Operand.const (Value.int IntKind.i64 1)), (2, Operand.const (Value.int IntKind.i64 128)), (3, Operand.const (Value.int IntKind.i64 3))], type := 24, pos := "l04_msg.go:148", after := #[], guard := none }) rfl (fun K hK => ?_) AllReadyH.nil
        · skip
          go_simp
          refine hK.out _ _ trivial (fun _ => ?_)
          clear hK K
          try simp only [Act.put, List.setIfInBounds_toArray, List.set_cons_zero, List.set_cons_succ]
          refine wpAnyH_ready (rs := [4]) (by kernel_rfl) (by simp) ?_
          refine AllReadyH.cons (o := { dst := some 24, op := Op.call { callee := Callee.builtin Builtin.append, args := #[Operand.tmp 20, Operand.tmp 23], argTypes := #[22, 22] }, type := 22, pos := "l04_msg.go:148", after := #[{ on := 0, ground := Ground.data }, { on := 3, ground := Ground.data }], guard := none }) rfl (fun K hK => ?_) AllReadyH.nil
          refine step_append_src rfl _ _ 22 rfl w2.heap.size 5 i0 (.int .u8 0) 1 Try.underlying22 hi hz0 hz1 hz2 rfl _ [] rfl (emp06 w2 H2d.out.1.1.lt).1 _ (L.take t) rfl (((H2d.out.alloc _).alloc _).drawn.head ht) (by unfold maxLen; simp; omega) (by simp; omega) ((H2d.out.alloc _).alloc _).drawn.2.1 ?_
          intro v24 w4 hown4 hgrow4
          have H4 : Hid (DE w w4 g ao n cap f b w2.heap.size L ∧ w4.ownsRow w2.heap.size 5 1 v24 (L.take t).length ((L.take t).map (.int .u8))) := ⟨((H2d.out.alloc _).alloc _).drawn.app hgrow4 (fun k hk => (World.ownsRow.lt (emp06 w2 H2d.out.1.1.lt).1 k hk).1), by simpa using hown4⟩
          have HL5 : Hid (PL g (w2.heap.size + 1) w4) := (emp06 w2 H2d.out.1.1.lt).2.far hgrow4 (fun e => absurd (show (w2.heap.size + 1) = w2.heap.size from Option.some.inj e) (by omega))
          have H5 := H4
          clear H4 H2d
          clear hown4 hgrow4
          refine hK.out _ _ trivial (fun _ => ?_)
          clear hK K
          try simp only [Act.put, List.setIfInBounds_toArray, List.set_cons_zero, List.set_cons_succ]
          refine wpAnyH_ready (rs := [7]) (by kernel_rfl) (by simp) ?_
          refine AllReadyH.cons (o := { dst := some 27, op := Op.call { callee := Callee.value (Operand.func 51), args := #[Operand.tmp 25, Operand.tmp 26], argTypes := #[52, 24] }, type := 3, pos := "l04_msg.go:148", after := #[{ on := 5, ground := Ground.data }, { on := 6, ground := Ground.data }, { on := 4, ground := Ground.chain }], guard := none }) rfl (fun K hK => ?_) AllReadyH.nil
          go_simp
          refine (pick_any g n cap 4 4 ao (some ⟨(w2.heap.size + 1), 0, none⟩) f (fun i => [0, 1, 128, 3].getD i 0) _ (by decide) (by decide) H5.out.1.1.1 HL5.out.cells).mono ?_
          rintro e w7 ⟨⟨j, hj, rfl⟩, hcur, hgr⟩
          have H7 : Hid (DE w w7 g ao n cap f b w2.heap.size L ∧ w7.ownsRow w2.heap.size 5 1 v24 (L.take t).length ((L.take t).map (.int .u8))) := ⟨H5.out.1.cur hcur hgr, owns_cur H5.out.2 hgr H5.out.1.lt⟩
          have hz := pick4 j hj
          generalize ([0, 1, 128, 3] : List Int).getD j 0 = z at hz
          clear hcur hgr H5 HL5 hj
          go_wp2_with fail
          refine hK.out _ _ trivial (fun _ => ?_)
          clear hK K
          try simp only [Act.put, List.setIfInBounds_toArray, List.set_cons_zero, List.set_cons_succ]
          refine wpAnyH_take (i := 8) (oi := { dst := some 28, op := Op.convert 3 5 (Operand.tmp 27), type := 5, pos := "l04_msg.go:148", after := #[{ on := 7, ground := Ground.data }], guard := none }) (v := ?_) rfl (by kernel_rfl) (by kernel_rfl) (by kernel_rfl) (fun _ _ _ h => h) (Or.inl ⟨by rfl, ?_⟩) trivial ?_
          rotate_left 1
          · (intro wq _; go_simp; try with_reducible rfl)
          try simp only [Act.put, List.setIfInBounds_toArray, List.set_cons_zero, List.set_cons_succ]
          refine wpAnyH_ready (rs := [9]) (by kernel_rfl) (by simp) ?_
          refine AllReadyH.cons (o := { dst := some 29, op := Op.buildSlice 22 1 #[(0, Operand.tmp 28)], type := 22, pos := "l04_msg.go:148", after := #[{ on := 8, ground := Ground.data }], guard := none }) rfl (fun K hK => ?_) AllReadyH.nil
          go_simp
          refine hK.out _ _ trivial (fun _ => ?_)
          clear hK K
          try simp only [Act.put, List.setIfInBounds_toArray, List.set_cons_zero, List.set_cons_succ]
          try rw [hz.2]
          refine wpAnyH_ready (rs := [13]) (by kernel_rfl) (by simp) ?_
          refine AllReadyH.cons (o := { dst := some 33, op := Op.call { callee := Callee.builtin Builtin.append, args := #[Operand.tmp 29, Operand.tmp 32], argTypes := #[22, 22] }, type := 22, pos := "l04_msg.go:148", after := #[{ on := 9, ground := Ground.data }, { on := 12, ground := Ground.data }, { on := 7, ground := Ground.chain }], guard := none }) rfl (fun K hK => ?_) AllReadyH.nil
          refine step_append_src rfl _ _ 22 rfl w2.heap.size 5 i0 (.int .u8 0) 1 Try.underlying22 hi hz0 hz1 hz2 rfl _ [z] rfl (gone1 w7 z H7.out.1.2.1) _ (L.drop t) rfl (H7.out.1.alloc _).tail (by unfold maxLen; simp; omega) (by simp; omega) (H7.out.1.alloc _).2.1 ?_
          intro v33 w9 hown9 hgrow9
          have H9 : Hid (DE w w9 g ao n cap f b w2.heap.size L ∧ w9.ownsRow w2.heap.size 5 1 v24 (L.take t).length ((L.take t).map (.int .u8)) ∧ w9.ownsRow w2.heap.size 5 1 v33 ([z] ++ L.drop t).length (([z] ++ L.drop t).map (.int .u8))) := ⟨(H7.out.1.alloc _).app hgrow9 (fun k hk => (World.ownsRow.lt (gone1 w7 z H7.out.1.2.1) k hk).1), (H7.out.2.alloc _).kept hgrow9 (.inr (fun e => absurd (World.ownsRow.lt H7.out.2 _ (e.trans rfl)).2 (Nat.lt_irrefl _))), hown9⟩
          clear hown9 hgrow9 H7
          refine hK.out _ _ trivial (fun _ => ?_)
          clear hK K
          try simp only [Act.put, List.setIfInBounds_toArray, List.set_cons_zero, List.set_cons_succ]
          refine wpAnyH_ready (rs := [14]) (by kernel_rfl) (by simp) ?_
          refine AllReadyH.cons (o := { dst := some 34, op := Op.call { callee := Callee.builtin Builtin.append, args := #[Operand.tmp 24, Operand.tmp 33], argTypes := #[22, 22] }, type := 22, pos := "l04_msg.go:148", after := #[{ on := 4, ground := Ground.data }, { on := 13, ground := Ground.data }, { on := 13, ground := Ground.chain }], guard := none }) rfl (fun K hK => ?_) AllReadyH.nil
          refine step_append_src rfl _ _ 22 rfl w2.heap.size 5 i0 (.int .u8 0) 1 Try.underlying22 hi hz0 hz1 hz2 rfl _ (L.take t) rfl H9.out.2.1 _ ([z] ++ L.drop t) rfl (Sr.of_owns H9.out.2.2 (by simp)) (by unfold maxLen; simp; omega) (by simp; omega) H9.out.1.2.1 ?_
          intro v34 w10 hown10 hgrow10
          have H10 : Hid (w10.ownsRow B 5 1 v34 (L.take t ++ ([z] ++ L.drop t)).length ((L.take t ++ ([z] ++ L.drop t)).map (.int .u8)) ∧ CurW w w10 g ao n cap f) := ⟨gmono hown10 hB2, (H9.out.1.app hgrow10 (fun k hk => (World.ownsRow.lt H9.out.2.1 k hk).1)).1⟩
          clear hown10 hgrow10 H9
          refine hK.out _ _ trivial (fun _ => ?_)
          clear hK K
          try simp only [Act.put, List.setIfInBounds_toArray, List.set_cons_zero, List.set_cons_succ]
          refine wpAnyH_ready (rs := [15]) (by kernel_rfl) (by simp) ?_
          refine AllReadyH.cons (o := { dst := some 4, op := Op.assign (Operand.tmp 34), type := 22, pos := "l04_msg.go:148", after := #[{ on := 14, ground := Ground.data }, { on := 14, ground := Ground.chain }, { on := 0, ground := Ground.phase }, { on := 1, ground := Ground.phase }, { on := 2, ground := Ground.phase }, { on := 3, ground := Ground.phase }, { on := 4, ground := Ground.phase }, { on := 5, ground := Ground.phase }, { on := 6, ground := Ground.phase }, { on := 7, ground := Ground.phase }, { on := 8, ground := Ground.phase }, { on := 9, ground := Ground.phase }, { on := 10, ground := Ground.phase }, { on := 11, ground := Ground.phase }, { on := 12, ground := Ground.phase }, { on := 13, ground := Ground.phase }, { on := 14, ground := Ground.phase }], guard := none }) rfl (fun K hK => ?_) AllReadyH.nil
          go_simp
          refine hK.out _ _ trivial (fun _ => ?_)
          clear hK K
          try simp only [Act.put, List.setIfInBounds_toArray, List.set_cons_zero, List.set_cons_succ]
          refine wpAnyH_done (by kernel_rfl) ?_ _
          go_wp2_with fail
          go_ret
          refine ⟨_, L.take t ++ ([z] ++ L.drop t), rfl, by simp; omega, fun u hu => ?_, H10.out⟩
          exact put_in HBy.out hz.1 hu
      refine AllReadyH.cons (o := { dst := some 26, op := Op.buildSlice 24 4 #[(0, Operand.const (Value.int IntKind.i64 0)), (1, Operand.const (Value.int IntKind.i64 1)), (2, Operand.const (Value.int IntKind.i64 128)), (3, Operand.const (Value.int IntKind.i64 3))], type := 24, pos := "l04_msg.go:148", after := #[], guard := none }) rfl (fun K hK => ?_) AllReadyH.nil
      · skip
        go_simp
        refine hK.out _ _ trivial (fun _ => ?_)
        clear hK K
        try simp only [Act.put, List.setIfInBounds_toArray, List.set_cons_zero, List.set_cons_succ]
        refine wpAnyH_ready (rs := [0]) (by kernel_rfl) (by simp) ?_
        refine AllReadyH.cons (o := { dst := some 20, op := Op.buildSlice 22 0 #[], type := 22, pos := "l04_msg.go:148", after := #[], guard := none }) rfl (fun K hK => ?_) AllReadyH.nil
        go_simp
        refine hK.out _ _ trivial (fun _ => ?_)
        clear hK K
        try simp only [Act.put, List.setIfInBounds_toArray, List.set_cons_zero, List.set_cons_succ]
        refine wpAnyH_ready (rs := [4]) (by kernel_rfl) (by simp) ?_
        refine AllReadyH.cons (o := { dst := some 24, op := Op.call { callee := Callee.builtin Builtin.append, args := #[Operand.tmp 20, Operand.tmp 23], argTypes := #[22, 22] }, type := 22, pos := "l04_msg.go:148", after := #[{ on := 0, ground := Ground.data }, { on := 3, ground := Ground.data }], guard := none }) rfl (fun K hK => ?_) AllReadyH.nil
        refine step_append_src rfl _ _ 22 rfl w2.heap.size 5 i0 (.int .u8 0) 1 Try.underlying22 hi hz0 hz1 hz2 rfl _ [] rfl (emp60 w2 H2d.out.1.1.lt).1 _ (L.take t) rfl (((H2d.out.alloc _).alloc _).drawn.head ht) (by unfold maxLen; simp; omega) (by simp; omega) ((H2d.out.alloc _).alloc _).drawn.2.1 ?_
        intro v24 w4 hown4 hgrow4
        have H4 : Hid (DE w w4 g ao n cap f b w2.heap.size L ∧ w4.ownsRow w2.heap.size 5 1 v24 (L.take t).length ((L.take t).map (.int .u8))) := ⟨((H2d.out.alloc _).alloc _).drawn.app hgrow4 (fun k hk => (World.ownsRow.lt (emp60 w2 H2d.out.1.1.lt).1 k hk).1), by simpa using hown4⟩
        have HL5 : Hid (PL g w2.heap.size w4) := (emp60 w2 H2d.out.1.1.lt).2.far hgrow4 (fun e => absurd (show w2.heap.size = (w2.heap.size + 1) from Option.some.inj e) (by omega))
        have H5 := H4
        clear H4 H2d
        clear hown4 hgrow4
        refine hK.out _ _ trivial (fun _ => ?_)
        clear hK K
        try simp only [Act.put, List.setIfInBounds_toArray, List.set_cons_zero, List.set_cons_succ]
        refine wpAnyH_ready (rs := [7]) (by kernel_rfl) (by simp) ?_
        refine AllReadyH.cons (o := { dst := some 27, op := Op.call { callee := Callee.value (Operand.func 51), args := #[Operand.tmp 25, Operand.tmp 26], argTypes := #[52, 24] }, type := 3, pos := "l04_msg.go:148", after := #[{ on := 5, ground := Ground.data }, { on := 6, ground := Ground.data }, { on := 4, ground := Ground.chain }], guard := none }) rfl (fun K hK => ?_) AllReadyH.nil
        go_simp
        refine (pick_any g n cap 4 4 ao (some ⟨w2.heap.size, 0, none⟩) f (fun i => [0, 1, 128, 3].getD i 0) _ (by decide) (by decide) H5.out.1.1.1 HL5.out.cells).mono ?_
        rintro e w7 ⟨⟨j, hj, rfl⟩, hcur, hgr⟩
        have H7 : Hid (DE w w7 g ao n cap f b w2.heap.size L ∧ w7.ownsRow w2.heap.size 5 1 v24 (L.take t).length ((L.take t).map (.int .u8))) := ⟨H5.out.1.cur hcur hgr, owns_cur H5.out.2 hgr H5.out.1.lt⟩
        have hz := pick4 j hj
        generalize ([0, 1, 128, 3] : List Int).getD j 0 = z at hz
        clear hcur hgr H5 HL5 hj
        go_wp2_with fail
        refine hK.out _ _ trivial (fun _ => ?_)
        clear hK K
        try simp only [Act.put, List.setIfInBounds_toArray, List.set_cons_zero, List.set_cons_succ]
        refine wpAnyH_take (i := 8) (oi := { dst := some 28, op := Op.convert 3 5 (Operand.tmp 27), type := 5, pos := "l04_msg.go:148", after := #[{ on := 7, ground := Ground.data }], guard := none }) (v := ?_) rfl (by kernel_rfl) (by kernel_rfl) (by kernel_rfl) (fun _ _ _ h => h) (Or.inl ⟨by rfl, ?_⟩) trivial ?_
        rotate_left 1
        · (intro wq _; go_simp; try with_reducible rfl)
        try simp only [Act.put, List.setIfInBounds_toArray, List.set_cons_zero, List.set_cons_succ]
        refine wpAnyH_ready (rs := [9]) (by kernel_rfl) (by simp) ?_
        refine AllReadyH.cons (o := { dst := some 29, op := Op.buildSlice 22 1 #[(0, Operand.tmp 28)], type := 22, pos := "l04_msg.go:148", after := #[{ on := 8, ground := Ground.data }], guard := none }) rfl (fun K hK => ?_) AllReadyH.nil
        go_simp
        refine hK.out _ _ trivial (fun _ => ?_)
        clear hK K
        try simp only [Act.put, List.setIfInBounds_toArray, List.set_cons_zero, List.set_cons_succ]
        try rw [hz.2]
        refine wpAnyH_ready (rs := [13]) (by kernel_rfl) (by simp) ?_
        refine AllReadyH.cons (o := { dst := some 33, op := Op.call { callee := Callee.builtin Builtin.append, args := #[Operand.tmp 29, Operand.tmp 32], argTypes := #[22, 22] }, type := 22, pos := "l04_msg.go:148", after := #[{ on := 9, ground := Ground.data }, { on := 12, ground := Ground.data }, { on := 7, ground := Ground.chain }], guard := none }) rfl (fun K hK => ?_) AllReadyH.nil
        refine step_append_src rfl _ _ 22 rfl w2.heap.size 5 i0 (.int .u8 0) 1 Try.underlying22 hi hz0 hz1 hz2 rfl _ [z] rfl (gone1 w7 z H7.out.1.2.1) _ (L.drop t) rfl (H7.out.1.alloc _).tail (by unfold maxLen; simp; omega) (by simp; omega) (H7.out.1.alloc _).2.1 ?_
        intro v33 w9 hown9 hgrow9
        have H9 : Hid (DE w w9 g ao n cap f b w2.heap.size L ∧ w9.ownsRow w2.heap.size 5 1 v24 (L.take t).length ((L.take t).map (.int .u8)) ∧ w9.ownsRow w2.heap.size 5 1 v33 ([z] ++ L.drop t).length (([z] ++ L.drop t).map (.int .u8))) := ⟨(H7.out.1.alloc _).app hgrow9 (fun k hk => (World.ownsRow.lt (gone1 w7 z H7.out.1.2.1) k hk).1), (H7.out.2.alloc _).kept hgrow9 (.inr (fun e => absurd (World.ownsRow.lt H7.out.2 _ (e.trans rfl)).2 (Nat.lt_irrefl _))), hown9⟩
        clear hown9 hgrow9 H7
        refine hK.out _ _ trivial (fun _ => ?_)
        clear hK K
        try simp only [Act.put, List.setIfInBounds_toArray, List.set_cons_zero, List.set_cons_succ]
        refine wpAnyH_ready (rs := [14]) (by kernel_rfl) (by simp) ?_
        refine AllReadyH.cons (o := { dst := some 34, op := Op.call { callee := Callee.builtin Builtin.append, args := #[Operand.tmp 24, Operand.tmp 33], argTypes := #[22, 22] }, type := 22, pos := "l04_msg.go:148", after := #[{ on := 4, ground := Ground.data }, { on := 13, ground := Ground.data }, { on := 13, ground := Ground.chain }], guard := none }) rfl (fun K hK => ?_) AllReadyH.nil
        refine step_append_src rfl _ _ 22 rfl w2.heap.size 5 i0 (.int .u8 0) 1 Try.underlying22 hi hz0 hz1 hz2 rfl _ (L.take t) rfl H9.out.2.1 _ ([z] ++ L.drop t) rfl (Sr.of_owns H9.out.2.2 (by simp)) (by unfold maxLen; simp; omega) (by simp; omega) H9.out.1.2.1 ?_
        intro v34 w10 hown10 hgrow10
        have H10 : Hid (w10.ownsRow B 5 1 v34 (L.take t ++ ([z] ++ L.drop t)).length ((L.take t ++ ([z] ++ L.drop t)).map (.int .u8)) ∧ CurW w w10 g ao n cap f) := ⟨gmono hown10 hB2, (H9.out.1.app hgrow10 (fun k hk => (World.ownsRow.lt H9.out.2.1 k hk).1)).1⟩
        clear hown10 hgrow10 H9
        refine hK.out _ _ trivial (fun _ => ?_)
        clear hK K
        try simp only [Act.put, List.setIfInBounds_toArray, List.set_cons_zero, List.set_cons_succ]
        refine wpAnyH_ready (rs := [15]) (by kernel_rfl) (by simp) ?_
        refine AllReadyH.cons (o := { dst := some 4, op := Op.assign (Operand.tmp 34), type := 22, pos := "l04_msg.go:148", after := #[{ on := 14, ground := Ground.data }, { on := 14, ground := Ground.chain }, { on := 0, ground := Ground.phase }, { on := 1, ground := Ground.phase }, { on := 2, ground := Ground.phase }, { on := 3, ground := Ground.phase }, { on := 4, ground := Ground.phase }, { on := 5, ground := Ground.phase }, { on := 6, ground := Ground.phase }, { on := 7, ground := Ground.phase }, { on := 8, ground := Ground.phase }, { on := 9, ground := Ground.phase }, { on := 10, ground := Ground.phase }, { on := 11, ground := Ground.phase }, { on := 12, ground := Ground.phase }, { on := 13, ground := Ground.phase }, { on := 14, ground := Ground.phase }], guard := none }) rfl (fun K hK => ?_) AllReadyH.nil
        go_simp
        refine hK.out _ _ trivial (fun _ => ?_)
        clear hK K
        try simp only [Act.put, List.setIfInBounds_toArray, List.set_cons_zero, List.set_cons_succ]
        refine wpAnyH_done (by kernel_rfl) ?_ _
        go_wp2_with fail
        go_ret
        refine ⟨_, L.take t ++ ([z] ++ L.drop t), rfl, by simp; omega, fun u hu => ?_, H10.out⟩
        exact put_in HBy.out hz.1 hu
  have d0 : decide (y = 0) = false := by simpa using c0
  have d1 : decide (y = 1) = false := by simpa using c1
  go_wp2
  go_ret
  exact ⟨_, L, rfl, by omega, HBy.out, H2.out⟩
end Go.Proofs.Ytjbhgedbkajmdaa

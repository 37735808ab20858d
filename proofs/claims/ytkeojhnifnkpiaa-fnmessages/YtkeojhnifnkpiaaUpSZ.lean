/- Unpack of the model. -/
import Derived.Test.YtkeojhnifnkpiaaUpIZ

namespace Go.Proofs.Ytkeojhnifnkpiaa
open Go.ChangeShapes Go.WideShapes Go.ChangeAt Go.RowKit
set_option linter.unusedVariables false
set_option linter.unusedSimpArgs false
set_option maxRecDepth 100000

/-- v lies at a, or from b on. -/
def farv (v : Value) (a b : Nat) : Prop := ∀ k, v.ownBlock = some k → k = a ∨ b ≤ k
def okn : Value → Nat
  | .bool true => 1
  | _ => 0

set_option maxHeartbeats 1000000 in
theorem unpack_spec (ao : Option Addr) (n cap : Nat) (f : Nat → Int) (w : World) (hn : n ≤ 1048576) (hs : SL .u8 w ao n f) (hf : ∀ i, i < n → 0 ≤ f i ∧ f i ≤ 255) :
    Calls Try.prog 35 #[.slice ao n cap] w fun e w' => UpOut w w' (bl f n) e := by
  obtain ⟨i0, hi, hz0, hz1, hz2⟩ := info_parts Try.info26
  have HS := hide hs
  have HF := hide hf
  have ba : Below w.heap.size w (w.alloc (.cells #[] 40)) := (Below.refl _ _).alloc (Nat.le_refl _) _
  have hsp := hide (spread_spec ao n cap f (w.alloc (.cells #[] 40)) hn (hs.below ba) hf)
  have BA := hide ba
  clear hs hf ba
  cases hsL : spread (bl f n) with
  | none =>
    have HN : Hid (¬ ∃ M k, Upk (bl f n) M k) := fun ⟨M, k, F, e, _⟩ => by rw [hsL] at e; cases e
    go_enter Try.func35, Try.ntmps35
    go_wp2_with fail
    refine hsp.out.mono ?_
    rintro e w1 ⟨⟨ro, rc, rfl, _, _⟩, b1⟩
    simp only [hsL, Option.getD_none, Option.isSome_none, List.length_nil]
    have B1 := hide (BA.out.trans (b1.mono BA.out.size))
    clear b1 hsp hsL
    go_wp2
    refine wp_loop_rounds 1 ?_
    rw [rounds_succ]
    go_wp2
    refine wp_region_held_drew (S := fun _ => True) (by kernel_rfl) trivial (fun _ => ?_)
    refine wpAnyH_take (i := 0) (oi := { dst := some 37, op := Op.move (Operand.tmp 6), type := 4, pos := "l04_msg.go:99", after := #[], guard := none }) (v := ?_) rfl (by kernel_rfl) (by kernel_rfl) (by kernel_rfl) (fun _ _ _ h => h) (Or.inl ⟨by rfl, ?_⟩) trivial ?_
    rotate_left 1
    · (intro wq _; go_simp; try with_reducible rfl)
    try simp only [Act.put, List.setIfInBounds_toArray, List.set_cons_zero, List.set_cons_succ]
    refine wpAnyH_take (i := 1) (oi := { dst := some 38, op := Op.unOp UnOp.not 4 (Operand.tmp 37), type := 4, pos := "l04_msg.go:99", after := #[{ on := 0, ground := Ground.data }], guard := none }) (v := ?_) rfl (by kernel_rfl) (by kernel_rfl) (by kernel_rfl) (fun _ _ _ h => h) (Or.inl ⟨by rfl, ?_⟩) trivial ?_
    rotate_left 1
    · (intro wq _; go_simp; try with_reducible rfl)
    try simp only [Act.put, List.setIfInBounds_toArray, List.set_cons_zero, List.set_cons_succ]
    refine wpAnyH_take (i := 2) (oi := { dst := some 39, op := Op.move (Operand.tmp 38), type := 4, pos := "l04_msg.go:99", after := #[{ on := 1, ground := Ground.data }], guard := none }) (v := ?_) rfl (by kernel_rfl) (by kernel_rfl) (by kernel_rfl) (fun _ _ _ h => h) (Or.inl ⟨by rfl, ?_⟩) trivial ?_
    rotate_left 1
    · (intro wq _; go_simp; try with_reducible rfl)
    try simp only [Act.put, List.setIfInBounds_toArray, List.set_cons_zero, List.set_cons_succ]
    refine wpAnyH_take (i := 3) (oi := { dst := some 40, op := Op.move (Operand.tmp 4), type := 47, pos := "l04_msg.go:99", after := #[{ on := 2, ground := Ground.guard }], guard := some (2, false) }) (v := undef) rfl (by kernel_rfl) (by kernel_rfl) (by kernel_rfl) (fun _ _ _ h => h) (Or.inr ⟨by rfl, rfl⟩) trivial ?_
    try simp only [Act.put, List.setIfInBounds_toArray, List.set_cons_zero, List.set_cons_succ]
    refine wpAnyH_take (i := 4) (oi := { dst := some 41, op := Op.call { callee := Callee.value (Operand.func 39), args := #[Operand.tmp 40], argTypes := #[47] }, type := 22, pos := "l04_msg.go:99", after := #[{ on := 3, ground := Ground.data }, { on := 2, ground := Ground.chain }, { on := 2, ground := Ground.guard }], guard := some (2, false) }) (v := undef) rfl (by kernel_rfl) (by kernel_rfl) (by kernel_rfl) (fun _ _ _ h => h) (Or.inr ⟨by rfl, rfl⟩) trivial ?_
    try simp only [Act.put, List.setIfInBounds_toArray, List.set_cons_zero, List.set_cons_succ]
    refine wpAnyH_take (i := 5) (oi := { dst := some 42, op := Op.convert 22 9 (Operand.tmp 41), type := 9, pos := "l04_msg.go:99", after := #[{ on := 4, ground := Ground.data }, { on := 2, ground := Ground.guard }], guard := some (2, false) }) (v := undef) rfl (by kernel_rfl) (by kernel_rfl) (by kernel_rfl) (fun _ _ _ h => h) (Or.inr ⟨by rfl, rfl⟩) trivial ?_
    try simp only [Act.put, List.setIfInBounds_toArray, List.set_cons_zero, List.set_cons_succ]
    refine wpAnyH_take (i := 6) (oi := { dst := some 43, op := Op.move (Operand.tmp 0), type := 22, pos := "l04_msg.go:99", after := #[{ on := 2, ground := Ground.guard }], guard := some (2, false) }) (v := undef) rfl (by kernel_rfl) (by kernel_rfl) (by kernel_rfl) (fun _ _ _ h => h) (Or.inr ⟨by rfl, rfl⟩) trivial ?_
    try simp only [Act.put, List.setIfInBounds_toArray, List.set_cons_zero, List.set_cons_succ]
    refine wpAnyH_take (i := 7) (oi := { dst := some 44, op := Op.convert 22 9 (Operand.tmp 43), type := 9, pos := "l04_msg.go:99", after := #[{ on := 6, ground := Ground.data }, { on := 2, ground := Ground.guard }], guard := some (2, false) }) (v := undef) rfl (by kernel_rfl) (by kernel_rfl) (by kernel_rfl) (fun _ _ _ h => h) (Or.inr ⟨by rfl, rfl⟩) trivial ?_
    try simp only [Act.put, List.setIfInBounds_toArray, List.set_cons_zero, List.set_cons_succ]
    refine wpAnyH_take (i := 8) (oi := { dst := some 45, op := Op.binOp BinOp.neq 9 (Operand.tmp 42) (Operand.tmp 44) 9, type := 4, pos := "l04_msg.go:99", after := #[{ on := 5, ground := Ground.data }, { on := 7, ground := Ground.data }, { on := 2, ground := Ground.guard }], guard := some (2, false) }) (v := undef) rfl (by kernel_rfl) (by kernel_rfl) (by kernel_rfl) (fun _ _ _ h => h) (Or.inr ⟨by rfl, rfl⟩) trivial ?_
    try simp only [Act.put, List.setIfInBounds_toArray, List.set_cons_zero, List.set_cons_succ]
    refine wpAnyH_take (i := 9) (oi := { dst := some 46, op := Op.pick (Operand.tmp 39) (Operand.const (Value.bool true)) (Operand.tmp 45), type := 4, pos := "l04_msg.go:99", after := #[{ on := 2, ground := Ground.data }, { on := 8, ground := Ground.data }], guard := none }) (v := ?_) rfl (by kernel_rfl) (by kernel_rfl) (by kernel_rfl) (fun _ _ _ h => h) (Or.inl ⟨by rfl, ?_⟩) trivial ?_
    rotate_left 1
    · (intro wq _; go_simp; try with_reducible rfl)
    try simp only [Act.put, List.setIfInBounds_toArray, List.set_cons_zero, List.set_cons_succ]
    refine wpAnyH_done (by kernel_rfl) ?_ _
    go_wp2
    go_ret2
    exact ⟨.inr ⟨HN.out, _, _, rfl⟩, (Below.drawn B1.out 1).alloc B1.out.size _⟩
  | some F =>
    have hF := spread_le hsL
    have hFb : Hid (∀ z ∈ F, 0 ≤ z ∧ z ≤ 255) := spread_bytes HF.out hsL
    go_enter Try.func35, Try.ntmps35
    go_wp2_with fail
    refine hsp.out.mono ?_
    rintro e w1 ⟨⟨ro0, rc0, rfl, ho1, hrc0⟩, b1⟩
    simp only [hsL, Option.getD_some, Option.isSome_some] at ho1 hrc0 ⊢
    have H1 : Hid (OwnT w1 (w.heap.size + 1) w1.heap.size 5 ro0 F.length (fun i => .int .u8 (F.getD i 0)) ∧ Below w.heap.size w w1 ∧ UL w1 w.heap.size (.slice (some ⟨w.heap.size, 0, none⟩) 0 0) 0 (fun _ => mg0) (fun _ => (none, 0))) := ⟨by have := OwnT.of ho1; simpa using this, BA.out.trans (b1.mono BA.out.size), (UL.empty (Nat.le_refl _)).below b1⟩
    have hFf : Hid (∀ i, i < F.length → 0 ≤ F.getD i 0 ∧ F.getD i 0 ≤ 255) := fun i hi => hFb.out _ (getD_mem _ i hi)
    have HSL := hide hsL
    clear ho1 b1 hsp hsL
    go_wp2
    go_loopw [4, 6, 7, 8, 9, 10] (fun v okv y _ _ _ wr => (∃ (j l : Nat) (M : Nat → Mg) (R : Nat → Option Addr × Nat), okv = .bool true ∧ y = .int .i64 l ∧ Hid (l = (frs M j).length) ∧ Hid (Prs F.length (fun i => F.getD i 0) M j) ∧ Hid (UL wr w.heap.size v j M R ∧ Below w.heap.size w wr ∧ OwnT wr (w.heap.size + 1) w1.heap.size 5 ro0 F.length (fun i => .int .u8 (F.getD i 0)) ∧ farv v w.heap.size w1.heap.size ∧ w1.heap.size ≤ wr.heap.size)) ∨ (okv = .bool false ∧ Hid (¬ ∃ M k, All F.length (fun i => F.getD i 0) M k) ∧ Hid (Below w.heap.size w wr) ∧ ∃ l : Int, y = .int .i64 l)) (fun _ okv y _ _ _ _ => okn okv * (F.length + 1 - (intOf y).toNat))
    case atStart => exact .inl ⟨0, 0, fun _ => mg0, fun _ => (none, 0), rfl, rfl, rfl, fun i hi => absurd hi (Nat.not_lt_zero _), H1.out.2.2, H1.out.2.1, H1.out.1, fun k hk => .inl (by simpa [Value.ownBlock] using hk.symm), Nat.le_refl _⟩
    case round =>
      rcases hrel with ⟨j, l, M, R, rfl, rfl, HL, HP, HI⟩ | ⟨rfl, HN0, HB0, l, rfl⟩
      · have hle := HP.out.le
        rw [← HL.out] at hle
        have HBw : Hid (Below w.heap.size w wr) := HI.out.2.1
        by_cases hlt : l < F.length
        · have hcall := hide (msgof_spec ro0 F.length rc0 (l : Int) (fun i => F.getD i 0) wr (by omega) hrc0 (by omega) (by omega) HI.out.2.2.1.own.sl hFf.out)
          go_wp2_with fail
          refine hcall.out.mono ?_
          rintro e w3 ⟨h3, b3⟩
          have HI3 : Hid (UL w3 w.heap.size u4 j M R ∧ Below w.heap.size w w3 ∧ OwnT w3 (w.heap.size + 1) w1.heap.size 5 ro0 F.length (fun i => .int .u8 (F.getD i 0)) ∧ farv u4 w.heap.size w1.heap.size ∧ w1.heap.size ≤ w3.heap.size) := ⟨HI.out.1.below b3, HBw.out.trans (b3.mono HBw.out.size), HI.out.2.2.1.below b3 HI.out.2.2.2.2, HI.out.2.2.2.1, Nat.le_trans HI.out.2.2.2.2 b3.size⟩
          rcases h3 with ⟨k, c, v, d, G, ro, rc, hB, rfl, hrc, hO⟩ | ⟨hno, rfl⟩
          · have HB : Hid (BgM F.length (fun i => F.getD i 0) (l : Int) ⟨k, c, v, d, G⟩) := hB
            have hln := bgm_len HB.out
            have hbl : Hid (v4own u4 wr.heap.size) := fun k hk => (World.ownsRow.lt HI.out.1.1 k hk).2
            have hbg : Hid (∀ i, i < j → ∀ γ, (R i).1 = some ⟨γ, 0, none⟩ → 0 < (M i).g.length → γ < wr.heap.size) := fun i hi γ e hp => (HI.out.1.2 i hi).2 γ e hp |>.1.1
            have hB3 : Hid (w.heap.size ≤ wr.heap.size ∧ wr.heap.size ≤ w3.heap.size) := ⟨HBw.out.size, b3.size⟩
            have HO := hide hO
            have hmb : Hid (mb k c v d (fun i => G.getD i 0) G.length = mby ⟨k, c, v, d, G⟩) := rfl
            rw [hmb.out]
            generalize hml : (mby ⟨k, c, v, d, G⟩).length = ml at *
            have HML := hide hml
            clear hml hB hO hcall b3 HI hmb HBw
            obtain ⟨W, hW⟩ : ∃ W, W = (w3.alloc (.cells #[.int .i64 k, .int .i64 c, .int .i64 v, .int .i64 d, .slice ro G.length rc] 40)).alloc (.cells #[.int .i64 k, .int .i64 c, .int .i64 v, .int .i64 d, .slice ro G.length rc] 40) := ⟨_, rfl⟩
            have bW : Below w3.heap.size w3 W := by rw [hW]; exact ((Below.refl _ _).alloc (Nat.le_refl _) _).alloc (by simp) _
            have HW : Hid (UL W w.heap.size u4 j M R ∧ Below w.heap.size w W ∧ Own W wr.heap.size 3 ro G.length (fun i => .int .i64 (G.getD i 0)) ∧ OwnT W (w.heap.size + 1) w1.heap.size 5 ro0 F.length (fun i => .int .u8 (F.getD i 0)) ∧ farv u4 w.heap.size w1.heap.size ∧ w1.heap.size ≤ W.heap.size) := ⟨HI3.out.1.below bW, HI3.out.2.1.trans (bW.mono HI3.out.2.1.size), HO.out.below bW, HI3.out.2.2.1.below bW HI3.out.2.2.2.2, HI3.out.2.2.2.1, Nat.le_trans HI3.out.2.2.2.2 bW.size⟩
            have HN : Hid (∀ t u, (mcell ⟨k, c, v, d, G⟩ (ro, rc))[t]? = some u → W.cell? ((⟨w3.heap.size + 1, 0, none⟩ : Addr).add t) = some u) := fun t u ht => by
              rw [hW]
              have := gcells (w3.alloc (.cells #[.int .i64 k, .int .i64 c, .int .i64 v, .int .i64 d, .slice ro G.length rc] 40)) (mcell ⟨k, c, v, d, G⟩ (ro, rc)) 40 t u ht
              rw [show (w3.alloc (.cells #[.int .i64 k, .int .i64 c, .int .i64 v, .int .i64 d, .slice ro G.length rc] 40)).heap.size = w3.heap.size + 1 by simp] at this
              exact this
            have h1c : ∀ u ∈ mcell ⟨k, c, v, d, G⟩ (ro, rc), u.oneCell' = true := by
              intro u hu
              simp only [mcell, List.mem_cons, List.not_mem_nil, or_false] at hu
              rcases hu with rfl | rfl | rfl | rfl | rfl <;> rfl
            have hjb : j ≤ 3000 := by omega
            clear bW HI3 HO
            go_wp2_with (first
              | (at_builtin; rw [← hW]; refine wpList_append_lies _ rfl _ _ 47 rfl w.heap.size 40 i0 (.agg #[.int .i64 0, .int .i64 0, .int .i64 0, .int .i64 0, .slice none 0 0]) 5 56 Try.underlying47 hi hz0 hz1 hz2 rfl (by decide) _ _ _ rfl HW.out.1.1 ⟨w3.heap.size + 1, 0, none⟩ 1 1 (mcell ⟨k, c, v, d, G⟩ (ro, rc)) rfl rfl HN.out h1c (by decide) (by unfold maxLen; omega) (by omega) HW.out.2.1.size _ rfl ?_; intro g4 c4 w4 hown4 hgrow4 hat4 hlt4))
            have R4 := hide (HW.out.1.push (H := wr.heap.size) (m := ⟨k, c, v, d, G⟩) (r := (ro, rc)) hbl.out hbg.out hB3.out.1 hrc HW.out.2.2.1 hown4 hgrow4 hat4)
            have B4 : Hid (Below w.heap.size w w4 ∧ OwnT w4 (w.heap.size + 1) w1.heap.size 5 ro0 F.length (fun i => .int .u8 (F.getD i 0)) ∧ farv (.slice (some ⟨g4, 0, none⟩) (j + 1) c4) w.heap.size w1.heap.size ∧ w1.heap.size ≤ w4.heap.size) := by
              refine ⟨HW.out.2.1.grown hgrow4 HW.out.2.1.size (fun k hk => (World.ownsRow.lt HW.out.1.1 k hk).1), HW.out.2.2.2.1.kept (fun t h1 h2 => hgrow4.block t (by have := HW.out.2.2.2.2.2; omega) (fun e => ?_)), fun t ht => ?_, Nat.le_trans HW.out.2.2.2.2.2 hgrow4.size⟩
              · rcases HW.out.2.2.2.2.1 t e.symm with h | h <;> omega
              · simp only [Value.ownBlock, Option.some.injEq] at ht
                subst ht
                rcases hat4 with h | h
                · exact HW.out.2.2.2.2.1 _ h
                · exact .inr (by have := HW.out.2.2.2.2.2; omega)
            clear hown4 hgrow4 hat4
            go_wp2
            go_roundw
            case rel =>
              refine .inl ⟨j + 1, l + ml, setM M j ⟨k, c, v, d, G⟩, setR R j (ro, rc), rfl, by go_num, ?_, HP.out.step (by rw [← HL.out]; exact HB.out), R4.out, B4.out⟩
              show _ = _
              rw [frs_set, List.length_append, HL.out, HML.out]
            case measure => simp [intOf, okn]; omega
          · have HN : Hid (¬ ∃ M k, All F.length (fun i => F.getD i 0) M k) := all_no HP.out (by rw [← HL.out]; exact hlt) (fun ⟨m, hm⟩ => hno ⟨m.k, m.c, m.v, m.h, m.g, by rw [HL.out]; exact hm⟩)
            have hB3 : Hid (w.heap.size ≤ w3.heap.size) := HI3.out.2.1.size
            obtain ⟨W, hW⟩ : ∃ W, W = (w3.alloc (.cells #[.int .i64 0, .int .i64 0, .int .i64 0, .int .i64 0, .slice none 0 0] 40)).alloc (.cells #[.int .i64 0, .int .i64 0, .int .i64 0, .int .i64 0, .slice none 0 0] 40) := ⟨_, rfl⟩
            have bW : Below w3.heap.size w3 W := by rw [hW]; exact ((Below.refl _ _).alloc (Nat.le_refl _) _).alloc (by simp) _
            have HW : Hid (UL W w.heap.size u4 j M R ∧ Below w.heap.size w W) := ⟨HI3.out.1.below bW, HI3.out.2.1.trans (bW.mono HI3.out.2.1.size)⟩
            have HN2 : Hid (∀ t u, (mcell mg0 (none, 0))[t]? = some u → W.cell? ((⟨w3.heap.size + 1, 0, none⟩ : Addr).add t) = some u) := fun t u ht => by
              rw [hW]
              have := gcells (w3.alloc (.cells #[.int .i64 0, .int .i64 0, .int .i64 0, .int .i64 0, .slice none 0 0] 40)) (mcell mg0 (none, 0)) 40 t u ht
              rw [show (w3.alloc (.cells #[.int .i64 0, .int .i64 0, .int .i64 0, .int .i64 0, .slice none 0 0] 40)).heap.size = w3.heap.size + 1 by simp] at this
              exact this
            have h1c : ∀ u ∈ mcell mg0 (none, 0), u.oneCell' = true := by
              intro u hu
              simp only [mcell, List.mem_cons, List.not_mem_nil, or_false] at hu
              rcases hu with rfl | rfl | rfl | rfl | rfl <;> rfl
            have hjb : j ≤ 3000 := by omega
            clear hno hcall b3 HI bW HI3 HBw
            go_wp2_with (first
              | (at_builtin; rw [← hW]; refine wpList_append_lies _ rfl _ _ 47 rfl w.heap.size 40 i0 (.agg #[.int .i64 0, .int .i64 0, .int .i64 0, .int .i64 0, .slice none 0 0]) 5 56 Try.underlying47 hi hz0 hz1 hz2 rfl (by decide) _ _ _ rfl HW.out.1.1 ⟨w3.heap.size + 1, 0, none⟩ 1 1 (mcell mg0 (none, 0)) rfl rfl HN2.out h1c (by decide) (by unfold maxLen; omega) (by omega) HW.out.2.size _ rfl ?_; intro g4 c4 w4 hown4 hgrow4 hat4 hlt4))
            have B4 : Hid (Below w.heap.size w w4) := HW.out.2.grown hgrow4 HW.out.2.size (fun k hk => (World.ownsRow.lt HW.out.1.1 k hk).1)
            clear hown4 hgrow4 hat4
            go_wp2
            go_roundw
            case rel => exact .inr ⟨rfl, HN.out, B4.out, 0, rfl⟩
            case measure => simp [intOf, okn]; omega
        · obtain rfl : l = F.length := by omega
          obtain ⟨ao2, c2, rfl, hkc, _⟩ := HI.out.1.form
          have HAl : Hid (All F.length (fun i => F.getD i 0) M j) := ⟨HP.out, HL.out.symm⟩
          have hk3 : j ≤ 3000 := by have := HP.out.le; omega
          have hlen : (bl f n).length = n := bl_len f n
          obtain ⟨tB, htB⟩ : ∃ tB, tB = bstr (bl f n) := ⟨_, rfl⟩
          obtain ⟨sP, hsP⟩ : ∃ sP, sP = bstr (pck M j) := ⟨_, rfl⟩
          have hbB : ∀ z ∈ bl f n, 0 ≤ z ∧ z ≤ 255 := fun z hz => by
            simp only [bl, List.mem_map, List.mem_range] at hz
            obtain ⟨i, hi, rfl⟩ := hz
            exact HF.out i hi
          have hcvB : Hid (∀ W, Below w.heap.size w W → (convert 22 9 (.slice ao n cap)).run Try.prog W = .ok (.string tB) W) := fun W hW => by
            have := conv_str (L := bl f n) (ao := ao) (cap := cap) (w := W) (by
              rw [hlen]
              intro i hi
              obtain ⟨b, off, e, hl, hc⟩ := (HS.out.below hW) i hi
              exact ⟨b, off, e, hl, by rw [hc]; simp [bl, List.getD, hi]⟩) hbB
            rw [hlen, ← htB] at this
            exact this
          have hpk : Hid (∀ W, (MSL W ao2 j M ∧ Below w.heap.size w W) → Calls Try.prog 39 #[.slice ao2 j c2] W fun e w' => ∃ ao3 c3, e = .returned (.slice ao3 (pck M j).length c3) ∧ (convert 22 9 (.slice ao3 (pck M j).length c3)).run Try.prog w' = .ok (.string sP) w' ∧ (convert 22 9 (.slice ao n cap)).run Try.prog w' = .ok (.string tB) w' ∧ Below W.heap.size W w') := fun W hW => (pack_spec ao2 j c2 M W (by omega) (fun i hi => by have := all_gens HP.out i hi; omega) hW.1).mono fun e w' => by
            rintro ⟨v, rfl, ho, hb⟩
            obtain ⟨ao3, c3, rfl⟩ := (Src.of_owns ho).form
            exact ⟨ao3, c3, rfl, by rw [hsP]; exact conv_str (Src.of_owns ho).slu (pck_byte M j), hcvB.out w' (hW.2.trans (hb.mono hW.2.size)), hb⟩
          have hcvB0 : Hid ((convert 22 9 (.slice ao n cap)).run Try.prog wr.drew = .ok (.string tB) wr.drew) := hcvB.out _ (Below.drawn HI.out.2.1 1)
          have HWD : Hid (MSL wr.drew ao2 j M ∧ Below w.heap.size w wr.drew) := ⟨(HI.out.1.below (Below.drawn (Below.refl _ _) 1)).msl rfl, Below.drawn HI.out.2.1 1⟩
          have HBD : Hid (Below w.heap.size w wr.drew) := Below.drawn HI.out.2.1 1
          have HUD : Hid (UL wr.drew w.heap.size (.slice ao2 j c2) j M R) := HI.out.1.below (Below.drawn (Below.refl _ _) 1)
          by_cases hpe : pck M j = bl f n
          · obtain rfl : tB = sP := by rw [hsP, htB, hpe]
            have HPE := hide hpe
            clear hcvB htB hsP hbB hlen hpe HI
            go_wp2
            refine wp_region_held_drew (S := (fun w' => (convert 22 9 (.slice ao n cap)).run Try.prog w' = .ok (.string tB) w')) (by kernel_rfl) ?_ (fun hHeld => ?_)
            · exact hcvB0.out
            refine wpAnyH_take (i := 0) (oi := { dst := some 37, op := Op.move (Operand.tmp 6), type := 4, pos := "l04_msg.go:99", after := #[], guard := none }) (v := ?_) rfl (by kernel_rfl) (by kernel_rfl) (by kernel_rfl) (fun _ _ _ h => h) (Or.inl ⟨by rfl, ?_⟩) (by assumption) ?_
            rotate_left 1
            · (intro wq hSw; (try dsimp only at hSw); go_simp; try with_reducible rfl)
            try simp only [Act.put, List.setIfInBounds_toArray, List.set_cons_zero, List.set_cons_succ]
            refine wpAnyH_take (i := 1) (oi := { dst := some 38, op := Op.unOp UnOp.not 4 (Operand.tmp 37), type := 4, pos := "l04_msg.go:99", after := #[{ on := 0, ground := Ground.data }], guard := none }) (v := ?_) rfl (by kernel_rfl) (by kernel_rfl) (by kernel_rfl) (fun _ _ _ h => h) (Or.inl ⟨by rfl, ?_⟩) (by assumption) ?_
            rotate_left 1
            · (intro wq hSw; (try dsimp only at hSw); go_simp; try with_reducible rfl)
            try simp only [Act.put, List.setIfInBounds_toArray, List.set_cons_zero, List.set_cons_succ]
            refine wpAnyH_take (i := 2) (oi := { dst := some 39, op := Op.move (Operand.tmp 38), type := 4, pos := "l04_msg.go:99", after := #[{ on := 1, ground := Ground.data }], guard := none }) (v := ?_) rfl (by kernel_rfl) (by kernel_rfl) (by kernel_rfl) (fun _ _ _ h => h) (Or.inl ⟨by rfl, ?_⟩) (by assumption) ?_
            rotate_left 1
            · (intro wq hSw; (try dsimp only at hSw); go_simp; try with_reducible rfl)
            try simp only [Act.put, List.setIfInBounds_toArray, List.set_cons_zero, List.set_cons_succ]
            refine wpAnyH_take (i := 3) (oi := { dst := some 40, op := Op.move (Operand.tmp 4), type := 47, pos := "l04_msg.go:99", after := #[{ on := 2, ground := Ground.guard }], guard := some (2, false) }) (v := ?_) rfl (by kernel_rfl) (by kernel_rfl) (by kernel_rfl) (fun _ _ _ h => h) (Or.inl ⟨by rfl, ?_⟩) (by assumption) ?_
            rotate_left 1
            · (intro wq hSw; (try dsimp only at hSw); go_simp; try with_reducible rfl)
            try simp only [Act.put, List.setIfInBounds_toArray, List.set_cons_zero, List.set_cons_succ]
            refine wpAnyH_take (i := 6) (oi := { dst := some 43, op := Op.move (Operand.tmp 0), type := 22, pos := "l04_msg.go:99", after := #[{ on := 2, ground := Ground.guard }], guard := some (2, false) }) (v := ?_) rfl (by kernel_rfl) (by kernel_rfl) (by kernel_rfl) (fun _ _ _ h => h) (Or.inl ⟨by rfl, ?_⟩) (by assumption) ?_
            rotate_left 1
            · (intro wq hSw; (try dsimp only at hSw); go_simp; try with_reducible rfl)
            try simp only [Act.put, List.setIfInBounds_toArray, List.set_cons_zero, List.set_cons_succ]
            refine wpAnyH_take (i := 7) (oi := { dst := some 44, op := Op.convert 22 9 (Operand.tmp 43), type := 9, pos := "l04_msg.go:99", after := #[{ on := 6, ground := Ground.data }, { on := 2, ground := Ground.guard }], guard := some (2, false) }) (v := ?_) rfl (by kernel_rfl) (by kernel_rfl) (by kernel_rfl) (fun _ _ _ h => h) (Or.inl ⟨by rfl, ?_⟩) (by assumption) ?_
            rotate_left 1
            · (intro wq hSw; (try dsimp only at hSw); go_simp; try with_reducible rfl)
            try simp only [Act.put, List.setIfInBounds_toArray, List.set_cons_zero, List.set_cons_succ]
            refine wpAnyH_ready (rs := [4]) (by kernel_rfl) (by simp) ?_
            refine AllReadyH.cons (o := { dst := some 41, op := Op.call { callee := Callee.value (Operand.func 39), args := #[Operand.tmp 40], argTypes := #[47] }, type := 22, pos := "l04_msg.go:99", after := #[{ on := 3, ground := Ground.data }, { on := 2, ground := Ground.chain }, { on := 2, ground := Ground.guard }], guard := some (2, false) }) rfl (fun K hK => ?_) AllReadyH.nil
            go_simp
            refine (hpk.out _ HWD.out).mono ?_
            rintro e w3 ⟨ao3, c3, rfl, hc3, hcB, b3⟩
            have H3 := hide (And.intro (HUD.out.below b3) (HBD.out.trans (b3.mono HBD.out.size)))
            clear b3
            go_wp2_with fail
            refine hK.out _ _ ?_ (fun hHeld => ?_)
            · exact hcB
            clear hK K
            try simp only [Act.put, List.setIfInBounds_toArray, List.set_cons_zero, List.set_cons_succ]
            refine wpAnyH_ready (rs := [5]) (by kernel_rfl) (by simp) ?_
            refine AllReadyH.cons (o := { dst := some 42, op := Op.convert 22 9 (Operand.tmp 41), type := 9, pos := "l04_msg.go:99", after := #[{ on := 4, ground := Ground.data }, { on := 2, ground := Ground.guard }], guard := some (2, false) }) rfl (fun K hK => ?_) AllReadyH.nil
            go_simp
            refine hK.out _ _ ?_ (fun hHeld => ?_)
            · exact hcB
            clear hK K
            try simp only [Act.put, List.setIfInBounds_toArray, List.set_cons_zero, List.set_cons_succ]
            refine wpAnyH_take (i := 8) (oi := { dst := some 45, op := Op.binOp BinOp.neq 9 (Operand.tmp 42) (Operand.tmp 44) 9, type := 4, pos := "l04_msg.go:99", after := #[{ on := 5, ground := Ground.data }, { on := 7, ground := Ground.data }, { on := 2, ground := Ground.guard }], guard := some (2, false) }) (v := ?_) rfl (by kernel_rfl) (by kernel_rfl) (by kernel_rfl) (fun _ _ _ h => h) (Or.inl ⟨by rfl, ?_⟩) (by assumption) ?_
            rotate_left 1
            · (intro wq hSw; (try dsimp only at hSw); go_simp; try with_reducible rfl)
            try simp only [Act.put, List.setIfInBounds_toArray, List.set_cons_zero, List.set_cons_succ]
            refine wpAnyH_take (i := 9) (oi := { dst := some 46, op := Op.pick (Operand.tmp 39) (Operand.const (Value.bool true)) (Operand.tmp 45), type := 4, pos := "l04_msg.go:99", after := #[{ on := 2, ground := Ground.data }, { on := 8, ground := Ground.data }], guard := none }) (v := ?_) rfl (by kernel_rfl) (by kernel_rfl) (by kernel_rfl) (fun _ _ _ h => h) (Or.inl ⟨by rfl, ?_⟩) (by assumption) ?_
            rotate_left 1
            · (intro wq hSw; (try dsimp only at hSw); go_simp; try with_reducible rfl)
            try simp only [Act.put, List.setIfInBounds_toArray, List.set_cons_zero, List.set_cons_succ]
            refine wpAnyH_done (by kernel_rfl) ?_ _
            go_wp2
            go_ret2
            exact ⟨.inl ⟨M, j, ao2, c2, R, ⟨F, HSL.out, HAl.out, HPE.out⟩, rfl, H3.out.1⟩, H3.out.2⟩
          · have hne : ¬ sP = tB := fun e => hpe (bstr_inj (pck_byte M j) hbB (by rw [← hsP, ← htB, e]))
            have h1 : (sP.toList == tB.toList) = false := by
              rw [beq_eq_false_iff_ne]
              intro e
              exact hne (by rw [ByteArray.toList_eq, ByteArray.toList_eq] at e; exact WideShapes.bytes_inj e)
            have HPE := hide hpe
            clear hcvB htB hsP hbB hlen hpe HI
            go_wp2
            refine wp_region_held_drew (S := (fun w' => (convert 22 9 (.slice ao n cap)).run Try.prog w' = .ok (.string tB) w')) (by kernel_rfl) ?_ (fun hHeld => ?_)
            · exact hcvB0.out
            refine wpAnyH_take (i := 0) (oi := { dst := some 37, op := Op.move (Operand.tmp 6), type := 4, pos := "l04_msg.go:99", after := #[], guard := none }) (v := ?_) rfl (by kernel_rfl) (by kernel_rfl) (by kernel_rfl) (fun _ _ _ h => h) (Or.inl ⟨by rfl, ?_⟩) (by assumption) ?_
            rotate_left 1
            · (intro wq hSw; (try dsimp only at hSw); go_simp; try with_reducible rfl)
            try simp only [Act.put, List.setIfInBounds_toArray, List.set_cons_zero, List.set_cons_succ]
            refine wpAnyH_take (i := 1) (oi := { dst := some 38, op := Op.unOp UnOp.not 4 (Operand.tmp 37), type := 4, pos := "l04_msg.go:99", after := #[{ on := 0, ground := Ground.data }], guard := none }) (v := ?_) rfl (by kernel_rfl) (by kernel_rfl) (by kernel_rfl) (fun _ _ _ h => h) (Or.inl ⟨by rfl, ?_⟩) (by assumption) ?_
            rotate_left 1
            · (intro wq hSw; (try dsimp only at hSw); go_simp; try with_reducible rfl)
            try simp only [Act.put, List.setIfInBounds_toArray, List.set_cons_zero, List.set_cons_succ]
            refine wpAnyH_take (i := 2) (oi := { dst := some 39, op := Op.move (Operand.tmp 38), type := 4, pos := "l04_msg.go:99", after := #[{ on := 1, ground := Ground.data }], guard := none }) (v := ?_) rfl (by kernel_rfl) (by kernel_rfl) (by kernel_rfl) (fun _ _ _ h => h) (Or.inl ⟨by rfl, ?_⟩) (by assumption) ?_
            rotate_left 1
            · (intro wq hSw; (try dsimp only at hSw); go_simp; try with_reducible rfl)
            try simp only [Act.put, List.setIfInBounds_toArray, List.set_cons_zero, List.set_cons_succ]
            refine wpAnyH_take (i := 3) (oi := { dst := some 40, op := Op.move (Operand.tmp 4), type := 47, pos := "l04_msg.go:99", after := #[{ on := 2, ground := Ground.guard }], guard := some (2, false) }) (v := ?_) rfl (by kernel_rfl) (by kernel_rfl) (by kernel_rfl) (fun _ _ _ h => h) (Or.inl ⟨by rfl, ?_⟩) (by assumption) ?_
            rotate_left 1
            · (intro wq hSw; (try dsimp only at hSw); go_simp; try with_reducible rfl)
            try simp only [Act.put, List.setIfInBounds_toArray, List.set_cons_zero, List.set_cons_succ]
            refine wpAnyH_take (i := 6) (oi := { dst := some 43, op := Op.move (Operand.tmp 0), type := 22, pos := "l04_msg.go:99", after := #[{ on := 2, ground := Ground.guard }], guard := some (2, false) }) (v := ?_) rfl (by kernel_rfl) (by kernel_rfl) (by kernel_rfl) (fun _ _ _ h => h) (Or.inl ⟨by rfl, ?_⟩) (by assumption) ?_
            rotate_left 1
            · (intro wq hSw; (try dsimp only at hSw); go_simp; try with_reducible rfl)
            try simp only [Act.put, List.setIfInBounds_toArray, List.set_cons_zero, List.set_cons_succ]
            refine wpAnyH_take (i := 7) (oi := { dst := some 44, op := Op.convert 22 9 (Operand.tmp 43), type := 9, pos := "l04_msg.go:99", after := #[{ on := 6, ground := Ground.data }, { on := 2, ground := Ground.guard }], guard := some (2, false) }) (v := ?_) rfl (by kernel_rfl) (by kernel_rfl) (by kernel_rfl) (fun _ _ _ h => h) (Or.inl ⟨by rfl, ?_⟩) (by assumption) ?_
            rotate_left 1
            · (intro wq hSw; (try dsimp only at hSw); go_simp; try with_reducible rfl)
            try simp only [Act.put, List.setIfInBounds_toArray, List.set_cons_zero, List.set_cons_succ]
            refine wpAnyH_ready (rs := [4]) (by kernel_rfl) (by simp) ?_
            refine AllReadyH.cons (o := { dst := some 41, op := Op.call { callee := Callee.value (Operand.func 39), args := #[Operand.tmp 40], argTypes := #[47] }, type := 22, pos := "l04_msg.go:99", after := #[{ on := 3, ground := Ground.data }, { on := 2, ground := Ground.chain }, { on := 2, ground := Ground.guard }], guard := some (2, false) }) rfl (fun K hK => ?_) AllReadyH.nil
            go_simp
            refine (hpk.out _ HWD.out).mono ?_
            rintro e w3 ⟨ao3, c3, rfl, hc3, hcB, b3⟩
            have H3 := hide (And.intro (HUD.out.below b3) (HBD.out.trans (b3.mono HBD.out.size)))
            clear b3
            go_wp2_with fail
            refine hK.out _ _ ?_ (fun hHeld => ?_)
            · exact hcB
            clear hK K
            try simp only [Act.put, List.setIfInBounds_toArray, List.set_cons_zero, List.set_cons_succ]
            refine wpAnyH_ready (rs := [5]) (by kernel_rfl) (by simp) ?_
            refine AllReadyH.cons (o := { dst := some 42, op := Op.convert 22 9 (Operand.tmp 41), type := 9, pos := "l04_msg.go:99", after := #[{ on := 4, ground := Ground.data }, { on := 2, ground := Ground.guard }], guard := some (2, false) }) rfl (fun K hK => ?_) AllReadyH.nil
            go_simp
            refine hK.out _ _ ?_ (fun hHeld => ?_)
            · exact hcB
            clear hK K
            try simp only [Act.put, List.setIfInBounds_toArray, List.set_cons_zero, List.set_cons_succ]
            refine wpAnyH_take (i := 8) (oi := { dst := some 45, op := Op.binOp BinOp.neq 9 (Operand.tmp 42) (Operand.tmp 44) 9, type := 4, pos := "l04_msg.go:99", after := #[{ on := 5, ground := Ground.data }, { on := 7, ground := Ground.data }, { on := 2, ground := Ground.guard }], guard := some (2, false) }) (v := ?_) rfl (by kernel_rfl) (by kernel_rfl) (by kernel_rfl) (fun _ _ _ h => h) (Or.inl ⟨by rfl, ?_⟩) (by assumption) ?_
            rotate_left 1
            · (intro wq hSw; (try dsimp only at hSw); go_simp; try with_reducible rfl)
            try simp only [Act.put, List.setIfInBounds_toArray, List.set_cons_zero, List.set_cons_succ]
            refine wpAnyH_take (i := 9) (oi := { dst := some 46, op := Op.pick (Operand.tmp 39) (Operand.const (Value.bool true)) (Operand.tmp 45), type := 4, pos := "l04_msg.go:99", after := #[{ on := 2, ground := Ground.data }, { on := 8, ground := Ground.data }], guard := none }) (v := ?_) rfl (by kernel_rfl) (by kernel_rfl) (by kernel_rfl) (fun _ _ _ h => h) (Or.inl ⟨by rfl, ?_⟩) (by assumption) ?_
            rotate_left 1
            · (intro wq hSw; (try dsimp only at hSw); go_simp; try with_reducible rfl)
            try simp only [Act.put, List.setIfInBounds_toArray, List.set_cons_zero, List.set_cons_succ]
            refine wpAnyH_done (by kernel_rfl) ?_ _
            go_wp2
            go_ret2
            refine ⟨.inr ⟨?_, _, _, rfl⟩, H3.out.2.alloc H3.out.2.size _⟩
            rintro ⟨M', k', F', e1, e2, e3⟩
            rw [HSL.out] at e1
            cases e1
            obtain ⟨rfl, e4⟩ := all_one HAl.out e2
            exact HPE.out (by rw [← e3]; unfold pck; rw [frs_congr e4])
      · have HNU : Hid (¬ ∃ M k, Upk (bl f n) M k) := fun ⟨M, k, F', e1, e2, _⟩ => by
          rw [HSL.out] at e1
          cases e1
          exact HN0.out ⟨M, k, e2⟩
        go_wp2
        refine wp_region_held_drew (S := fun _ => True) (by kernel_rfl) trivial (fun _ => ?_)
        refine wpAnyH_take (i := 0) (oi := { dst := some 37, op := Op.move (Operand.tmp 6), type := 4, pos := "l04_msg.go:99", after := #[], guard := none }) (v := ?_) rfl (by kernel_rfl) (by kernel_rfl) (by kernel_rfl) (fun _ _ _ h => h) (Or.inl ⟨by rfl, ?_⟩) trivial ?_
        rotate_left 1
        · (intro wq _; go_simp; try with_reducible rfl)
        try simp only [Act.put, List.setIfInBounds_toArray, List.set_cons_zero, List.set_cons_succ]
        refine wpAnyH_take (i := 1) (oi := { dst := some 38, op := Op.unOp UnOp.not 4 (Operand.tmp 37), type := 4, pos := "l04_msg.go:99", after := #[{ on := 0, ground := Ground.data }], guard := none }) (v := ?_) rfl (by kernel_rfl) (by kernel_rfl) (by kernel_rfl) (fun _ _ _ h => h) (Or.inl ⟨by rfl, ?_⟩) trivial ?_
        rotate_left 1
        · (intro wq _; go_simp; try with_reducible rfl)
        try simp only [Act.put, List.setIfInBounds_toArray, List.set_cons_zero, List.set_cons_succ]
        refine wpAnyH_take (i := 2) (oi := { dst := some 39, op := Op.move (Operand.tmp 38), type := 4, pos := "l04_msg.go:99", after := #[{ on := 1, ground := Ground.data }], guard := none }) (v := ?_) rfl (by kernel_rfl) (by kernel_rfl) (by kernel_rfl) (fun _ _ _ h => h) (Or.inl ⟨by rfl, ?_⟩) trivial ?_
        rotate_left 1
        · (intro wq _; go_simp; try with_reducible rfl)
        try simp only [Act.put, List.setIfInBounds_toArray, List.set_cons_zero, List.set_cons_succ]
        refine wpAnyH_take (i := 3) (oi := { dst := some 40, op := Op.move (Operand.tmp 4), type := 47, pos := "l04_msg.go:99", after := #[{ on := 2, ground := Ground.guard }], guard := some (2, false) }) (v := undef) rfl (by kernel_rfl) (by kernel_rfl) (by kernel_rfl) (fun _ _ _ h => h) (Or.inr ⟨by rfl, rfl⟩) trivial ?_
        try simp only [Act.put, List.setIfInBounds_toArray, List.set_cons_zero, List.set_cons_succ]
        refine wpAnyH_take (i := 4) (oi := { dst := some 41, op := Op.call { callee := Callee.value (Operand.func 39), args := #[Operand.tmp 40], argTypes := #[47] }, type := 22, pos := "l04_msg.go:99", after := #[{ on := 3, ground := Ground.data }, { on := 2, ground := Ground.chain }, { on := 2, ground := Ground.guard }], guard := some (2, false) }) (v := undef) rfl (by kernel_rfl) (by kernel_rfl) (by kernel_rfl) (fun _ _ _ h => h) (Or.inr ⟨by rfl, rfl⟩) trivial ?_
        try simp only [Act.put, List.setIfInBounds_toArray, List.set_cons_zero, List.set_cons_succ]
        refine wpAnyH_take (i := 5) (oi := { dst := some 42, op := Op.convert 22 9 (Operand.tmp 41), type := 9, pos := "l04_msg.go:99", after := #[{ on := 4, ground := Ground.data }, { on := 2, ground := Ground.guard }], guard := some (2, false) }) (v := undef) rfl (by kernel_rfl) (by kernel_rfl) (by kernel_rfl) (fun _ _ _ h => h) (Or.inr ⟨by rfl, rfl⟩) trivial ?_
        try simp only [Act.put, List.setIfInBounds_toArray, List.set_cons_zero, List.set_cons_succ]
        refine wpAnyH_take (i := 6) (oi := { dst := some 43, op := Op.move (Operand.tmp 0), type := 22, pos := "l04_msg.go:99", after := #[{ on := 2, ground := Ground.guard }], guard := some (2, false) }) (v := undef) rfl (by kernel_rfl) (by kernel_rfl) (by kernel_rfl) (fun _ _ _ h => h) (Or.inr ⟨by rfl, rfl⟩) trivial ?_
        try simp only [Act.put, List.setIfInBounds_toArray, List.set_cons_zero, List.set_cons_succ]
        refine wpAnyH_take (i := 7) (oi := { dst := some 44, op := Op.convert 22 9 (Operand.tmp 43), type := 9, pos := "l04_msg.go:99", after := #[{ on := 6, ground := Ground.data }, { on := 2, ground := Ground.guard }], guard := some (2, false) }) (v := undef) rfl (by kernel_rfl) (by kernel_rfl) (by kernel_rfl) (fun _ _ _ h => h) (Or.inr ⟨by rfl, rfl⟩) trivial ?_
        try simp only [Act.put, List.setIfInBounds_toArray, List.set_cons_zero, List.set_cons_succ]
        refine wpAnyH_take (i := 8) (oi := { dst := some 45, op := Op.binOp BinOp.neq 9 (Operand.tmp 42) (Operand.tmp 44) 9, type := 4, pos := "l04_msg.go:99", after := #[{ on := 5, ground := Ground.data }, { on := 7, ground := Ground.data }, { on := 2, ground := Ground.guard }], guard := some (2, false) }) (v := undef) rfl (by kernel_rfl) (by kernel_rfl) (by kernel_rfl) (fun _ _ _ h => h) (Or.inr ⟨by rfl, rfl⟩) trivial ?_
        try simp only [Act.put, List.setIfInBounds_toArray, List.set_cons_zero, List.set_cons_succ]
        refine wpAnyH_take (i := 9) (oi := { dst := some 46, op := Op.pick (Operand.tmp 39) (Operand.const (Value.bool true)) (Operand.tmp 45), type := 4, pos := "l04_msg.go:99", after := #[{ on := 2, ground := Ground.data }, { on := 8, ground := Ground.data }], guard := none }) (v := ?_) rfl (by kernel_rfl) (by kernel_rfl) (by kernel_rfl) (fun _ _ _ h => h) (Or.inl ⟨by rfl, ?_⟩) trivial ?_
        rotate_left 1
        · (intro wq _; go_simp; try with_reducible rfl)
        try simp only [Act.put, List.setIfInBounds_toArray, List.set_cons_zero, List.set_cons_succ]
        refine wpAnyH_done (by kernel_rfl) ?_ _
        go_wp2
        go_ret2
        exact ⟨.inr ⟨HNU.out, _, _, rfl⟩, (Below.drawn HB0.out 1).alloc HB0.out.size _⟩
end Go.Proofs.Ytkeojhnifnkpiaa

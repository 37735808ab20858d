/- l6Copy of the model. -/
import Derived.Test.YtkndnndildnbpaaGreatDoorGl
import Derived.Deep.RegionHeld3
import Derived.Deep.AppendLies

namespace Go.Proofs.YtkndnndildnbpaaGreatDoor
open Go.ChangeShapes Go.WideShapes Go.ChangeAt Go.RowKit
set_option linter.unusedVariables false
set_option linter.unusedSimpArgs false
set_option maxRecDepth 100000

/-- A row that append has laid: in its own block, or a new one. -/
def Laid (w w' : World) (b : Nat) (ao : Option Addr) (L : List Int) : Prop :=
  L.length = 0 ∨ ∃ g, ao = some ⟨g, 0, none⟩ ∧ (g = b ∨ g = w.heap.size) ∧ g < w'.heap.size ∧ ∃ cs : Array Value, w'.heap[g]? = some (.cells cs 5 (0, 0)) ∧ L.length ≤ cs.size ∧ ∀ i, i < L.length → cs[i]? = some (bv L i)
theorem own_empty {w : World} {b : Nat} (hb : w.heap[b]? = some (.cells #[] 5 (0, 0))) : w.ownsRow b 5 1 (.slice (some ⟨b, 0, none⟩) 0 0) ([] : List Int).length (([] : List Int).map (.int .u8)) :=
  ⟨rfl, .inr ⟨b, 0, #[], rfl, Nat.le_refl _, hb, Nat.le_refl _, by unfold maxLen; omega, rfl, rfl⟩⟩
theorem laid_of {w w' : World} {b g cap : Nat} {L : List Int} (h : w'.ownsRow b 5 1 (.slice (some ⟨g, 0, none⟩) (0 + L.length) cap) (0 + L.length) (([] : List Value) ++ L.map (.int .u8))) (hl : g = b ∨ g = w.heap.size) (hlt : g < w'.heap.size) : L.length ≤ cap ∧ Laid w w' b (some ⟨g, 0, none⟩) L := by
  have h' : w'.ownsRow b 5 1 (.slice (some ⟨g, 0, none⟩) L.length cap) L.length (L.map (.int .u8)) := by simpa using h
  obtain ⟨ao, c, e, h1, ho⟩ := Own.of_owns h'
  cases e
  refine ⟨h1.2.1, ?_⟩
  rcases ho with h0 | ⟨g', e, _, cs, hc, hs, hF⟩
  · exact .inl h0
  · cases e
    exact .inr ⟨g, rfl, hl, hlt, cs, hc, hs, hF⟩

theorem step_app {w : World} {ops : Array Oper} {o : Oper} {a : Act} {K : Act → World → Prop} {Q : Exit → Act → World → Prop} {E : Prop} (hgd : o.guard = none) (s x : Operand)
    (ho : o.op = .call { callee := .builtin .append, args := #[s, x], argTypes := #[26, 26] }) (b : Nat) (hb : w.heap[b]? = some (.cells #[] 5 (0, 0))) (hs : a.eval s = .slice (some ⟨b, 0, none⟩) 0 0)
    (xv : Value) (L : List Int) (hx : a.eval x = xv) (hsrc : Src .u8 w xv L) (hl : L.length ≤ 1048576)
    (h : ∀ ao c w', L.length ≤ c → NC ao c → Laid w w' b ao L → w.grownBy w' (some b) → K (a.put o.dst (.slice ao L.length c)) w') :
    if Region.wanted o (yielded ops a.tmps) = true then Oper.wp Tryz.prog o a w K Q else E := by
  obtain ⟨i0, hi, hz0, hz1, hz2⟩ := info_parts Tryz.info5
  have hw : Region.wanted o (yielded ops a.tmps) = true := by simp [Region.wanted, hgd]
  rw [if_pos hw]
  have hbw : b < w.heap.size := (Array.getElem?_eq_some_iff.1 hb).1
  rcases hsrc with ⟨e1, rfl⟩ | ⟨ad, c, e1, hc⟩
  · have hrun := run_append_owned_none (P := Tryz.prog) (w := w) b 26 o.type 5 i0 1 Tryz.underlying26 hi _ _ _ (own_empty hb)
    unfold Oper.wp
    simp [execOp, ho, resolve, invoke, builtin, hs, hx.trans e1, hrun, Result.andThen]
    exact h _ 0 w (Nat.le_refl _) (fun e => by cases e) (.inl rfl) (grownBy_refl _ _)
  · by_cases h0 : 0 < L.length
    · refine wp_append_lies w s x 26 ho b 5 i0 (.int .u8 0) 1 1 Tryz.underlying26 hi hz0 hz1 hz2 rfl (by decide) _ 0 [] hs (own_empty hb) ad L.length c (L.map (.int .u8)) (hx.trans e1) (by simp) hc (gones _ _) h0 (by unfold maxLen; omega) (by omega) (Nat.le_of_lt hbw) _ rfl ?_
      intro g cap w' ho' hg' hat hlt
      obtain ⟨q1, q2⟩ := laid_of ho' (hat.imp (fun e => by cases e; rfl) id) hlt
      have := h (some ⟨g, 0, none⟩) cap w' q1 (fun e => by cases e) q2 hg'
      rwa [← Nat.zero_add L.length] at this
    · have hl0 : L.length = 0 := by omega
      obtain rfl : L = [] := List.length_eq_zero_iff.1 hl0
      refine wp_append_own w s x 26 ho b 5 i0 (.int .u8 0) 1 1 Tryz.underlying26 hi hz0 hz1 hz2 rfl (by decide) _ 0 [] hs (own_empty hb) ad 0 c [] (hx.trans e1) rfl (fun j u hu => by simp at hu) (fun u hu => by cases hu) (by unfold maxLen; omega) (by omega) (Nat.le_of_lt hbw) ?_
      intro v' w' ho' hg' hnn
      have hv : ∃ ao c, v' = .slice ao 0 c ∧ NC ao c := by
        rcases ho'.2 with ⟨e, _⟩ | ⟨g, cap, cur, e, _⟩
        · exact ⟨none, 0, e, fun _ => rfl⟩
        · exact ⟨_, cap, e, fun e => by cases e⟩
      obtain ⟨ao, c', rfl, hn⟩ := hv
      exact h ao c' w' (Nat.zero_le _) hn (.inl rfl) hg'

/-- The two rows, the second one laid last. -/
theorem cp_two {w W5 w7 w0 : World} {aA aB bA bB : Option Addr} {cA cB dA dB B b1 b2 : Nat} {A C : List Int} (hk : CpK w W5 aA aB cA cB A C) (h1 : Laid w0 W5 b1 bA A) (hB : w.heap.size + 1 + 1 ≤ B) (hb1 : B ≤ b1) (hw0 : B ≤ w0.heap.size) (hne : ∀ g, bA = some ⟨g, 0, none⟩ → 0 < A.length → g ≠ b2) (hb2 : B ≤ b2) (hb2w : b2 < W5.heap.size)
    (h2 : Laid W5 w7 b2 bB C) (hg : W5.grownBy w7 (some b2)) (q1 : A.length ≤ dA) (q2 : C.length ≤ dB) : CpK w w7 aA aB cA cB A C ∧ OSl w7 B w7.heap.size bA dA bB dB A C := by
  have hs := hg.size
  refine ⟨⟨hk.1.grown hg hk.1.size (fun k e => by cases e; omega), (hg.block _ hk.2.1.lt (by simp; omega)).trans hk.2.1, (hg.block _ hk.2.2.1.lt (by simp; omega)).trans hk.2.2.1, Nat.le_trans hk.2.2.2 hs⟩, ⟨⟨by have := hk.2.2.2; omega, Nat.le_refl _⟩, ⟨q1, q2⟩, ?_, ?_, ?_⟩⟩
  · rcases h1 with h | ⟨g, e, hg1, hlt, cs, hc, r⟩
    · exact .inl h
    · by_cases h0 : A.length = 0
      · exact .inl h0
      · have := hne g e (by omega)
        exact .inr ⟨g, e, ⟨by omega, by omega⟩, cs, (hg.block g hlt (fun e => by simp only [Option.some.injEq] at e; omega)).trans hc, r⟩
  · rcases h2 with h | ⟨g, e, hg1, hlt, cs, hc, r⟩
    · exact .inl h
    · exact .inr ⟨g, e, ⟨by omega, hlt⟩, cs, hc, r⟩
  · intro γ e hp hp2 e2
    rcases h1 with h | ⟨g, e', hg1, hlt, _⟩
    · omega
    · rcases h2 with h | ⟨g2, e2', hg2, hlt2, _⟩
      · omega
      · have := hne g e' hp
        rw [e'] at e
        rw [e2'] at e2
        simp only [Option.some.injEq, Addr.mk.injEq] at e e2
        omega
theorem Laid.lt {w w' : World} {b : Nat} {ao : Option Addr} {L : List Int} (h : Laid w w' b ao L) : ∀ g, ao = some ⟨g, 0, none⟩ → 0 < L.length → g < w'.heap.size ∧ (g = b ∨ g = w.heap.size) := by
  intro g e hp
  rcases h with h | ⟨g', e', hg1, hlt, _⟩
  · omega
  · rw [e'] at e
    cases e
    exact ⟨hlt, hg1⟩
theorem CpK.grown {w W5 w7 : World} {aA aB : Option Addr} {cA cB b2 : Nat} {A C : List Int} (hk : CpK w W5 aA aB cA cB A C) (hg : W5.grownBy w7 (some b2)) (hb2 : w.heap.size + 1 + 1 ≤ b2) : CpK w w7 aA aB cA cB A C :=
  ⟨hk.1.grown hg hk.1.size (fun k e => by cases e; omega), (hg.block _ hk.2.1.lt (by simp; omega)).trans hk.2.1, (hg.block _ hk.2.2.1.lt (by simp; omega)).trans hk.2.2.1, Nat.le_trans hk.2.2.2 hg.size⟩
theorem Laid.b {w w' w'' : World} {b : Nat} {ao : Option Addr} {L : List Int} (h : Laid w w' b ao L) (hb : Below w'.heap.size w' w'') : Laid w w'' b ao L := by
  rcases h with h | ⟨g, e, hg1, hlt, cs, hc, r⟩
  · exact .inl h
  · exact .inr ⟨g, e, hg1, Nat.lt_of_lt_of_le hlt hb.size, cs, (hb.block g hlt).trans hc, r⟩

set_option maxHeartbeats 2000000 in
theorem copys_spec (aA aB : Option Addr) (cA cB : Nat) (A C : List Int) (w : World) (hA : VBy w aA cA A) (hB : VBy w aB cB C) (nA : NC aA cA) (nB : NC aB cB) :
    Calls Tryz.prog 132 #[.agg #[.slice aA A.length cA, .slice aB C.length cB]] w fun e w' => ∃ bA bB dA dB, e = .returned (.agg #[.slice bA A.length dA, .slice bB C.length dB]) ∧ OSl w' w.heap.size w'.heap.size bA dA bB dB A C ∧ Below w.heap.size w w' ∧ NC bA dA ∧ NC bB dB := by
  obtain ⟨W, hW⟩ : ∃ W, W = ((w.alloc (.cells #[.slice aA A.length cA, .slice aB C.length cB] 28)).alloc (.cells #[.slice none 0 0, .slice none 0 0] 28)) := ⟨_, rfl⟩
  have hk : CpK w W aA aB cA cB A C := by rw [hW]; exact cpk_new w aA aB cA cB A C
  have HKd : Hid (CpK w W.drew aA aB cA cB A C) := hk.b (Below.drawn (Below.refl _ _) 1)
  have hS := HKd.out.2.1.cells
  have hlA := hA.2.2.1
  have hlC := hB.2.2.1
  have HSA : Hid (∀ W', Below w.heap.size w W' → Src .u8 W' (.slice aA A.length cA) A) := fun W' hb => (hA.below hb).src nA
  have HSB : Hid (∀ W', Below w.heap.size w W' → Src .u8 W' (.slice aB C.length cB) C) := fun W' hb => (hB.below hb).src nB
  have HK1 : Hid (CpK w (W.drew.alloc (.cells #[] 5)) aA aB cA cB A C) := HKd.out.b (bal1 _ _)
  have HK2 : Hid (CpK w ((W.drew.alloc (.cells #[] 5)).alloc (.cells #[] 5)) aA aB cA cB A C) := HK1.out.b (bal1 _ _)
  have hk1 := HK1.out.2.1.cells
  have hk2 := HK2.out.2.1.cells
  have hz : Hid (w.heap.size + 1 + 1 ≤ W.heap.size) := hk.2.2.2
  have E1 : Hid ((W.drew.alloc (.cells #[] 5)).heap[W.heap.size]? = some (.cells #[] 5 (0, 0))) := Deep.blk_alloc_new W.drew _
  have E2 : Hid (((W.drew.alloc (.cells #[] 5)).alloc (.cells #[] 5)).heap[W.heap.size]? = some (.cells #[] 5 (0, 0)) ∧ ((W.drew.alloc (.cells #[] 5)).alloc (.cells #[] 5)).heap[W.heap.size + 1]? = some (.cells #[] 5 (0, 0))) := ⟨(Below.heap_alloc _ _ _ (by rw [alsz]; exact Nat.lt_succ_self _)).trans E1.out, by
    have := Deep.blk_alloc_new (W.drew.alloc (.cells #[] 5)) (.cells #[] 5)
    rw [alsz] at this
    exact this⟩
  have Z1 : Hid ((W.alloc (.cells #[] 5)).drew.heap.size = W.heap.size + 1) := alsz W _
  have Z2 : Hid (((W.alloc (.cells #[] 5)).alloc (.cells #[] 5)).drew.heap.size = W.heap.size + 1 + 1) := (alsz (W.alloc (.cells #[] 5)) _).trans (by rw [alsz])
  clear hA hB nA nB hk
  go_enter Tryz.func132, Tryz.ntmps132
  go_wp2_with fail
  rw [← hW]
  clear hW
  refine wp_region_held_drew (S := (fun w' => w'.cell? ⟨w.heap.size, 0, none⟩ = some (.slice aA A.length cA) ∧ w'.cell? ⟨w.heap.size, 1, none⟩ = some (.slice aB C.length cB))) (by kernel_rfl) ?_ (fun hHeld => ?_)
  · exact hS
  refine wpAnyH_take (i := 1) (oi := { dst := some 4, op := Op.fieldAddr 28 (Operand.tmp 1) 0, type := 0, pos := "l06_slot.go:55", after := #[], guard := none }) (v := ?_) rfl (by kernel_rfl) (by kernel_rfl) (by kernel_rfl) (fun _ _ _ h => h) (Or.inl ⟨by rfl, ?_⟩) (by assumption) ?_
  rotate_left 1
  · (intro wq hSw; (try dsimp only at hSw); go_simp; try with_reducible rfl)
  try simp only [Act.put, ly1, ly2, ly3]
  refine wpAnyH_take (i := 2) (oi := { dst := some 5, op := Op.load 26 (Operand.tmp 4), type := 26, pos := "l06_slot.go:55", after := #[{ on := 1, ground := Ground.data }], guard := none }) (v := ?_) rfl (by kernel_rfl) (by kernel_rfl) (by kernel_rfl) (fun _ _ _ h => h) (Or.inl ⟨by rfl, ?_⟩) (by assumption) ?_
  rotate_left 1
  · (intro wq hSw; (try dsimp only at hSw); go_simp; try with_reducible rfl)
  try simp only [Act.put, ly1, ly2, ly3]
  refine wpAnyH_take (i := 5) (oi := { dst := some 8, op := Op.fieldAddr 28 (Operand.tmp 1) 1, type := 0, pos := "l06_slot.go:55", after := #[], guard := none }) (v := ?_) rfl (by kernel_rfl) (by kernel_rfl) (by kernel_rfl) (fun _ _ _ h => h) (Or.inl ⟨by rfl, ?_⟩) (by assumption) ?_
  rotate_left 1
  · (intro wq hSw; (try dsimp only at hSw); go_simp; try with_reducible rfl)
  try simp only [Act.put, ly1, ly2, ly3]
  refine wpAnyH_take (i := 6) (oi := { dst := some 9, op := Op.load 26 (Operand.tmp 8), type := 26, pos := "l06_slot.go:55", after := #[{ on := 5, ground := Ground.data }], guard := none }) (v := ?_) rfl (by kernel_rfl) (by kernel_rfl) (by kernel_rfl) (fun _ _ _ h => h) (Or.inl ⟨by rfl, ?_⟩) (by assumption) ?_
  rotate_left 1
  · (intro wq hSw; (try dsimp only at hSw); go_simp; try with_reducible rfl)
  try simp only [Act.put, ly1, ly2, ly3]
  refine wpAnyH_ready (rs := [0, 4]) (by kernel_rfl) (by simp) ?_
  refine AllReadyH.cons (o := { dst := some 3, op := Op.buildSlice 26 0 #[], type := 26, pos := "l06_slot.go:55", after := #[], guard := none }) rfl (fun K hK => ?_) ?_
  · skip
    go_simp
    refine hK.out _ _ ?_ (fun hHeld => ?_)
    · exact hk1
    clear hK K
    try simp only [Act.put, ly1, ly2, ly3]
    refine wpAnyH_ready (rs := [3, 4]) (by kernel_rfl) (by simp) ?_
    refine AllReadyH.cons (o := { dst := some 6, op := Op.call { callee := Callee.builtin Builtin.append, args := #[Operand.tmp 3, Operand.tmp 5], argTypes := #[26, 26] }, type := 26, pos := "l06_slot.go:55", after := #[{ on := 0, ground := Ground.data }, { on := 2, ground := Ground.data }], guard := none }) rfl (fun K hK => ?_) ?_
    · skip
      refine step_app rfl _ _ rfl W.heap.size E1.out rfl _ A rfl (HSA.out _ HK1.out.1) hlA ?_
      intro bA dA w4 q1 n1 l1 g1
      have HK4 := hide (HK1.out.grown g1 (by have := hz.out; omega))
      have H4 := hide l1
      have hs4 := g1.size
      have hk4 := HK4.out.2.1.cells
      have HK5 := hide (HK4.out.b (bal1 w4 (.cells #[] 5)))
      have hk5 := HK5.out.2.1.cells
      have H5 := hide (H4.out.b (bal1 w4 (.cells #[] 5)))
      have E5 : Hid ((w4.alloc (.cells #[] 5)).heap[w4.heap.size]? = some (.cells #[] 5 (0, 0))) := Deep.blk_alloc_new w4 _
      clear l1 g1
      refine hK.out _ _ ?_ (fun hHeld => ?_)
      · exact hk4
      clear hK K
      try simp only [Act.put, ly1, ly2, ly3]
      refine wpAnyH_ready (rs := [4]) (by kernel_rfl) (by simp) ?_
      refine AllReadyH.cons (o := { dst := some 7, op := Op.buildSlice 26 0 #[], type := 26, pos := "l06_slot.go:55", after := #[], guard := none }) rfl (fun K hK => ?_) AllReadyH.nil
      go_simp
      refine hK.out _ _ ?_ (fun hHeld => ?_)
      · exact hk5
      clear hK K
      try simp only [Act.put, ly1, ly2, ly3]
      refine wpAnyH_ready (rs := [7]) (by kernel_rfl) (by simp) ?_
      refine AllReadyH.cons (o := { dst := some 10, op := Op.call { callee := Callee.builtin Builtin.append, args := #[Operand.tmp 7, Operand.tmp 9], argTypes := #[26, 26] }, type := 26, pos := "l06_slot.go:55", after := #[{ on := 4, ground := Ground.data }, { on := 6, ground := Ground.data }, { on := 3, ground := Ground.chain }], guard := none }) rfl (fun K hK => ?_) AllReadyH.nil
      refine step_app rfl _ _ rfl w4.heap.size E5.out rfl _ C rfl (HSB.out _ HK5.out.1) hlC ?_
      intro bB dB w7 q2 n2 l2 g2
      have H7 := hide (cp_two HK5.out H5.out hz.out (Nat.le_refl _) (by rw [Z1.out]; omega) (fun g e hp => by have := (H4.out.lt g e hp).1; omega) (by have := Z1.out; omega) (by rw [alsz]; omega) l2 g2 q1 q2)
      have hk7 := H7.out.1.2.1.cells
      have hx7 := H7.out.1.2.2.1.cells
      have x0 := hx7.1
      have x1 := hx7.2
      have z1 := H7.out.1.2.2.1.froz
      have hk8 := ((H7.out.1.2.1.far (X := w.heap.size + 1) (i := 0) (v := .slice bA A.length dA) (by omega)).far (X := w.heap.size + 1) (i := 1) (v := .slice bB C.length dB) (by omega)).cells
      clear l2 g2 hx7
      refine hK.out _ _ ?_ (fun hHeld => ?_)
      · exact hk7
      clear hK K
      try simp only [Act.put, ly1, ly2, ly3]
      refine wpAnyH_take (i := 8) (oi := { dst := some 11, op := Op.build 28 #[(0, Operand.tmp 6), (1, Operand.tmp 10)], type := 28, pos := "l06_slot.go:55", after := #[{ on := 3, ground := Ground.data }, { on := 7, ground := Ground.data }], guard := none }) (v := ?_) rfl (by kernel_rfl) (by kernel_rfl) (by kernel_rfl) (fun _ _ _ h => h) (Or.inl ⟨by rfl, ?_⟩) (by assumption) ?_
      rotate_left 1
      · (intro wq hSw; (try dsimp only at hSw); go_simp; try with_reducible rfl)
      try simp only [Act.put, ly1, ly2, ly3]
      refine wpAnyH_ready (rs := [9]) (by kernel_rfl) (by simp) ?_
      refine AllReadyH.cons (o := { dst := none, op := Op.store 28 (Operand.tmp 2) (Operand.tmp 11), type := 0, pos := "l06_slot.go:55", after := #[{ on := 8, ground := Ground.data }, { on := 7, ground := Ground.chain }, { on := 0, ground := Ground.phase }, { on := 1, ground := Ground.phase }, { on := 2, ground := Ground.phase }, { on := 3, ground := Ground.phase }, { on := 4, ground := Ground.phase }, { on := 5, ground := Ground.phase }, { on := 6, ground := Ground.phase }, { on := 7, ground := Ground.phase }, { on := 8, ground := Ground.phase }], guard := none }) rfl (fun K hK => ?_) AllReadyH.nil
      go_simp
      refine hK.out _ _ ?_ (fun hHeld => ?_)
      · exact hk8
      clear hK K
      try simp only [Act.put, ly1, ly2, ly3]
      refine wpAnyH_done (by kernel_rfl) ?_ _
      go_wp2
      refine bodyPost_ret (v := .agg #[.slice bA A.length dA, .slice bB C.length dB]) (by simp [results, Tryz.results132, go_sem, x0, x1]) rfl ?_
      obtain ⟨f1, f2⟩ := cp_end H7.out.1 H7.out.2 hz.out
      exact ⟨_, _, _, _, rfl, f1, f2, n1, n2⟩
    refine AllReadyH.cons (o := { dst := some 7, op := Op.buildSlice 26 0 #[], type := 26, pos := "l06_slot.go:55", after := #[], guard := none }) rfl (fun K hK => ?_) AllReadyH.nil
    · skip
      go_simp
      refine hK.out _ _ ?_ (fun hHeld => ?_)
      · exact hk2
      clear hK K
      try simp only [Act.put, ly1, ly2, ly3]
      refine wpAnyH_ready (rs := [3]) (by kernel_rfl) (by simp) ?_
      refine AllReadyH.cons (o := { dst := some 6, op := Op.call { callee := Callee.builtin Builtin.append, args := #[Operand.tmp 3, Operand.tmp 5], argTypes := #[26, 26] }, type := 26, pos := "l06_slot.go:55", after := #[{ on := 0, ground := Ground.data }, { on := 2, ground := Ground.data }], guard := none }) rfl (fun K hK => ?_) AllReadyH.nil
      refine step_app rfl _ _ rfl W.heap.size E2.out.1 rfl _ A rfl (HSA.out _ HK2.out.1) hlA ?_
      intro bA dA w4 q1 n1 l1 g1
      have HK4 := hide (HK2.out.grown g1 (by have := hz.out; omega))
      have H4 := hide l1
      have hs4 := g1.size
      have hk4 := HK4.out.2.1.cells
      have E5 := hide ((g1.block (W.heap.size + 1) (by have := Z2.out; omega) (fun e => absurd (show W.heap.size + 1 = W.heap.size from Option.some.inj e) (by omega))).trans E2.out.2)
      clear l1 g1
      refine hK.out _ _ ?_ (fun hHeld => ?_)
      · exact hk4
      clear hK K
      try simp only [Act.put, ly1, ly2, ly3]
      refine wpAnyH_ready (rs := [7]) (by kernel_rfl) (by simp) ?_
      refine AllReadyH.cons (o := { dst := some 10, op := Op.call { callee := Callee.builtin Builtin.append, args := #[Operand.tmp 7, Operand.tmp 9], argTypes := #[26, 26] }, type := 26, pos := "l06_slot.go:55", after := #[{ on := 4, ground := Ground.data }, { on := 6, ground := Ground.data }, { on := 3, ground := Ground.chain }], guard := none }) rfl (fun K hK => ?_) AllReadyH.nil
      refine step_app rfl _ _ rfl (W.heap.size + 1) E5.out rfl _ C rfl (HSB.out _ HK4.out.1) hlC ?_
      intro bB dB w7 q2 n2 l2 g2
      have H7 := hide (cp_two HK4.out H4.out hz.out (by omega) (by rw [Z2.out]; omega) (fun g e hp => by have := (H4.out.lt g e hp).2; have := Z2.out; omega) (by omega) (by have := Z2.out; omega) l2 g2 q1 q2)
      have hk7 := H7.out.1.2.1.cells
      have hx7 := H7.out.1.2.2.1.cells
      have x0 := hx7.1
      have x1 := hx7.2
      have z1 := H7.out.1.2.2.1.froz
      have hk8 := ((H7.out.1.2.1.far (X := w.heap.size + 1) (i := 0) (v := .slice bA A.length dA) (by omega)).far (X := w.heap.size + 1) (i := 1) (v := .slice bB C.length dB) (by omega)).cells
      clear l2 g2 hx7
      refine hK.out _ _ ?_ (fun hHeld => ?_)
      · exact hk7
      clear hK K
      try simp only [Act.put, ly1, ly2, ly3]
      refine wpAnyH_take (i := 8) (oi := { dst := some 11, op := Op.build 28 #[(0, Operand.tmp 6), (1, Operand.tmp 10)], type := 28, pos := "l06_slot.go:55", after := #[{ on := 3, ground := Ground.data }, { on := 7, ground := Ground.data }], guard := none }) (v := ?_) rfl (by kernel_rfl) (by kernel_rfl) (by kernel_rfl) (fun _ _ _ h => h) (Or.inl ⟨by rfl, ?_⟩) (by assumption) ?_
      rotate_left 1
      · (intro wq hSw; (try dsimp only at hSw); go_simp; try with_reducible rfl)
      try simp only [Act.put, ly1, ly2, ly3]
      refine wpAnyH_ready (rs := [9]) (by kernel_rfl) (by simp) ?_
      refine AllReadyH.cons (o := { dst := none, op := Op.store 28 (Operand.tmp 2) (Operand.tmp 11), type := 0, pos := "l06_slot.go:55", after := #[{ on := 8, ground := Ground.data }, { on := 7, ground := Ground.chain }, { on := 0, ground := Ground.phase }, { on := 1, ground := Ground.phase }, { on := 2, ground := Ground.phase }, { on := 3, ground := Ground.phase }, { on := 4, ground := Ground.phase }, { on := 5, ground := Ground.phase }, { on := 6, ground := Ground.phase }, { on := 7, ground := Ground.phase }, { on := 8, ground := Ground.phase }], guard := none }) rfl (fun K hK => ?_) AllReadyH.nil
      go_simp
      refine hK.out _ _ ?_ (fun hHeld => ?_)
      · exact hk8
      clear hK K
      try simp only [Act.put, ly1, ly2, ly3]
      refine wpAnyH_done (by kernel_rfl) ?_ _
      go_wp2
      refine bodyPost_ret (v := .agg #[.slice bA A.length dA, .slice bB C.length dB]) (by simp [results, Tryz.results132, go_sem, x0, x1]) rfl ?_
      obtain ⟨f1, f2⟩ := cp_end H7.out.1 H7.out.2 hz.out
      exact ⟨_, _, _, _, rfl, f1, f2, n1, n2⟩
  refine AllReadyH.cons (o := { dst := some 7, op := Op.buildSlice 26 0 #[], type := 26, pos := "l06_slot.go:55", after := #[], guard := none }) rfl (fun K hK => ?_) AllReadyH.nil
  · skip
    go_simp
    refine hK.out _ _ ?_ (fun hHeld => ?_)
    · exact hk1
    clear hK K
    try simp only [Act.put, ly1, ly2, ly3]
    refine wpAnyH_ready (rs := [0]) (by kernel_rfl) (by simp) ?_
    refine AllReadyH.cons (o := { dst := some 3, op := Op.buildSlice 26 0 #[], type := 26, pos := "l06_slot.go:55", after := #[], guard := none }) rfl (fun K hK => ?_) AllReadyH.nil
    go_simp
    refine hK.out _ _ ?_ (fun hHeld => ?_)
    · exact hk2
    clear hK K
    try simp only [Act.put, ly1, ly2, ly3]
    refine wpAnyH_ready (rs := [3]) (by kernel_rfl) (by simp) ?_
    refine AllReadyH.cons (o := { dst := some 6, op := Op.call { callee := Callee.builtin Builtin.append, args := #[Operand.tmp 3, Operand.tmp 5], argTypes := #[26, 26] }, type := 26, pos := "l06_slot.go:55", after := #[{ on := 0, ground := Ground.data }, { on := 2, ground := Ground.data }], guard := none }) rfl (fun K hK => ?_) AllReadyH.nil
    refine step_app rfl _ _ rfl (W.heap.size + 1) E2.out.2 rfl _ A rfl (HSA.out _ HK2.out.1) hlA ?_
    intro bA dA w4 q1 n1 l1 g1
    have HK4 := hide (HK2.out.grown g1 (by have := hz.out; omega))
    have H4 := hide l1
    have hs4 := g1.size
    have hk4 := HK4.out.2.1.cells
    have E5 := hide ((g1.block W.heap.size (by have := Z2.out; omega) (fun e => absurd (show W.heap.size = (W.heap.size + 1) from Option.some.inj e) (by omega))).trans E2.out.1)
    clear l1 g1
    refine hK.out _ _ ?_ (fun hHeld => ?_)
    · exact hk4
    clear hK K
    try simp only [Act.put, ly1, ly2, ly3]
    refine wpAnyH_ready (rs := [7]) (by kernel_rfl) (by simp) ?_
    refine AllReadyH.cons (o := { dst := some 10, op := Op.call { callee := Callee.builtin Builtin.append, args := #[Operand.tmp 7, Operand.tmp 9], argTypes := #[26, 26] }, type := 26, pos := "l06_slot.go:55", after := #[{ on := 4, ground := Ground.data }, { on := 6, ground := Ground.data }, { on := 3, ground := Ground.chain }], guard := none }) rfl (fun K hK => ?_) AllReadyH.nil
    refine step_app rfl _ _ rfl W.heap.size E5.out rfl _ C rfl (HSB.out _ HK4.out.1) hlC ?_
    intro bB dB w7 q2 n2 l2 g2
    have H7 := hide (cp_two HK4.out H4.out hz.out (by omega) (by rw [Z2.out]; omega) (fun g e hp => by have := (H4.out.lt g e hp).2; have := Z2.out; omega) (by omega) (by have := Z2.out; omega) l2 g2 q1 q2)
    have hk7 := H7.out.1.2.1.cells
    have hx7 := H7.out.1.2.2.1.cells
    have x0 := hx7.1
    have x1 := hx7.2
    have z1 := H7.out.1.2.2.1.froz
    have hk8 := ((H7.out.1.2.1.far (X := w.heap.size + 1) (i := 0) (v := .slice bA A.length dA) (by omega)).far (X := w.heap.size + 1) (i := 1) (v := .slice bB C.length dB) (by omega)).cells
    clear l2 g2 hx7
    refine hK.out _ _ ?_ (fun hHeld => ?_)
    · exact hk7
    clear hK K
    try simp only [Act.put, ly1, ly2, ly3]
    refine wpAnyH_take (i := 8) (oi := { dst := some 11, op := Op.build 28 #[(0, Operand.tmp 6), (1, Operand.tmp 10)], type := 28, pos := "l06_slot.go:55", after := #[{ on := 3, ground := Ground.data }, { on := 7, ground := Ground.data }], guard := none }) (v := ?_) rfl (by kernel_rfl) (by kernel_rfl) (by kernel_rfl) (fun _ _ _ h => h) (Or.inl ⟨by rfl, ?_⟩) (by assumption) ?_
    rotate_left 1
    · (intro wq hSw; (try dsimp only at hSw); go_simp; try with_reducible rfl)
    try simp only [Act.put, ly1, ly2, ly3]
    refine wpAnyH_ready (rs := [9]) (by kernel_rfl) (by simp) ?_
    refine AllReadyH.cons (o := { dst := none, op := Op.store 28 (Operand.tmp 2) (Operand.tmp 11), type := 0, pos := "l06_slot.go:55", after := #[{ on := 8, ground := Ground.data }, { on := 7, ground := Ground.chain }, { on := 0, ground := Ground.phase }, { on := 1, ground := Ground.phase }, { on := 2, ground := Ground.phase }, { on := 3, ground := Ground.phase }, { on := 4, ground := Ground.phase }, { on := 5, ground := Ground.phase }, { on := 6, ground := Ground.phase }, { on := 7, ground := Ground.phase }, { on := 8, ground := Ground.phase }], guard := none }) rfl (fun K hK => ?_) AllReadyH.nil
    go_simp
    refine hK.out _ _ ?_ (fun hHeld => ?_)
    · exact hk8
    clear hK K
    try simp only [Act.put, ly1, ly2, ly3]
    refine wpAnyH_done (by kernel_rfl) ?_ _
    go_wp2
    refine bodyPost_ret (v := .agg #[.slice bA A.length dA, .slice bB C.length dB]) (by simp [results, Tryz.results132, go_sem, x0, x1]) rfl ?_
    obtain ⟨f1, f2⟩ := cp_end H7.out.1 H7.out.2 hz.out
    exact ⟨_, _, _, _, rfl, f1, f2, n1, n2⟩
end Go.Proofs.YtkndnndildnbpaaGreatDoor

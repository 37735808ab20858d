/- SlotOf of the model. -/
import Derived.Test.YtkndnndildnbpaaGreatDoorSlSZ

namespace Go.Proofs.YtkndnndildnbpaaGreatDoor
open Go.ChangeShapes Go.WideShapes Go.ChangeAt Go.RowKit
set_option linter.unusedVariables false
set_option linter.unusedSimpArgs false
set_option maxRecDepth 100000

/-- The result's block, what was read at X, and its rows. -/
def SoK (w W : World) (B X : Nat) (go : Option Addr) (gc : Nat) (bo : Option Addr) (bc : Nat) (g : List Int) (n : Nat) (L : Nat → List Int) (fi ol he : Bool) (la : Int) : Prop :=
  Below w.heap.size w W ∧ KB W w.heap.size 25 none 0 0 none 0 0 false false false 0 ∧ KB W X 25 go g.length gc bo n bc fi ol he la ∧ OKm W B X go gc bo bc g n L ∧ (w.heap.size < B ∧ X < W.heap.size)
theorem SoK.below {w W W' : World} {B X : Nat} {go : Option Addr} {gc : Nat} {bo : Option Addr} {bc : Nat} {g : List Int} {n : Nat} {L : Nat → List Int} {fi ol he : Bool} {la : Int} (h : SoK w W B X go gc bo bc g n L fi ol he la) (hb : Below W.heap.size W W') : SoK w W' B X go gc bo bc g n L fi ol he la :=
  ⟨h.1.trans (hb.mono h.1.size), h.2.1.b hb, h.2.2.1.b hb, h.2.2.2.1.below hb (Nat.le_of_lt h.2.2.2.2.2), h.2.2.2.2.1, Nat.lt_of_lt_of_le h.2.2.2.2.2 hb.size⟩
theorem Own.conv {w : World} {B : Nat} {v : Value} {M : List Int} (h : w.ownsRow B 5 1 v M.length (M.map (.int .u8))) (hM : ∀ z ∈ M, 0 ≤ z ∧ z ≤ 255) : ∃ ao c, v = .slice ao M.length c ∧ (convert 26 9 (.slice ao M.length c)).run Tryz.prog w = .ok (.string (bstr M)) w := by
  obtain ⟨ao, c, rfl, _, ho⟩ := Own.of_owns h
  exact ⟨ao, c, rfl, conv_str ho.sl hM⟩
theorem s4_byte (q : Int) : ∀ z ∈ s4 q, 0 ≤ z ∧ z ≤ 255 := by
  intro z hz
  simp only [s4, List.mem_cons, List.not_mem_nil, or_false] at hz
  rcases hz with rfl | rfl | rfl | rfl <;> omega
theorem slb_byte {M : List Int} {q : Int} (hM : ∀ z ∈ M, 0 ≤ z ∧ z ≤ 255) (hl : M.length ≤ 151) : ∀ z ∈ slb M q, 0 ≤ z ∧ z ≤ 255 := by
  intro z hz
  simp only [slb, List.mem_append, List.mem_cons, List.mem_replicate] at hz
  rcases hz with h | rfl | h | ⟨_, rfl⟩ | h
  · exact s4_byte q z h
  · omega
  · exact hM z h
  · omega
  · exact s4_byte q z h

set_option maxHeartbeats 4000000 in
theorem slotof_spec (ao : Option Addr) (n cap : Nat) (f : Nat → Int) (w : World) (hn : n ≤ 1048576) (hcap : n ≤ cap) (hs : SL .u8 w ao n f) (hf : ∀ i, i < n → 0 ≤ f i ∧ f i ≤ 255) :
    Calls Tryz.prog 198 #[.slice ao n cap] w fun e w' => SlOut w w' ((List.range n).map f) e := by
  obtain ⟨W, hW⟩ : ∃ W, W = w.alloc (.cells #[.slice none 0 0, .slice none 0 0, .bool false, .bool false, .bool false, .int .i64 0] 25) := ⟨_, rfl⟩
  have hB : Below w.heap.size w W := by rw [hW]; exact bal1 _ _
  have hK : KB W w.heap.size 25 none 0 0 none 0 0 false false false 0 := by rw [hW]; exact KB.new w _ _ _ _ _ _ _ _ _ _ _
  have HB := hide hB
  have HK := hide hK
  have HS := hide hs
  have HF := hide hf
  by_cases h160 : n = 160
  case neg =>
    have HN : Hid (¬ Whole ((List.range n).map f)) := fun ⟨_, _, _, _, _, _, _, h⟩ => h160 (sl_key h).1
    have hne : ¬ (n : Int) = 160 := by omega
    clear hs hf hB hK
    obtain ⟨r0, r1, r2, r3, r4, r5⟩ := HK.out.cells
    have rz := HK.out.froz
    go_enter Tryz.func198, Tryz.ntmps198
    go_wp2_with fail
    rw [← hW]
    clear hW
    go_wp2
    refine bodyPost_ret (v := .tuple #[.agg #[.slice none 0 0, .slice none 0 0, .bool false, .bool false, .bool false, .int .i64 0], .int .i64 0, .bool false]) (by simp [results, Tryz.results198, go_sem, r0, r1, r2, r3, r4, r5]) rfl ?_
    refine ⟨.inr ⟨HN.out, rfl⟩, ?_⟩
    first
      | exact HB.out
      | (iterate 6 (refine Below.setCell ?_ (by show w.heap.size ≤ w.heap.size; omega) _); exact HB.out)
  subst h160
  have hsW := hs.below hB
  obtain ⟨b, off, rfl, hbl, c0⟩ := hsW 0 (by omega)
  obtain ⟨b1, off1, e1, _, c1⟩ := hsW 1 (by omega)
  cases e1
  obtain ⟨b2, off2, e2, _, c2⟩ := hsW 2 (by omega)
  cases e2
  obtain ⟨b3, off3, e3, _, c3⟩ := hsW 3 (by omega)
  cases e3
  obtain ⟨b4, off4, e4, _, c4⟩ := hsW 4 (by omega)
  cases e4
  rw [Nat.add_zero] at c0
  have y0 := hf 0 (by omega)
  have y1 := hf 1 (by omega)
  have y2 := hf 2 (by omega)
  have y3 := hf 3 (by omega)
  have y4 := hf 4 (by omega)
  have hrd : Hid (rd4 f = f 0 + f 1 * 256 + f 2 * 65536 + f 3 * 16777216) := rfl
  obtain ⟨x0, hx0⟩ : ∃ x, f 0 = x := ⟨_, rfl⟩
  obtain ⟨x1, hx1⟩ : ∃ x, f 1 = x := ⟨_, rfl⟩
  obtain ⟨x2, hx2⟩ : ∃ x, f 2 = x := ⟨_, rfl⟩
  obtain ⟨x3, hx3⟩ : ∃ x, f 3 = x := ⟨_, rfl⟩
  obtain ⟨x4, hx4⟩ : ∃ x : Nat, f 4 = (x : Int) := ⟨(f 4).toNat, by omega⟩
  rw [hx0] at c0 y0 hrd
  rw [hx1] at c1 y1 hrd
  rw [hx2] at c2 y2 hrd
  rw [hx3] at c3 y3 hrd
  rw [hx4] at c4 y4
  have HX4 : Hid (f 4 = (x4 : Int) ∧ (f 4).toNat = x4) := ⟨hx4, by omega⟩
  clear hx0 hx1 hx2 hx3 hx4 hs hf hB hK hsW
  go_enter Tryz.func198, Tryz.ntmps198
  go_wp2_with fail
  rw [← hW]
  clear hW
  go_wp2_with fail
  go_quiet (fail)
  go_wp2_with fail
  have hr0 : 0 ≤ x0 + x1 * 256 + x2 * 65536 + x3 * 16777216 := by omega
  have hr1 : x0 + x1 * 256 + x2 * 65536 + x3 * 16777216 < 4294967296 := by omega
  have HBq := hide (Below.drawn HB.out nq)
  have HKq : Hid (KB (W.drewN nq) w.heap.size 25 none 0 0 none 0 0 false false false 0) := HK.out
  clear HB HK c0 c1 c2 c3 c4
  generalize W.drewN nq = V at *
  generalize x0 + x1 * 256 + x2 * 65536 + x3 * 16777216 = r at *
  by_cases hin : 1 ≤ r ∧ r ≤ 1000000
  case neg =>
    have HN : Hid (¬ Whole ((List.range 160).map f)) := fun ⟨_, _, _, _, _, _, _, h⟩ => hin (by have := (sl_key h).2.2.1; rw [hrd.out] at this; exact this)
    obtain ⟨r0, r1, r2, r3, r4, r5⟩ := HKq.out.cells
    have rz := HKq.out.froz
    refine (in_no _ _ _ _ (by omega)).mono ?_
    rintro e w9 ⟨rfl, hw9⟩
    rw [hw9]
    clear hw9
    go_wp2
    refine bodyPost_ret (v := .tuple #[.agg #[.slice none 0 0, .slice none 0 0, .bool false, .bool false, .bool false, .int .i64 0], .int .i64 0, .bool false]) (by simp [results, Tryz.results198, go_sem, r0, r1, r2, r3, r4, r5]) rfl ?_
    refine ⟨.inr ⟨HN.out, rfl⟩, ?_⟩
    iterate 6 (refine Below.setCell ?_ (by show w.heap.size ≤ w.heap.size; omega) _)
    exact HBq.out
  refine (in_yes _ _ _ _ hin.1 hin.2).mono ?_
  rintro e w9 ⟨rfl, hw9⟩
  rw [hw9]
  clear hw9
  by_cases h151 : (151 : Int) < (x4 : Int)
  case pos =>
    have HN : Hid (¬ Whole ((List.range 160).map f)) := fun ⟨_, _, _, _, _, _, _, h⟩ => by have := (sl_key h).2.1; rw [HX4.out.1] at this; omega
    obtain ⟨r0, r1, r2, r3, r4, r5⟩ := HKq.out.cells
    have rz := HKq.out.froz
    go_wp2
    refine bodyPost_ret (v := .tuple #[.agg #[.slice none 0 0, .slice none 0 0, .bool false, .bool false, .bool false, .int .i64 0], .int .i64 0, .bool false]) (by simp [results, Tryz.results198, go_sem, r0, r1, r2, r3, r4, r5]) rfl ?_
    refine ⟨.inr ⟨HN.out, rfl⟩, ?_⟩
    iterate 6 (refine Below.setCell ?_ (by show w.heap.size ≤ w.heap.size; omega) _)
    exact HBq.out
  have hc5 : ¬ cap = 5 := by omega
  have hle : 5 + x4 ≤ cap := by omega
  have hleI : (5 : Int) + (x4 : Int) ≤ (cap : Int) := by omega
  have hsub : Hid (SL .u8 V (some ⟨b, off + 5, none⟩) x4 (fun i => f (5 + i))) := fun i hi => by
    obtain ⟨b', off', e, hl, hc⟩ := (HS.out.below HBq.out) (5 + i) (by omega)
    cases e
    exact ⟨b, off + 5, rfl, hl, by rw [← hc, Nat.add_assoc]⟩
  have hcall := hide (mtof_spec (some ⟨b, off + 5, none⟩) x4 (cap - 5) (fun i => f (5 + i)) V (by omega) hsub.out (fun i hi => HF.out (5 + i) (by omega)))
  rw [show (List.range x4).map (fun i => f (5 + i)) = mid f x4 from rfl] at hcall
  go_wp2_with fail
  refine hcall.out.mono ?_
  rintro e w2 ⟨h1, b2⟩
  have HB2 := hide (HBq.out.trans (b2.mono HBq.out.size))
  have HK2 := hide (HKq.out.b b2)
  have hlt2 : w.heap.size < V.heap.size := HKq.out.lt
  have hz2 := b2.size
  clear hcall b2 HBq HKq hsub
  rcases h1 with ⟨g, L, fi, ol, he, la, go, bo, gc, bc, hM, rfl, hO⟩ | ⟨hno, rfl⟩
  case inr =>
    have HN : Hid (¬ Whole ((List.range 160).map f)) := fun ⟨g, L, fi, ol, he, la, q, h⟩ => hno ⟨g, L, fi, ol, he, la, by have := (sl_key h).2.2.2.2; rwa [HX4.out.2] at this⟩
    obtain ⟨r0, r1, r2, r3, r4, r5⟩ := HK2.out.cells
    have rz := HK2.out.froz
    have hne1 : ¬ w.heap.size = w2.heap.size := by omega
    have hne2 : ¬ w2.heap.size = w.heap.size := by omega
    have hlt3 : w.heap.size < w2.heap.size := by omega
    clear hno
    go_wp2_with fail
    refine wp_region_held_drew (S := (fun _ => True)) (by kernel_rfl) ?_ (fun hHeld => ?_)
    · exact trivial
    refine wpAnyH_take (i := 0) (oi := { dst := some 55, op := Op.move (Operand.tmp 8), type := 4, pos := "l06_slot.go:26", after := #[], guard := none }) (v := ?_) rfl (by kernel_rfl) (by kernel_rfl) (by kernel_rfl) (fun _ _ _ h => h) (Or.inl ⟨by rfl, ?_⟩) (by assumption) ?_
    rotate_left 1
    · (intro wq hSw; (try dsimp only at hSw); go_simp; try with_reducible rfl)
    try simp only [Act.put, ly1, ly2, ly3]
    refine wpAnyH_take (i := 1) (oi := { dst := some 56, op := Op.unOp UnOp.not 4 (Operand.tmp 55), type := 4, pos := "l06_slot.go:26", after := #[{ on := 0, ground := Ground.data }], guard := none }) (v := ?_) rfl (by kernel_rfl) (by kernel_rfl) (by kernel_rfl) (fun _ _ _ h => h) (Or.inl ⟨by rfl, ?_⟩) (by assumption) ?_
    rotate_left 1
    · (intro wq hSw; (try dsimp only at hSw); go_simp; try with_reducible rfl)
    try simp only [Act.put, ly1, ly2, ly3]
    refine wpAnyH_take (i := 2) (oi := { dst := some 57, op := Op.move (Operand.tmp 56), type := 4, pos := "l06_slot.go:26", after := #[{ on := 1, ground := Ground.data }], guard := none }) (v := ?_) rfl (by kernel_rfl) (by kernel_rfl) (by kernel_rfl) (fun _ _ _ h => h) (Or.inl ⟨by rfl, ?_⟩) (by assumption) ?_
    rotate_left 1
    · (intro wq hSw; (try dsimp only at hSw); go_simp; try with_reducible rfl)
    try simp only [Act.put, ly1, ly2, ly3]
    refine wpAnyH_take (i := 3) (oi := { dst := some 58, op := Op.load 25 (Operand.tmp 7), type := 25, pos := "l06_slot.go:26", after := #[{ on := 2, ground := Ground.guard }], guard := some (2, false) }) (v := undef) rfl (by kernel_rfl) (by kernel_rfl) (by kernel_rfl) (fun _ _ _ h => h) (Or.inr ⟨by rfl, rfl⟩) (by assumption) ?_
    try simp only [Act.put, ly1, ly2, ly3]
    refine wpAnyH_take (i := 4) (oi := { dst := some 59, op := Op.move (Operand.tmp 5), type := 3, pos := "l06_slot.go:26", after := #[{ on := 2, ground := Ground.guard }], guard := some (2, false) }) (v := undef) rfl (by kernel_rfl) (by kernel_rfl) (by kernel_rfl) (fun _ _ _ h => h) (Or.inr ⟨by rfl, rfl⟩) (by assumption) ?_
    try simp only [Act.put, ly1, ly2, ly3]
    refine wpAnyH_take (i := 5) (oi := { dst := some 60, op := Op.call { callee := Callee.value (Operand.func 135), args := #[Operand.tmp 58, Operand.tmp 59], argTypes := #[25, 3] }, type := 26, pos := "l06_slot.go:26", after := #[{ on := 3, ground := Ground.data }, { on := 4, ground := Ground.data }, { on := 2, ground := Ground.chain }, { on := 2, ground := Ground.guard }], guard := some (2, false) }) (v := undef) rfl (by kernel_rfl) (by kernel_rfl) (by kernel_rfl) (fun _ _ _ h => h) (Or.inr ⟨by rfl, rfl⟩) (by assumption) ?_
    try simp only [Act.put, ly1, ly2, ly3]
    refine wpAnyH_take (i := 6) (oi := { dst := some 61, op := Op.convert 26 9 (Operand.tmp 60), type := 9, pos := "l06_slot.go:26", after := #[{ on := 5, ground := Ground.data }, { on := 2, ground := Ground.guard }], guard := some (2, false) }) (v := undef) rfl (by kernel_rfl) (by kernel_rfl) (by kernel_rfl) (fun _ _ _ h => h) (Or.inr ⟨by rfl, rfl⟩) (by assumption) ?_
    try simp only [Act.put, ly1, ly2, ly3]
    refine wpAnyH_take (i := 7) (oi := { dst := some 62, op := Op.move (Operand.tmp 0), type := 26, pos := "l06_slot.go:26", after := #[{ on := 2, ground := Ground.guard }], guard := some (2, false) }) (v := undef) rfl (by kernel_rfl) (by kernel_rfl) (by kernel_rfl) (fun _ _ _ h => h) (Or.inr ⟨by rfl, rfl⟩) (by assumption) ?_
    try simp only [Act.put, ly1, ly2, ly3]
    refine wpAnyH_take (i := 8) (oi := { dst := some 63, op := Op.convert 26 9 (Operand.tmp 62), type := 9, pos := "l06_slot.go:26", after := #[{ on := 7, ground := Ground.data }, { on := 2, ground := Ground.guard }], guard := some (2, false) }) (v := undef) rfl (by kernel_rfl) (by kernel_rfl) (by kernel_rfl) (fun _ _ _ h => h) (Or.inr ⟨by rfl, rfl⟩) (by assumption) ?_
    try simp only [Act.put, ly1, ly2, ly3]
    refine wpAnyH_take (i := 9) (oi := { dst := some 64, op := Op.binOp BinOp.neq 9 (Operand.tmp 61) (Operand.tmp 63) 9, type := 4, pos := "l06_slot.go:26", after := #[{ on := 6, ground := Ground.data }, { on := 8, ground := Ground.data }, { on := 2, ground := Ground.guard }], guard := some (2, false) }) (v := undef) rfl (by kernel_rfl) (by kernel_rfl) (by kernel_rfl) (fun _ _ _ h => h) (Or.inr ⟨by rfl, rfl⟩) (by assumption) ?_
    try simp only [Act.put, ly1, ly2, ly3]
    refine wpAnyH_take (i := 10) (oi := { dst := some 65, op := Op.pick (Operand.tmp 57) (Operand.const (Value.bool true)) (Operand.tmp 64), type := 4, pos := "l06_slot.go:26", after := #[{ on := 2, ground := Ground.data }, { on := 9, ground := Ground.data }], guard := none }) (v := ?_) rfl (by kernel_rfl) (by kernel_rfl) (by kernel_rfl) (fun _ _ _ h => h) (Or.inl ⟨by rfl, ?_⟩) (by assumption) ?_
    rotate_left 1
    · (intro wq hSw; (try dsimp only at hSw); go_simp; try with_reducible rfl)
    try simp only [Act.put, ly1, ly2, ly3]
    refine wpAnyH_done (by kernel_rfl) ?_ _
    go_wp2
    refine bodyPost_ret (v := .tuple #[.agg #[.slice none 0 0, .slice none 0 0, .bool false, .bool false, .bool false, .int .i64 0], .int .i64 0, .bool false]) (by simp [results, Tryz.results198, go_sem, r0, r1, r2, r3, r4, r5, hlt3, hne1, hne2]) rfl ?_
    refine ⟨.inr ⟨HN.out, rfl⟩, ?_⟩
    refine Below.drawn (Below.alloc ?_ (by simp [World.setCell]; omega) _) 1
    iterate 6 (refine Below.setCell ?_ (by show w.heap.size ≤ w.heap.size; omega) _)
    exact HB2.out
  have bX := bal1 w2 (.cells #[.slice go g.length gc, .slice bo 3 bc, .bool fi, .bool ol, .bool he, .int .i64 la] 25)
  have HM0 : Hid (SoK w (w2.alloc (.cells #[.slice go g.length gc, .slice bo 3 bc, .bool fi, .bool ol, .bool he, .int .i64 la] 25)) V.heap.size w2.heap.size go gc bo bc g 3 L fi ol he la) :=
    ⟨HB2.out.trans (bX.mono HB2.out.size), HK2.out.b bX, KB.new w2 _ _ _ _ _ _ _ _ _ _ _, hO.below bX (Nat.le_refl _), hlt2, by rw [alsz]; omega⟩
  have hMl := mtok_g hM.1
  have hbd : Hid (Bd g 3 L) := ⟨by have := hMl.1; omega, by omega, fun i hi => by have := hMl.2.2.1 i hi; omega⟩
  have hml := mt_len (fi := fi) hM.1
  have hmb : ∀ z ∈ nums (mseq g L fi ol he la), 0 ≤ z ∧ z ≤ 255 := nums_byte _ (mseq_mem hM.1)
  have hcs : Hid (∀ W, SoK w W V.heap.size w2.heap.size go gc bo bc g 3 L fi ol he la → Calls Tryz.prog 135 #[.agg #[.slice go g.length gc, .slice bo 3 bc, .bool fi, .bool ol, .bool he, .int .i64 la], .int .i64 r] W fun e w' => ∃ ao3 c3, e = .returned (.slice ao3 (slb (nums (mseq g L fi ol he la)) r).length c3) ∧ (convert 26 9 (.slice ao3 (slb (nums (mseq g L fi ol he la)) r).length c3)).run Tryz.prog w' = .ok (.string (bstr (slb (nums (mseq g L fi ol he la)) r))) w' ∧ SoK w w' V.heap.size w2.heap.size go gc bo bc g 3 L fi ol he la) := fun W hW => by
    have h := slot_spec go bo gc bc g 3 L fi ol he la r W hbd.out hW.2.2.2.1.mv hr0 hr1
    rw [mtb_yes hM.1] at h
    refine h.mono fun e w' => ?_
    rintro ⟨v, rfl, ho, hb⟩
    obtain ⟨ao3, c3, rfl, hc⟩ := Own.conv ho (slb_byte hmb (by omega))
    exact ⟨ao3, c3, rfl, hc, hW.below hb⟩
  have hlen : ((List.range 160).map f).length = 160 := by simp
  have hbB : ∀ z ∈ (List.range 160).map f, 0 ≤ z ∧ z ≤ 255 := fun z hz => by
    simp only [List.mem_map, List.mem_range] at hz
    obtain ⟨i, hi, rfl⟩ := hz
    exact HF.out i hi
  have hcb : Hid (∀ W, Below w.heap.size w W → (convert 26 9 (.slice (some ⟨b, off, none⟩) 160 cap)).run Tryz.prog W = .ok (.string (bstr ((List.range 160).map f))) W) := fun W hW => by
    have := conv_str (L := (List.range 160).map f) (ao := some ⟨b, off, none⟩) (cap := cap) (w := W) (by
      rw [hlen]
      intro i hi
      obtain ⟨b, off, e, hl, hc⟩ := (HS.out.below hW) i hi
      exact ⟨b, off, e, hl, by rw [hc]; simp [List.getD, hi]⟩) hbB
    rw [hlen] at this
    exact this
  obtain ⟨tB, htB⟩ : ∃ tB, tB = bstr ((List.range 160).map f) := ⟨_, rfl⟩
  obtain ⟨sP, hsP⟩ : ∃ sP, sP = bstr (slb (nums (mseq g L fi ol he la)) r) := ⟨_, rfl⟩
  rw [← htB] at hcb
  rw [← hsP] at hcs
  have hMW : Hid (Whole ((List.range 160).map f) → slb (nums (mseq g L fi ol he la)) r = (List.range 160).map f) := fun ⟨g', L', fi', ol', he', la', q', h⟩ => by
    obtain ⟨_, _, _, k4, k5⟩ := sl_key h
    rw [HX4.out.2] at k5
    rw [hM.2, ← k5.2, ← hrd.out, k4]
    exact h.2.2
  have HSI : Hid (slb (nums (mseq g L fi ol he la)) r = (List.range 160).map f → SlIs ((List.range 160).map f) g L fi ol he la r) := fun h => ⟨hM.1, hin, h⟩
  have HEQ : Hid (sP = tB ↔ slb (nums (mseq g L fi ol he la)) r = (List.range 160).map f) := ⟨fun e => bstr_inj (slb_byte hmb (by omega)) hbB (by rw [← hsP, ← htB, e]), fun e => by rw [hsP, htB, e]⟩
  have HMD := hide (HM0.out.below (Below.drawn (Below.refl _ _) 1))
  have HS0 : Hid ((((w2.alloc (.cells #[.slice go g.length gc, .slice bo 3 bc, .bool fi, .bool ol, .bool he, .int .i64 la] 25)).drew).cell? ⟨w2.heap.size, 0, none⟩ = some (.slice go g.length gc) ∧ ((w2.alloc (.cells #[.slice go g.length gc, .slice bo 3 bc, .bool fi, .bool ol, .bool he, .int .i64 la] 25)).drew).cell? ⟨w2.heap.size, 1, none⟩ = some (.slice bo 3 bc) ∧ ((w2.alloc (.cells #[.slice go g.length gc, .slice bo 3 bc, .bool fi, .bool ol, .bool he, .int .i64 la] 25)).drew).cell? ⟨w2.heap.size, 2, none⟩ = some (.bool fi) ∧ ((w2.alloc (.cells #[.slice go g.length gc, .slice bo 3 bc, .bool fi, .bool ol, .bool he, .int .i64 la] 25)).drew).cell? ⟨w2.heap.size, 3, none⟩ = some (.bool ol) ∧ ((w2.alloc (.cells #[.slice go g.length gc, .slice bo 3 bc, .bool fi, .bool ol, .bool he, .int .i64 la] 25)).drew).cell? ⟨w2.heap.size, 4, none⟩ = some (.bool he) ∧ ((w2.alloc (.cells #[.slice go g.length gc, .slice bo 3 bc, .bool fi, .bool ol, .bool he, .int .i64 la] 25)).drew).cell? ⟨w2.heap.size, 5, none⟩ = some (.int .i64 la)) ∧ (convert 26 9 (.slice (some ⟨b, off, none⟩) 160 cap)).run Tryz.prog ((w2.alloc (.cells #[.slice go g.length gc, .slice bo 3 bc, .bool fi, .bool ol, .bool he, .int .i64 la] 25)).drew) = .ok (.string tB) ((w2.alloc (.cells #[.slice go g.length gc, .slice bo 3 bc, .bool fi, .bool ol, .bool he, .int .i64 la] 25)).drew)) := ⟨HMD.out.2.2.1.cells, hcb.out _ HMD.out.1⟩
  have HSK : Hid (∀ W, SoK w W V.heap.size w2.heap.size go gc bo bc g 3 L fi ol he la → ((W).cell? ⟨w2.heap.size, 0, none⟩ = some (.slice go g.length gc) ∧ (W).cell? ⟨w2.heap.size, 1, none⟩ = some (.slice bo 3 bc) ∧ (W).cell? ⟨w2.heap.size, 2, none⟩ = some (.bool fi) ∧ (W).cell? ⟨w2.heap.size, 3, none⟩ = some (.bool ol) ∧ (W).cell? ⟨w2.heap.size, 4, none⟩ = some (.bool he) ∧ (W).cell? ⟨w2.heap.size, 5, none⟩ = some (.int .i64 la)) ∧ (convert 26 9 (.slice (some ⟨b, off, none⟩) 160 cap)).run Tryz.prog (W) = .ok (.string tB) (W)) := fun W hW => ⟨hW.2.2.1.cells, hcb.out _ hW.1⟩
  generalize slb (nums (mseq g L fi ol he la)) r = Sb at *
  clear htB hsP bX hO hMl hml hmb hM HM0 hbd
  have hX2 : w.heap.size < w2.heap.size := by omega
  by_cases hbq : Sb = (List.range 160).map f
  · obtain rfl : tB = sP := (HEQ.out.2 hbq).symm
    have HY := hide (HSI.out hbq)
    clear HEQ HSI hMW hbq
    go_wp2_with fail
    refine wp_region_held_drew (S := (fun w' => (w'.cell? ⟨w2.heap.size, 0, none⟩ = some (.slice go g.length gc) ∧ w'.cell? ⟨w2.heap.size, 1, none⟩ = some (.slice bo 3 bc) ∧ w'.cell? ⟨w2.heap.size, 2, none⟩ = some (.bool fi) ∧ w'.cell? ⟨w2.heap.size, 3, none⟩ = some (.bool ol) ∧ w'.cell? ⟨w2.heap.size, 4, none⟩ = some (.bool he) ∧ w'.cell? ⟨w2.heap.size, 5, none⟩ = some (.int .i64 la)) ∧ (convert 26 9 (.slice (some ⟨b, off, none⟩) 160 cap)).run Tryz.prog w' = .ok (.string tB) w')) (by kernel_rfl) ?_ (fun hHeld => ?_)
    · exact HS0.out
    refine wpAnyH_take (i := 0) (oi := { dst := some 55, op := Op.move (Operand.tmp 8), type := 4, pos := "l06_slot.go:26", after := #[], guard := none }) (v := ?_) rfl (by kernel_rfl) (by kernel_rfl) (by kernel_rfl) (fun _ _ _ h => h) (Or.inl ⟨by rfl, ?_⟩) (by assumption) ?_
    rotate_left 1
    · (intro wq hSw; (try dsimp only at hSw); go_simp; try with_reducible rfl)
    try simp only [Act.put, ly1, ly2, ly3]
    refine wpAnyH_take (i := 1) (oi := { dst := some 56, op := Op.unOp UnOp.not 4 (Operand.tmp 55), type := 4, pos := "l06_slot.go:26", after := #[{ on := 0, ground := Ground.data }], guard := none }) (v := ?_) rfl (by kernel_rfl) (by kernel_rfl) (by kernel_rfl) (fun _ _ _ h => h) (Or.inl ⟨by rfl, ?_⟩) (by assumption) ?_
    rotate_left 1
    · (intro wq hSw; (try dsimp only at hSw); go_simp; try with_reducible rfl)
    try simp only [Act.put, ly1, ly2, ly3]
    refine wpAnyH_take (i := 2) (oi := { dst := some 57, op := Op.move (Operand.tmp 56), type := 4, pos := "l06_slot.go:26", after := #[{ on := 1, ground := Ground.data }], guard := none }) (v := ?_) rfl (by kernel_rfl) (by kernel_rfl) (by kernel_rfl) (fun _ _ _ h => h) (Or.inl ⟨by rfl, ?_⟩) (by assumption) ?_
    rotate_left 1
    · (intro wq hSw; (try dsimp only at hSw); go_simp; try with_reducible rfl)
    try simp only [Act.put, ly1, ly2, ly3]
    refine wpAnyH_take (i := 3) (oi := { dst := some 58, op := Op.load 25 (Operand.tmp 7), type := 25, pos := "l06_slot.go:26", after := #[{ on := 2, ground := Ground.guard }], guard := some (2, false) }) (v := ?_) rfl (by kernel_rfl) (by kernel_rfl) (by kernel_rfl) (fun _ _ _ h => h) (Or.inl ⟨by rfl, ?_⟩) (by assumption) ?_
    rotate_left 1
    · (intro wq hSw; (try dsimp only at hSw); go_simp; try with_reducible rfl)
    try simp only [Act.put, ly1, ly2, ly3]
    refine wpAnyH_take (i := 4) (oi := { dst := some 59, op := Op.move (Operand.tmp 5), type := 3, pos := "l06_slot.go:26", after := #[{ on := 2, ground := Ground.guard }], guard := some (2, false) }) (v := ?_) rfl (by kernel_rfl) (by kernel_rfl) (by kernel_rfl) (fun _ _ _ h => h) (Or.inl ⟨by rfl, ?_⟩) (by assumption) ?_
    rotate_left 1
    · (intro wq hSw; (try dsimp only at hSw); go_simp; try with_reducible rfl)
    try simp only [Act.put, ly1, ly2, ly3]
    refine wpAnyH_take (i := 7) (oi := { dst := some 62, op := Op.move (Operand.tmp 0), type := 26, pos := "l06_slot.go:26", after := #[{ on := 2, ground := Ground.guard }], guard := some (2, false) }) (v := ?_) rfl (by kernel_rfl) (by kernel_rfl) (by kernel_rfl) (fun _ _ _ h => h) (Or.inl ⟨by rfl, ?_⟩) (by assumption) ?_
    rotate_left 1
    · (intro wq hSw; (try dsimp only at hSw); go_simp; try with_reducible rfl)
    try simp only [Act.put, ly1, ly2, ly3]
    refine wpAnyH_take (i := 8) (oi := { dst := some 63, op := Op.convert 26 9 (Operand.tmp 62), type := 9, pos := "l06_slot.go:26", after := #[{ on := 7, ground := Ground.data }, { on := 2, ground := Ground.guard }], guard := some (2, false) }) (v := ?_) rfl (by kernel_rfl) (by kernel_rfl) (by kernel_rfl) (fun _ _ _ h => h) (Or.inl ⟨by rfl, ?_⟩) (by assumption) ?_
    rotate_left 1
    · (intro wq hSw; (try dsimp only at hSw); go_simp; try with_reducible rfl)
    try simp only [Act.put, ly1, ly2, ly3]
    refine wpAnyH_ready (rs := [5]) (by kernel_rfl) (by simp) ?_
    refine AllReadyH.cons (o := { dst := some 60, op := Op.call { callee := Callee.value (Operand.func 135), args := #[Operand.tmp 58, Operand.tmp 59], argTypes := #[25, 3] }, type := 26, pos := "l06_slot.go:26", after := #[{ on := 3, ground := Ground.data }, { on := 4, ground := Ground.data }, { on := 2, ground := Ground.chain }, { on := 2, ground := Ground.guard }], guard := some (2, false) }) rfl (fun K hK => ?_) AllReadyH.nil
    go_simp
    refine (hcs.out _ HMD.out).mono ?_
    rintro e w3 ⟨ao3, c3, rfl, hc3, hm3⟩
    have H3 := hide hm3
    have hk3 := HSK.out w3 hm3
    clear hm3
    go_wp2_with fail
    refine hK.out _ _ ?_ (fun hHeld => ?_)
    · exact hk3
    clear hK K
    try simp only [Act.put, ly1, ly2, ly3]
    refine wpAnyH_ready (rs := [6]) (by kernel_rfl) (by simp) ?_
    refine AllReadyH.cons (o := { dst := some 61, op := Op.convert 26 9 (Operand.tmp 60), type := 9, pos := "l06_slot.go:26", after := #[{ on := 5, ground := Ground.data }, { on := 2, ground := Ground.guard }], guard := some (2, false) }) rfl (fun K hK => ?_) AllReadyH.nil
    go_simp
    refine hK.out _ _ ?_ (fun hHeld => ?_)
    · exact hk3
    clear hK K
    try simp only [Act.put, ly1, ly2, ly3]
    refine wpAnyH_take (i := 9) (oi := { dst := some 64, op := Op.binOp BinOp.neq 9 (Operand.tmp 61) (Operand.tmp 63) 9, type := 4, pos := "l06_slot.go:26", after := #[{ on := 6, ground := Ground.data }, { on := 8, ground := Ground.data }, { on := 2, ground := Ground.guard }], guard := some (2, false) }) (v := ?_) rfl (by kernel_rfl) (by kernel_rfl) (by kernel_rfl) (fun _ _ _ h => h) (Or.inl ⟨by rfl, ?_⟩) (by assumption) ?_
    rotate_left 1
    · (intro wq hSw; (try dsimp only at hSw); go_simp; try with_reducible rfl)
    try simp only [Act.put, ly1, ly2, ly3]
    refine wpAnyH_take (i := 10) (oi := { dst := some 65, op := Op.pick (Operand.tmp 57) (Operand.const (Value.bool true)) (Operand.tmp 64), type := 4, pos := "l06_slot.go:26", after := #[{ on := 2, ground := Ground.data }, { on := 9, ground := Ground.data }], guard := none }) (v := ?_) rfl (by kernel_rfl) (by kernel_rfl) (by kernel_rfl) (fun _ _ _ h => h) (Or.inl ⟨by rfl, ?_⟩) (by assumption) ?_
    rotate_left 1
    · (intro wq hSw; (try dsimp only at hSw); go_simp; try with_reducible rfl)
    try simp only [Act.put, ly1, ly2, ly3]
    refine wpAnyH_done (by kernel_rfl) ?_ _
    obtain ⟨r0, r1, r2, r3, r4, r5⟩ := H3.out.2.1.cells
    have rz := H3.out.2.1.froz
    obtain ⟨m0, m1, m2, m3, m4, m5⟩ := H3.out.2.2.1.cells
    go_wp2
    refine bodyPost_ret (v := .tuple #[.agg #[.slice go g.length gc, .slice bo 3 bc, .bool fi, .bool ol, .bool he, .int .i64 la], .int .i64 r, .bool true]) (by simp [results, Tryz.results198, go_sem, r0, r1, r2, r3, r4, r5]) rfl ?_
    refine ⟨.inl ⟨g, L, fi, ol, he, la, r, go, bo, gc, bc, HY.out, rfl, ?_⟩, ?_⟩
    · have hfin : ∀ F : World, F.heap.size = w3.heap.size → (∀ j, w.heap.size + 1 ≤ j → F.heap[j]? = w3.heap[j]?) → OKm F w.heap.size F.heap.size go gc bo bc g 3 L := fun F hs hk => by
        have q1 := H3.out.2.2.2.2
        exact (H3.out.2.2.2.1.kept (fun j h1 _ => hk j (by omega)) (by omega)).wider (by omega) (by omega) (Nat.le_refl _)
      refine hfin _ (by simp [World.setCell]) ?_
      intro j hj
      simp only [World.setCell, Array.getElem?_modify]
      repeat rw [if_neg (by omega)]
    · iterate 6 (refine Below.setCell ?_ (by show w.heap.size ≤ w.heap.size; omega) _)
      exact H3.out.1
  · have hne : ¬ sP = tB := fun e => hbq (HEQ.out.1 e)
    have h1 : (sP.toList == tB.toList) = false := by
      rw [beq_eq_false_iff_ne]
      intro e
      exact hne (by rw [ByteArray.toList_eq, ByteArray.toList_eq] at e; exact WideShapes.bytes_inj e)
    have HN : Hid (¬ Whole ((List.range 160).map f)) := fun h => hbq (hMW.out h)
    clear HEQ HSI hMW hbq
    go_wp2_with fail
    refine wp_region_held_drew (S := (fun w' => (w'.cell? ⟨w2.heap.size, 0, none⟩ = some (.slice go g.length gc) ∧ w'.cell? ⟨w2.heap.size, 1, none⟩ = some (.slice bo 3 bc) ∧ w'.cell? ⟨w2.heap.size, 2, none⟩ = some (.bool fi) ∧ w'.cell? ⟨w2.heap.size, 3, none⟩ = some (.bool ol) ∧ w'.cell? ⟨w2.heap.size, 4, none⟩ = some (.bool he) ∧ w'.cell? ⟨w2.heap.size, 5, none⟩ = some (.int .i64 la)) ∧ (convert 26 9 (.slice (some ⟨b, off, none⟩) 160 cap)).run Tryz.prog w' = .ok (.string tB) w')) (by kernel_rfl) ?_ (fun hHeld => ?_)
    · exact HS0.out
    refine wpAnyH_take (i := 0) (oi := { dst := some 55, op := Op.move (Operand.tmp 8), type := 4, pos := "l06_slot.go:26", after := #[], guard := none }) (v := ?_) rfl (by kernel_rfl) (by kernel_rfl) (by kernel_rfl) (fun _ _ _ h => h) (Or.inl ⟨by rfl, ?_⟩) (by assumption) ?_
    rotate_left 1
    · (intro wq hSw; (try dsimp only at hSw); go_simp; try with_reducible rfl)
    try simp only [Act.put, ly1, ly2, ly3]
    refine wpAnyH_take (i := 1) (oi := { dst := some 56, op := Op.unOp UnOp.not 4 (Operand.tmp 55), type := 4, pos := "l06_slot.go:26", after := #[{ on := 0, ground := Ground.data }], guard := none }) (v := ?_) rfl (by kernel_rfl) (by kernel_rfl) (by kernel_rfl) (fun _ _ _ h => h) (Or.inl ⟨by rfl, ?_⟩) (by assumption) ?_
    rotate_left 1
    · (intro wq hSw; (try dsimp only at hSw); go_simp; try with_reducible rfl)
    try simp only [Act.put, ly1, ly2, ly3]
    refine wpAnyH_take (i := 2) (oi := { dst := some 57, op := Op.move (Operand.tmp 56), type := 4, pos := "l06_slot.go:26", after := #[{ on := 1, ground := Ground.data }], guard := none }) (v := ?_) rfl (by kernel_rfl) (by kernel_rfl) (by kernel_rfl) (fun _ _ _ h => h) (Or.inl ⟨by rfl, ?_⟩) (by assumption) ?_
    rotate_left 1
    · (intro wq hSw; (try dsimp only at hSw); go_simp; try with_reducible rfl)
    try simp only [Act.put, ly1, ly2, ly3]
    refine wpAnyH_take (i := 3) (oi := { dst := some 58, op := Op.load 25 (Operand.tmp 7), type := 25, pos := "l06_slot.go:26", after := #[{ on := 2, ground := Ground.guard }], guard := some (2, false) }) (v := ?_) rfl (by kernel_rfl) (by kernel_rfl) (by kernel_rfl) (fun _ _ _ h => h) (Or.inl ⟨by rfl, ?_⟩) (by assumption) ?_
    rotate_left 1
    · (intro wq hSw; (try dsimp only at hSw); go_simp; try with_reducible rfl)
    try simp only [Act.put, ly1, ly2, ly3]
    refine wpAnyH_take (i := 4) (oi := { dst := some 59, op := Op.move (Operand.tmp 5), type := 3, pos := "l06_slot.go:26", after := #[{ on := 2, ground := Ground.guard }], guard := some (2, false) }) (v := ?_) rfl (by kernel_rfl) (by kernel_rfl) (by kernel_rfl) (fun _ _ _ h => h) (Or.inl ⟨by rfl, ?_⟩) (by assumption) ?_
    rotate_left 1
    · (intro wq hSw; (try dsimp only at hSw); go_simp; try with_reducible rfl)
    try simp only [Act.put, ly1, ly2, ly3]
    refine wpAnyH_take (i := 7) (oi := { dst := some 62, op := Op.move (Operand.tmp 0), type := 26, pos := "l06_slot.go:26", after := #[{ on := 2, ground := Ground.guard }], guard := some (2, false) }) (v := ?_) rfl (by kernel_rfl) (by kernel_rfl) (by kernel_rfl) (fun _ _ _ h => h) (Or.inl ⟨by rfl, ?_⟩) (by assumption) ?_
    rotate_left 1
    · (intro wq hSw; (try dsimp only at hSw); go_simp; try with_reducible rfl)
    try simp only [Act.put, ly1, ly2, ly3]
    refine wpAnyH_take (i := 8) (oi := { dst := some 63, op := Op.convert 26 9 (Operand.tmp 62), type := 9, pos := "l06_slot.go:26", after := #[{ on := 7, ground := Ground.data }, { on := 2, ground := Ground.guard }], guard := some (2, false) }) (v := ?_) rfl (by kernel_rfl) (by kernel_rfl) (by kernel_rfl) (fun _ _ _ h => h) (Or.inl ⟨by rfl, ?_⟩) (by assumption) ?_
    rotate_left 1
    · (intro wq hSw; (try dsimp only at hSw); go_simp; try with_reducible rfl)
    try simp only [Act.put, ly1, ly2, ly3]
    refine wpAnyH_ready (rs := [5]) (by kernel_rfl) (by simp) ?_
    refine AllReadyH.cons (o := { dst := some 60, op := Op.call { callee := Callee.value (Operand.func 135), args := #[Operand.tmp 58, Operand.tmp 59], argTypes := #[25, 3] }, type := 26, pos := "l06_slot.go:26", after := #[{ on := 3, ground := Ground.data }, { on := 4, ground := Ground.data }, { on := 2, ground := Ground.chain }, { on := 2, ground := Ground.guard }], guard := some (2, false) }) rfl (fun K hK => ?_) AllReadyH.nil
    go_simp
    refine (hcs.out _ HMD.out).mono ?_
    rintro e w3 ⟨ao3, c3, rfl, hc3, hm3⟩
    have H3 := hide hm3
    have hk3 := HSK.out w3 hm3
    clear hm3
    go_wp2_with fail
    refine hK.out _ _ ?_ (fun hHeld => ?_)
    · exact hk3
    clear hK K
    try simp only [Act.put, ly1, ly2, ly3]
    refine wpAnyH_ready (rs := [6]) (by kernel_rfl) (by simp) ?_
    refine AllReadyH.cons (o := { dst := some 61, op := Op.convert 26 9 (Operand.tmp 60), type := 9, pos := "l06_slot.go:26", after := #[{ on := 5, ground := Ground.data }, { on := 2, ground := Ground.guard }], guard := some (2, false) }) rfl (fun K hK => ?_) AllReadyH.nil
    go_simp
    refine hK.out _ _ ?_ (fun hHeld => ?_)
    · exact hk3
    clear hK K
    try simp only [Act.put, ly1, ly2, ly3]
    refine wpAnyH_take (i := 9) (oi := { dst := some 64, op := Op.binOp BinOp.neq 9 (Operand.tmp 61) (Operand.tmp 63) 9, type := 4, pos := "l06_slot.go:26", after := #[{ on := 6, ground := Ground.data }, { on := 8, ground := Ground.data }, { on := 2, ground := Ground.guard }], guard := some (2, false) }) (v := ?_) rfl (by kernel_rfl) (by kernel_rfl) (by kernel_rfl) (fun _ _ _ h => h) (Or.inl ⟨by rfl, ?_⟩) (by assumption) ?_
    rotate_left 1
    · (intro wq hSw; (try dsimp only at hSw); go_simp; try with_reducible rfl)
    try simp only [Act.put, ly1, ly2, ly3]
    refine wpAnyH_take (i := 10) (oi := { dst := some 65, op := Op.pick (Operand.tmp 57) (Operand.const (Value.bool true)) (Operand.tmp 64), type := 4, pos := "l06_slot.go:26", after := #[{ on := 2, ground := Ground.data }, { on := 9, ground := Ground.data }], guard := none }) (v := ?_) rfl (by kernel_rfl) (by kernel_rfl) (by kernel_rfl) (fun _ _ _ h => h) (Or.inl ⟨by rfl, ?_⟩) (by assumption) ?_
    rotate_left 1
    · (intro wq hSw; (try dsimp only at hSw); go_simp; try with_reducible rfl)
    try simp only [Act.put, ly1, ly2, ly3]
    refine wpAnyH_done (by kernel_rfl) ?_ _
    obtain ⟨r0, r1, r2, r3, r4, r5⟩ := H3.out.2.1.cells
    have rz := H3.out.2.1.froz
    go_wp2
    refine bodyPost_ret (v := .tuple #[.agg #[.slice none 0 0, .slice none 0 0, .bool false, .bool false, .bool false, .int .i64 0], .int .i64 0, .bool false]) (by simp [results, Tryz.results198, go_sem, r0, r1, r2, r3, r4, r5]) rfl ?_
    refine ⟨.inr ⟨HN.out, rfl⟩, ?_⟩
    iterate 6 (refine Below.setCell ?_ (by show w.heap.size ≤ w.heap.size; omega) _)
    exact H3.out.1
end Go.Proofs.YtkndnndildnbpaaGreatDoor

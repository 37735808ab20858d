/- l5Copy of the model, of any meta. -/
import Derived.Test.YtkndnndildnbpaaGreatDoorGq

namespace Go.Proofs.YtkndnndildnbpaaGreatDoor
open Go.ChangeShapes Go.WideShapes Go.ChangeAt Go.RowKit
set_option linter.unusedVariables false
set_option linter.unusedSimpArgs false
set_option maxRecDepth 100000

/-- Rows that are right, each for itself. -/
def RA (w : World) (B T : Nat) (rs : List Rw) : Prop := ∀ r ∈ rs, RwOk w B T r
theorem RS.ra {w : World} {B T : Nat} {rs : List Rw} (h : RS w B T rs) : RA w B T rs := h.1
theorem RA.kept {w w' : World} {B T : Nat} {rs : List Rw} (h : RA w B T rs) (hk : ∀ j, B ≤ j → j < T → w'.heap[j]? = w.heap[j]?) : RA w' B T rs := fun r hr => (h r hr).kept hk
theorem RA.wide {w : World} {B T B' T' : Nat} {rs : List Rw} (h : RA w B T rs) (hB : B' ≤ B) (hT : T ≤ T') : RA w B' T' rs := fun r hr => (h r hr).wide hB hT
theorem RA.app {w : World} {B T : Nat} {xs ys : List Rw} (h : RA w B T xs) (h' : RA w B T ys) : RA w B T (xs ++ ys) := fun r hr => (List.mem_append.1 hr).elim (h r) (h' r)
theorem RA.left {w : World} {B T : Nat} {xs ys : List Rw} (h : RA w B T (xs ++ ys)) : RA w B T xs := fun r hr => h r (List.mem_append_left _ hr)
theorem RA.right {w : World} {B T : Nat} {xs ys : List Rw} (h : RA w B T (xs ++ ys)) : RA w B T ys := fun r hr => h r (List.mem_append_right _ hr)
theorem RA.head {w : World} {B T : Nat} {r : Rw} {ys : List Rw} (h : RA w B T (r :: ys)) : RwOk w B T r := h r (by simp)
theorem RA.tail {w : World} {B T : Nat} {r : Rw} {ys : List Rw} (h : RA w B T (r :: ys)) : RA w B T ys := fun s hs => h s (List.mem_cons_of_mem _ hs)
theorem RA.bv {w : World} {B T : Nat} {bo : Option Addr} {bc : Nat} {R : Nat → Option Addr × Nat} {n : Nat} {L : Nat → List Int} (h : RA w B T (srows bo bc R n L)) : BV w bo n L ∧ n ≤ bc := by
  refine ⟨fun i hi => ?_, by have := h.head.1; rwa [outer_len] at this⟩
  have hr := h.tail _ (inner_mem (R := R) (L := L) hi)
  rcases h.head.2 with h0 | ⟨b, e, hb, c, hc, hs, hF⟩
  · have h0' : outer R n L = [] := h0
    have : (outer R n L).length = 0 := by rw [h0']; rfl
    rw [outer_len] at this
    omega
  · refine ⟨b, 0, (R i).1, (R i).2, e, ?_, by have := hr.1; rwa [show (Rw.mk 3 (R i).1 (R i).2 (ir (L i))).vs.length = (L i).length from ir_len _] at this, hr.sl⟩
    have := hF i (by show i < (outer R n L).length; rw [outer_len]; exact hi)
    rw [show (Rw.mk 22 bo bc (outer R n L)).vs[i]? = _ from outer_get R n L i hi] at this
    simp only [World.cell?, hc, Nat.zero_add]
    exact this
theorem RA.mv {w : World} {B T : Nat} {go : Option Addr} {gc : Nat} {bo : Option Addr} {bc : Nat} {R : Nat → Option Addr × Nat} {g : List Int} {n : Nat} {L : Nat → List Int} (h : RA w B T (mrows go gc bo bc R g n L)) : MV w go gc bo bc g n L := by
  have h1 := h.head
  have h2 := (RA.tail (ys := srows bo bc R n L) h).bv
  exact ⟨⟨by have := h1.1; rwa [show (Rw.mk 3 go gc (ir g)).vs.length = g.length from ir_len _] at this, h2.2⟩, h1.sl, h2.1⟩
theorem cs_int {w : World} {base e : Nat} {v : Value} {l : List Int} (h : w.ownsRow base e 1 v (([] : List Value).length + l.length) (([] : List Value) ++ ir l)) : w.ownsRow base e 1 v (([] : List Int) ++ l).length ((([] : List Int) ++ l).map (.int .i64)) := by simpa [ir] using h
theorem lw_row {B : Nat} {wr : World} {l : List Int} {r : Option Addr × Nat} (h : Lw B wr l r) : RwOk wr B wr.heap.size ⟨3, r.1, r.2, ir l⟩ := by
  have h' : wr.ownsRow B 3 1 (sv l r) (ir l).length (ir l) := by rw [ir_len]; exact h
  obtain ⟨p, c, e, hr⟩ := rs_owns h'
  have e' : Value.slice r.1 l.length r.2 = .slice p (ir l).length c := e
  rw [ir_len] at e'
  injection e' with e1 _ e3
  rw [e1, e3]
  exact hr.head
theorem scs_outer (L : Nat → List Int) (R : Nat → Option Addr × Nat) (k : Nat) : scs L R k = outer R k L := by
  simp [scs, outer]
theorem CpS.ret2 {w wr : World} {go : Option Addr} {gc : Nat} {bo : Option Addr} {bc : Nat} {G : List Int} {k : Nat} {L : Nat → List Int} {fi ol he : Bool} {la : Int} {r : Option Addr × Nat} {bv : Value} {R : Nat → Option Addr × Nat} {F : World} (h : CpS w wr go gc bo bc G k L fi ol he la k r bv R) (hF : Only (w.heap.size + 1) wr F) : ∃ bo' bc', bv = .slice bo' k bc' ∧ Below w.heap.size w F ∧ RA F (w.heap.size + 3) F.heap.size (mrows r.1 r.2 bo' bc' R G k L) := by
  obtain ⟨h1, h2, h3, h4, h5, h6, h7⟩ := h
  have h6' : wr.ownsRow (w.heap.size + 3) 22 1 bv (outer R k L).length (outer R k L) := by rw [outer_len, ← scs_outer]; exact h6
  obtain ⟨p, c, e, hr⟩ := rs_owns h6'
  rw [outer_len] at e
  refine ⟨p, c, e, h1.trans (hF.1.mono (by omega)), ?_⟩
  rw [hF.2.1]
  refine RA.kept (w := wr) (fun s hs => ?_) (fun j h1 _ => hF.2.2 j (by omega))
  rcases List.mem_cons.1 hs with rfl | hs
  · exact lw_row h5
  · rcases List.mem_cons.1 hs with rfl | hs
    · exact hr.head
    · obtain ⟨i, hi, rfl⟩ := List.mem_map.1 hs
      exact lw_row (h7 i (List.mem_range.1 hi))

set_option maxHeartbeats 4000000 in
theorem copy5g (go bo : Option Addr) (gc bc k : Nat) (G : List Int) (L : Nat → List Int) (fi ol he : Bool) (la : Int) (w : World) (hb : Bd G k L) (hv : MV w go gc bo bc G k L) :
    Calls Tryz.prog 95 #[.agg #[.slice go G.length gc, .slice bo k bc, .bool fi, .bool ol, .bool he, .int .i64 la]] w fun e w' => ∃ go' bo' gc' bc', e = .returned (.agg #[.slice go' G.length gc', .slice bo' k bc', .bool fi, .bool ol, .bool he, .int .i64 la]) ∧ (∃ R, RA w' (w.heap.size + 3) w'.heap.size (mrows go' gc' bo' bc' R G k L)) ∧ Below w.heap.size w w' := by
  obtain ⟨i0, hi, hz0, hz1, hz2⟩ := info_parts Tryz.info3
  obtain ⟨j0, hj, hjz0, hjz1, hjz2⟩ := info_parts Tryz.infoSl
  obtain ⟨hG8, hk3, hL8⟩ := hb
  have HL8 := hide hL8
  obtain ⟨b0, b1, b2, b3⟩ := cbal3 w (.cells #[.slice go G.length gc, .slice bo k bc, .bool fi, .bool ol, .bool he, .int .i64 la] 25) (.cells #[.slice none 0 0, .slice none 0 0, .bool false, .bool false, .bool false, .int .i64 0] 25) (.cells #[.slice go G.length gc, .slice bo k bc, .bool fi, .bool ol, .bool he, .int .i64 la] 25)
  obtain ⟨W, hW⟩ : ∃ W, W = ((w.alloc (.cells #[.slice go G.length gc, .slice bo k bc, .bool fi, .bool ol, .bool he, .int .i64 la] 25)).alloc (.cells #[.slice none 0 0, .slice none 0 0, .bool false, .bool false, .bool false, .int .i64 0] 25)).alloc (.cells #[.slice go G.length gc, .slice bo k bc, .bool fi, .bool ol, .bool he, .int .i64 la] 25) := ⟨_, rfl⟩
  have hB : Below w.heap.size w W := by rw [hW]; exact (((Below.refl _ _).alloc (Nat.le_refl _) _).alloc (by simp) _).alloc (by simp; omega) _
  rw [← hW] at b0 b1 b2 b3
  have HV := hide hv
  have hWS : Hid (W.heap.size = w.heap.size + 1 + 1 + 1) := b3
  have hBe : Below w.heap.size w (W.alloc (.cells #[] 3)) := hB.alloc hB.size _
  have hSr := hide (Cs.ints (hv.2.1.below hBe))
  have hEm : Hid ((W.alloc (.cells #[] 3)).ownsRow (w.heap.size + 3) 3 1 (.slice (some ⟨w.heap.size + 1 + 1 + 1, 0, none⟩) 0 0) ([] : List Int).length (([] : List Int).map (.int .i64))) := by rw [← b3]; exact gempty (by omega)
  have hst : Hid (∀ v1 w1, w1.ownsRow (w.heap.size + 3) 3 1 v1 (([] : List Int) ++ G).length ((([] : List Int) ++ G).map (.int .i64)) → (W.alloc (.cells #[] 3)).grownBy w1 (Value.slice (some ⟨w.heap.size + 1 + 1 + 1, 0, none⟩) 0 0).ownBlock →
      ∃ ro rc, v1 = .slice ro G.length rc ∧ w1.heap[w.heap.size + 1 + 1]? = some (.cells #[.slice go G.length gc, .slice bo k bc, .bool fi, .bool ol, .bool he, .int .i64 la] 25 (0, 0)) ∧ CpS w ((w1.setCell ⟨w.heap.size + 1 + 1, 0, none⟩ v1).setCell ⟨w.heap.size + 1 + 1, 1, none⟩ (.slice none 0 0)) go gc bo bc G k L fi ol he la 0 (ro, rc) (.slice none 0 0) (fun _ => (none, 0))) := by
    intro v1 w1 ho hg
    simp only [List.nil_append] at ho
    obtain ⟨ro, rc, rfl⟩ := (Src.of_owns ho).form
    have hblk : ∀ j, j < w.heap.size + 1 + 1 + 1 → w1.heap[j]? = W.heap[j]? := fun j hj => (hg.block j (by simp [b3]; omega) (fun e => by simp [Value.ownBlock] at e; omega)).trans (Below.heap_alloc W _ j (by omega))
    have hX := (hblk (w.heap.size + 1 + 1) (by omega)).trans b2
    have hB1 : Below w.heap.size w w1 := hBe.grown hg hBe.size (fun j hj => by simp [Value.ownBlock] at hj; omega)
    have hlw : Lw (w.heap.size + 3) w1 G (ro, rc) := ho
    refine ⟨ro, rc, rfl, hX, (hB1.setCell (p := ⟨w.heap.size + 1 + 1, 0, none⟩) (by simp; omega) _).setCell (p := ⟨w.heap.size + 1 + 1, 1, none⟩) (by simp; omega) _, ?_, ?_, kb_set (kb_set hX rfl) rfl, (hlw.kp (Kp.set (by omega))).kp (Kp.set (by omega)), ⟨rfl, .inl ⟨rfl, rfl⟩⟩, fun j hj => absurd hj (Nat.not_lt_zero _)⟩
    · exact (cur_far (by omega) _).trans ((cur_far (by omega) _).trans ((hblk _ (by omega)).trans b0))
    · exact (cur_far (by omega) _).trans ((cur_far (by omega) _).trans ((hblk _ (by omega)).trans b1))
  have hbs : Hid (w.heap.size + 3 ≤ (W.alloc (.cells #[] 3)).heap.size) := by show _ ≤ _; simp [b3]
  clear hv hL8 b0 b1 b2 b3 hB hBe
  rw [hW] at hSr hEm hst hbs
  go_enter Tryz.func95, Tryz.ntmps95
  go_wp2_with (first
    | (at_builtin; refine wpList_append_cs rfl _ _ 22 rfl (w.heap.size + 3) 3 i0 (.int .i64 0) 8 Tryz.underlying22 hi hz0 hz1 hz2 rfl _ [] rfl hEm.out go G.length gc (ir G) (ir_len G) rfl hSr.out (by unfold maxLen; simp; omega) (by simp; omega) hbs.out ?_; intro v1 w1 ho1 hg1; have ho1 := cs_int ho1; obtain ⟨ro, rc, rfl, hX, hcp⟩ := hst.out v1 w1 ho1 hg1; have HI0 := hide hcp; have x0 : w1.cell? ⟨w.heap.size + 1 + 1, 0, none⟩ = some (.slice go G.length gc) := mblk hX rfl; have x1 : w1.cell? ⟨w.heap.size + 1 + 1, 1, none⟩ = some (.slice bo k bc) := mblk hX rfl; have xf : ∀ j, w1.frozen? ⟨w.heap.size + 1 + 1, j, none⟩ = false := (fun j => by simp [World.frozen?, hX]); clear ho1 hg1 hcp hst hSr hEm hX))
  clear x0 x1 xf hW hWS hbs
  go_loopw [4] (fun iv wr => ∃ (i : Nat) (bv : Value) (R : Nat → Option Addr × Nat), i ≤ k ∧ iv = .int .i64 i ∧ Hid (CpS w wr go gc bo bc G k L fi ol he la i (ro, rc) bv R)) (fun iv _ => k - (intOf iv).toNat)
  case atStart => exact ⟨0, _, _, by omega, rfl, HI0.out⟩
  case round =>
    obtain ⟨i, bv, R, hik, rfl, HI⟩ := hrel
    clear HI0
    obtain ⟨p0, p1, p2, p3, p4, p5⟩ := HI.out.2.1.cells
    by_cases hlt : i < k
    · have hlt2 : (i : Int) < (k : Int) := by omega
      have hi0 : (0 : Int) ≤ (i : Int) := by omega
      obtain ⟨b, off, qo, qc, rfl, hcell, _, hsrc⟩ := HV.out.2.2 i hlt
      have HCe := hide hcell
      have HSr := hide hsrc
      have hl8 := HL8.out i hlt
      clear hcell hsrc
      go_wp2_with fail
      have HId : Hid (CpS w wr.drew go gc (some ⟨b, off, none⟩) bc G k L fi ol he la i (ro, rc) bv R) := HI.out.below (Below.drawn (Below.refl _ _) 1)
      have rowc : Hid (∀ w', Below w.heap.size w w' → w'.cell? ⟨b, off + i, none⟩ = some (.slice qo (L i).length qc)) := fun w' hb => (hb.cell (lt_of_cell HCe.out)).trans HCe.out
      have sS : Hid (∀ w', Below w.heap.size w w' → KB w' w.heap.size 25 go G.length gc (some ⟨b, off, none⟩) k bc fi ol he la → (w'.cell? ⟨w.heap.size, 1, none⟩ = some (.slice (some ⟨b, off, none⟩) k bc) ∧ w'.cell? ⟨b, off + i, none⟩ = some (.slice qo (L i).length qc))) := fun w' hb hk => ⟨hk.cells.2.1, rowc.out w' hb⟩
      have hS0 := sS.out wr.drew HId.out.1 HId.out.2.1
      have HIa := hide (HI.out.below (bal1 wr (.cells #[] 3)))
      have HIad : Hid (CpS w (wr.alloc (.cells #[] 3)).drew go gc (some ⟨b, off, none⟩) bc G k L fi ol he la i (ro, rc) bv R) := HIa.out.below (Below.drawn (Below.refl _ _) 1)
      have hS1 := sS.out (wr.alloc (.cells #[] 3)).drew HIad.out.1 HIad.out.2.1
      have hx0 : wr.drew.cell? ⟨w.heap.size + 1 + 1, 1, none⟩ = some bv := HId.out.cells.2.1
      have hx0' : wr.cell? ⟨w.heap.size + 1 + 1, 1, none⟩ = some bv := HI.out.cells.2.1
      have hx1 : (wr.alloc (.cells #[] 3)).cell? ⟨w.heap.size + 1 + 1, 1, none⟩ = some bv := HIa.out.cells.2.1
      have hbz : w.heap.size + 3 ≤ wr.heap.size := by have := (Array.getElem?_eq_some_iff.1 HI.out.2.2.2.1).1; omega
      have hEm : Hid ((wr.alloc (.cells #[] 3)).drew.ownsRow (w.heap.size + 3) 3 1 (.slice (some ⟨wr.heap.size, 0, none⟩) 0 0) ([] : List Int).length (([] : List Int).map (.int .i64))) := gdrawn (gempty hbz) 1
      have hEm2 : Hid ((wr.alloc (.cells #[] 3)).drew.ownsRow wr.heap.size 3 1 (.slice (some ⟨wr.heap.size, 0, none⟩) 0 0) ([] : List Int).length (([] : List Int).map (.int .i64))) := gdrawn (gempty (Nat.le_refl _)) 1
      have hSr1 := hide (Cs.ints (HSr.out.below HIad.out.1))
      have hbd : Hid (Below wr.heap.size wr (wr.alloc (.cells #[] 3)).drew) := Below.drawn (bal1 _ _) 1
      clear p0 p1 p2 p3 p4 p5
      refine wp_region_held_drew (S := (fun w' => w'.cell? ⟨w.heap.size, 1, none⟩ = some (.slice (some ⟨b, off, none⟩) k bc) ∧ w'.cell? ⟨b, off + i, none⟩ = some (.slice qo (L i).length qc))) (by kernel_rfl) ?_ (fun hHeld => ?_)
      · exact hS0
      refine wpAnyH_take (i := 0) (oi := { dst := some 19, op := Op.fieldAddr 25 (Operand.tmp 3) 1, type := 0, pos := "l05_meta.go:97", after := #[], guard := none }) (v := ?_) rfl (by kernel_rfl) (by kernel_rfl) (by kernel_rfl) (fun _ _ _ h => h) (Or.inl ⟨by rfl, ?_⟩) (by assumption) ?_
      rotate_left 1
      · (intro wq hSw; (try dsimp only at hSw); go_simp; try with_reducible rfl)
      try simp only [Act.put, ly1, ly2, ly3]
      refine wpAnyH_take (i := 3) (oi := { dst := some 22, op := Op.fieldAddr 25 (Operand.tmp 1) 1, type := 0, pos := "l05_meta.go:97", after := #[], guard := none }) (v := ?_) rfl (by kernel_rfl) (by kernel_rfl) (by kernel_rfl) (fun _ _ _ h => h) (Or.inl ⟨by rfl, ?_⟩) (by assumption) ?_
      rotate_left 1
      · (intro wq hSw; (try dsimp only at hSw); go_simp; try with_reducible rfl)
      try simp only [Act.put, ly1, ly2, ly3]
      refine wpAnyH_take (i := 4) (oi := { dst := some 23, op := Op.load 23 (Operand.tmp 22), type := 23, pos := "l05_meta.go:97", after := #[{ on := 3, ground := Ground.data }], guard := none }) (v := ?_) rfl (by kernel_rfl) (by kernel_rfl) (by kernel_rfl) (fun _ _ _ h => h) (Or.inl ⟨by rfl, ?_⟩) (by assumption) ?_
      rotate_left 1
      · (intro wq hSw; (try dsimp only at hSw); go_simp; try with_reducible rfl)
      try simp only [Act.put, ly1, ly2, ly3]
      refine wpAnyH_take (i := 5) (oi := { dst := some 24, op := Op.move (Operand.tmp 4), type := 3, pos := "l05_meta.go:97", after := #[], guard := none }) (v := ?_) rfl (by kernel_rfl) (by kernel_rfl) (by kernel_rfl) (fun _ _ _ h => h) (Or.inl ⟨by rfl, ?_⟩) (by assumption) ?_
      rotate_left 1
      · (intro wq hSw; (try dsimp only at hSw); go_simp; try with_reducible rfl)
      try simp only [Act.put, ly1, ly2, ly3]
      refine wpAnyH_take (i := 6) (oi := { dst := some 25, op := Op.indexAddr 23 (Operand.tmp 23) (Operand.tmp 24), type := 0, pos := "l05_meta.go:97", after := #[{ on := 4, ground := Ground.data }, { on := 5, ground := Ground.data }], guard := none }) (v := ?_) rfl (by kernel_rfl) (by kernel_rfl) (by kernel_rfl) (fun _ _ _ h => h) (Or.inl ⟨by rfl, ?_⟩) (by assumption) ?_
      rotate_left 1
      · (intro wq hSw; (try dsimp only at hSw); go_simp; try with_reducible rfl)
      try simp only [Act.put, ly1, ly2, ly3]
      refine wpAnyH_take (i := 7) (oi := { dst := some 26, op := Op.load 22 (Operand.tmp 25), type := 22, pos := "l05_meta.go:97", after := #[{ on := 6, ground := Ground.data }], guard := none }) (v := ?_) rfl (by kernel_rfl) (by kernel_rfl) (by kernel_rfl) (fun _ _ _ h => h) (Or.inl ⟨by rfl, ?_⟩) (by assumption) ?_
      rotate_left 1
      · (intro wq hSw; (try dsimp only at hSw); go_simp; try with_reducible rfl)
      try simp only [Act.put, ly1, ly2, ly3]
      refine wpAnyH_ready (rs := [1, 2]) (by kernel_rfl) (by simp) ?_
      refine AllReadyH.cons (o := { dst := some 20, op := Op.load 23 (Operand.tmp 19), type := 23, pos := "l05_meta.go:97", after := #[{ on := 0, ground := Ground.data }], guard := none }) rfl (fun K hK => ?_) ?_
      · skip
        go_simp
        refine hK.out _ _ ?_ (fun hHeld => ?_)
        · exact hS0
        clear hK K
        try simp only [Act.put, ly1, ly2, ly3]
        refine wpAnyH_ready (rs := [2]) (by kernel_rfl) (by simp) ?_
        refine AllReadyH.cons (o := { dst := some 21, op := Op.buildSlice 22 0 #[], type := 22, pos := "l05_meta.go:97", after := #[], guard := none }) rfl (fun K hK => ?_) AllReadyH.nil
        go_simp
        refine hK.out _ _ ?_ (fun hHeld => ?_)
        · exact hS1
        clear hK K
        try simp only [Act.put, ly1, ly2, ly3]
        refine wpAnyH_ready (rs := [8]) (by kernel_rfl) (by simp) ?_
        refine AllReadyH.cons (o := { dst := some 27, op := Op.call { callee := Callee.builtin Builtin.append, args := #[Operand.tmp 21, Operand.tmp 26], argTypes := #[22, 22] }, type := 22, pos := "l05_meta.go:97", after := #[{ on := 2, ground := Ground.data }, { on := 7, ground := Ground.data }], guard := none }) rfl (fun K hK => ?_) AllReadyH.nil
        refine step_append_cs rfl _ _ 22 rfl (w.heap.size + 3) 3 i0 (.int .i64 0) 8 Tryz.underlying22 hi hz0 hz1 hz2 rfl _ [] rfl hEm.out qo (L i).length qc (ir (L i)) (ir_len _) rfl hSr1.out (by unfold maxLen; simp; omega) (by simp; omega) (by have := hbd.out.size; omega) ?_
        intro v8 w8 ho8 hg8
        have ho8 := cs_int ho8
        simp only [List.nil_append] at ho8
        obtain ⟨r8, c8, rfl⟩ := (Src.of_owns ho8).form
        have b8 : Below wr.heap.size wr w8 := hbd.out.grown hg8 hbd.out.size (fun j hj => (World.ownsRow.lt hEm2.out j hj).1)
        have H8 := hide (HI.out.below b8)
        have HO8 := hide ho8
        have hS8 := sS.out w8 H8.out.1 H8.out.2.1
        have hx8 : w8.cell? ⟨w.heap.size + 1 + 1, 1, none⟩ = some bv := H8.out.cells.2.1
        have H8a := hide (H8.out.below (bal1 w8 (.cells #[.slice r8 (L i).length c8] 22)))
        have hS9 := sS.out (w8.alloc (.cells #[.slice r8 (L i).length c8] 22)) H8a.out.1 H8a.out.2.1
        have hx9 : (w8.alloc (.cells #[.slice r8 (L i).length c8] 22)).cell? ⟨w.heap.size + 1 + 1, 1, none⟩ = some bv := H8a.out.cells.2.1
        clear ho8 hg8 b8
        refine hK.out _ _ ?_ (fun hHeld => ?_)
        · exact hS8
        clear hK K
        try simp only [Act.put, ly1, ly2, ly3]
        refine wpAnyH_ready (rs := [9]) (by kernel_rfl) (by simp) ?_
        refine AllReadyH.cons (o := { dst := some 28, op := Op.buildSlice 23 1 #[(0, Operand.tmp 27)], type := 23, pos := "l05_meta.go:97", after := #[{ on := 8, ground := Ground.data }], guard := none }) rfl (fun K hK => ?_) AllReadyH.nil
        go_simp
        refine hK.out _ _ ?_ (fun hHeld => ?_)
        · exact hS9
        clear hK K
        try simp only [Act.put, ly1, ly2, ly3]
        refine wpAnyH_ready (rs := [10]) (by kernel_rfl) (by simp) ?_
        refine AllReadyH.cons (o := { dst := some 29, op := Op.call { callee := Callee.builtin Builtin.append, args := #[Operand.tmp 20, Operand.tmp 28], argTypes := #[23, 23] }, type := 23, pos := "l05_meta.go:97", after := #[{ on := 1, ground := Ground.data }, { on := 9, ground := Ground.data }, { on := 8, ground := Ground.chain }], guard := none }) rfl (fun K hK => ?_) AllReadyH.nil
        refine step_append_lies _ rfl _ _ 23 rfl (w.heap.size + 3) 22 j0 (.slice none 0 0) 1 24 Tryz.underlying23 hj hjz0 hjz1 hjz2 rfl (by decide) _ _ _ rfl H8a.out.2.2.2.2.2.1 ⟨w8.heap.size, 0, none⟩ 1 1 [.slice r8 (L i).length c8] rfl rfl (gcells w8 [.slice r8 (L i).length c8] 22) (fun u hu => by simp at hu; subst hu; rfl) (by decide) (glens (by omega)) (by omega) (by have := (Array.getElem?_eq_some_iff.1 H8a.out.2.2.2.1).1; omega) _ rfl ?_
        intro t4 c4 w4 ho4 hg4 hat4 hlt4
        have H4 := hide (H8.out.push HO8.out ho4 hg4)
        have hS4 := sS.out w4 H4.out.2.2.1 H4.out.2.2.2
        have hx4 := H4.out.2.1.1
        have zf4 := H4.out.2.1.2
        have hS5 := sS.out _ H4.out.1.1 H4.out.1.2.1
        clear ho4 hg4 hat4 hlt4
        refine hK.out _ _ ?_ (fun hHeld => ?_)
        · exact hS4
        clear hK K
        try simp only [Act.put, ly1, ly2, ly3]
        refine wpAnyH_take (i := 11) (oi := { dst := some 30, op := Op.fieldAddr 25 (Operand.tmp 3) 1, type := 0, pos := "l05_meta.go:97", after := #[{ on := 0, ground := Ground.phase }, { on := 1, ground := Ground.phase }, { on := 2, ground := Ground.phase }, { on := 3, ground := Ground.phase }, { on := 4, ground := Ground.phase }, { on := 5, ground := Ground.phase }, { on := 6, ground := Ground.phase }, { on := 7, ground := Ground.phase }, { on := 8, ground := Ground.phase }, { on := 9, ground := Ground.phase }, { on := 10, ground := Ground.phase }], guard := none }) (v := ?_) rfl (by kernel_rfl) (by kernel_rfl) (by kernel_rfl) (fun _ _ _ h => h) (Or.inl ⟨by rfl, ?_⟩) (by assumption) ?_
        rotate_left 1
        · (intro wq hSw; (try dsimp only at hSw); go_simp; try with_reducible rfl)
        try simp only [Act.put, ly1, ly2, ly3]
        refine wpAnyH_ready (rs := [12]) (by kernel_rfl) (by simp) ?_
        refine AllReadyH.cons (o := { dst := none, op := Op.store 23 (Operand.tmp 30) (Operand.tmp 29), type := 0, pos := "l05_meta.go:97", after := #[{ on := 11, ground := Ground.data }, { on := 10, ground := Ground.data }, { on := 10, ground := Ground.chain }, { on := 0, ground := Ground.phase }, { on := 1, ground := Ground.phase }, { on := 2, ground := Ground.phase }, { on := 3, ground := Ground.phase }, { on := 4, ground := Ground.phase }, { on := 5, ground := Ground.phase }, { on := 6, ground := Ground.phase }, { on := 7, ground := Ground.phase }, { on := 8, ground := Ground.phase }, { on := 9, ground := Ground.phase }, { on := 10, ground := Ground.phase }], guard := none }) rfl (fun K hK => ?_) AllReadyH.nil
        go_simp
        refine hK.out _ _ ?_ (fun hHeld => ?_)
        · exact hS5
        clear hK K
        try simp only [Act.put, ly1, ly2, ly3]
        refine wpAnyH_done (by kernel_rfl) ?_ _
        go_wp2_with fail
        go_roundw
        case rel => exact ⟨i + 1, _, _, by omega, by go_num, H4.out.1⟩
        case measure => simp [intOf]; omega
      refine AllReadyH.cons (o := { dst := some 21, op := Op.buildSlice 22 0 #[], type := 22, pos := "l05_meta.go:97", after := #[], guard := none }) rfl (fun K hK => ?_) AllReadyH.nil
      · skip
        go_simp
        refine hK.out _ _ ?_ (fun hHeld => ?_)
        · exact hS1
        clear hK K
        try simp only [Act.put, ly1, ly2, ly3]
        refine wpAnyH_ready (rs := [1, 8]) (by kernel_rfl) (by simp) ?_
        refine AllReadyH.cons (o := { dst := some 20, op := Op.load 23 (Operand.tmp 19), type := 23, pos := "l05_meta.go:97", after := #[{ on := 0, ground := Ground.data }], guard := none }) rfl (fun K hK => ?_) ?_
        · skip
          go_simp
          refine hK.out _ _ ?_ (fun hHeld => ?_)
          · exact hS1
          clear hK K
          try simp only [Act.put, ly1, ly2, ly3]
          refine wpAnyH_ready (rs := [8]) (by kernel_rfl) (by simp) ?_
          refine AllReadyH.cons (o := { dst := some 27, op := Op.call { callee := Callee.builtin Builtin.append, args := #[Operand.tmp 21, Operand.tmp 26], argTypes := #[22, 22] }, type := 22, pos := "l05_meta.go:97", after := #[{ on := 2, ground := Ground.data }, { on := 7, ground := Ground.data }], guard := none }) rfl (fun K hK => ?_) AllReadyH.nil
          refine step_append_cs rfl _ _ 22 rfl (w.heap.size + 3) 3 i0 (.int .i64 0) 8 Tryz.underlying22 hi hz0 hz1 hz2 rfl _ [] rfl hEm.out qo (L i).length qc (ir (L i)) (ir_len _) rfl hSr1.out (by unfold maxLen; simp; omega) (by simp; omega) (by have := hbd.out.size; omega) ?_
          intro v8 w8 ho8 hg8
          have ho8 := cs_int ho8
          simp only [List.nil_append] at ho8
          obtain ⟨r8, c8, rfl⟩ := (Src.of_owns ho8).form
          have b8 : Below wr.heap.size wr w8 := hbd.out.grown hg8 hbd.out.size (fun j hj => (World.ownsRow.lt hEm2.out j hj).1)
          have H8 := hide (HI.out.below b8)
          have HO8 := hide ho8
          have hS8 := sS.out w8 H8.out.1 H8.out.2.1
          have hx8 : w8.cell? ⟨w.heap.size + 1 + 1, 1, none⟩ = some bv := H8.out.cells.2.1
          have H8a := hide (H8.out.below (bal1 w8 (.cells #[.slice r8 (L i).length c8] 22)))
          have hS9 := sS.out (w8.alloc (.cells #[.slice r8 (L i).length c8] 22)) H8a.out.1 H8a.out.2.1
          have hx9 : (w8.alloc (.cells #[.slice r8 (L i).length c8] 22)).cell? ⟨w.heap.size + 1 + 1, 1, none⟩ = some bv := H8a.out.cells.2.1
          clear ho8 hg8 b8
          refine hK.out _ _ ?_ (fun hHeld => ?_)
          · exact hS8
          clear hK K
          try simp only [Act.put, ly1, ly2, ly3]
          refine wpAnyH_ready (rs := [9]) (by kernel_rfl) (by simp) ?_
          refine AllReadyH.cons (o := { dst := some 28, op := Op.buildSlice 23 1 #[(0, Operand.tmp 27)], type := 23, pos := "l05_meta.go:97", after := #[{ on := 8, ground := Ground.data }], guard := none }) rfl (fun K hK => ?_) AllReadyH.nil
          go_simp
          refine hK.out _ _ ?_ (fun hHeld => ?_)
          · exact hS9
          clear hK K
          try simp only [Act.put, ly1, ly2, ly3]
          refine wpAnyH_ready (rs := [10]) (by kernel_rfl) (by simp) ?_
          refine AllReadyH.cons (o := { dst := some 29, op := Op.call { callee := Callee.builtin Builtin.append, args := #[Operand.tmp 20, Operand.tmp 28], argTypes := #[23, 23] }, type := 23, pos := "l05_meta.go:97", after := #[{ on := 1, ground := Ground.data }, { on := 9, ground := Ground.data }, { on := 8, ground := Ground.chain }], guard := none }) rfl (fun K hK => ?_) AllReadyH.nil
          refine step_append_lies _ rfl _ _ 23 rfl (w.heap.size + 3) 22 j0 (.slice none 0 0) 1 24 Tryz.underlying23 hj hjz0 hjz1 hjz2 rfl (by decide) _ _ _ rfl H8a.out.2.2.2.2.2.1 ⟨w8.heap.size, 0, none⟩ 1 1 [.slice r8 (L i).length c8] rfl rfl (gcells w8 [.slice r8 (L i).length c8] 22) (fun u hu => by simp at hu; subst hu; rfl) (by decide) (glens (by omega)) (by omega) (by have := (Array.getElem?_eq_some_iff.1 H8a.out.2.2.2.1).1; omega) _ rfl ?_
          intro t4 c4 w4 ho4 hg4 hat4 hlt4
          have H4 := hide (H8.out.push HO8.out ho4 hg4)
          have hS4 := sS.out w4 H4.out.2.2.1 H4.out.2.2.2
          have hx4 := H4.out.2.1.1
          have zf4 := H4.out.2.1.2
          have hS5 := sS.out _ H4.out.1.1 H4.out.1.2.1
          clear ho4 hg4 hat4 hlt4
          refine hK.out _ _ ?_ (fun hHeld => ?_)
          · exact hS4
          clear hK K
          try simp only [Act.put, ly1, ly2, ly3]
          refine wpAnyH_take (i := 11) (oi := { dst := some 30, op := Op.fieldAddr 25 (Operand.tmp 3) 1, type := 0, pos := "l05_meta.go:97", after := #[{ on := 0, ground := Ground.phase }, { on := 1, ground := Ground.phase }, { on := 2, ground := Ground.phase }, { on := 3, ground := Ground.phase }, { on := 4, ground := Ground.phase }, { on := 5, ground := Ground.phase }, { on := 6, ground := Ground.phase }, { on := 7, ground := Ground.phase }, { on := 8, ground := Ground.phase }, { on := 9, ground := Ground.phase }, { on := 10, ground := Ground.phase }], guard := none }) (v := ?_) rfl (by kernel_rfl) (by kernel_rfl) (by kernel_rfl) (fun _ _ _ h => h) (Or.inl ⟨by rfl, ?_⟩) (by assumption) ?_
          rotate_left 1
          · (intro wq hSw; (try dsimp only at hSw); go_simp; try with_reducible rfl)
          try simp only [Act.put, ly1, ly2, ly3]
          refine wpAnyH_ready (rs := [12]) (by kernel_rfl) (by simp) ?_
          refine AllReadyH.cons (o := { dst := none, op := Op.store 23 (Operand.tmp 30) (Operand.tmp 29), type := 0, pos := "l05_meta.go:97", after := #[{ on := 11, ground := Ground.data }, { on := 10, ground := Ground.data }, { on := 10, ground := Ground.chain }, { on := 0, ground := Ground.phase }, { on := 1, ground := Ground.phase }, { on := 2, ground := Ground.phase }, { on := 3, ground := Ground.phase }, { on := 4, ground := Ground.phase }, { on := 5, ground := Ground.phase }, { on := 6, ground := Ground.phase }, { on := 7, ground := Ground.phase }, { on := 8, ground := Ground.phase }, { on := 9, ground := Ground.phase }, { on := 10, ground := Ground.phase }], guard := none }) rfl (fun K hK => ?_) AllReadyH.nil
          go_simp
          refine hK.out _ _ ?_ (fun hHeld => ?_)
          · exact hS5
          clear hK K
          try simp only [Act.put, ly1, ly2, ly3]
          refine wpAnyH_done (by kernel_rfl) ?_ _
          go_wp2_with fail
          go_roundw
          case rel => exact ⟨i + 1, _, _, by omega, by go_num, H4.out.1⟩
          case measure => simp [intOf]; omega
        refine AllReadyH.cons (o := { dst := some 27, op := Op.call { callee := Callee.builtin Builtin.append, args := #[Operand.tmp 21, Operand.tmp 26], argTypes := #[22, 22] }, type := 22, pos := "l05_meta.go:97", after := #[{ on := 2, ground := Ground.data }, { on := 7, ground := Ground.data }], guard := none }) rfl (fun K hK => ?_) AllReadyH.nil
        · skip
          refine step_append_cs rfl _ _ 22 rfl (w.heap.size + 3) 3 i0 (.int .i64 0) 8 Tryz.underlying22 hi hz0 hz1 hz2 rfl _ [] rfl hEm.out qo (L i).length qc (ir (L i)) (ir_len _) rfl hSr1.out (by unfold maxLen; simp; omega) (by simp; omega) (by have := hbd.out.size; omega) ?_
          intro v8 w8 ho8 hg8
          have ho8 := cs_int ho8
          simp only [List.nil_append] at ho8
          obtain ⟨r8, c8, rfl⟩ := (Src.of_owns ho8).form
          have b8 : Below wr.heap.size wr w8 := hbd.out.grown hg8 hbd.out.size (fun j hj => (World.ownsRow.lt hEm2.out j hj).1)
          have H8 := hide (HI.out.below b8)
          have HO8 := hide ho8
          have hS8 := sS.out w8 H8.out.1 H8.out.2.1
          have hx8 : w8.cell? ⟨w.heap.size + 1 + 1, 1, none⟩ = some bv := H8.out.cells.2.1
          have H8a := hide (H8.out.below (bal1 w8 (.cells #[.slice r8 (L i).length c8] 22)))
          have hS9 := sS.out (w8.alloc (.cells #[.slice r8 (L i).length c8] 22)) H8a.out.1 H8a.out.2.1
          have hx9 : (w8.alloc (.cells #[.slice r8 (L i).length c8] 22)).cell? ⟨w.heap.size + 1 + 1, 1, none⟩ = some bv := H8a.out.cells.2.1
          clear ho8 hg8 b8
          refine hK.out _ _ ?_ (fun hHeld => ?_)
          · exact hS8
          clear hK K
          try simp only [Act.put, ly1, ly2, ly3]
          refine wpAnyH_ready (rs := [1, 9]) (by kernel_rfl) (by simp) ?_
          refine AllReadyH.cons (o := { dst := some 20, op := Op.load 23 (Operand.tmp 19), type := 23, pos := "l05_meta.go:97", after := #[{ on := 0, ground := Ground.data }], guard := none }) rfl (fun K hK => ?_) ?_
          · skip
            go_simp
            refine hK.out _ _ ?_ (fun hHeld => ?_)
            · exact hS8
            clear hK K
            try simp only [Act.put, ly1, ly2, ly3]
            refine wpAnyH_ready (rs := [9]) (by kernel_rfl) (by simp) ?_
            refine AllReadyH.cons (o := { dst := some 28, op := Op.buildSlice 23 1 #[(0, Operand.tmp 27)], type := 23, pos := "l05_meta.go:97", after := #[{ on := 8, ground := Ground.data }], guard := none }) rfl (fun K hK => ?_) AllReadyH.nil
            go_simp
            refine hK.out _ _ ?_ (fun hHeld => ?_)
            · exact hS9
            clear hK K
            try simp only [Act.put, ly1, ly2, ly3]
            refine wpAnyH_ready (rs := [10]) (by kernel_rfl) (by simp) ?_
            refine AllReadyH.cons (o := { dst := some 29, op := Op.call { callee := Callee.builtin Builtin.append, args := #[Operand.tmp 20, Operand.tmp 28], argTypes := #[23, 23] }, type := 23, pos := "l05_meta.go:97", after := #[{ on := 1, ground := Ground.data }, { on := 9, ground := Ground.data }, { on := 8, ground := Ground.chain }], guard := none }) rfl (fun K hK => ?_) AllReadyH.nil
            refine step_append_lies _ rfl _ _ 23 rfl (w.heap.size + 3) 22 j0 (.slice none 0 0) 1 24 Tryz.underlying23 hj hjz0 hjz1 hjz2 rfl (by decide) _ _ _ rfl H8a.out.2.2.2.2.2.1 ⟨w8.heap.size, 0, none⟩ 1 1 [.slice r8 (L i).length c8] rfl rfl (gcells w8 [.slice r8 (L i).length c8] 22) (fun u hu => by simp at hu; subst hu; rfl) (by decide) (glens (by omega)) (by omega) (by have := (Array.getElem?_eq_some_iff.1 H8a.out.2.2.2.1).1; omega) _ rfl ?_
            intro t4 c4 w4 ho4 hg4 hat4 hlt4
            have H4 := hide (H8.out.push HO8.out ho4 hg4)
            have hS4 := sS.out w4 H4.out.2.2.1 H4.out.2.2.2
            have hx4 := H4.out.2.1.1
            have zf4 := H4.out.2.1.2
            have hS5 := sS.out _ H4.out.1.1 H4.out.1.2.1
            clear ho4 hg4 hat4 hlt4
            refine hK.out _ _ ?_ (fun hHeld => ?_)
            · exact hS4
            clear hK K
            try simp only [Act.put, ly1, ly2, ly3]
            refine wpAnyH_take (i := 11) (oi := { dst := some 30, op := Op.fieldAddr 25 (Operand.tmp 3) 1, type := 0, pos := "l05_meta.go:97", after := #[{ on := 0, ground := Ground.phase }, { on := 1, ground := Ground.phase }, { on := 2, ground := Ground.phase }, { on := 3, ground := Ground.phase }, { on := 4, ground := Ground.phase }, { on := 5, ground := Ground.phase }, { on := 6, ground := Ground.phase }, { on := 7, ground := Ground.phase }, { on := 8, ground := Ground.phase }, { on := 9, ground := Ground.phase }, { on := 10, ground := Ground.phase }], guard := none }) (v := ?_) rfl (by kernel_rfl) (by kernel_rfl) (by kernel_rfl) (fun _ _ _ h => h) (Or.inl ⟨by rfl, ?_⟩) (by assumption) ?_
            rotate_left 1
            · (intro wq hSw; (try dsimp only at hSw); go_simp; try with_reducible rfl)
            try simp only [Act.put, ly1, ly2, ly3]
            refine wpAnyH_ready (rs := [12]) (by kernel_rfl) (by simp) ?_
            refine AllReadyH.cons (o := { dst := none, op := Op.store 23 (Operand.tmp 30) (Operand.tmp 29), type := 0, pos := "l05_meta.go:97", after := #[{ on := 11, ground := Ground.data }, { on := 10, ground := Ground.data }, { on := 10, ground := Ground.chain }, { on := 0, ground := Ground.phase }, { on := 1, ground := Ground.phase }, { on := 2, ground := Ground.phase }, { on := 3, ground := Ground.phase }, { on := 4, ground := Ground.phase }, { on := 5, ground := Ground.phase }, { on := 6, ground := Ground.phase }, { on := 7, ground := Ground.phase }, { on := 8, ground := Ground.phase }, { on := 9, ground := Ground.phase }, { on := 10, ground := Ground.phase }], guard := none }) rfl (fun K hK => ?_) AllReadyH.nil
            go_simp
            refine hK.out _ _ ?_ (fun hHeld => ?_)
            · exact hS5
            clear hK K
            try simp only [Act.put, ly1, ly2, ly3]
            refine wpAnyH_done (by kernel_rfl) ?_ _
            go_wp2_with fail
            go_roundw
            case rel => exact ⟨i + 1, _, _, by omega, by go_num, H4.out.1⟩
            case measure => simp [intOf]; omega
          refine AllReadyH.cons (o := { dst := some 28, op := Op.buildSlice 23 1 #[(0, Operand.tmp 27)], type := 23, pos := "l05_meta.go:97", after := #[{ on := 8, ground := Ground.data }], guard := none }) rfl (fun K hK => ?_) AllReadyH.nil
          · skip
            go_simp
            refine hK.out _ _ ?_ (fun hHeld => ?_)
            · exact hS9
            clear hK K
            try simp only [Act.put, ly1, ly2, ly3]
            refine wpAnyH_ready (rs := [1]) (by kernel_rfl) (by simp) ?_
            refine AllReadyH.cons (o := { dst := some 20, op := Op.load 23 (Operand.tmp 19), type := 23, pos := "l05_meta.go:97", after := #[{ on := 0, ground := Ground.data }], guard := none }) rfl (fun K hK => ?_) AllReadyH.nil
            go_simp
            refine hK.out _ _ ?_ (fun hHeld => ?_)
            · exact hS9
            clear hK K
            try simp only [Act.put, ly1, ly2, ly3]
            refine wpAnyH_ready (rs := [10]) (by kernel_rfl) (by simp) ?_
            refine AllReadyH.cons (o := { dst := some 29, op := Op.call { callee := Callee.builtin Builtin.append, args := #[Operand.tmp 20, Operand.tmp 28], argTypes := #[23, 23] }, type := 23, pos := "l05_meta.go:97", after := #[{ on := 1, ground := Ground.data }, { on := 9, ground := Ground.data }, { on := 8, ground := Ground.chain }], guard := none }) rfl (fun K hK => ?_) AllReadyH.nil
            refine step_append_lies _ rfl _ _ 23 rfl (w.heap.size + 3) 22 j0 (.slice none 0 0) 1 24 Tryz.underlying23 hj hjz0 hjz1 hjz2 rfl (by decide) _ _ _ rfl H8a.out.2.2.2.2.2.1 ⟨w8.heap.size, 0, none⟩ 1 1 [.slice r8 (L i).length c8] rfl rfl (gcells w8 [.slice r8 (L i).length c8] 22) (fun u hu => by simp at hu; subst hu; rfl) (by decide) (glens (by omega)) (by omega) (by have := (Array.getElem?_eq_some_iff.1 H8a.out.2.2.2.1).1; omega) _ rfl ?_
            intro t4 c4 w4 ho4 hg4 hat4 hlt4
            have H4 := hide (H8.out.push HO8.out ho4 hg4)
            have hS4 := sS.out w4 H4.out.2.2.1 H4.out.2.2.2
            have hx4 := H4.out.2.1.1
            have zf4 := H4.out.2.1.2
            have hS5 := sS.out _ H4.out.1.1 H4.out.1.2.1
            clear ho4 hg4 hat4 hlt4
            refine hK.out _ _ ?_ (fun hHeld => ?_)
            · exact hS4
            clear hK K
            try simp only [Act.put, ly1, ly2, ly3]
            refine wpAnyH_take (i := 11) (oi := { dst := some 30, op := Op.fieldAddr 25 (Operand.tmp 3) 1, type := 0, pos := "l05_meta.go:97", after := #[{ on := 0, ground := Ground.phase }, { on := 1, ground := Ground.phase }, { on := 2, ground := Ground.phase }, { on := 3, ground := Ground.phase }, { on := 4, ground := Ground.phase }, { on := 5, ground := Ground.phase }, { on := 6, ground := Ground.phase }, { on := 7, ground := Ground.phase }, { on := 8, ground := Ground.phase }, { on := 9, ground := Ground.phase }, { on := 10, ground := Ground.phase }], guard := none }) (v := ?_) rfl (by kernel_rfl) (by kernel_rfl) (by kernel_rfl) (fun _ _ _ h => h) (Or.inl ⟨by rfl, ?_⟩) (by assumption) ?_
            rotate_left 1
            · (intro wq hSw; (try dsimp only at hSw); go_simp; try with_reducible rfl)
            try simp only [Act.put, ly1, ly2, ly3]
            refine wpAnyH_ready (rs := [12]) (by kernel_rfl) (by simp) ?_
            refine AllReadyH.cons (o := { dst := none, op := Op.store 23 (Operand.tmp 30) (Operand.tmp 29), type := 0, pos := "l05_meta.go:97", after := #[{ on := 11, ground := Ground.data }, { on := 10, ground := Ground.data }, { on := 10, ground := Ground.chain }, { on := 0, ground := Ground.phase }, { on := 1, ground := Ground.phase }, { on := 2, ground := Ground.phase }, { on := 3, ground := Ground.phase }, { on := 4, ground := Ground.phase }, { on := 5, ground := Ground.phase }, { on := 6, ground := Ground.phase }, { on := 7, ground := Ground.phase }, { on := 8, ground := Ground.phase }, { on := 9, ground := Ground.phase }, { on := 10, ground := Ground.phase }], guard := none }) rfl (fun K hK => ?_) AllReadyH.nil
            go_simp
            refine hK.out _ _ ?_ (fun hHeld => ?_)
            · exact hS5
            clear hK K
            try simp only [Act.put, ly1, ly2, ly3]
            refine wpAnyH_done (by kernel_rfl) ?_ _
            go_wp2_with fail
            go_roundw
            case rel => exact ⟨i + 1, _, _, by omega, by go_num, H4.out.1⟩
            case measure => simp [intOf]; omega
    · obtain rfl : i = k := by omega
      have hlt2 : ¬ (i : Int) < (i : Int) := by omega
      obtain ⟨c0, c1, c2, c3, c4, c5⟩ := HI.out.cells
      obtain ⟨r0, r1, r2, r3, r4, r5⟩ := HI.out.2.2.1.cells
      have z0 := HI.out.2.2.1.froz
      obtain ⟨bo', bc', rfl, _⟩ := HI.out.ret2 (Only.refl _ _)
      go_wp2_with fail
      refine bodyPost_ret (v := .agg #[.slice ro G.length rc, .slice bo' i bc', .bool fi, .bool ol, .bool he, .int .i64 la]) (by simp [results, Tryz.results95, go_sem, r0, r1, r2, r3, r4, r5]) rfl ?_
      have hN : ∀ F : World, Only (w.heap.size + 1) wr F → (∃ R, RA F (w.heap.size + 3) F.heap.size (mrows ro rc bo' bc' R G i L)) ∧ Below w.heap.size w F := fun F hF => by
        obtain ⟨bo2, bc2, e2, hB, hM⟩ := HI.out.ret2 hF
        injection e2 with e3 _ e4
        subst e3 e4
        exact ⟨⟨_, hM⟩, hB⟩
      refine ⟨_, _, _, _, rfl, hN _ ?_⟩
      iterate 6 (refine Only.setCell ?_ _)
      exact Only.refl _ _
end Go.Proofs.YtkndnndildnbpaaGreatDoor

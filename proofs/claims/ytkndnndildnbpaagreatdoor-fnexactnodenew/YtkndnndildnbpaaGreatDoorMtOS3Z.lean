/- What is known, read by the model. -/
import Derived.Test.YtkndnndildnbpaaGreatDoorGi
import Derived.Test.YtkndnndildnbpaaGreatDoorMtBSZ
import Derived.Test.YtkndnndildnbpaaGreatDoorMofSZ

namespace Go.Proofs.YtkndnndildnbpaaGreatDoor
open Go.ChangeShapes Go.WideShapes Go.ChangeAt Go.RowKit
set_option linter.unusedVariables false
set_option linter.unusedSimpArgs false
set_option maxRecDepth 100000

/-- What is handed back. -/
def MtOut (w w' : World) (B : List Int) (e : Ending) : Prop :=
  ((∃ g L fi ol he la go bo gc bc, MtIs B g L fi ol he la ∧ e = .returned (.tuple #[.agg #[.slice go g.length gc, .slice bo 3 bc, .bool fi, .bool ol, .bool he, .int .i64 la], .bool true]) ∧ OKm w' w.heap.size w'.heap.size go gc bo bc g 3 L) ∨
   ((¬ ∃ g L fi ol he la, MtIs B g L fi ol he la) ∧ e = .returned (.tuple #[.agg #[.slice none 0 0, .slice none 0 0, .bool false, .bool false, .bool false, .int .i64 0], .bool false]))) ∧ Below w.heap.size w w'
def Ch (n : Nat) (f : Nat → Int) (st1 : Option Int) (L : Nat → List Int) : Nat → Option Int → Prop
  | 0, st => st = st1
  | k + 1, st => ∃ st', Ch n f st1 L k st' ∧ LR n f st' (L k) st
theorem Ch.congr {n : Nat} {f : Nat → Int} {st1 : Option Int} {L L' : Nat → List Int} : ∀ {k : Nat} {st : Option Int}, Ch n f st1 L k st → (∀ i, i < k → L i = L' i) → Ch n f st1 L' k st
  | 0, _, h, _ => h
  | k + 1, _, ⟨st', h1, h2⟩, e => ⟨st', h1.congr (fun i hi => e i (by omega)), by rw [← e k (by omega)]; exact h2⟩
theorem Ch.step {n : Nat} {f : Nat → Int} {st1 st st' : Option Int} {L : Nat → List Int} {k : Nat} {l : List Int} (h : Ch n f st1 L k st) (hl : LR n f st l st') : Ch n f st1 (setl L k l) (k + 1) st' :=
  ⟨st, h.congr (fun i hi => by rw [setl_ne _ _ _ (by omega)]), by rw [setl_at]; exact hl⟩
theorem sl_low {w : World} {ao : Option Addr} {n : Nat} {f : Nat → Int} (h : SL .u8 w ao n f) : n = 0 ∨ ∀ b off, ao = some ⟨b, off, none⟩ → b < w.heap.size + 1 := by
  rcases Nat.eq_zero_or_pos n with h0 | h0
  · exact .inl h0
  · refine .inr fun b off e => ?_
    obtain ⟨b', off', e', hlt, _⟩ := h 0 h0
    rw [e] at e'
    cases e'
    omega

def FBs (X : Int) (F1 F2 F3 : Bool) : Prop := F1 = (bits .and .i64 X 1 != 0) ∧ F2 = (bits .and .i64 X 2 != 0) ∧ F3 = (bits .and .i64 X 4 != 0)
theorem fb_flg (a b c : Bool) : (bits .and .i64 (flg a b c) 1 != 0) = a ∧ (bits .and .i64 (flg a b c) 2 != 0) = b ∧ (bits .and .i64 (flg a b c) 4 != 0) = c := by
  cases a <;> cases b <;> cases c <;> exact ⟨by kernel_rfl, by kernel_rfl, by kernel_rfl⟩
theorem read_is {n : Nat} {f : Nat → Int} {G g : List Int} {L L' : Nat → List Int} {st1 st : Option Int} {fi ol he : Bool} {la : Int} (h0 : LR n f (some 0) G st1) (hc : Ch n f st1 L 3 st) (h : MtIs ((List.range n).map f) g L' fi ol he la) :
    G = g ∧ (∀ i, i < 3 → L i = L' i) ∧ rdv n f st = flg fi ol he ∧ rdv n f (nx n f st) = la ∧ (nx n f (nx n f st)).isSome = true := by
  obtain ⟨t, r0, r1, r2, r3, e4, r4, r5, r6⟩ := mtis_read h
  obtain ⟨e0, s0⟩ := lr_is h0 r0
  obtain ⟨s2, ⟨s1, ⟨sz, hz, l0⟩, l1⟩, l2⟩ := hc
  obtain rfl : sz = st1 := hz
  rw [s0] at l0
  obtain ⟨e1, q1⟩ := lr_is l0 r1
  rw [q1] at l1
  obtain ⟨e2, q2⟩ := lr_is l1 r2
  rw [q2] at l2
  obtain ⟨e3, q3⟩ := lr_is l2 r3
  have hst : st = sts n f (some 0) t := q3.trans e4
  subst hst
  refine ⟨e0, fun i hi => ?_, r4, r5, r6⟩
  obtain rfl | rfl | rfl : i = 0 ∨ i = 1 ∨ i = 2 := by omega
  · exact e1
  · exact e2
  · exact e3
theorem mseq_congr {g : List Int} {L L' : Nat → List Int} {fi ol he : Bool} {la : Int} (h : ∀ i, i < 3 → L i = L' i) : mseq g L fi ol he la = mseq g L' fi ol he la := by
  rw [mseq_eq, mseq_eq, h 0 (by omega), h 1 (by omega), h 2 (by omega)]
theorem mtok_congr {g : List Int} {L L' : Nat → List Int} {ol he : Bool} {la : Int} (h : ∀ i, i < 3 → L i = L' i) (hm : MtOk g 3 L' ol he la) : MtOk g 3 L ol he la :=
  ⟨hm.1, ⟨rfl, fun i hi => by rw [h i hi]; exact hm.2.1.2 i hi⟩, hm.2.2⟩
theorem mseq_ne (g : List Int) (L : Nat → List Int) (fi ol he : Bool) (la : Int) : nums (mseq g L fi ol he la) ≠ [] := by
  rw [mseq_eq]
  simp only [lsq, List.cons_append, nums_cons]
  intro h
  have h1 := congrArg List.length h
  rw [List.length_append] at h1
  have := mpb_pos 4 (g.length : Int)
  simp only [List.length_nil] at h1
  omega

set_option maxHeartbeats 1000000 in
theorem mtof_spec (ao : Option Addr) (n cap : Nat) (f : Nat → Int) (w : World) (hn : n ≤ 1048576) (hs : SL .u8 w ao n f) (hf : ∀ i, i < n → 0 ≤ f i ∧ f i ≤ 255) :
    Calls Tryz.prog 233 #[.slice ao n cap] w fun e w' => MtOut w w' ((List.range n).map f) e := by
  obtain ⟨i0, hi, hz0, hz1, hz2⟩ := info_parts Tryz.infoSl
  have hao := sl_low hs
  have HS := hide hs
  have HF := hide hf
  obtain ⟨W, hW⟩ : ∃ W, W = (((w.alloc (.cells #[.slice none 0 0, .slice none 0 0, .bool false, .bool false, .bool false, .int .i64 0] 25)).alloc (.cells #[.slice ao n cap, .int .i64 0, .bool true] 215)).alloc (.cells #[.slice none 0 0, .slice none 0 0, .bool false, .bool false, .bool false, .int .i64 0] 25)) := ⟨_, rfl⟩
  obtain ⟨b0, b1, b2, b4⟩ := bal3 w (.cells #[.slice none 0 0, .slice none 0 0, .bool false, .bool false, .bool false, .int .i64 0] 25) (.cells #[.slice ao n cap, .int .i64 0, .bool true] 215) (.cells #[.slice none 0 0, .slice none 0 0, .bool false, .bool false, .bool false, .int .i64 0] 25)
  rw [← hW] at b0 b1 b2 b4
  have hB : Below w.heap.size w W := by rw [hW]; exact (((Below.refl _ _).alloc (Nat.le_refl _) _).alloc (by simp) _).alloc (by simp; omega) _
  have hC : Cu W (w.heap.size + 1) ao n cap (some 0) := ⟨0, b1, (fun _ e => by cases e; rfl), by omega⟩
  have HAO := hide hao
  have hl5 : Hid (∀ st wr, Below w.heap.size w wr → (∀ p, st = some p → 0 ≤ p) → Cu wr (w.heap.size + 1) ao n cap st → _) := fun st wr hb h0 hc => l5nums (w.heap.size + 1) ao n cap f st wr hn (HS.out.below hb) HAO.out HF.out h0 hc
  have hcall := hide (hl5.out (some 0) W hB (fun p e => by cases e; omega) hC)
  have HB := hide hB
  have K0 : Hid (KB W w.heap.size 25 none 0 0 none 0 0 false false false 0 ∧ KB W (w.heap.size + 1 + 1) 25 none 0 0 none 0 0 false false false 0) := ⟨b0, b2⟩
  clear hs hf hao b0 b1 b2 hB hC
  go_enter Tryz.func233, Tryz.ntmps233
  go_wp2_with fail
  rw [← hW]
  clear hW
  refine hcall.out.mono ?_
  rintro e w1 ⟨x, G, st1, rfl, hLR0, hGl, hp1, hown, hc1, ho1⟩
  obtain ⟨ro, rc, rfl, ⟨_, hrc, _⟩, hO⟩ := Own.of_owns hown
  have H0 := hide (mok_start ro rc K0.out.1 K0.out.2 b4 HB.out ho1 hc1 hO hrc)
  have hz := (ho1.2 (w.heap.size + 1 + 1) (by omega) (by omega)).trans K0.out.2
  have m0 : w1.cell? ⟨w.heap.size + 1 + 1, 0, none⟩ = some (.slice none 0 0) := mblk hz rfl
  have z0 : ∀ i, w1.frozen? ⟨w.heap.size + 1 + 1, i, none⟩ = false := fun i => by simp [World.frozen?, hz]
  have HLR0 := hide hLR0
  have HP1 := hide hp1
  clear hcall hown hO ho1 hc1 hz hLR0 hp1 K0 HB hrc
  go_wp2
  go_loopw [6, 7] (fun i _ wr => ∃ (k : Nat) (L : Nat → List Int) (R : Nat → Option Addr × Nat) (bv : Value) (st : Option Int), k ≤ 3 ∧ i = .int .i64 k ∧ Hid (MoK w wr ao n cap st ro rc G k L R bv false false false 0 ∧ Ch n f st1 L k st ∧ (∀ p, st = some p → 0 ≤ p) ∧ ∀ i, i < k → (L i).length ≤ 1048576)) (fun i _ _ => 3 - (intOf i).toNat)
  case atStart => exact ⟨0, _, _, _, st1, by omega, rfl, H0.out, rfl, HP1.out, fun i hi => absurd hi (by omega)⟩
  case round =>
    clear H0 m0 z0
    obtain ⟨k, L, R, bv, st, hk, rfl, HI⟩ := hrel
    by_cases hlt : k < 3
    · have hki : (k : Int) < 3 := by omega
      have hcall := hide (hl5.out st wr HI.out.1.2.2.2.2.2.2 HI.out.2.2.1 HI.out.1.2.1)
      go_wp2_with fail
      refine hcall.out.mono ?_
      rintro e w2 ⟨x, G', st', rfl, hLR, hGl', hp', hown, hc2, ho2⟩
      obtain ⟨ro', rc', rfl, ⟨_, hrc', _⟩, hO⟩ := Own.of_owns hown
      have HM2 := hide (HI.out.1.read ho2 hc2)
      have HM2' := hide (HM2.out.below (bal1 w2 (.cells #[.slice ro' G'.length rc'] 22)))
      have HAP : Hid (∀ w4 g4 c4, w4.ownsRow (w.heap.size + 1 + 1 + 1) 22 1 (.slice (some ⟨g4, 0, none⟩) (k + 1) c4) (k + 1) (scs L R k ++ [.slice ro' G'.length rc']) → (w2.alloc (.cells #[.slice ro' G'.length rc'] 22)).grownBy w4 bv.ownBlock → MoK w (w4.setCell ⟨w.heap.size + 1 + 1, 1, none⟩ (.slice (some ⟨g4, 0, none⟩) (k + 1) c4)) ao n cap st' ro rc G (k + 1) (setl L k G') (setr R k (ro', rc')) (.slice (some ⟨g4, 0, none⟩) (k + 1) c4) false false false 0 ∧ w4.heap[w.heap.size + 1 + 1]? = some (.cells #[.slice ro G.length rc, bv, .bool false, .bool false, .bool false, .int .i64 0] 25 (0, 0))) := fun w4 g4 c4 h1 h2 =>
        ⟨mok_app HI.out.1 ho2 hc2 hO hrc' h1 h2, (h2.block _ (by have := HM2'.out.2.2.2.2.2.1; omega) (fun e => by have := (World.ownsRow.lt HM2'.out.2.2.2.2.1) _ e.symm; omega)).trans HM2'.out.2.2.1⟩
      have HCH : Hid (Ch n f st1 (setl L k G') (k + 1) st' ∧ (∀ p, st' = some p → 0 ≤ p) ∧ ∀ i, i < k + 1 → (setl L k G' i).length ≤ 1048576) := ⟨HI.out.2.1.step hLR, hp', fun i hi => by
        by_cases e : i = k
        · subst e; rw [setl_at]; exact hGl'
        · rw [setl_ne _ _ _ e]; exact HI.out.2.2.2 i (by omega)⟩
      have hsl := scs_len L R k
      have hbs : w.heap.size + 1 + 1 + 1 ≤ (w2.alloc (.cells #[.slice ro' G'.length rc'] 22)).heap.size := HM2'.out.2.2.2.2.2.1
      obtain ⟨⟨m0, m1, m2, m3, m4, m5⟩, mz⟩ := HM2.out.cells
      have hlt2 : w.heap.size + 1 + 1 < w2.heap.size := by have := HM2.out.2.2.2.2.2.1; omega
      clear hcall hown hO ho2 hc2 hLR hp' HI m0 m2 m3 m4 m5 mz hrc'
      go_wp2_with (first
        | (at_builtin; refine wpList_append_lies _ rfl _ _ 23 rfl (w.heap.size + 1 + 1 + 1) 22 i0 (.slice none 0 0) 1 24 Tryz.underlying23 hi hz0 hz1 hz2 rfl (by decide) _ _ _ rfl HM2'.out.2.2.2.2.1 ⟨w2.heap.size, 0, none⟩ 1 1 [.slice ro' G'.length rc'] rfl rfl (gcells w2 [.slice ro' G'.length rc'] 22) (fun u hu => by simp at hu; subst hu; rfl) (by decide) (glens (by omega)) (by omega) hbs _ rfl ?_; intro g4 c4 w4 hown4 hgrow4 hat4 hlt4; have HR := hide (HAP.out w4 g4 c4 hown4 hgrow4).1; have hz4 := (HAP.out w4 g4 c4 hown4 hgrow4).2; have n1 : w4.cell? ⟨w.heap.size + 1 + 1, 1, none⟩ = some bv := mblk hz4 rfl; have nz : ∀ i, w4.frozen? ⟨w.heap.size + 1 + 1, i, none⟩ = false := (fun i => by simp [World.frozen?, hz4]); clear hown4 hgrow4 hat4 hz4))
      go_roundw
      case rel => exact ⟨k + 1, _, _, _, st', by omega, by go_num, HR.out, HCH.out⟩
      case measure => simp [intOf]; omega
    · obtain rfl : k = 3 := by omega
      obtain ⟨bo, bc, rfl⟩ := HI.out.1.form
      have hkf : ¬ ((3 : Nat) : Int) < 3 := by omega
      go_wp2_with fail
      refine (num_any (w.heap.size + 1) ao n cap f st _ hn (HS.out.below HI.out.1.2.2.2.2.2.2) HF.out HI.out.1.2.1).mono ?_
      rintro e w5 ⟨rfl, hc5, ho5⟩
      have HM5 := hide (HI.out.1.read (OnlyG.of_only ho5) hc5)
      have HQ := hide HI.out.2
      clear hc5 ho5 HI
      obtain ⟨⟨m0, m1, m2, m3, m4, m5⟩, mz⟩ := HM5.out.cells
      have hX := krdv_pos n f st
      obtain ⟨X, hXe⟩ : ∃ X, rdv n f st = X := ⟨_, rfl⟩
      have HXE := hide hXe
      rw [hXe] at hX ⊢
      clear hXe
      have HM6 := hide (mok_set (mok_set (mok_set HM5.out 2 (.bool (bits .and .i64 X 1 != 0)) rfl) 3 (.bool (bits .and .i64 X 2 != 0)) rfl) 4 (.bool (bits .and .i64 X 4 != 0)) rfl)
      go_wp2_with fail
      obtain ⟨F1, hF1⟩ : ∃ F1, F1 = (bits .and .i64 X 1 != 0) := ⟨_, rfl⟩
      obtain ⟨F2, hF2⟩ : ∃ F2, F2 = (bits .and .i64 X 2 != 0) := ⟨_, rfl⟩
      obtain ⟨F3, hF3⟩ : ∃ F3, F3 = (bits .and .i64 X 4 != 0) := ⟨_, rfl⟩
      have HFF : Hid (FBs X F1 F2 F3) := ⟨hF1, hF2, hF3⟩
      rw [← hF1, ← hF2, ← hF3] at HM6 ⊢
      generalize bits BinOp.and IntKind.i64 X 1 = A1 at *
      generalize bits BinOp.and IntKind.i64 X 2 = A2 at *
      generalize bits BinOp.and IntKind.i64 X 4 = A3 at *
      generalize ((w5.setCell ⟨w.heap.size + 1 + 1, 2, none⟩ (.bool F1)).setCell ⟨w.heap.size + 1 + 1, 3, none⟩ (.bool F2)).setCell ⟨w.heap.size + 1 + 1, 4, none⟩ (.bool F3) = w6 at *
      clear hF1 hF2 hF3 HM5 m0 m1 m2 m3 m4 m5 mz
      refine (num_any (w.heap.size + 1) ao n cap f (nx n f st) _ hn (HS.out.below HM6.out.2.2.2.2.2.2) HF.out HM6.out.2.1).mono ?_
      rintro e w7 ⟨rfl, hc7, ho7⟩
      have HM7 := hide (HM6.out.read (OnlyG.of_only ho7) hc7)
      obtain ⟨⟨m0, m1, m2, m3, m4, m5⟩, mz⟩ := HM7.out.cells
      obtain ⟨Y, hYe⟩ : ∃ Y, rdv n f (nx n f st) = Y := ⟨_, rfl⟩
      have HYE := hide hYe
      rw [hYe]
      have HM8 := hide (mok_set HM7.out 5 (.int .i64 Y) rfl)
      clear hc7 ho7 hYe HM6
      go_wp2_with fail
      generalize w7.setCell ⟨w.heap.size + 1 + 1, 5, none⟩ (.int .i64 Y) = w8 at *
      clear m0 m1 m2 m3 m4 m5 mz HM7
      have HMD := hide (HM8.out.below (Below.drawn (Below.refl w8.heap.size w8) 1))
      have hcu := HMD.out.cur
      obtain ⟨r0, r1, r2, r3, r4, r5⟩ := HM8.out.1.cells
      have rz := HM8.out.1.froz
      have HRD : Hid (∀ w', Below w.heap.size w w' → Below w.heap.size w w') := fun _ h => h
      cases hs6 : (nx n f (nx n f st)).isSome with
      | false =>
        rw [hs6] at hcu
        have HN : Hid (¬ ∃ g L fi ol he la, MtIs ((List.range n).map f) g L fi ol he la) := fun ⟨g', L', fi', ol', he', la', h⟩ => by
          have := (read_is HLR0.out HQ.out.1 h).2.2.2.2
          rw [hs6] at this
          cases this
        have HBD := hide HM8.out.2.2.2.2.2.2
        clear hs6 HMD HM8 HQ HXE HYE HFF
        go_wp2_with fail
        refine wp_region_held_drew (S := (fun w' => w'.cell? ⟨w.heap.size + 1, 2, none⟩ = some (.bool false))) (by kernel_rfl) ?_ (fun hHeld => ?_)
        · exact hcu
        refine wpAnyH_take (i := 0) (oi := { dst := some 45, op := Op.move (Operand.tmp 4), type := 213, pos := "l05_meta.go:64", after := #[], guard := none }) (v := ?_) rfl (by kernel_rfl) (by kernel_rfl) (by kernel_rfl) (fun _ _ _ h => h) (Or.inl ⟨by rfl, ?_⟩) (by assumption) ?_
        rotate_left 1
        · (intro wq hSw; (try dsimp only at hSw); go_simp; try with_reducible rfl)
        try simp only [Act.put, ly1, ly2, ly3]
        refine wpAnyH_take (i := 1) (oi := { dst := some 46, op := Op.nilCheck (Operand.tmp 45), type := 0, pos := "l05_meta.go:64", after := #[{ on := 0, ground := Ground.data }], guard := none }) (v := ?_) rfl (by kernel_rfl) (by kernel_rfl) (by kernel_rfl) (fun _ _ _ h => h) (Or.inl ⟨by rfl, ?_⟩) (by assumption) ?_
        rotate_left 1
        · (intro wq hSw; (try dsimp only at hSw); go_simp; try with_reducible rfl)
        try simp only [Act.put, ly1, ly2, ly3]
        refine wpAnyH_take (i := 2) (oi := { dst := some 47, op := Op.fieldAddr 215 (Operand.tmp 46) 2, type := 0, pos := "l05_meta.go:64", after := #[{ on := 1, ground := Ground.data }], guard := none }) (v := ?_) rfl (by kernel_rfl) (by kernel_rfl) (by kernel_rfl) (fun _ _ _ h => h) (Or.inl ⟨by rfl, ?_⟩) (by assumption) ?_
        rotate_left 1
        · (intro wq hSw; (try dsimp only at hSw); go_simp; try with_reducible rfl)
        try simp only [Act.put, ly1, ly2, ly3]
        refine wpAnyH_take (i := 3) (oi := { dst := some 48, op := Op.load 4 (Operand.tmp 47), type := 4, pos := "l05_meta.go:64", after := #[{ on := 2, ground := Ground.data }], guard := none }) (v := ?_) rfl (by kernel_rfl) (by kernel_rfl) (by kernel_rfl) (fun _ _ _ h => h) (Or.inl ⟨by rfl, ?_⟩) (by assumption) ?_
        rotate_left 1
        · (intro wq hSw; (try dsimp only at hSw); go_simp; try with_reducible rfl)
        try simp only [Act.put, ly1, ly2, ly3]
        refine wpAnyH_take (i := 4) (oi := { dst := some 49, op := Op.unOp UnOp.not 4 (Operand.tmp 48), type := 4, pos := "l05_meta.go:64", after := #[{ on := 3, ground := Ground.data }], guard := none }) (v := ?_) rfl (by kernel_rfl) (by kernel_rfl) (by kernel_rfl) (fun _ _ _ h => h) (Or.inl ⟨by rfl, ?_⟩) (by assumption) ?_
        rotate_left 1
        · (intro wq hSw; (try dsimp only at hSw); go_simp; try with_reducible rfl)
        try simp only [Act.put, ly1, ly2, ly3]
        refine wpAnyH_take (i := 5) (oi := { dst := some 50, op := Op.move (Operand.tmp 49), type := 4, pos := "l05_meta.go:64", after := #[{ on := 4, ground := Ground.data }], guard := none }) (v := ?_) rfl (by kernel_rfl) (by kernel_rfl) (by kernel_rfl) (fun _ _ _ h => h) (Or.inl ⟨by rfl, ?_⟩) (by assumption) ?_
        rotate_left 1
        · (intro wq hSw; (try dsimp only at hSw); go_simp; try with_reducible rfl)
        try simp only [Act.put, ly1, ly2, ly3]
        refine wpAnyH_take (i := 6) (oi := { dst := some 51, op := Op.load 25 (Operand.tmp 5), type := 25, pos := "l05_meta.go:64", after := #[{ on := 5, ground := Ground.guard }], guard := some (5, false) }) (v := undef) rfl (by kernel_rfl) (by kernel_rfl) (by kernel_rfl) (fun _ _ _ h => h) (Or.inr ⟨by rfl, rfl⟩) (by assumption) ?_
        try simp only [Act.put, ly1, ly2, ly3]
        refine wpAnyH_take (i := 7) (oi := { dst := some 52, op := Op.call { callee := Callee.value (Operand.func 199), args := #[Operand.tmp 51], argTypes := #[25] }, type := 26, pos := "l05_meta.go:64", after := #[{ on := 6, ground := Ground.data }, { on := 5, ground := Ground.chain }, { on := 5, ground := Ground.guard }], guard := some (5, false) }) (v := undef) rfl (by kernel_rfl) (by kernel_rfl) (by kernel_rfl) (fun _ _ _ h => h) (Or.inr ⟨by rfl, rfl⟩) (by assumption) ?_
        try simp only [Act.put, ly1, ly2, ly3]
        refine wpAnyH_take (i := 8) (oi := { dst := some 53, op := Op.convert 26 9 (Operand.tmp 52), type := 9, pos := "l05_meta.go:64", after := #[{ on := 7, ground := Ground.data }, { on := 5, ground := Ground.guard }], guard := some (5, false) }) (v := undef) rfl (by kernel_rfl) (by kernel_rfl) (by kernel_rfl) (fun _ _ _ h => h) (Or.inr ⟨by rfl, rfl⟩) (by assumption) ?_
        try simp only [Act.put, ly1, ly2, ly3]
        refine wpAnyH_take (i := 9) (oi := { dst := some 54, op := Op.move (Operand.tmp 0), type := 26, pos := "l05_meta.go:64", after := #[{ on := 5, ground := Ground.guard }], guard := some (5, false) }) (v := undef) rfl (by kernel_rfl) (by kernel_rfl) (by kernel_rfl) (fun _ _ _ h => h) (Or.inr ⟨by rfl, rfl⟩) (by assumption) ?_
        try simp only [Act.put, ly1, ly2, ly3]
        refine wpAnyH_take (i := 10) (oi := { dst := some 55, op := Op.convert 26 9 (Operand.tmp 54), type := 9, pos := "l05_meta.go:64", after := #[{ on := 9, ground := Ground.data }, { on := 5, ground := Ground.guard }], guard := some (5, false) }) (v := undef) rfl (by kernel_rfl) (by kernel_rfl) (by kernel_rfl) (fun _ _ _ h => h) (Or.inr ⟨by rfl, rfl⟩) (by assumption) ?_
        try simp only [Act.put, ly1, ly2, ly3]
        refine wpAnyH_take (i := 11) (oi := { dst := some 56, op := Op.binOp BinOp.neq 9 (Operand.tmp 53) (Operand.tmp 55) 9, type := 4, pos := "l05_meta.go:64", after := #[{ on := 8, ground := Ground.data }, { on := 10, ground := Ground.data }, { on := 5, ground := Ground.guard }], guard := some (5, false) }) (v := undef) rfl (by kernel_rfl) (by kernel_rfl) (by kernel_rfl) (fun _ _ _ h => h) (Or.inr ⟨by rfl, rfl⟩) (by assumption) ?_
        try simp only [Act.put, ly1, ly2, ly3]
        refine wpAnyH_take (i := 12) (oi := { dst := some 57, op := Op.pick (Operand.tmp 50) (Operand.const (Value.bool true)) (Operand.tmp 56), type := 4, pos := "l05_meta.go:64", after := #[{ on := 5, ground := Ground.data }, { on := 11, ground := Ground.data }], guard := none }) (v := ?_) rfl (by kernel_rfl) (by kernel_rfl) (by kernel_rfl) (fun _ _ _ h => h) (Or.inl ⟨by rfl, ?_⟩) (by assumption) ?_
        rotate_left 1
        · (intro wq hSw; (try dsimp only at hSw); go_simp; try with_reducible rfl)
        try simp only [Act.put, ly1, ly2, ly3]
        refine wpAnyH_take (i := 13) (oi := { dst := some 58, op := Op.move (Operand.tmp 57), type := 4, pos := "l05_meta.go:64", after := #[{ on := 12, ground := Ground.data }, { on := 7, ground := Ground.chain }], guard := none }) (v := ?_) rfl (by kernel_rfl) (by kernel_rfl) (by kernel_rfl) (fun _ _ _ h => h) (Or.inl ⟨by rfl, ?_⟩) (by assumption) ?_
        rotate_left 1
        · (intro wq hSw; (try dsimp only at hSw); go_simp; try with_reducible rfl)
        try simp only [Act.put, ly1, ly2, ly3]
        refine wpAnyH_take (i := 14) (oi := { dst := some 59, op := Op.move (Operand.tmp 0), type := 26, pos := "l05_meta.go:64", after := #[{ on := 13, ground := Ground.guard }], guard := some (13, false) }) (v := undef) rfl (by kernel_rfl) (by kernel_rfl) (by kernel_rfl) (fun _ _ _ h => h) (Or.inr ⟨by rfl, rfl⟩) (by assumption) ?_
        try simp only [Act.put, ly1, ly2, ly3]
        refine wpAnyH_take (i := 15) (oi := { dst := some 60, op := Op.call { callee := Callee.builtin Builtin.len, args := #[Operand.tmp 59], argTypes := #[26] }, type := 3, pos := "l05_meta.go:64", after := #[{ on := 14, ground := Ground.data }, { on := 13, ground := Ground.guard }], guard := some (13, false) }) (v := undef) rfl (by kernel_rfl) (by kernel_rfl) (by kernel_rfl) (fun _ _ _ h => h) (Or.inr ⟨by rfl, rfl⟩) (by assumption) ?_
        try simp only [Act.put, ly1, ly2, ly3]
        refine wpAnyH_take (i := 16) (oi := { dst := some 61, op := Op.binOp BinOp.eql 3 (Operand.tmp 60) (Operand.const (Value.int IntKind.i64 0)) 3, type := 4, pos := "l05_meta.go:64", after := #[{ on := 15, ground := Ground.data }, { on := 13, ground := Ground.guard }], guard := some (13, false) }) (v := undef) rfl (by kernel_rfl) (by kernel_rfl) (by kernel_rfl) (fun _ _ _ h => h) (Or.inr ⟨by rfl, rfl⟩) (by assumption) ?_
        try simp only [Act.put, ly1, ly2, ly3]
        refine wpAnyH_take (i := 17) (oi := { dst := some 62, op := Op.pick (Operand.tmp 58) (Operand.const (Value.bool true)) (Operand.tmp 61), type := 4, pos := "l05_meta.go:64", after := #[{ on := 13, ground := Ground.data }, { on := 16, ground := Ground.data }], guard := none }) (v := ?_) rfl (by kernel_rfl) (by kernel_rfl) (by kernel_rfl) (fun _ _ _ h => h) (Or.inl ⟨by rfl, ?_⟩) (by assumption) ?_
        rotate_left 1
        · (intro wq hSw; (try dsimp only at hSw); go_simp; try with_reducible rfl)
        try simp only [Act.put, ly1, ly2, ly3]
        refine wpAnyH_done (by kernel_rfl) ?_ _
        go_wp2
        refine bodyPost_ret (v := .tuple #[.agg #[.slice none 0 0, .slice none 0 0, .bool false, .bool false, .bool false, .int .i64 0], .bool false]) (by simp [results, Tryz.results233, go_sem, r0, r1, r2, r3, r4, r5]) rfl ?_
        refine ⟨.inr ⟨HN.out, rfl⟩, ?_⟩
        refine Below.drawn ?_ 1
        iterate 6 (refine Below.setCell ?_ (by show w.heap.size ≤ w.heap.size; omega) _)
        exact HBD.out
      | true =>
        rw [hs6] at hcu
        clear hs6
        have hlen : ((List.range n).map f).length = n := by simp
        have hbB : ∀ z ∈ (List.range n).map f, 0 ≤ z ∧ z ≤ 255 := fun z hz => by
          simp only [List.mem_map, List.mem_range] at hz
          obtain ⟨i, hi, rfl⟩ := hz
          exact HF.out i hi
        have HRI : Hid (∀ g' L' fi' ol' he' la', MtIs ((List.range n).map f) g' L' fi' ol' he' la' → MtIs ((List.range n).map f) G L F1 F2 F3 Y) := fun g' L' fi' ol' he' la' h => by
          obtain ⟨e1, e2, e3, e4, _⟩ := read_is HLR0.out HQ.out.1 h
          rw [HXE.out] at e3
          rw [HYE.out] at e4
          obtain ⟨f1, f2, f3⟩ := HFF.out
          rw [e3] at f1 f2 f3
          obtain ⟨q1, q2, q3⟩ := fb_flg fi' ol' he'
          rw [q1] at f1
          rw [q2] at f2
          rw [q3] at f3
          subst e1 f1 f2 f3 e4
          exact ⟨mtok_congr e2 h.1, by rw [mseq_congr e2]; exact h.2⟩
        generalize hBl : (List.range n).map f = Bl at *
        have HBl := hide hBl
        obtain ⟨tB, htB⟩ : ∃ tB, tB = bstr Bl := ⟨_, rfl⟩
        obtain ⟨sP, hsP⟩ : ∃ sP, sP = bstr ((mtb Classical.propDecidable) G 3 L F1 F2 F3 Y) := ⟨_, rfl⟩
        have hcvB : Hid (∀ W, Below w.heap.size w W → (convert 26 9 (.slice ao n cap)).run Tryz.prog W = .ok (.string tB) W) := fun W hW => by
          have := conv_str (L := Bl) (ao := ao) (cap := cap) (w := W) (by
            rw [hlen]
            intro i hi
            obtain ⟨b, off, e, hl, hc⟩ := (HS.out.below hW) i hi
            exact ⟨b, off, e, hl, by rw [hc, ← hBl]; simp [List.getD, hi]⟩) hbB
          rw [hlen, ← htB] at this
          exact this
        have hpk : Hid (∀ W, MoK w W ao n cap (nx n f (nx n f st)) ro rc G 3 L R (.slice bo 3 bc) F1 F2 F3 Y → Calls Tryz.prog 199 #[.agg #[.slice ro G.length rc, .slice bo 3 bc, .bool F1, .bool F2, .bool F3, .int .i64 Y]] W fun e w' => ∃ ao3 c3, e = .returned (.slice ao3 ((mtb Classical.propDecidable) G 3 L F1 F2 F3 Y).length c3) ∧ (convert 26 9 (.slice ao3 ((mtb Classical.propDecidable) G 3 L F1 F2 F3 Y).length c3)).run Tryz.prog w' = .ok (.string sP) w' ∧ MoK w w' ao n cap (nx n f (nx n f st)) ro rc G 3 L R (.slice bo 3 bc) F1 F2 F3 Y) := fun W hW => (mtbytes_spec ro bo rc bc G 3 L F1 F2 F3 Y W ⟨hGl, by omega, HQ.out.2.2⟩ hW.okm.mv).mono fun e w' => by
          rintro ⟨v, rfl, ho, hb⟩
          obtain ⟨ao3, c3, rfl, _, ho'⟩ := Own.of_owns ho
          exact ⟨ao3, c3, rfl, by rw [hsP]; exact conv_str ho'.sl (mtb_byte _ _ _ _ _ _ _), hW.below hb⟩
        have HS0 : Hid (w8.drew.cell? ⟨w.heap.size + 1, 2, none⟩ = some (.bool true) ∧ (w8.drew.cell? ⟨w.heap.size + 1 + 1, 0, none⟩ = some (.slice ro G.length rc) ∧ w8.drew.cell? ⟨w.heap.size + 1 + 1, 1, none⟩ = some (.slice bo 3 bc) ∧ w8.drew.cell? ⟨w.heap.size + 1 + 1, 2, none⟩ = some (.bool F1) ∧ w8.drew.cell? ⟨w.heap.size + 1 + 1, 3, none⟩ = some (.bool F2) ∧ w8.drew.cell? ⟨w.heap.size + 1 + 1, 4, none⟩ = some (.bool F3) ∧ w8.drew.cell? ⟨w.heap.size + 1 + 1, 5, none⟩ = some (.int .i64 Y)) ∧ (convert 26 9 (.slice ao n cap)).run Tryz.prog w8.drew = .ok (.string tB) w8.drew) := ⟨hcu, HMD.out.cells.1, hcvB.out _ HMD.out.2.2.2.2.2.2⟩
        have HSK : Hid (∀ W, MoK w W ao n cap (nx n f (nx n f st)) ro rc G 3 L R (.slice bo 3 bc) F1 F2 F3 Y → W.cell? ⟨w.heap.size + 1, 2, none⟩ = some (.bool true) → W.cell? ⟨w.heap.size + 1, 2, none⟩ = some (.bool true) ∧ (W.cell? ⟨w.heap.size + 1 + 1, 0, none⟩ = some (.slice ro G.length rc) ∧ W.cell? ⟨w.heap.size + 1 + 1, 1, none⟩ = some (.slice bo 3 bc) ∧ W.cell? ⟨w.heap.size + 1 + 1, 2, none⟩ = some (.bool F1) ∧ W.cell? ⟨w.heap.size + 1 + 1, 3, none⟩ = some (.bool F2) ∧ W.cell? ⟨w.heap.size + 1 + 1, 4, none⟩ = some (.bool F3) ∧ W.cell? ⟨w.heap.size + 1 + 1, 5, none⟩ = some (.int .i64 Y)) ∧ (convert 26 9 (.slice ao n cap)).run Tryz.prog W = .ok (.string tB) W) := fun W hW hq => ⟨hq, hW.cells.1, hcvB.out _ hW.2.2.2.2.2.2⟩
        have HCU : Hid (∀ W, MoK w W ao n cap (nx n f (nx n f st)) ro rc G 3 L R (.slice bo 3 bc) F1 F2 F3 Y → W.cell? ⟨w.heap.size + 1, 2, none⟩ = some (.bool true)) := fun W hW => by
          have h1 := hW.cur
          have h2 := HMD.out.cur
          rw [hcu] at h2
          rw [h1]
          exact h2.symm
        by_cases hpe : (mtb Classical.propDecidable) G 3 L F1 F2 F3 Y = Bl
        · obtain rfl : tB = sP := by rw [hsP, htB, hpe]
          have HPE := hide hpe
          clear htB hsP hbB hpe HM8 hBl hcu
          by_cases hn0 : n = 0
          · have HN0 := hide hn0
            have HN : Hid (¬ ∃ g L fi ol he la, MtIs Bl g L fi ol he la) := fun ⟨g', L', fi', ol', he', la', h⟩ => by
              have : Bl = [] := List.length_eq_zero_iff.1 (by omega)
              exact mseq_ne _ _ _ _ _ _ (h.2.trans this)
            have d0 : decide ((n : Int) = 0) = true := decide_eq_true (by omega)
            have d1 : ((n : Int) == 0) = true := by simp; omega
            clear HRI HPE hlen hn0
            go_wp2_with fail
            refine wp_region_held_drew (S := (fun w' => w'.cell? ⟨w.heap.size + 1, 2, none⟩ = some (.bool true) ∧ (w'.cell? ⟨w.heap.size + 1 + 1, 0, none⟩ = some (.slice ro G.length rc) ∧ w'.cell? ⟨w.heap.size + 1 + 1, 1, none⟩ = some (.slice bo 3 bc) ∧ w'.cell? ⟨w.heap.size + 1 + 1, 2, none⟩ = some (.bool F1) ∧ w'.cell? ⟨w.heap.size + 1 + 1, 3, none⟩ = some (.bool F2) ∧ w'.cell? ⟨w.heap.size + 1 + 1, 4, none⟩ = some (.bool F3) ∧ w'.cell? ⟨w.heap.size + 1 + 1, 5, none⟩ = some (.int .i64 Y)) ∧ (convert 26 9 (.slice ao n cap)).run Tryz.prog w' = .ok (.string tB) w')) (by kernel_rfl) ?_ (fun hHeld => ?_)
            · exact HS0.out
            refine wpAnyH_take (i := 0) (oi := { dst := some 45, op := Op.move (Operand.tmp 4), type := 213, pos := "l05_meta.go:64", after := #[], guard := none }) (v := ?_) rfl (by kernel_rfl) (by kernel_rfl) (by kernel_rfl) (fun _ _ _ h => h) (Or.inl ⟨by rfl, ?_⟩) (by assumption) ?_
            rotate_left 1
            · (intro wq hSw; (try dsimp only at hSw); go_simp; try with_reducible rfl)
            try simp only [Act.put, ly1, ly2, ly3]
            refine wpAnyH_take (i := 1) (oi := { dst := some 46, op := Op.nilCheck (Operand.tmp 45), type := 0, pos := "l05_meta.go:64", after := #[{ on := 0, ground := Ground.data }], guard := none }) (v := ?_) rfl (by kernel_rfl) (by kernel_rfl) (by kernel_rfl) (fun _ _ _ h => h) (Or.inl ⟨by rfl, ?_⟩) (by assumption) ?_
            rotate_left 1
            · (intro wq hSw; (try dsimp only at hSw); go_simp; try with_reducible rfl)
            try simp only [Act.put, ly1, ly2, ly3]
            refine wpAnyH_take (i := 2) (oi := { dst := some 47, op := Op.fieldAddr 215 (Operand.tmp 46) 2, type := 0, pos := "l05_meta.go:64", after := #[{ on := 1, ground := Ground.data }], guard := none }) (v := ?_) rfl (by kernel_rfl) (by kernel_rfl) (by kernel_rfl) (fun _ _ _ h => h) (Or.inl ⟨by rfl, ?_⟩) (by assumption) ?_
            rotate_left 1
            · (intro wq hSw; (try dsimp only at hSw); go_simp; try with_reducible rfl)
            try simp only [Act.put, ly1, ly2, ly3]
            refine wpAnyH_take (i := 3) (oi := { dst := some 48, op := Op.load 4 (Operand.tmp 47), type := 4, pos := "l05_meta.go:64", after := #[{ on := 2, ground := Ground.data }], guard := none }) (v := ?_) rfl (by kernel_rfl) (by kernel_rfl) (by kernel_rfl) (fun _ _ _ h => h) (Or.inl ⟨by rfl, ?_⟩) (by assumption) ?_
            rotate_left 1
            · (intro wq hSw; (try dsimp only at hSw); go_simp; try with_reducible rfl)
            try simp only [Act.put, ly1, ly2, ly3]
            refine wpAnyH_take (i := 4) (oi := { dst := some 49, op := Op.unOp UnOp.not 4 (Operand.tmp 48), type := 4, pos := "l05_meta.go:64", after := #[{ on := 3, ground := Ground.data }], guard := none }) (v := ?_) rfl (by kernel_rfl) (by kernel_rfl) (by kernel_rfl) (fun _ _ _ h => h) (Or.inl ⟨by rfl, ?_⟩) (by assumption) ?_
            rotate_left 1
            · (intro wq hSw; (try dsimp only at hSw); go_simp; try with_reducible rfl)
            try simp only [Act.put, ly1, ly2, ly3]
            refine wpAnyH_take (i := 5) (oi := { dst := some 50, op := Op.move (Operand.tmp 49), type := 4, pos := "l05_meta.go:64", after := #[{ on := 4, ground := Ground.data }], guard := none }) (v := ?_) rfl (by kernel_rfl) (by kernel_rfl) (by kernel_rfl) (fun _ _ _ h => h) (Or.inl ⟨by rfl, ?_⟩) (by assumption) ?_
            rotate_left 1
            · (intro wq hSw; (try dsimp only at hSw); go_simp; try with_reducible rfl)
            try simp only [Act.put, ly1, ly2, ly3]
            refine wpAnyH_take (i := 6) (oi := { dst := some 51, op := Op.load 25 (Operand.tmp 5), type := 25, pos := "l05_meta.go:64", after := #[{ on := 5, ground := Ground.guard }], guard := some (5, false) }) (v := ?_) rfl (by kernel_rfl) (by kernel_rfl) (by kernel_rfl) (fun _ _ _ h => h) (Or.inl ⟨by rfl, ?_⟩) (by assumption) ?_
            rotate_left 1
            · (intro wq hSw; (try dsimp only at hSw); go_simp; try with_reducible rfl)
            try simp only [Act.put, ly1, ly2, ly3]
            refine wpAnyH_take (i := 9) (oi := { dst := some 54, op := Op.move (Operand.tmp 0), type := 26, pos := "l05_meta.go:64", after := #[{ on := 5, ground := Ground.guard }], guard := some (5, false) }) (v := ?_) rfl (by kernel_rfl) (by kernel_rfl) (by kernel_rfl) (fun _ _ _ h => h) (Or.inl ⟨by rfl, ?_⟩) (by assumption) ?_
            rotate_left 1
            · (intro wq hSw; (try dsimp only at hSw); go_simp; try with_reducible rfl)
            try simp only [Act.put, ly1, ly2, ly3]
            refine wpAnyH_take (i := 10) (oi := { dst := some 55, op := Op.convert 26 9 (Operand.tmp 54), type := 9, pos := "l05_meta.go:64", after := #[{ on := 9, ground := Ground.data }, { on := 5, ground := Ground.guard }], guard := some (5, false) }) (v := ?_) rfl (by kernel_rfl) (by kernel_rfl) (by kernel_rfl) (fun _ _ _ h => h) (Or.inl ⟨by rfl, ?_⟩) (by assumption) ?_
            rotate_left 1
            · (intro wq hSw; (try dsimp only at hSw); go_simp; try with_reducible rfl)
            try simp only [Act.put, ly1, ly2, ly3]
            refine wpAnyH_ready (rs := [7]) (by kernel_rfl) (by simp) ?_
            refine AllReadyH.cons (o := { dst := some 52, op := Op.call { callee := Callee.value (Operand.func 199), args := #[Operand.tmp 51], argTypes := #[25] }, type := 26, pos := "l05_meta.go:64", after := #[{ on := 6, ground := Ground.data }, { on := 5, ground := Ground.chain }, { on := 5, ground := Ground.guard }], guard := some (5, false) }) rfl (fun K hK => ?_) AllReadyH.nil
            go_simp
            refine (hpk.out _ HMD.out).mono ?_
            rintro e w3 ⟨ao3, c3, rfl, hc3, hm3⟩
            have H3 := hide hm3
            have hk3 := HSK.out w3 hm3 (HCU.out w3 hm3)
            clear hm3
            go_wp2_with fail
            refine hK.out _ _ ?_ (fun hHeld => ?_)
            · exact hk3
            clear hK K
            try simp only [Act.put, ly1, ly2, ly3]
            refine wpAnyH_ready (rs := [8]) (by kernel_rfl) (by simp) ?_
            refine AllReadyH.cons (o := { dst := some 53, op := Op.convert 26 9 (Operand.tmp 52), type := 9, pos := "l05_meta.go:64", after := #[{ on := 7, ground := Ground.data }, { on := 5, ground := Ground.guard }], guard := some (5, false) }) rfl (fun K hK => ?_) AllReadyH.nil
            go_simp
            refine hK.out _ _ ?_ (fun hHeld => ?_)
            · exact hk3
            clear hK K
            try simp only [Act.put, ly1, ly2, ly3]
            refine wpAnyH_take (i := 11) (oi := { dst := some 56, op := Op.binOp BinOp.neq 9 (Operand.tmp 53) (Operand.tmp 55) 9, type := 4, pos := "l05_meta.go:64", after := #[{ on := 8, ground := Ground.data }, { on := 10, ground := Ground.data }, { on := 5, ground := Ground.guard }], guard := some (5, false) }) (v := ?_) rfl (by kernel_rfl) (by kernel_rfl) (by kernel_rfl) (fun _ _ _ h => h) (Or.inl ⟨by rfl, ?_⟩) (by assumption) ?_
            rotate_left 1
            · (intro wq hSw; (try dsimp only at hSw); go_simp; try with_reducible rfl)
            try simp only [Act.put, ly1, ly2, ly3]
            refine wpAnyH_take (i := 12) (oi := { dst := some 57, op := Op.pick (Operand.tmp 50) (Operand.const (Value.bool true)) (Operand.tmp 56), type := 4, pos := "l05_meta.go:64", after := #[{ on := 5, ground := Ground.data }, { on := 11, ground := Ground.data }], guard := none }) (v := ?_) rfl (by kernel_rfl) (by kernel_rfl) (by kernel_rfl) (fun _ _ _ h => h) (Or.inl ⟨by rfl, ?_⟩) (by assumption) ?_
            rotate_left 1
            · (intro wq hSw; (try dsimp only at hSw); go_simp; try with_reducible rfl)
            try simp only [Act.put, ly1, ly2, ly3]
            refine wpAnyH_take (i := 13) (oi := { dst := some 58, op := Op.move (Operand.tmp 57), type := 4, pos := "l05_meta.go:64", after := #[{ on := 12, ground := Ground.data }, { on := 7, ground := Ground.chain }], guard := none }) (v := ?_) rfl (by kernel_rfl) (by kernel_rfl) (by kernel_rfl) (fun _ _ _ h => h) (Or.inl ⟨by rfl, ?_⟩) (by assumption) ?_
            rotate_left 1
            · (intro wq hSw; (try dsimp only at hSw); go_simp; try with_reducible rfl)
            try simp only [Act.put, ly1, ly2, ly3]
            refine wpAnyH_take (i := 14) (oi := { dst := some 59, op := Op.move (Operand.tmp 0), type := 26, pos := "l05_meta.go:64", after := #[{ on := 13, ground := Ground.guard }], guard := some (13, false) }) (v := ?_) rfl (by kernel_rfl) (by kernel_rfl) (by kernel_rfl) (fun _ _ _ h => h) (Or.inl ⟨by rfl, ?_⟩) (by assumption) ?_
            rotate_left 1
            · (intro wq hSw; (try dsimp only at hSw); go_simp; try with_reducible rfl)
            try simp only [Act.put, ly1, ly2, ly3]
            refine wpAnyH_take (i := 15) (oi := { dst := some 60, op := Op.call { callee := Callee.builtin Builtin.len, args := #[Operand.tmp 59], argTypes := #[26] }, type := 3, pos := "l05_meta.go:64", after := #[{ on := 14, ground := Ground.data }, { on := 13, ground := Ground.guard }], guard := some (13, false) }) (v := ?_) rfl (by kernel_rfl) (by kernel_rfl) (by kernel_rfl) (fun _ _ _ h => h) (Or.inl ⟨by rfl, ?_⟩) (by assumption) ?_
            rotate_left 1
            · (intro wq hSw; (try dsimp only at hSw); go_simp; try with_reducible rfl)
            try simp only [Act.put, ly1, ly2, ly3]
            refine wpAnyH_take (i := 16) (oi := { dst := some 61, op := Op.binOp BinOp.eql 3 (Operand.tmp 60) (Operand.const (Value.int IntKind.i64 0)) 3, type := 4, pos := "l05_meta.go:64", after := #[{ on := 15, ground := Ground.data }, { on := 13, ground := Ground.guard }], guard := some (13, false) }) (v := ?_) rfl (by kernel_rfl) (by kernel_rfl) (by kernel_rfl) (fun _ _ _ h => h) (Or.inl ⟨by rfl, ?_⟩) (by assumption) ?_
            rotate_left 1
            · (intro wq hSw; (try dsimp only at hSw); go_simp; try with_reducible rfl)
            try simp only [Act.put, ly1, ly2, ly3]
            refine wpAnyH_take (i := 17) (oi := { dst := some 62, op := Op.pick (Operand.tmp 58) (Operand.const (Value.bool true)) (Operand.tmp 61), type := 4, pos := "l05_meta.go:64", after := #[{ on := 13, ground := Ground.data }, { on := 16, ground := Ground.data }], guard := none }) (v := ?_) rfl (by kernel_rfl) (by kernel_rfl) (by kernel_rfl) (fun _ _ _ h => h) (Or.inl ⟨by rfl, ?_⟩) (by assumption) ?_
            rotate_left 1
            · (intro wq hSw; (try dsimp only at hSw); go_simp; try with_reducible rfl)
            try simp only [Act.put, ly1, ly2, ly3]
            refine wpAnyH_done (by kernel_rfl) ?_ _
            obtain ⟨r0, r1, r2, r3, r4, r5⟩ := H3.out.1.cells
            have rz := H3.out.1.froz
            go_wp2
            refine bodyPost_ret (v := .tuple #[.agg #[.slice none 0 0, .slice none 0 0, .bool false, .bool false, .bool false, .int .i64 0], .bool false]) (by simp [results, Tryz.results233, go_sem, r0, r1, r2, r3, r4, r5]) rfl ?_
            rw [HBl.out]
            refine ⟨.inr ⟨HN.out, rfl⟩, ?_⟩
            iterate 6 (refine Below.setCell ?_ (by show w.heap.size ≤ w.heap.size; omega) _)
            exact H3.out.2.2.2.2.2.2
          · have HY : Hid (MtIs Bl G L F1 F2 F3 Y) := by
              by_cases hok : MtOk G 3 L F2 F3 Y
              · exact ⟨hok, by rw [← mtb_yes hok]; exact HPE.out⟩
              · have := HPE.out
                rw [mtb_no hok] at this
                rw [← this] at hlen
                exact absurd hlen.symm hn0
            have d0 : decide ((n : Int) = 0) = false := decide_eq_false (by omega)
            have d1 : ((n : Int) == 0) = false := by simp; omega
            clear HRI HPE hlen hn0
            go_wp2_with fail
            refine wp_region_held_drew (S := (fun w' => w'.cell? ⟨w.heap.size + 1, 2, none⟩ = some (.bool true) ∧ (w'.cell? ⟨w.heap.size + 1 + 1, 0, none⟩ = some (.slice ro G.length rc) ∧ w'.cell? ⟨w.heap.size + 1 + 1, 1, none⟩ = some (.slice bo 3 bc) ∧ w'.cell? ⟨w.heap.size + 1 + 1, 2, none⟩ = some (.bool F1) ∧ w'.cell? ⟨w.heap.size + 1 + 1, 3, none⟩ = some (.bool F2) ∧ w'.cell? ⟨w.heap.size + 1 + 1, 4, none⟩ = some (.bool F3) ∧ w'.cell? ⟨w.heap.size + 1 + 1, 5, none⟩ = some (.int .i64 Y)) ∧ (convert 26 9 (.slice ao n cap)).run Tryz.prog w' = .ok (.string tB) w')) (by kernel_rfl) ?_ (fun hHeld => ?_)
            · exact HS0.out
            refine wpAnyH_take (i := 0) (oi := { dst := some 45, op := Op.move (Operand.tmp 4), type := 213, pos := "l05_meta.go:64", after := #[], guard := none }) (v := ?_) rfl (by kernel_rfl) (by kernel_rfl) (by kernel_rfl) (fun _ _ _ h => h) (Or.inl ⟨by rfl, ?_⟩) (by assumption) ?_
            rotate_left 1
            · (intro wq hSw; (try dsimp only at hSw); go_simp; try with_reducible rfl)
            try simp only [Act.put, ly1, ly2, ly3]
            refine wpAnyH_take (i := 1) (oi := { dst := some 46, op := Op.nilCheck (Operand.tmp 45), type := 0, pos := "l05_meta.go:64", after := #[{ on := 0, ground := Ground.data }], guard := none }) (v := ?_) rfl (by kernel_rfl) (by kernel_rfl) (by kernel_rfl) (fun _ _ _ h => h) (Or.inl ⟨by rfl, ?_⟩) (by assumption) ?_
            rotate_left 1
            · (intro wq hSw; (try dsimp only at hSw); go_simp; try with_reducible rfl)
            try simp only [Act.put, ly1, ly2, ly3]
            refine wpAnyH_take (i := 2) (oi := { dst := some 47, op := Op.fieldAddr 215 (Operand.tmp 46) 2, type := 0, pos := "l05_meta.go:64", after := #[{ on := 1, ground := Ground.data }], guard := none }) (v := ?_) rfl (by kernel_rfl) (by kernel_rfl) (by kernel_rfl) (fun _ _ _ h => h) (Or.inl ⟨by rfl, ?_⟩) (by assumption) ?_
            rotate_left 1
            · (intro wq hSw; (try dsimp only at hSw); go_simp; try with_reducible rfl)
            try simp only [Act.put, ly1, ly2, ly3]
            refine wpAnyH_take (i := 3) (oi := { dst := some 48, op := Op.load 4 (Operand.tmp 47), type := 4, pos := "l05_meta.go:64", after := #[{ on := 2, ground := Ground.data }], guard := none }) (v := ?_) rfl (by kernel_rfl) (by kernel_rfl) (by kernel_rfl) (fun _ _ _ h => h) (Or.inl ⟨by rfl, ?_⟩) (by assumption) ?_
            rotate_left 1
            · (intro wq hSw; (try dsimp only at hSw); go_simp; try with_reducible rfl)
            try simp only [Act.put, ly1, ly2, ly3]
            refine wpAnyH_take (i := 4) (oi := { dst := some 49, op := Op.unOp UnOp.not 4 (Operand.tmp 48), type := 4, pos := "l05_meta.go:64", after := #[{ on := 3, ground := Ground.data }], guard := none }) (v := ?_) rfl (by kernel_rfl) (by kernel_rfl) (by kernel_rfl) (fun _ _ _ h => h) (Or.inl ⟨by rfl, ?_⟩) (by assumption) ?_
            rotate_left 1
            · (intro wq hSw; (try dsimp only at hSw); go_simp; try with_reducible rfl)
            try simp only [Act.put, ly1, ly2, ly3]
            refine wpAnyH_take (i := 5) (oi := { dst := some 50, op := Op.move (Operand.tmp 49), type := 4, pos := "l05_meta.go:64", after := #[{ on := 4, ground := Ground.data }], guard := none }) (v := ?_) rfl (by kernel_rfl) (by kernel_rfl) (by kernel_rfl) (fun _ _ _ h => h) (Or.inl ⟨by rfl, ?_⟩) (by assumption) ?_
            rotate_left 1
            · (intro wq hSw; (try dsimp only at hSw); go_simp; try with_reducible rfl)
            try simp only [Act.put, ly1, ly2, ly3]
            refine wpAnyH_take (i := 6) (oi := { dst := some 51, op := Op.load 25 (Operand.tmp 5), type := 25, pos := "l05_meta.go:64", after := #[{ on := 5, ground := Ground.guard }], guard := some (5, false) }) (v := ?_) rfl (by kernel_rfl) (by kernel_rfl) (by kernel_rfl) (fun _ _ _ h => h) (Or.inl ⟨by rfl, ?_⟩) (by assumption) ?_
            rotate_left 1
            · (intro wq hSw; (try dsimp only at hSw); go_simp; try with_reducible rfl)
            try simp only [Act.put, ly1, ly2, ly3]
            refine wpAnyH_take (i := 9) (oi := { dst := some 54, op := Op.move (Operand.tmp 0), type := 26, pos := "l05_meta.go:64", after := #[{ on := 5, ground := Ground.guard }], guard := some (5, false) }) (v := ?_) rfl (by kernel_rfl) (by kernel_rfl) (by kernel_rfl) (fun _ _ _ h => h) (Or.inl ⟨by rfl, ?_⟩) (by assumption) ?_
            rotate_left 1
            · (intro wq hSw; (try dsimp only at hSw); go_simp; try with_reducible rfl)
            try simp only [Act.put, ly1, ly2, ly3]
            refine wpAnyH_take (i := 10) (oi := { dst := some 55, op := Op.convert 26 9 (Operand.tmp 54), type := 9, pos := "l05_meta.go:64", after := #[{ on := 9, ground := Ground.data }, { on := 5, ground := Ground.guard }], guard := some (5, false) }) (v := ?_) rfl (by kernel_rfl) (by kernel_rfl) (by kernel_rfl) (fun _ _ _ h => h) (Or.inl ⟨by rfl, ?_⟩) (by assumption) ?_
            rotate_left 1
            · (intro wq hSw; (try dsimp only at hSw); go_simp; try with_reducible rfl)
            try simp only [Act.put, ly1, ly2, ly3]
            refine wpAnyH_ready (rs := [7]) (by kernel_rfl) (by simp) ?_
            refine AllReadyH.cons (o := { dst := some 52, op := Op.call { callee := Callee.value (Operand.func 199), args := #[Operand.tmp 51], argTypes := #[25] }, type := 26, pos := "l05_meta.go:64", after := #[{ on := 6, ground := Ground.data }, { on := 5, ground := Ground.chain }, { on := 5, ground := Ground.guard }], guard := some (5, false) }) rfl (fun K hK => ?_) AllReadyH.nil
            go_simp
            refine (hpk.out _ HMD.out).mono ?_
            rintro e w3 ⟨ao3, c3, rfl, hc3, hm3⟩
            have H3 := hide hm3
            have hk3 := HSK.out w3 hm3 (HCU.out w3 hm3)
            clear hm3
            go_wp2_with fail
            refine hK.out _ _ ?_ (fun hHeld => ?_)
            · exact hk3
            clear hK K
            try simp only [Act.put, ly1, ly2, ly3]
            refine wpAnyH_ready (rs := [8]) (by kernel_rfl) (by simp) ?_
            refine AllReadyH.cons (o := { dst := some 53, op := Op.convert 26 9 (Operand.tmp 52), type := 9, pos := "l05_meta.go:64", after := #[{ on := 7, ground := Ground.data }, { on := 5, ground := Ground.guard }], guard := some (5, false) }) rfl (fun K hK => ?_) AllReadyH.nil
            go_simp
            refine hK.out _ _ ?_ (fun hHeld => ?_)
            · exact hk3
            clear hK K
            try simp only [Act.put, ly1, ly2, ly3]
            refine wpAnyH_take (i := 11) (oi := { dst := some 56, op := Op.binOp BinOp.neq 9 (Operand.tmp 53) (Operand.tmp 55) 9, type := 4, pos := "l05_meta.go:64", after := #[{ on := 8, ground := Ground.data }, { on := 10, ground := Ground.data }, { on := 5, ground := Ground.guard }], guard := some (5, false) }) (v := ?_) rfl (by kernel_rfl) (by kernel_rfl) (by kernel_rfl) (fun _ _ _ h => h) (Or.inl ⟨by rfl, ?_⟩) (by assumption) ?_
            rotate_left 1
            · (intro wq hSw; (try dsimp only at hSw); go_simp; try with_reducible rfl)
            try simp only [Act.put, ly1, ly2, ly3]
            refine wpAnyH_take (i := 12) (oi := { dst := some 57, op := Op.pick (Operand.tmp 50) (Operand.const (Value.bool true)) (Operand.tmp 56), type := 4, pos := "l05_meta.go:64", after := #[{ on := 5, ground := Ground.data }, { on := 11, ground := Ground.data }], guard := none }) (v := ?_) rfl (by kernel_rfl) (by kernel_rfl) (by kernel_rfl) (fun _ _ _ h => h) (Or.inl ⟨by rfl, ?_⟩) (by assumption) ?_
            rotate_left 1
            · (intro wq hSw; (try dsimp only at hSw); go_simp; try with_reducible rfl)
            try simp only [Act.put, ly1, ly2, ly3]
            refine wpAnyH_take (i := 13) (oi := { dst := some 58, op := Op.move (Operand.tmp 57), type := 4, pos := "l05_meta.go:64", after := #[{ on := 12, ground := Ground.data }, { on := 7, ground := Ground.chain }], guard := none }) (v := ?_) rfl (by kernel_rfl) (by kernel_rfl) (by kernel_rfl) (fun _ _ _ h => h) (Or.inl ⟨by rfl, ?_⟩) (by assumption) ?_
            rotate_left 1
            · (intro wq hSw; (try dsimp only at hSw); go_simp; try with_reducible rfl)
            try simp only [Act.put, ly1, ly2, ly3]
            refine wpAnyH_take (i := 14) (oi := { dst := some 59, op := Op.move (Operand.tmp 0), type := 26, pos := "l05_meta.go:64", after := #[{ on := 13, ground := Ground.guard }], guard := some (13, false) }) (v := ?_) rfl (by kernel_rfl) (by kernel_rfl) (by kernel_rfl) (fun _ _ _ h => h) (Or.inl ⟨by rfl, ?_⟩) (by assumption) ?_
            rotate_left 1
            · (intro wq hSw; (try dsimp only at hSw); go_simp; try with_reducible rfl)
            try simp only [Act.put, ly1, ly2, ly3]
            refine wpAnyH_take (i := 15) (oi := { dst := some 60, op := Op.call { callee := Callee.builtin Builtin.len, args := #[Operand.tmp 59], argTypes := #[26] }, type := 3, pos := "l05_meta.go:64", after := #[{ on := 14, ground := Ground.data }, { on := 13, ground := Ground.guard }], guard := some (13, false) }) (v := ?_) rfl (by kernel_rfl) (by kernel_rfl) (by kernel_rfl) (fun _ _ _ h => h) (Or.inl ⟨by rfl, ?_⟩) (by assumption) ?_
            rotate_left 1
            · (intro wq hSw; (try dsimp only at hSw); go_simp; try with_reducible rfl)
            try simp only [Act.put, ly1, ly2, ly3]
            refine wpAnyH_take (i := 16) (oi := { dst := some 61, op := Op.binOp BinOp.eql 3 (Operand.tmp 60) (Operand.const (Value.int IntKind.i64 0)) 3, type := 4, pos := "l05_meta.go:64", after := #[{ on := 15, ground := Ground.data }, { on := 13, ground := Ground.guard }], guard := some (13, false) }) (v := ?_) rfl (by kernel_rfl) (by kernel_rfl) (by kernel_rfl) (fun _ _ _ h => h) (Or.inl ⟨by rfl, ?_⟩) (by assumption) ?_
            rotate_left 1
            · (intro wq hSw; (try dsimp only at hSw); go_simp; try with_reducible rfl)
            try simp only [Act.put, ly1, ly2, ly3]
            refine wpAnyH_take (i := 17) (oi := { dst := some 62, op := Op.pick (Operand.tmp 58) (Operand.const (Value.bool true)) (Operand.tmp 61), type := 4, pos := "l05_meta.go:64", after := #[{ on := 13, ground := Ground.data }, { on := 16, ground := Ground.data }], guard := none }) (v := ?_) rfl (by kernel_rfl) (by kernel_rfl) (by kernel_rfl) (fun _ _ _ h => h) (Or.inl ⟨by rfl, ?_⟩) (by assumption) ?_
            rotate_left 1
            · (intro wq hSw; (try dsimp only at hSw); go_simp; try with_reducible rfl)
            try simp only [Act.put, ly1, ly2, ly3]
            refine wpAnyH_done (by kernel_rfl) ?_ _
            obtain ⟨r0, r1, r2, r3, r4, r5⟩ := H3.out.1.cells
            have rz := H3.out.1.froz
            obtain ⟨⟨m0, m1, m2, m3, m4, m5⟩, mz⟩ := H3.out.cells
            go_wp2
            refine bodyPost_ret (v := .tuple #[.agg #[.slice ro G.length rc, .slice bo 3 bc, .bool F1, .bool F2, .bool F3, .int .i64 Y], .bool true]) (by simp [results, Tryz.results233, go_sem, r0, r1, r2, r3, r4, r5]) rfl ?_
            rw [HBl.out]
            refine ⟨.inl ⟨G, L, F1, F2, F3, Y, ro, bo, rc, bc, HY.out, rfl, ?_⟩, ?_⟩
            · have hfin : ∀ F : World, F.heap.size = w3.heap.size → (∀ j, w.heap.size + 1 ≤ j → F.heap[j]? = w3.heap[j]?) → OKm F w.heap.size F.heap.size ro rc bo bc G 3 L := fun F hs hk =>
                (H3.out.okm.kept (fun j h1 _ => hk j (by omega)) (by omega)).wider (by omega) (by omega) (Nat.le_refl _)
              refine hfin _ (by simp [World.setCell]) ?_
              intro j hj
              simp only [World.setCell, Array.getElem?_modify]
              repeat rw [if_neg (by omega)]
            · iterate 6 (refine Below.setCell ?_ (by show w.heap.size ≤ w.heap.size; omega) _)
              exact H3.out.2.2.2.2.2.2
        · have hne : ¬ sP = tB := fun e => hpe (bstr_inj (mtb_byte _ _ _ _ _ _ _) hbB (by rw [← hsP, ← htB, e]))
          have h1 : (sP.toList == tB.toList) = false := by
            rw [beq_eq_false_iff_ne]
            intro e
            exact hne (by rw [ByteArray.toList_eq, ByteArray.toList_eq] at e; exact WideShapes.bytes_inj e)
          have HN : Hid (¬ ∃ g L fi ol he la, MtIs Bl g L fi ol he la) := fun ⟨g', L', fi', ol', he', la', h⟩ => by
            have h2 := HRI.out g' L' fi' ol' he' la' h
            exact hpe (by rw [mtb_yes h2.1]; exact h2.2)
          clear htB hsP hbB hpe HM8 hBl hcu HRI hlen
          go_wp2_with fail
          refine wp_region_held_drew (S := (fun w' => w'.cell? ⟨w.heap.size + 1, 2, none⟩ = some (.bool true) ∧ (w'.cell? ⟨w.heap.size + 1 + 1, 0, none⟩ = some (.slice ro G.length rc) ∧ w'.cell? ⟨w.heap.size + 1 + 1, 1, none⟩ = some (.slice bo 3 bc) ∧ w'.cell? ⟨w.heap.size + 1 + 1, 2, none⟩ = some (.bool F1) ∧ w'.cell? ⟨w.heap.size + 1 + 1, 3, none⟩ = some (.bool F2) ∧ w'.cell? ⟨w.heap.size + 1 + 1, 4, none⟩ = some (.bool F3) ∧ w'.cell? ⟨w.heap.size + 1 + 1, 5, none⟩ = some (.int .i64 Y)) ∧ (convert 26 9 (.slice ao n cap)).run Tryz.prog w' = .ok (.string tB) w')) (by kernel_rfl) ?_ (fun hHeld => ?_)
          · exact HS0.out
          refine wpAnyH_take (i := 0) (oi := { dst := some 45, op := Op.move (Operand.tmp 4), type := 213, pos := "l05_meta.go:64", after := #[], guard := none }) (v := ?_) rfl (by kernel_rfl) (by kernel_rfl) (by kernel_rfl) (fun _ _ _ h => h) (Or.inl ⟨by rfl, ?_⟩) (by assumption) ?_
          rotate_left 1
          · (intro wq hSw; (try dsimp only at hSw); go_simp; try with_reducible rfl)
          try simp only [Act.put, ly1, ly2, ly3]
          refine wpAnyH_take (i := 1) (oi := { dst := some 46, op := Op.nilCheck (Operand.tmp 45), type := 0, pos := "l05_meta.go:64", after := #[{ on := 0, ground := Ground.data }], guard := none }) (v := ?_) rfl (by kernel_rfl) (by kernel_rfl) (by kernel_rfl) (fun _ _ _ h => h) (Or.inl ⟨by rfl, ?_⟩) (by assumption) ?_
          rotate_left 1
          · (intro wq hSw; (try dsimp only at hSw); go_simp; try with_reducible rfl)
          try simp only [Act.put, ly1, ly2, ly3]
          refine wpAnyH_take (i := 2) (oi := { dst := some 47, op := Op.fieldAddr 215 (Operand.tmp 46) 2, type := 0, pos := "l05_meta.go:64", after := #[{ on := 1, ground := Ground.data }], guard := none }) (v := ?_) rfl (by kernel_rfl) (by kernel_rfl) (by kernel_rfl) (fun _ _ _ h => h) (Or.inl ⟨by rfl, ?_⟩) (by assumption) ?_
          rotate_left 1
          · (intro wq hSw; (try dsimp only at hSw); go_simp; try with_reducible rfl)
          try simp only [Act.put, ly1, ly2, ly3]
          refine wpAnyH_take (i := 3) (oi := { dst := some 48, op := Op.load 4 (Operand.tmp 47), type := 4, pos := "l05_meta.go:64", after := #[{ on := 2, ground := Ground.data }], guard := none }) (v := ?_) rfl (by kernel_rfl) (by kernel_rfl) (by kernel_rfl) (fun _ _ _ h => h) (Or.inl ⟨by rfl, ?_⟩) (by assumption) ?_
          rotate_left 1
          · (intro wq hSw; (try dsimp only at hSw); go_simp; try with_reducible rfl)
          try simp only [Act.put, ly1, ly2, ly3]
          refine wpAnyH_take (i := 4) (oi := { dst := some 49, op := Op.unOp UnOp.not 4 (Operand.tmp 48), type := 4, pos := "l05_meta.go:64", after := #[{ on := 3, ground := Ground.data }], guard := none }) (v := ?_) rfl (by kernel_rfl) (by kernel_rfl) (by kernel_rfl) (fun _ _ _ h => h) (Or.inl ⟨by rfl, ?_⟩) (by assumption) ?_
          rotate_left 1
          · (intro wq hSw; (try dsimp only at hSw); go_simp; try with_reducible rfl)
          try simp only [Act.put, ly1, ly2, ly3]
          refine wpAnyH_take (i := 5) (oi := { dst := some 50, op := Op.move (Operand.tmp 49), type := 4, pos := "l05_meta.go:64", after := #[{ on := 4, ground := Ground.data }], guard := none }) (v := ?_) rfl (by kernel_rfl) (by kernel_rfl) (by kernel_rfl) (fun _ _ _ h => h) (Or.inl ⟨by rfl, ?_⟩) (by assumption) ?_
          rotate_left 1
          · (intro wq hSw; (try dsimp only at hSw); go_simp; try with_reducible rfl)
          try simp only [Act.put, ly1, ly2, ly3]
          refine wpAnyH_take (i := 6) (oi := { dst := some 51, op := Op.load 25 (Operand.tmp 5), type := 25, pos := "l05_meta.go:64", after := #[{ on := 5, ground := Ground.guard }], guard := some (5, false) }) (v := ?_) rfl (by kernel_rfl) (by kernel_rfl) (by kernel_rfl) (fun _ _ _ h => h) (Or.inl ⟨by rfl, ?_⟩) (by assumption) ?_
          rotate_left 1
          · (intro wq hSw; (try dsimp only at hSw); go_simp; try with_reducible rfl)
          try simp only [Act.put, ly1, ly2, ly3]
          refine wpAnyH_take (i := 9) (oi := { dst := some 54, op := Op.move (Operand.tmp 0), type := 26, pos := "l05_meta.go:64", after := #[{ on := 5, ground := Ground.guard }], guard := some (5, false) }) (v := ?_) rfl (by kernel_rfl) (by kernel_rfl) (by kernel_rfl) (fun _ _ _ h => h) (Or.inl ⟨by rfl, ?_⟩) (by assumption) ?_
          rotate_left 1
          · (intro wq hSw; (try dsimp only at hSw); go_simp; try with_reducible rfl)
          try simp only [Act.put, ly1, ly2, ly3]
          refine wpAnyH_take (i := 10) (oi := { dst := some 55, op := Op.convert 26 9 (Operand.tmp 54), type := 9, pos := "l05_meta.go:64", after := #[{ on := 9, ground := Ground.data }, { on := 5, ground := Ground.guard }], guard := some (5, false) }) (v := ?_) rfl (by kernel_rfl) (by kernel_rfl) (by kernel_rfl) (fun _ _ _ h => h) (Or.inl ⟨by rfl, ?_⟩) (by assumption) ?_
          rotate_left 1
          · (intro wq hSw; (try dsimp only at hSw); go_simp; try with_reducible rfl)
          try simp only [Act.put, ly1, ly2, ly3]
          refine wpAnyH_ready (rs := [7]) (by kernel_rfl) (by simp) ?_
          refine AllReadyH.cons (o := { dst := some 52, op := Op.call { callee := Callee.value (Operand.func 199), args := #[Operand.tmp 51], argTypes := #[25] }, type := 26, pos := "l05_meta.go:64", after := #[{ on := 6, ground := Ground.data }, { on := 5, ground := Ground.chain }, { on := 5, ground := Ground.guard }], guard := some (5, false) }) rfl (fun K hK => ?_) AllReadyH.nil
          go_simp
          refine (hpk.out _ HMD.out).mono ?_
          rintro e w3 ⟨ao3, c3, rfl, hc3, hm3⟩
          have H3 := hide hm3
          have hk3 := HSK.out w3 hm3 (HCU.out w3 hm3)
          clear hm3
          go_wp2_with fail
          refine hK.out _ _ ?_ (fun hHeld => ?_)
          · exact hk3
          clear hK K
          try simp only [Act.put, ly1, ly2, ly3]
          refine wpAnyH_ready (rs := [8]) (by kernel_rfl) (by simp) ?_
          refine AllReadyH.cons (o := { dst := some 53, op := Op.convert 26 9 (Operand.tmp 52), type := 9, pos := "l05_meta.go:64", after := #[{ on := 7, ground := Ground.data }, { on := 5, ground := Ground.guard }], guard := some (5, false) }) rfl (fun K hK => ?_) AllReadyH.nil
          go_simp
          refine hK.out _ _ ?_ (fun hHeld => ?_)
          · exact hk3
          clear hK K
          try simp only [Act.put, ly1, ly2, ly3]
          refine wpAnyH_take (i := 11) (oi := { dst := some 56, op := Op.binOp BinOp.neq 9 (Operand.tmp 53) (Operand.tmp 55) 9, type := 4, pos := "l05_meta.go:64", after := #[{ on := 8, ground := Ground.data }, { on := 10, ground := Ground.data }, { on := 5, ground := Ground.guard }], guard := some (5, false) }) (v := ?_) rfl (by kernel_rfl) (by kernel_rfl) (by kernel_rfl) (fun _ _ _ h => h) (Or.inl ⟨by rfl, ?_⟩) (by assumption) ?_
          rotate_left 1
          · (intro wq hSw; (try dsimp only at hSw); go_simp; try with_reducible rfl)
          try simp only [Act.put, ly1, ly2, ly3]
          refine wpAnyH_take (i := 12) (oi := { dst := some 57, op := Op.pick (Operand.tmp 50) (Operand.const (Value.bool true)) (Operand.tmp 56), type := 4, pos := "l05_meta.go:64", after := #[{ on := 5, ground := Ground.data }, { on := 11, ground := Ground.data }], guard := none }) (v := ?_) rfl (by kernel_rfl) (by kernel_rfl) (by kernel_rfl) (fun _ _ _ h => h) (Or.inl ⟨by rfl, ?_⟩) (by assumption) ?_
          rotate_left 1
          · (intro wq hSw; (try dsimp only at hSw); go_simp; try with_reducible rfl)
          try simp only [Act.put, ly1, ly2, ly3]
          refine wpAnyH_take (i := 13) (oi := { dst := some 58, op := Op.move (Operand.tmp 57), type := 4, pos := "l05_meta.go:64", after := #[{ on := 12, ground := Ground.data }, { on := 7, ground := Ground.chain }], guard := none }) (v := ?_) rfl (by kernel_rfl) (by kernel_rfl) (by kernel_rfl) (fun _ _ _ h => h) (Or.inl ⟨by rfl, ?_⟩) (by assumption) ?_
          rotate_left 1
          · (intro wq hSw; (try dsimp only at hSw); go_simp; try with_reducible rfl)
          try simp only [Act.put, ly1, ly2, ly3]
          refine wpAnyH_take (i := 14) (oi := { dst := some 59, op := Op.move (Operand.tmp 0), type := 26, pos := "l05_meta.go:64", after := #[{ on := 13, ground := Ground.guard }], guard := some (13, false) }) (v := undef) rfl (by kernel_rfl) (by kernel_rfl) (by kernel_rfl) (fun _ _ _ h => h) (Or.inr ⟨by rfl, rfl⟩) (by assumption) ?_
          try simp only [Act.put, ly1, ly2, ly3]
          refine wpAnyH_take (i := 15) (oi := { dst := some 60, op := Op.call { callee := Callee.builtin Builtin.len, args := #[Operand.tmp 59], argTypes := #[26] }, type := 3, pos := "l05_meta.go:64", after := #[{ on := 14, ground := Ground.data }, { on := 13, ground := Ground.guard }], guard := some (13, false) }) (v := undef) rfl (by kernel_rfl) (by kernel_rfl) (by kernel_rfl) (fun _ _ _ h => h) (Or.inr ⟨by rfl, rfl⟩) (by assumption) ?_
          try simp only [Act.put, ly1, ly2, ly3]
          refine wpAnyH_take (i := 16) (oi := { dst := some 61, op := Op.binOp BinOp.eql 3 (Operand.tmp 60) (Operand.const (Value.int IntKind.i64 0)) 3, type := 4, pos := "l05_meta.go:64", after := #[{ on := 15, ground := Ground.data }, { on := 13, ground := Ground.guard }], guard := some (13, false) }) (v := undef) rfl (by kernel_rfl) (by kernel_rfl) (by kernel_rfl) (fun _ _ _ h => h) (Or.inr ⟨by rfl, rfl⟩) (by assumption) ?_
          try simp only [Act.put, ly1, ly2, ly3]
          refine wpAnyH_take (i := 17) (oi := { dst := some 62, op := Op.pick (Operand.tmp 58) (Operand.const (Value.bool true)) (Operand.tmp 61), type := 4, pos := "l05_meta.go:64", after := #[{ on := 13, ground := Ground.data }, { on := 16, ground := Ground.data }], guard := none }) (v := ?_) rfl (by kernel_rfl) (by kernel_rfl) (by kernel_rfl) (fun _ _ _ h => h) (Or.inl ⟨by rfl, ?_⟩) (by assumption) ?_
          rotate_left 1
          · (intro wq hSw; (try dsimp only at hSw); go_simp; try with_reducible rfl)
          try simp only [Act.put, ly1, ly2, ly3]
          refine wpAnyH_done (by kernel_rfl) ?_ _
          obtain ⟨r0, r1, r2, r3, r4, r5⟩ := H3.out.1.cells
          have rz := H3.out.1.froz
          go_wp2
          refine bodyPost_ret (v := .tuple #[.agg #[.slice none 0 0, .slice none 0 0, .bool false, .bool false, .bool false, .int .i64 0], .bool false]) (by simp [results, Tryz.results233, go_sem, r0, r1, r2, r3, r4, r5]) rfl ?_
          rw [HBl.out]
          refine ⟨.inr ⟨HN.out, rfl⟩, ?_⟩
          iterate 6 (refine Below.setCell ?_ (by show w.heap.size ≤ w.heap.size; omega) _)
          exact H3.out.2.2.2.2.2.2
end Go.Proofs.YtkndnndildnbpaaGreatDoor

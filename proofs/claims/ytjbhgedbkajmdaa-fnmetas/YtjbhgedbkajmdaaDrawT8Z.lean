/- DrawMetaOf, DrawSameMeta of the model. -/
import Derived.Test.YtjbhgedbkajmdaaDrawT7Z
import Derived.Test.YtjbhgedbkajmdaaDrawEZ

namespace Go.Proofs.Ytjbhgedbkajmdaa
open Go.ChangeShapes Go.WideShapes Go.ChangeAt Go.RowKit
set_option linter.unusedVariables false
set_option linter.unusedSimpArgs false
set_option maxRecDepth 100000

theorem mtby_some (go bo : Option Addr) (gc bc : Nat) (g : List Int) (n : Nat) (L : Nat → List Int) (fi ol he : Bool) (la : Int) (w : World) (hd : Bd g n L) (hv : MV w go gc bo bc g n L) :
    Calls Try.prog 16 #[.agg #[.slice go g.length gc, .slice bo n bc, .bool fi, .bool ol, .bool he, .int .i64 la]] w fun e w' => ∃ b c, e = .returned (.slice (some ⟨b, 0, none⟩) ((mtb Classical.propDecidable) g n L fi ol he la).length c) ∧ w'.ownsRow w.heap.size 5 1 (.slice (some ⟨b, 0, none⟩) ((mtb Classical.propDecidable) g n L fi ol he la).length c) ((mtb Classical.propDecidable) g n L fi ol he la).length (((mtb Classical.propDecidable) g n L fi ol he la).map (.int .u8)) ∧ Below w.heap.size w w' := by
  by_cases hok : MtOk g n L ol he la
  · refine (mtbytes_spec go bo gc bc g n L fi ol he la w hd hv).mono ?_
    rintro e w' ⟨x, rfl, ho, hb⟩
    have hpos : 0 < ((mtb Classical.propDecidable) g n L fi ol he la).length := by
      rw [mtb_yes hok]
      unfold mseq
      rw [nums_app, List.length_append, nums_cons, List.length_append]
      have := mpb_pos 4 (flg fi ol he)
      omega
    obtain ⟨b, c, rfl, _, _⟩ := World.ownsRow.form ho hpos
    exact ⟨b, c, rfl, ho, hb⟩
  · have hx := bal1 w (.cells #[.slice go g.length gc, .slice bo n bc, .bool fi, .bool ol, .bool he, .int .i64 la] 27)
    have hcall := hide (mtok_spec go bo gc bc g n L fi ol he la _ hd (hv.below hx))
    rw [mtb_no hok]
    go_enter Try.func16, Try.ntmps16
    go_wp2_with fail
    refine hcall.out.mono ?_
    rintro e w1 ⟨h1, b1⟩
    obtain rfl : e = .returned (.bool false) := h1.elim (fun x => absurd x.1 hok) (·.2)
    have B1 := hide (hx.trans (b1.mono hx.size))
    clear b1 hv hd hx h1
    go_wp2
    go_ret
    exact ⟨_, _, rfl, gmono (gempty (ik := .u8) (Nat.le_refl _)) B1.out.size, B1.out.alloc B1.out.size _⟩

theorem draw_mtof (ao : Option Addr) (n cap : Nat) (f : Nat → Int) (w : World) (hn : n ≤ 1048576) (hs : SL .u8 w ao n f) (hf : ∀ i, i < n → 0 ≤ f i ∧ f i ≤ 255) :
    Calls Try.prog 10 #[.slice ao n cap] w fun e w' => ∃ (v : Value) (X : List Int), e = .returned v ∧ X.length ≤ 2001 ∧ (∀ z ∈ X, 0 ≤ z ∧ z ≤ 255) ∧ w'.ownsRow w.heap.size 5 1 v X.length (X.map (.int .u8)) ∧ Below w.heap.size w w' := by
  have HS := hide hs
  have HF := hide hf
  clear hs hf
  go_enter Try.func10, Try.ntmps10
  go_wp2_with fail
  refine (new_any ao n cap f _ hn HS.out HF.out).mono ?_
  rintro e w1 ⟨rfl, hc, b1⟩
  have HC := hide hc
  have HB := hide b1
  have hlt := hc.lt
  clear hc b1
  go_wp2_with fail
  refine (draw5r w.heap.size n cap ao f _ HC.out).mono ?_
  rintro e w2 ⟨⟨b, ⟨ro, rc⟩, G, R, L, fi, ol, he, la, rfl, ⟨hG, hL⟩, hdr⟩, hcw⟩
  have HM := hide hdr.mv
  have HD : Hid (Bd G 3 L) := ⟨by omega, by omega, fun i hi => by have := hL i hi; omega⟩
  have HW := hide hcw
  clear hdr hcw hL
  go_wp2_with fail
  refine (mtby_some ro (some ⟨b, 0, none⟩) rc 3 G 3 L fi ol he la w2 HD.out HM.out).mono ?_
  rintro e w3 ⟨b3, c3, rfl, ho3, bb3⟩
  have hml := mtb_len G 3 L fi ol he la
  have HMB := hide (mtb_byte G 3 L fi ol he la)
  have HW3 := hide (HW.out.below bb3)
  have HO3 := hide ho3
  have h12 := HW.out.2.1.size
  have h23 := bb3.size
  clear ho3 bb3 HW HM HD
  generalize (mtb Classical.propDecidable) G 3 L fi ol he la = B at *
  go_wp2_with fail
  refine (dent w.heap.size n cap ao f b3 c3 w2.heap.size B _ HW3.out.1 (by omega) HMB.out (by omega) h23 HO3.out).mono ?_
  rintro e w4 ⟨v4, X, rfl, hX, hXb, ho4, hcw4⟩
  have R := hide (And.intro (gmono ho4 (by have := HB.out.size; omega : w.heap.size ≤ w2.heap.size)) (tb_of HB.out (HW3.out.trans hcw4).2.1 (Nat.le_refl _)))
  have HXb := hide hXb
  clear ho4 hcw4 hXb
  go_wp2
  go_ret
  exact ⟨_, X, rfl, hX, HXb.out, R.out⟩

/-- Two drawn metas. -/
def DrW (w w' : World) (e : Ending) : Prop := ∃ (go bo : Option Addr) (gc bc : Nat) (G : List Int) (k : Nat) (L : Nat → List Int) (fi ol he : Bool) (la : Int) (go' bo' : Option Addr) (gc' bc' : Nat) (G' : List Int) (k' : Nat) (L' : Nat → List Int) (fi' ol' he' : Bool) (la' : Int),
  e = .returned (.tuple #[.agg #[.slice go G.length gc, .slice bo k bc, .bool fi, .bool ol, .bool he, .int .i64 la], .agg #[.slice go' G'.length gc', .slice bo' k' bc', .bool fi', .bool ol', .bool he', .int .i64 la']]) ∧ ((G.length ≤ 8 ∧ k ≤ 3 ∧ ∀ i, i < k → (L i).length ≤ 8) ∧ (G'.length ≤ 8 ∧ k' ≤ 3 ∧ ∀ i, i < k' → (L' i).length ≤ 8)) ∧ MV w' go gc bo bc G k L ∧ MV w' go' gc' bo' bc' G' k' L' ∧ Below w.heap.size w w'
/-- Six cells stored elsewhere. -/
theorem KB.six {w : World} {b X : Nat} {t : TypeId} {go : Option Addr} {gl gc : Nat} {bo : Option Addr} {n bc : Nat} {fi ol he : Bool} {la : Int} {v0 v1 v2 v3 v4 v5 : Value} (h : KB w b t go gl gc bo n bc fi ol he la) (hne : ¬ b = X) : KB ((((((w.setCell ⟨X, 0, none⟩ v0).setCell ⟨X, 1, none⟩ v1).setCell ⟨X, 2, none⟩ v2).setCell ⟨X, 3, none⟩ v3).setCell ⟨X, 4, none⟩ v4).setCell ⟨X, 5, none⟩ v5) b t go gl gc bo n bc fi ol he la :=
  (cur_far hne _).trans ((cur_far hne _).trans ((cur_far hne _).trans ((cur_far hne _).trans ((cur_far hne _).trans ((cur_far hne _).trans h)))))
/-- Six cells stored. -/
theorem KB.put6 {w : World} {X : Nat} {t : TypeId} {go go' : Option Addr} {gl gc gl' gc' : Nat} {bo bo' : Option Addr} {n bc n' bc' : Nat} {fi ol he fi' ol' he' : Bool} {la la' : Int} (h : KB w X t go gl gc bo n bc fi ol he la) : KB ((((((w.setCell ⟨X, 0, none⟩ (.slice go' gl' gc')).setCell ⟨X, 1, none⟩ (.slice bo' n' bc')).setCell ⟨X, 2, none⟩ (.bool fi')).setCell ⟨X, 3, none⟩ (.bool ol')).setCell ⟨X, 4, none⟩ (.bool he')).setCell ⟨X, 5, none⟩ (.int .i64 la')) X t go' gl' gc' bo' n' bc' fi' ol' he' la' :=
  kb_set (kb_set (kb_set (kb_set (kb_set (kb_set h rfl) rfl) rfl) rfl) rfl) rfl

set_option maxHeartbeats 4000000 in
theorem draw_same (ao : Option Addr) (n cap : Nat) (f : Nat → Int) (w : World) (hn : n ≤ 1048576) (hs : SL .u8 w ao n f) (hf : ∀ i, i < n → 0 ≤ f i ∧ f i ≤ 255) :
    Calls Try.prog 15 #[.slice ao n cap] w fun e w' => DrW w w' e := by
  obtain ⟨W, hW⟩ : ∃ W, W = (w.alloc (.cells #[.slice none 0 0, .slice none 0 0, .bool false, .bool false, .bool false, .int .i64 0] 27)).alloc (.cells #[.slice none 0 0, .slice none 0 0, .bool false, .bool false, .bool false, .int .i64 0] 27) := ⟨_, rfl⟩
  have sW : W.heap.size = w.heap.size + 1 + 1 := by rw [hW]; simp
  have hb0 : Below w.heap.size w W := by rw [hW]; exact ((Below.refl _ _).alloc (Nat.le_refl _) _).alloc (by simp) _
  have hR0 : KB W w.heap.size 27 none 0 0 none 0 0 false false false 0 := by rw [hW]; exact (KB.new w _ _ _ _ _ _ _ _ _ _ _).b (bal1 _ _)
  have hR1 : KB W (w.heap.size + 1) 27 none 0 0 none 0 0 false false false 0 := by
    rw [hW]
    have := KB.new (w.alloc (.cells #[.slice none 0 0, .slice none 0 0, .bool false, .bool false, .bool false, .int .i64 0] 27)) 27 none 0 0 none 0 0 false false false 0
    rw [alsz] at this
    exact this
  have hnew := hide (new_any ao n cap f W hn (hs.below hb0) hf)
  rw [sW] at hnew
  clear hs hf
  go_enter Try.func15, Try.ntmps15
  go_wp2_with fail
  rw [← hW]
  clear hW
  refine hnew.out.mono ?_
  rintro e w1 ⟨rfl, hc, b1⟩
  have B1 : Below w.heap.size w w1 := hb0.trans (b1.mono (by omega))
  have K0 := hR0.below b1 (by omega)
  have K1 := hR1.below b1 (by omega)
  have hlt := hc.lt
  have HC := hide hc
  clear hc b1 hnew hR0 hR1 hb0 sW
  go_wp2_with fail
  refine (draw5 (w.heap.size + 1 + 1) n cap ao f _ HC.out).mono ?_
  rintro e w2 ⟨⟨go, bo, gc, bc, G, k, L, fi, ol, he, la, rfl, hbd, hmv⟩, hcw⟩
  have J0 : KB w2 w.heap.size 27 none 0 0 none 0 0 false false false 0 := (hcw.2.1.block w.heap.size K0.lt (by simp; omega)).trans K0
  have J1 : KB w2 (w.heap.size + 1) 27 none 0 0 none 0 0 false false false 0 := (hcw.2.1.block (w.heap.size + 1) K1.lt (by simp)).trans K1
  have HM := hide hmv
  have B2 := tb_of B1 hcw.2.1 (by omega : w.heap.size ≤ w.heap.size + 1 + 1)
  have h12 := hcw.2.1.size
  have HC2 := hide ((CurW.refl hcw.1).alloc (.cells #[.slice go G.length gc, .slice bo k bc, .bool fi, .bool ol, .bool he, .int .i64 la] 27))
  have hal := bal1 w2 (.cells #[.slice go G.length gc, .slice bo k bc, .bool fi, .bool ol, .bool he, .int .i64 la] 27)
  have L0 := J0.b hal
  have L1 := J1.b hal
  have LX := KB.new w2 27 go G.length gc bo k bc fi ol he la
  have B3 := B2.trans (hal.mono B2.size)
  have HK3 : Hid (Kp w1.heap.size w2 (w2.alloc (.cells #[.slice go G.length gc, .slice bo k bc, .bool fi, .bool ol, .bool he, .int .i64 la] 27))) := Kp.below hal
  have hszz := alsz w2 (.cells #[.slice go G.length gc, .slice bo k bc, .bool fi, .bool ol, .bool he, .int .i64 la] 27)
  clear hmv hcw K0 K1 J0 J1 B1 B2 hal HC
  go_wp2_with fail
  refine (once_any (w.heap.size + 1 + 1) n cap 2 ao f _ (by decide) (by decide) HC2.out.1).mono ?_
  rintro e w4 ⟨⟨x, rfl⟩, hcur, hgr⟩
  have M0 : KB w4 w.heap.size 27 none 0 0 none 0 0 false false false 0 := (hgr.block w.heap.size L0.lt (by simp; omega)).trans L0
  have M1 : KB w4 (w.heap.size + 1) 27 none 0 0 none 0 0 false false false 0 := (hgr.block (w.heap.size + 1) L1.lt (by simp)).trans L1
  have MX : KB w4 w2.heap.size 27 go G.length gc bo k bc fi ol he la := LX.cur hgr (by omega)
  have HC4 := hide hcur
  have B4 := tb_of B3 hgr (by omega : w.heap.size ≤ w.heap.size + 1 + 1)
  have HK4 := hide (HK3.out.trans (Kp.grown (B := w1.heap.size) hgr (by omega)))
  have hs4 := hgr.size
  clear hcur hgr L0 L1 LX B3 HC2 HK3
  cases x with
  | true =>
    go_wp2_with fail
    have hbe : Below w4.heap.size w4 w4.drew := Below.drawn (Below.refl _ _) 1
    have hS0 := (MX.b hbe).cells
    have hmvs := hide (HM.out w4.drew (HK4.out.trans (Kp.below hbe)))
    refine wp_region_held_drew (S := (fun w' => w'.cell? ⟨w2.heap.size, 0, none⟩ = some (.slice go G.length gc) ∧ w'.cell? ⟨w2.heap.size, 1, none⟩ = some (.slice bo k bc) ∧ w'.cell? ⟨w2.heap.size, 2, none⟩ = some (.bool fi) ∧ w'.cell? ⟨w2.heap.size, 3, none⟩ = some (.bool ol) ∧ w'.cell? ⟨w2.heap.size, 4, none⟩ = some (.bool he) ∧ w'.cell? ⟨w2.heap.size, 5, none⟩ = some (.int .i64 la))) (by kernel_rfl) ?_ (fun hHeld => ?_)
    · exact hS0
    refine wpAnyH_take (i := 0) (oi := { dst := some 12, op := Op.load 27 (Operand.tmp 5), type := 27, pos := "l05_meta.go:154", after := #[], guard := none }) (v := ?_) rfl (by kernel_rfl) (by kernel_rfl) (by kernel_rfl) (fun _ _ _ h => h) (Or.inl ⟨by rfl, ?_⟩) (by assumption) ?_
    rotate_left 1
    · (intro wq hSw; (try dsimp only at hSw); go_simp; try with_reducible rfl)
    try simp only [Act.put, List.setIfInBounds_toArray, List.set_cons_zero, List.set_cons_succ]
    refine wpAnyH_take (i := 1) (oi := { dst := some 13, op := Op.load 27 (Operand.tmp 5), type := 27, pos := "l05_meta.go:154", after := #[], guard := none }) (v := ?_) rfl (by kernel_rfl) (by kernel_rfl) (by kernel_rfl) (fun _ _ _ h => h) (Or.inl ⟨by rfl, ?_⟩) (by assumption) ?_
    rotate_left 1
    · (intro wq hSw; (try dsimp only at hSw); go_simp; try with_reducible rfl)
    try simp only [Act.put, List.setIfInBounds_toArray, List.set_cons_zero, List.set_cons_succ]
    refine wpAnyH_ready (rs := [2]) (by kernel_rfl) (by simp) ?_
    refine AllReadyH.cons (o := { dst := some 14, op := Op.call { callee := Callee.value (Operand.func 53), args := #[Operand.tmp 13], argTypes := #[27] }, type := 27, pos := "l05_meta.go:154", after := #[{ on := 1, ground := Ground.data }], guard := none }) rfl (fun K hK => ?_) AllReadyH.nil
    go_simp
    refine (copy5 go bo gc bc k G L fi ol he la w4.drew hbd hmvs.out).mono ?_
    rintro e w5 ⟨go', bo', gc', bc', rfl, hmv5, b50⟩
    have b5 : Below w4.heap.size w4 w5 := hbe.trans b50
    have HMa := hide (fun w6 (h6 : Kp w1.heap.size w5 w6) => (HM.out w6 ((HK4.out.trans (Kp.below b5)).trans h6)).1)
    have HMb := hide hmv5
    have hs5 := b5.size
    have B5 := hide (B4.trans (b5.mono B4.size))
    have P0 := M0.b b5
    have P1 := M1.b b5
    have PX := MX.b b5
    have hS5 := PX.cells
    obtain ⟨a0, a1, a2, a3, a4, a5⟩ := P0.cells
    have za := P0.froz
    have Q0 := P0.put6 (go' := go) (gl' := G.length) (gc' := gc) (bo' := bo) (n' := k) (bc' := bc) (fi' := fi) (ol' := ol) (he' := he) (la' := la)
    have Q1 := P1.six (X := w.heap.size) (v0 := (.slice go G.length gc)) (v1 := (.slice bo k bc)) (v2 := (.bool fi)) (v3 := (.bool ol)) (v4 := (.bool he)) (v5 := (.int .i64 la)) (by omega)
    have QX := PX.six (X := w.heap.size) (v0 := (.slice go G.length gc)) (v1 := (.slice bo k bc)) (v2 := (.bool fi)) (v3 := (.bool ol)) (v4 := (.bool he)) (v5 := (.int .i64 la)) (by omega)
    have hS6 := QX.cells
    obtain ⟨d0, d1, d2, d3, d4, d5⟩ := Q1.cells
    have zd := Q1.froz
    have U0 := Q0.six (X := w.heap.size + 1) (v0 := (.slice go' G.length gc')) (v1 := (.slice bo' k bc')) (v2 := (.bool fi)) (v3 := (.bool ol)) (v4 := (.bool he)) (v5 := (.int .i64 la)) (by omega)
    have U1 := Q1.put6 (go' := go') (gl' := G.length) (gc' := gc') (bo' := bo') (n' := k) (bc' := bc') (fi' := fi) (ol' := ol) (he' := he) (la' := la)
    have UX := QX.six (X := w.heap.size + 1) (v0 := (.slice go' G.length gc')) (v1 := (.slice bo' k bc')) (v2 := (.bool fi)) (v3 := (.bool ol)) (v4 := (.bool he)) (v5 := (.int .i64 la)) (by omega)
    have hS7 := UX.cells
    obtain ⟨r0, r1, r2, r3, r4, r5⟩ := U0.cells
    obtain ⟨t0, t1, t2, t3, t4, t5⟩ := U1.cells
    clear P0 P1 PX Q0 Q1 QX U0 U1 UX
    clear b5 b50 hmv5
    go_wp2_with fail
    refine hK.out _ _ ?_ (fun hHeld => ?_)
    · exact hS5
    clear hK K
    try simp only [Act.put, List.setIfInBounds_toArray, List.set_cons_zero, List.set_cons_succ]
    refine wpAnyH_ready (rs := [3]) (by kernel_rfl) (by simp) ?_
    refine AllReadyH.cons (o := { dst := none, op := Op.store 27 (Operand.tmp 2) (Operand.tmp 12), type := 0, pos := "l05_meta.go:154", after := #[{ on := 0, ground := Ground.data }, { on := 2, ground := Ground.chain }, { on := 0, ground := Ground.phase }, { on := 1, ground := Ground.textOnly Departure.lateStores }, { on := 2, ground := Ground.textOnly Departure.lateStoresUnsure }], guard := none }) rfl (fun K hK => ?_) AllReadyH.nil
    go_simp
    refine hK.out _ _ ?_ (fun hHeld => ?_)
    · exact hS6
    clear hK K
    try simp only [Act.put, List.setIfInBounds_toArray, List.set_cons_zero, List.set_cons_succ]
    refine wpAnyH_ready (rs := [4]) (by kernel_rfl) (by simp) ?_
    refine AllReadyH.cons (o := { dst := none, op := Op.store 27 (Operand.tmp 3) (Operand.tmp 14), type := 0, pos := "l05_meta.go:154", after := #[{ on := 2, ground := Ground.data }, { on := 3, ground := Ground.chain }, { on := 0, ground := Ground.phase }, { on := 1, ground := Ground.phase }, { on := 2, ground := Ground.phase }, { on := 3, ground := Ground.phase }], guard := none }) rfl (fun K hK => ?_) AllReadyH.nil
    go_simp
    refine hK.out _ _ ?_ (fun hHeld => ?_)
    · exact hS7
    clear hK K
    try simp only [Act.put, List.setIfInBounds_toArray, List.set_cons_zero, List.set_cons_succ]
    refine wpAnyH_done (by kernel_rfl) ?_ _
    go_wp2_with fail
    refine bodyPost_ret (v := .tuple #[.agg #[.slice go G.length gc, .slice bo k bc, .bool fi, .bool ol, .bool he, .int .i64 la], .agg #[.slice go' G.length gc', .slice bo' k bc', .bool fi, .bool ol, .bool he, .int .i64 la]]) (by simp [results, Try.results15, go_sem, r0, r1, r2, r3, r4, r5, t0, t1, t2, t3, t4, t5]) rfl ?_
    refine ⟨go, bo, gc, bc, G, k, L, fi, ol, he, la, go', bo', gc', bc', G, k, L, fi, ol, he, la, rfl, ⟨hbd, hbd⟩, ?_, ?_, six_below (six_below B5.out (Nat.le_refl _)) (Nat.le_succ _)⟩
    · exact (HMa.out _ ((six_kp (by omega)).trans (six_kp (by omega))))
    · exact (HMb.out _ ((six_kp (by show _ < w4.heap.size + 3; omega)).trans (six_kp (by show _ < w4.heap.size + 3; omega))))
  | false =>
    go_wp2_with fail
    have hbe : Below w4.heap.size w4 w4.drew := Below.drawn (Below.refl _ _) 1
    have hS0 := (MX.b hbe).cells
    have HC4d : Hid (Cur w4.drew (w.heap.size + 1 + 1) ao n cap f) := HC4.out.grown (grown_of_below hbe none) (fun k hk => by cases hk)
    refine wp_region_held_drew (S := (fun w' => w'.cell? ⟨w2.heap.size, 0, none⟩ = some (.slice go G.length gc) ∧ w'.cell? ⟨w2.heap.size, 1, none⟩ = some (.slice bo k bc) ∧ w'.cell? ⟨w2.heap.size, 2, none⟩ = some (.bool fi) ∧ w'.cell? ⟨w2.heap.size, 3, none⟩ = some (.bool ol) ∧ w'.cell? ⟨w2.heap.size, 4, none⟩ = some (.bool he) ∧ w'.cell? ⟨w2.heap.size, 5, none⟩ = some (.int .i64 la))) (by kernel_rfl) ?_ (fun hHeld => ?_)
    · exact hS0
    refine wpAnyH_take (i := 0) (oi := { dst := some 15, op := Op.load 27 (Operand.tmp 5), type := 27, pos := "l05_meta.go:156", after := #[], guard := none }) (v := ?_) rfl (by kernel_rfl) (by kernel_rfl) (by kernel_rfl) (fun _ _ _ h => h) (Or.inl ⟨by rfl, ?_⟩) (by assumption) ?_
    rotate_left 1
    · (intro wq hSw; (try dsimp only at hSw); go_simp; try with_reducible rfl)
    try simp only [Act.put, List.setIfInBounds_toArray, List.set_cons_zero, List.set_cons_succ]
    refine wpAnyH_take (i := 1) (oi := { dst := some 16, op := Op.move (Operand.tmp 4), type := 52, pos := "l05_meta.go:156", after := #[], guard := none }) (v := ?_) rfl (by kernel_rfl) (by kernel_rfl) (by kernel_rfl) (fun _ _ _ h => h) (Or.inl ⟨by rfl, ?_⟩) (by assumption) ?_
    rotate_left 1
    · (intro wq hSw; (try dsimp only at hSw); go_simp; try with_reducible rfl)
    try simp only [Act.put, List.setIfInBounds_toArray, List.set_cons_zero, List.set_cons_succ]
    refine wpAnyH_ready (rs := [2]) (by kernel_rfl) (by simp) ?_
    refine AllReadyH.cons (o := { dst := some 17, op := Op.call { callee := Callee.value (Operand.func 38), args := #[Operand.tmp 16], argTypes := #[52] }, type := 27, pos := "l05_meta.go:156", after := #[{ on := 1, ground := Ground.data }], guard := none }) rfl (fun K hK => ?_) AllReadyH.nil
    go_simp
    refine (draw5 (w.heap.size + 1 + 1) n cap ao f w4.drew HC4d.out).mono ?_
    rintro e w5 ⟨⟨go', bo', gc', bc', G', k', L', fi', ol', he', la', rfl, hbd', hmv'⟩, hcw'⟩
    have k5 : Kp w1.heap.size w4 w5 := (Kp.below hbe).trans (Kp.grown hcw'.2.1 (by omega))
    have HM5 := hide (And.intro (fun w6 (h6 : Kp w1.heap.size w5 w6) => (HM.out w6 ((HK4.out.trans k5).trans h6)).1) (fun w6 (h6 : Kp w4.drew.heap.size w5 w6) => (hmv' w6 h6).1))
    have B5 := hide (tb_of (B4.trans (hbe.mono B4.size)) hcw'.2.1 (by omega : w.heap.size ≤ w.heap.size + 1 + 1))
    have P0 : KB w5 w.heap.size 27 none 0 0 none 0 0 false false false 0 := (hcw'.2.1.block _ (M0.b hbe).lt (by simp; omega)).trans (M0.b hbe)
    have P1 : KB w5 (w.heap.size + 1) 27 none 0 0 none 0 0 false false false 0 := (hcw'.2.1.block _ (M1.b hbe).lt (by simp)).trans (M1.b hbe)
    have PX : KB w5 w2.heap.size 27 go G.length gc bo k bc fi ol he la := (MX.b hbe).cur hcw'.2.1 (by omega)
    have hS5 := PX.cells
    obtain ⟨a0, a1, a2, a3, a4, a5⟩ := P0.cells
    have za := P0.froz
    have Q0 := P0.put6 (go' := go) (gl' := G.length) (gc' := gc) (bo' := bo) (n' := k) (bc' := bc) (fi' := fi) (ol' := ol) (he' := he) (la' := la)
    have Q1 := P1.six (X := w.heap.size) (v0 := (.slice go G.length gc)) (v1 := (.slice bo k bc)) (v2 := (.bool fi)) (v3 := (.bool ol)) (v4 := (.bool he)) (v5 := (.int .i64 la)) (by omega)
    have QX := PX.six (X := w.heap.size) (v0 := (.slice go G.length gc)) (v1 := (.slice bo k bc)) (v2 := (.bool fi)) (v3 := (.bool ol)) (v4 := (.bool he)) (v5 := (.int .i64 la)) (by omega)
    have hS6 := QX.cells
    obtain ⟨d0, d1, d2, d3, d4, d5⟩ := Q1.cells
    have zd := Q1.froz
    have U0 := Q0.six (X := w.heap.size + 1) (v0 := (.slice go' G'.length gc')) (v1 := (.slice bo' k' bc')) (v2 := (.bool fi')) (v3 := (.bool ol')) (v4 := (.bool he')) (v5 := (.int .i64 la')) (by omega)
    have U1 := Q1.put6 (go' := go') (gl' := G'.length) (gc' := gc') (bo' := bo') (n' := k') (bc' := bc') (fi' := fi') (ol' := ol') (he' := he') (la' := la')
    have UX := QX.six (X := w.heap.size + 1) (v0 := (.slice go' G'.length gc')) (v1 := (.slice bo' k' bc')) (v2 := (.bool fi')) (v3 := (.bool ol')) (v4 := (.bool he')) (v5 := (.int .i64 la')) (by omega)
    have hS7 := UX.cells
    obtain ⟨r0, r1, r2, r3, r4, r5⟩ := U0.cells
    obtain ⟨t0, t1, t2, t3, t4, t5⟩ := U1.cells
    clear P0 P1 PX Q0 Q1 QX U0 U1 UX
    clear hmv' hcw'
    go_wp2_with fail
    refine hK.out _ _ ?_ (fun hHeld => ?_)
    · exact hS5
    clear hK K
    try simp only [Act.put, List.setIfInBounds_toArray, List.set_cons_zero, List.set_cons_succ]
    refine wpAnyH_ready (rs := [3]) (by kernel_rfl) (by simp) ?_
    refine AllReadyH.cons (o := { dst := none, op := Op.store 27 (Operand.tmp 2) (Operand.tmp 15), type := 0, pos := "l05_meta.go:156", after := #[{ on := 0, ground := Ground.data }, { on := 2, ground := Ground.chain }, { on := 0, ground := Ground.phase }, { on := 1, ground := Ground.textOnly Departure.lateStores }, { on := 2, ground := Ground.textOnly Departure.lateStoresUnsure }], guard := none }) rfl (fun K hK => ?_) AllReadyH.nil
    go_simp
    refine hK.out _ _ ?_ (fun hHeld => ?_)
    · exact hS6
    clear hK K
    try simp only [Act.put, List.setIfInBounds_toArray, List.set_cons_zero, List.set_cons_succ]
    refine wpAnyH_ready (rs := [4]) (by kernel_rfl) (by simp) ?_
    refine AllReadyH.cons (o := { dst := none, op := Op.store 27 (Operand.tmp 3) (Operand.tmp 17), type := 0, pos := "l05_meta.go:156", after := #[{ on := 2, ground := Ground.data }, { on := 3, ground := Ground.chain }, { on := 0, ground := Ground.phase }, { on := 1, ground := Ground.phase }, { on := 2, ground := Ground.phase }, { on := 3, ground := Ground.phase }], guard := none }) rfl (fun K hK => ?_) AllReadyH.nil
    go_simp
    refine hK.out _ _ ?_ (fun hHeld => ?_)
    · exact hS7
    clear hK K
    try simp only [Act.put, List.setIfInBounds_toArray, List.set_cons_zero, List.set_cons_succ]
    refine wpAnyH_done (by kernel_rfl) ?_ _
    go_wp2_with fail
    refine bodyPost_ret (v := .tuple #[.agg #[.slice go G.length gc, .slice bo k bc, .bool fi, .bool ol, .bool he, .int .i64 la], .agg #[.slice go' G'.length gc', .slice bo' k' bc', .bool fi', .bool ol', .bool he', .int .i64 la']]) (by simp [results, Try.results15, go_sem, r0, r1, r2, r3, r4, r5, t0, t1, t2, t3, t4, t5]) rfl ?_
    exact ⟨go, bo, gc, bc, G, k, L, fi, ol, he, la, go', bo', gc', bc', G', k', L', fi', ol', he', la', rfl, ⟨hbd, hbd'⟩, HM5.out.1 _ ((six_kp (by omega)).trans (six_kp (by omega))), HM5.out.2 _ ((six_kp (by show _ < w4.heap.size; omega)).trans (six_kp (by show _ < w4.heap.size; omega))), six_below (six_below B5.out (Nat.le_refl _)) (Nat.le_succ _)⟩
end Go.Proofs.Ytjbhgedbkajmdaa

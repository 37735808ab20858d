/- SlotGet of the model. -/
import Derived.Test.YtjjdbdkbpmbniaaGreatDoorSlI3Z

namespace Go.Proofs.YtjjdbdkbpmbniaaGreatDoor
open Go.ChangeShapes Go.WideShapes Go.ChangeAt Go.RowKit
set_option linter.unusedVariables false
set_option linter.unusedSimpArgs false
set_option maxRecDepth 100000

theorem VBy.of {w : World} {ao : Option Addr} {cap : Nat} {A : List Int} (h : VBy w ao cap A) : SL .u8 w ao A.length (fun i => A.getD i 0) := h.1
theorem slot_any (ao : Option Addr) (cap : Nat) (A : List Int) (w : World) (hv : VBy w ao cap A) :
    Calls Tryz.prog 20 #[.slice ao A.length cap] w fun e w' => SlOut w w' A e := by
  have h := slotof_spec ao A.length cap _ w hv.2.2.1 hv.2.1 hv.1 hv.2.2.2
  rw [krange_self] at h
  exact h
theorem sloti_any (ao : Option Addr) (cap : Nat) (A : List Int) (w : World) (hg : ErrT w) (hv : VBy w ao cap A) :
    Calls Tryz.prog 19 #[.slice ao A.length cap] w fun e w' => SlOut w w' A e := by
  have h := slotof_impl ao A.length cap _ w hv.2.2.1 hv.2.1 hg hv.1 hv.2.2.2
  rw [krange_self] at h
  exact h
theorem SlOut.no {w w' : World} {A B : List Int} {e : Ending} (hA : ¬ Whole A) (hB : ¬ Whole B) (h : SlOut w w' A e) : SlOut w w' B e := by
  obtain ⟨h1, hb⟩ := h
  rcases h1 with ⟨g, L, fi, ol, he, la, q, go, bo, gc, bc, hM, _⟩ | ⟨_, he⟩
  · exact absurd ⟨g, L, fi, ol, he, la, q, hM⟩ hA
  · exact ⟨.inr ⟨hB, he⟩, hb⟩

/-- Which one is got. -/
def Wh (A B : List Int) (x : Int) : Prop := (Lat A B ∧ x = 0) ∨ (¬ Lat A B ∧ Whole B ∧ x = 1) ∨ (¬ Whole A ∧ ¬ Whole B ∧ x = -1)
theorem wh_no {A B : List Int} (h : ¬ Whole A) (h' : ¬ Whole B) : ¬ Lat A B := fun x => h (sqv_pos.1 x.1)

set_option maxHeartbeats 1000000 in
theorem which_spec (aA aB : Option Addr) (cA cB : Nat) (A B : List Int) (w : World) (hA : VBy w aA cA A) (hB : VBy w aB cB B) :
    Calls Tryz.prog 42 #[.agg #[.slice aA A.length cA, .slice aB B.length cB]] w fun e w' => ∃ x, e = .returned (.int .i64 x) ∧ Wh A B x ∧ Below w.heap.size w w' := by
  obtain ⟨W, hW⟩ : ∃ W, W = w.alloc (.cells #[.slice aA A.length cA, .slice aB B.length cB] 25) := ⟨_, rfl⟩
  have hb : Below w.heap.size w W := by rw [hW]; exact bal1 _ _
  have hK : W.heap[w.heap.size]? = some (.cells #[.slice aA A.length cA, .slice aB B.length cB] 25 (0, 0)) := by rw [hW]; exact Deep.blk_alloc_new _ _
  have hcall := hide (slot_any aA cA A W (hA.below hb))
  have HB := hide hb
  have HK := hide hK
  have HVB := hide hB
  clear hA hB hb hK
  go_enter Tryz.func42, Tryz.ntmps42
  go_wp2_with fail
  rw [← hW]
  clear hW
  refine hcall.out.mono ?_
  rintro e w2 ⟨h1, b2⟩
  have HB2 := hide (HB.out.trans (b2.mono HB.out.size))
  have hK2 := (b2.block w.heap.size (Array.getElem?_eq_some_iff.1 HK.out).1).trans HK.out
  have c1 : w2.cell? ⟨w.heap.size, 1, none⟩ = some (.slice aB B.length cB) := mblk hK2 rfl
  have c0 : w2.cell? ⟨w.heap.size, 0, none⟩ = some (.slice aA A.length cA) := mblk hK2 rfl
  have hlt : w.heap.size < w2.heap.size := (Array.getElem?_eq_some_iff.1 hK2).1
  have hnB := hide (fun o => slot_any aB cB B _ (HVB.out.below (HB2.out.alloc HB2.out.size o)))
  have hnB' := hide (slot_any aB cB B _ (HVB.out.below HB2.out))
  have HBo := hide (fun o => HB2.out.alloc HB2.out.size o)
  clear hcall b2 HB HK hK2
  rcases h1 with ⟨g, L, fi, ol, he, la, q, go, bo, gc, bc, hM, rfl, hO⟩ | ⟨hno, rfl⟩
  · have eA := hide (sqv_is hM)
    have hqA := hM.2.1
    clear hM hO
    go_wp2_with fail
    first
      | refine (hnB.out _).mono ?_
      | refine hnB'.out.mono ?_
    rintro e w3 ⟨h2, b3⟩
    have HB3 := hide ((HBo.out _).trans (b3.mono (HBo.out _).size))
    have HB4 := hide (fun o => HB3.out.alloc HB3.out.size o)
    clear hnB hnB' b3
    rcases h2 with ⟨g', L', fi', ol', he', la', q', go', bo', gc', bc', hM', rfl, hO'⟩ | ⟨hno', rfl⟩
    · have eB := hide (sqv_is hM')
      have HW : Hid (Whole B) := ⟨g', L', fi', ol', he', la', q', hM'⟩
      clear hM' hO'
      by_cases hle : q' ≤ q
      · go_wp2
        go_ret
        exact ⟨_, rfl, .inl ⟨⟨by rw [eA.out]; omega, by rw [eA.out, eB.out]; exact hle⟩, rfl⟩, HB4.out _⟩
      · go_wp2
        go_ret
        exact ⟨_, rfl, .inr (.inl ⟨fun h => by have := h.2; rw [eA.out, eB.out] at this; omega, HW.out, rfl⟩), HB4.out _⟩
    · have eB := hide (sqv_no hno')
      clear hno'
      go_wp2
      go_ret
      exact ⟨_, rfl, .inl ⟨⟨by rw [eA.out]; omega, by rw [eA.out, eB.out]; omega⟩, rfl⟩, HB4.out _⟩
  · have HNA := hide hno
    clear hno
    go_wp2_with fail
    first
      | refine (hnB.out _).mono ?_
      | refine hnB'.out.mono ?_
    rintro e w3 ⟨h2, b3⟩
    have HB3 := hide ((HBo.out _).trans (b3.mono (HBo.out _).size))
    have HB4 := hide (fun o => HB3.out.alloc HB3.out.size o)
    clear hnB hnB' b3
    rcases h2 with ⟨g', L', fi', ol', he', la', q', go', bo', gc', bc', hM', rfl, hO'⟩ | ⟨hno', rfl⟩
    · have HW : Hid (Whole B) := ⟨g', L', fi', ol', he', la', q', hM'⟩
      clear hM' hO'
      go_wp2
      go_ret
      exact ⟨_, rfl, .inr (.inl ⟨fun h => HNA.out (sqv_pos.1 h.1), HW.out, rfl⟩), HB4.out _⟩
    · have HNB := hide hno'
      clear hno'
      go_wp2
      go_ret
      exact ⟨_, rfl, .inr (.inr ⟨HNA.out, HNB.out, rfl⟩), HB4.out _⟩

/-- The latest one. -/
def latL (D : (p : Prop) → Decidable p) (A B : List Int) : List Int := @ite (List Int) (Lat A B) (D _) A B
theorem latL_yes {A B : List Int} (h : Lat A B) : (latL Classical.propDecidable) A B = A := by unfold latL; rw [if_pos h]
theorem latL_no {A B : List Int} (h : ¬ Lat A B) : (latL Classical.propDecidable) A B = B := by unfold latL; rw [if_neg h]
/-- A block that holds two slots. -/
def SB (w : World) (b : Nat) (t : TypeId) (aA : Option Addr) (nA cA : Nat) (aB : Option Addr) (nB cB : Nat) : Prop := w.heap[b]? = some (.cells #[.slice aA nA cA, .slice aB nB cB] t (0, 0))
theorem SB.lt {w : World} {b : Nat} {t : TypeId} {aA : Option Addr} {nA cA : Nat} {aB : Option Addr} {nB cB : Nat} (h : SB w b t aA nA cA aB nB cB) : b < w.heap.size := (Array.getElem?_eq_some_iff.1 h).1
theorem SB.b {w w' : World} {b : Nat} {t : TypeId} {aA : Option Addr} {nA cA : Nat} {aB : Option Addr} {nB cB : Nat} (h : SB w b t aA nA cA aB nB cB) (hb : Below w.heap.size w w') : SB w' b t aA nA cA aB nB cB := (hb.block b h.lt).trans h
theorem SB.new (w : World) (t : TypeId) (aA : Option Addr) (nA cA : Nat) (aB : Option Addr) (nB cB : Nat) : SB (w.alloc (.cells #[.slice aA nA cA, .slice aB nB cB] t)) w.heap.size t aA nA cA aB nB cB := Deep.blk_alloc_new _ _
theorem SB.cells {w : World} {b : Nat} {t : TypeId} {aA : Option Addr} {nA cA : Nat} {aB : Option Addr} {nB cB : Nat} (h : SB w b t aA nA cA aB nB cB) : w.cell? ⟨b, 0, none⟩ = some (.slice aA nA cA) ∧ w.cell? ⟨b, 1, none⟩ = some (.slice aB nB cB) := ⟨mblk h rfl, mblk h rfl⟩
theorem SB.froz {w : World} {b : Nat} {t : TypeId} {aA : Option Addr} {nA cA : Nat} {aB : Option Addr} {nB cB : Nat} (h : SB w b t aA nA cA aB nB cB) : ∀ i, w.frozen? ⟨b, i, none⟩ = false := fun i => fblk h i

theorem set6_below {w w3 : World} {X : Nat} {v0 v1 v2 v3 v4 v5 : Value} (hb : Below w.heap.size w w3) (hX : w.heap.size ≤ X) : Below w.heap.size w ((((((w3.setCell ⟨X, 0, none⟩ v0).setCell ⟨X, 1, none⟩ v1).setCell ⟨X, 2, none⟩ v2).setCell ⟨X, 3, none⟩ v3).setCell ⟨X, 4, none⟩ v4).setCell ⟨X, 5, none⟩ v5) :=
  (((((hb.setCell (p := ⟨X, 0, none⟩) hX _).setCell (p := ⟨X, 1, none⟩) hX _).setCell (p := ⟨X, 2, none⟩) hX _).setCell (p := ⟨X, 3, none⟩) hX _).setCell (p := ⟨X, 4, none⟩) hX _).setCell (p := ⟨X, 5, none⟩) hX _
theorem set6_size (w3 : World) (X : Nat) (v0 v1 v2 v3 v4 v5 : Value) : ((((((w3.setCell ⟨X, 0, none⟩ v0).setCell ⟨X, 1, none⟩ v1).setCell ⟨X, 2, none⟩ v2).setCell ⟨X, 3, none⟩ v3).setCell ⟨X, 4, none⟩ v4).setCell ⟨X, 5, none⟩ v5).heap.size = w3.heap.size := by simp [World.setCell]
theorem set6_at (w3 : World) (X j : Nat) (v0 v1 v2 v3 v4 v5 : Value) (h : j ≠ X) : ((((((w3.setCell ⟨X, 0, none⟩ v0).setCell ⟨X, 1, none⟩ v1).setCell ⟨X, 2, none⟩ v2).setCell ⟨X, 3, none⟩ v3).setCell ⟨X, 4, none⟩ v4).setCell ⟨X, 5, none⟩ v5).heap[j]? = w3.heap[j]? := by
  simp only [World.setCell, Array.getElem?_modify]
  repeat rw [if_neg (fun e => h e.symm)]
theorem set6_alloc {w w3 : World} {X : Nat} {v0 v1 v2 v3 v4 v5 : Value} {o : Obj} (hb : Below w.heap.size w w3) (hX : w.heap.size ≤ X) : Below w.heap.size w (((((((w3.setCell ⟨X, 0, none⟩ v0).setCell ⟨X, 1, none⟩ v1).setCell ⟨X, 2, none⟩ v2).setCell ⟨X, 3, none⟩ v3).setCell ⟨X, 4, none⟩ v4).setCell ⟨X, 5, none⟩ v5).alloc o) :=
  (set6_below hb hX).alloc (by rw [set6_size]; exact hb.size) o
theorem set6_alloc_at (w3 : World) (X j : Nat) (v0 v1 v2 v3 v4 v5 : Value) (o : Obj) (h : j ≠ X) (hj : j < w3.heap.size) : (((((((w3.setCell ⟨X, 0, none⟩ v0).setCell ⟨X, 1, none⟩ v1).setCell ⟨X, 2, none⟩ v2).setCell ⟨X, 3, none⟩ v3).setCell ⟨X, 4, none⟩ v4).setCell ⟨X, 5, none⟩ v5).alloc o).heap[j]? = w3.heap[j]? :=
  (Below.heap_alloc _ _ _ (by rw [set6_size]; exact hj)).trans (set6_at _ _ _ _ _ _ _ _ _ h)
/-- What was read of a slot, handed on by another call. -/
theorem SlOut.wide {w w1 w2 : World} {A : List Int} {e : Ending} (h : SlOut w1 w2 A e) (hb : Below w.heap.size w w1) : SlOut w w2 A e := by
  obtain ⟨h1, b⟩ := h
  refine ⟨?_, hb.trans (b.mono hb.size)⟩
  rcases h1 with ⟨g, L, fi, ol, he, la, q, go, bo, gc, bc, hM, he', ho⟩ | h
  · exact .inl ⟨g, L, fi, ol, he, la, q, go, bo, gc, bc, hM, he', ho.wide hb.size⟩
  · exact .inr h

set_option maxHeartbeats 1000000 in
theorem slotget_spec (aA aB : Option Addr) (cA cB : Nat) (A B : List Int) (w : World) (hA : VBy w aA cA A) (hB : VBy w aB cB B) :
    Calls Tryz.prog 17 #[.agg #[.slice aA A.length cA, .slice aB B.length cB]] w fun e w' => SlOut w w' ((latL Classical.propDecidable) A B) e := by
  obtain ⟨W, hW⟩ : ∃ W, W = ((w.alloc (.cells #[.slice aA A.length cA, .slice aB B.length cB] 25)).alloc (.cells #[.slice none 0 0, .slice none 0 0, .bool false, .bool false, .bool false, .int .i64 0] 29)) := ⟨_, rfl⟩
  have hb : Below w.heap.size w W := by rw [hW]; exact (bal1 _ _).alloc (by simp) _
  have hS : SB W w.heap.size 25 aA A.length cA aB B.length cB := by rw [hW]; exact (SB.new w _ _ _ _ _ _ _).b (bal1 _ _)
  have hK : KB W (w.heap.size + 1) 29 none 0 0 none 0 0 false false false 0 := by
    have := KB.new (w.alloc (.cells #[.slice aA A.length cA, .slice aB B.length cB] 25)) 29 none 0 0 none 0 0 false false false 0
    rw [alsz] at this
    rw [hW]; exact this
  have hcall := hide (which_spec aA aB cA cB A B W (hA.below hb) (hB.below hb))
  have HB := hide hb
  have HS := hide hS
  have HK := hide hK
  have HVA := hide hA
  have HVB := hide hB
  clear hA hB hb hS hK
  go_enter Tryz.func17, Tryz.ntmps17
  go_wp2_with fail
  rw [← hW]
  clear hW
  refine hcall.out.mono ?_
  rintro e w2 ⟨x, rfl, hx, b2⟩
  have HB2 := hide (HB.out.trans (b2.mono HB.out.size))
  have HK2 := hide (HK.out.b b2)
  obtain ⟨c0, c1⟩ := (HS.out.b b2).cells
  have hlt2 : w.heap.size + 1 < w2.heap.size := HK2.out.lt
  clear hcall b2 HB HS HK
  rcases hx with ⟨hl, rfl⟩ | ⟨hl, hw, rfl⟩ | ⟨hnA, hnB, rfl⟩
  · have HLN : Hid (¬ Whole A → ¬ Whole ((latL Classical.propDecidable) A B)) := fun h => by rw [latL_yes hl]; exact h
    have HE : ∀ g L fi ol he la q, SlIs A g L fi ol he la q → SlIs ((latL Classical.propDecidable) A B) g L fi ol he la q := fun g L fi ol he la q h => by rw [latL_yes hl]; exact h
    clear hl
    go_wp2_with fail
    refine (slot_any aA cA A _ (HVA.out.below HB2.out)).mono ?_
    rintro e w3 ⟨h1, b3⟩
    have HB3 := hide (HB2.out.trans (b3.mono HB2.out.size))
    obtain ⟨r0, r1, r2, r3, r4, r5⟩ := (HK2.out.b b3).cells
    have rz := (HK2.out.b b3).froz
    have hz3 := b3.size
    have hne1 : ¬ w.heap.size + 1 = w3.heap.size := by omega
    have hne2 : ¬ w3.heap.size = w.heap.size + 1 := by omega
    have hlt3 : w.heap.size + 1 < w3.heap.size := by omega
    have HLL := hide HE
    clear b3 HB2 HK2 HVA HVB
    rcases h1 with ⟨g, L, fi, ol, he, la, q, go, bo, gc, bc, hM, rfl, hO⟩ | ⟨hno, rfl⟩
    · have HM := hide hM
      have HO := hide hO
      clear hM hO
      go_wp2
      refine bodyPost_ret (v := .tuple #[.agg #[.slice go g.length gc, .slice bo 3 bc, .bool fi, .bool ol, .bool he, .int .i64 la], .int .i64 q, .bool true]) (by simp [results, Tryz.results17, go_sem, r0, r1, r2, r3, r4, r5, hlt3, hne1, hne2]) rfl ?_
      refine ⟨.inl ⟨g, L, fi, ol, he, la, q, go, bo, gc, bc, HLL.out _ _ _ _ _ _ _ HM.out, rfl, ?_⟩, ?_⟩
      · have hfin : ∀ F : World, w3.heap.size ≤ F.heap.size → (∀ j, w.heap.size + 1 + 1 ≤ j → j < w3.heap.size → F.heap[j]? = w3.heap[j]?) → OKm F w.heap.size F.heap.size go gc bo bc g 3 L := fun F hs hk =>
          (HO.out.kept (fun j h1 h2 => hk j (by omega) h2) hs).wider (by omega) hs (Nat.le_refl _)
        refine hfin _ (by rw [alsz, set6_size]; omega) ?_
        intro j hj hj2
        exact set6_alloc_at _ _ _ _ _ _ _ _ _ _ (by omega) hj2
      · exact set6_alloc HB3.out (by omega)
    · have HNO := hide hno
      clear hno
      go_wp2
      refine bodyPost_ret (v := .tuple #[.agg #[.slice none 0 0, .slice none 0 0, .bool false, .bool false, .bool false, .int .i64 0], .int .i64 0, .bool false]) (by simp [results, Tryz.results17, go_sem, r0, r1, r2, r3, r4, r5, hlt3, hne1, hne2]) rfl ?_
      refine ⟨.inr ⟨HLN.out HNO.out, rfl⟩, ?_⟩
      exact set6_alloc HB3.out (by omega)
  · have HLN : Hid (¬ Whole B → ¬ Whole ((latL Classical.propDecidable) A B)) := fun h => by rw [latL_no hl]; exact h
    have HE : ∀ g L fi ol he la q, SlIs B g L fi ol he la q → SlIs ((latL Classical.propDecidable) A B) g L fi ol he la q := fun g L fi ol he la q h => by rw [latL_no hl]; exact h
    clear hl hw
    go_wp2_with fail
    refine (slot_any aB cB B _ (HVB.out.below HB2.out)).mono ?_
    rintro e w3 ⟨h1, b3⟩
    have HB3 := hide (HB2.out.trans (b3.mono HB2.out.size))
    obtain ⟨r0, r1, r2, r3, r4, r5⟩ := (HK2.out.b b3).cells
    have rz := (HK2.out.b b3).froz
    have hz3 := b3.size
    have hne1 : ¬ w.heap.size + 1 = w3.heap.size := by omega
    have hne2 : ¬ w3.heap.size = w.heap.size + 1 := by omega
    have hlt3 : w.heap.size + 1 < w3.heap.size := by omega
    have HLL := hide HE
    clear b3 HB2 HK2 HVA HVB
    rcases h1 with ⟨g, L, fi, ol, he, la, q, go, bo, gc, bc, hM, rfl, hO⟩ | ⟨hno, rfl⟩
    · have HM := hide hM
      have HO := hide hO
      clear hM hO
      go_wp2
      refine bodyPost_ret (v := .tuple #[.agg #[.slice go g.length gc, .slice bo 3 bc, .bool fi, .bool ol, .bool he, .int .i64 la], .int .i64 q, .bool true]) (by simp [results, Tryz.results17, go_sem, r0, r1, r2, r3, r4, r5, hlt3, hne1, hne2]) rfl ?_
      refine ⟨.inl ⟨g, L, fi, ol, he, la, q, go, bo, gc, bc, HLL.out _ _ _ _ _ _ _ HM.out, rfl, ?_⟩, ?_⟩
      · have hfin : ∀ F : World, w3.heap.size ≤ F.heap.size → (∀ j, w.heap.size + 1 + 1 ≤ j → j < w3.heap.size → F.heap[j]? = w3.heap[j]?) → OKm F w.heap.size F.heap.size go gc bo bc g 3 L := fun F hs hk =>
          (HO.out.kept (fun j h1 h2 => hk j (by omega) h2) hs).wider (by omega) hs (Nat.le_refl _)
        refine hfin _ (by rw [alsz, set6_size]; omega) ?_
        intro j hj hj2
        exact set6_alloc_at _ _ _ _ _ _ _ _ _ _ (by omega) hj2
      · exact set6_alloc HB3.out (by omega)
    · have HNO := hide hno
      clear hno
      go_wp2
      refine bodyPost_ret (v := .tuple #[.agg #[.slice none 0 0, .slice none 0 0, .bool false, .bool false, .bool false, .int .i64 0], .int .i64 0, .bool false]) (by simp [results, Tryz.results17, go_sem, r0, r1, r2, r3, r4, r5, hlt3, hne1, hne2]) rfl ?_
      refine ⟨.inr ⟨HLN.out HNO.out, rfl⟩, ?_⟩
      exact set6_alloc HB3.out (by omega)
  · have HLN : Hid (¬ Whole A → ¬ Whole ((latL Classical.propDecidable) A B)) := fun h => by rw [latL_no (wh_no hnA hnB)]; exact hnB
    have HE : ∀ g L fi ol he la q, SlIs A g L fi ol he la q → SlIs ((latL Classical.propDecidable) A B) g L fi ol he la q := fun g L fi ol he la q h => absurd ⟨g, L, fi, ol, he, la, q, h⟩ hnA
    clear hnA hnB
    go_wp2_with fail
    refine (slot_any aA cA A _ (HVA.out.below HB2.out)).mono ?_
    rintro e w3 ⟨h1, b3⟩
    have HB3 := hide (HB2.out.trans (b3.mono HB2.out.size))
    obtain ⟨r0, r1, r2, r3, r4, r5⟩ := (HK2.out.b b3).cells
    have rz := (HK2.out.b b3).froz
    have hz3 := b3.size
    have hne1 : ¬ w.heap.size + 1 = w3.heap.size := by omega
    have hne2 : ¬ w3.heap.size = w.heap.size + 1 := by omega
    have hlt3 : w.heap.size + 1 < w3.heap.size := by omega
    have HLL := hide HE
    clear b3 HB2 HK2 HVA HVB
    rcases h1 with ⟨g, L, fi, ol, he, la, q, go, bo, gc, bc, hM, rfl, hO⟩ | ⟨hno, rfl⟩
    · have HM := hide hM
      have HO := hide hO
      clear hM hO
      go_wp2
      refine bodyPost_ret (v := .tuple #[.agg #[.slice go g.length gc, .slice bo 3 bc, .bool fi, .bool ol, .bool he, .int .i64 la], .int .i64 q, .bool true]) (by simp [results, Tryz.results17, go_sem, r0, r1, r2, r3, r4, r5, hlt3, hne1, hne2]) rfl ?_
      refine ⟨.inl ⟨g, L, fi, ol, he, la, q, go, bo, gc, bc, HLL.out _ _ _ _ _ _ _ HM.out, rfl, ?_⟩, ?_⟩
      · have hfin : ∀ F : World, w3.heap.size ≤ F.heap.size → (∀ j, w.heap.size + 1 + 1 ≤ j → j < w3.heap.size → F.heap[j]? = w3.heap[j]?) → OKm F w.heap.size F.heap.size go gc bo bc g 3 L := fun F hs hk =>
          (HO.out.kept (fun j h1 h2 => hk j (by omega) h2) hs).wider (by omega) hs (Nat.le_refl _)
        refine hfin _ (by rw [alsz, set6_size]; omega) ?_
        intro j hj hj2
        exact set6_alloc_at _ _ _ _ _ _ _ _ _ _ (by omega) hj2
      · exact set6_alloc HB3.out (by omega)
    · have HNO := hide hno
      clear hno
      go_wp2
      refine bodyPost_ret (v := .tuple #[.agg #[.slice none 0 0, .slice none 0 0, .bool false, .bool false, .bool false, .int .i64 0], .int .i64 0, .bool false]) (by simp [results, Tryz.results17, go_sem, r0, r1, r2, r3, r4, r5, hlt3, hne1, hne2]) rfl ?_
      refine ⟨.inr ⟨HLN.out HNO.out, rfl⟩, ?_⟩
      exact set6_alloc HB3.out (by omega)
end Go.Proofs.YtjjdbdkbpmbniaaGreatDoor

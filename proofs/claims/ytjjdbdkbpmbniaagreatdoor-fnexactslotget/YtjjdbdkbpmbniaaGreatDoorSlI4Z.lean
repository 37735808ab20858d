/- SlotGet of the program. -/
import Derived.Test.YtjjdbdkbpmbniaaGreatDoorSlS3Z

namespace Go.Proofs.YtjjdbdkbpmbniaaGreatDoor
open Go.ChangeShapes Go.WideShapes Go.ChangeAt Go.RowKit
set_option linter.unusedVariables false
set_option linter.unusedSimpArgs false
set_option maxRecDepth 100000

/-- Where the latest one lies. -/
def latN (D : (p : Prop) → Decidable p) (A B : List Int) : Nat := @ite Nat (Lat A B) (D _) 0 1
theorem latN_yes {A B : List Int} (h : Lat A B) : (latN Classical.propDecidable) A B = 0 := by unfold latN; rw [if_pos h]
theorem latN_no {A B : List Int} (h : ¬ Lat A B) : (latN Classical.propDecidable) A B = 1 := by unfold latN; rw [if_neg h]

set_option maxHeartbeats 1000000 in
theorem latest_impl (b : Nat) (aA aB : Option Addr) (cA cB : Nat) (A B : List Int) (w : World) (hg : ErrT w) (hS : SB w b 25 aA A.length cA aB B.length cB) (hA : VBy w aA cA A) (hB : VBy w aB cB B) :
    Calls Tryz.prog 37 #[.pointer (some ⟨b, 0, none⟩)] w fun e w' => e = .returned (.tuple #[.pointer (some ⟨b, (latN Classical.propDecidable) A B, none⟩), .pointer (some ⟨b, 1 - (latN Classical.propDecidable) A B, none⟩)]) ∧ Below w.heap.size w w' := by
  have hc1 := hide (seqof_impl aA cA A w hg hA)
  obtain ⟨c0, c1⟩ := hS.cells
  have HG := hide hg
  have HS := hide hS
  have HVB := hide hB
  clear hg hS hA hB
  have qA := sqv_bd A
  have qB := sqv_bd B
  by_cases hl : Lat A B
  · rw [latN_yes hl]
    unfold Lat at hl
    obtain ⟨hl1, hl2⟩ := hl
    generalize (sqv Classical.propDecidable) A = x at *
    have hc2 := hide (fun W (hb : Below w.heap.size w W) => seqof_impl aB cB B W (HG.out.below hb) (HVB.out.below hb))
    generalize (sqv Classical.propDecidable) B = y at *
    go_enter Tryz.func37, Tryz.ntmps37
    go_wp2_with fail
    refine hc1.out.mono ?_
    rintro e w1 ⟨rfl, b1⟩
    obtain ⟨d0, d1⟩ := (HS.out.b b1).cells
    have HB1 := hide b1
    clear b1 hc1 c0 c1
    go_wp2_with fail
    refine (hc2.out _ HB1.out).mono ?_
    rintro e w2 ⟨rfl, b2⟩
    have HB2 := hide (HB1.out.trans (b2.mono HB1.out.size))
    clear b2 hc2 d0 d1
    go_wp2
    go_quiet (fail)
    go_wp2
    exact bodyPost_ret (v := .tuple #[.pointer (some ⟨b, 0, none⟩), .pointer (some ⟨b, 1, none⟩)]) (by simp [results, Tryz.results37, go_sem]) rfl ⟨rfl, by first | exact HB2.out | exact Below.drawn HB2.out _⟩
  · rw [latN_no hl]
    unfold Lat at hl
    have hc2 := hide (fun W (hb : Below w.heap.size w W) => seqof_impl aB cB B W (HG.out.below hb) (HVB.out.below hb))
    generalize (sqv Classical.propDecidable) A = x at *
    generalize (sqv Classical.propDecidable) B = y at *
    by_cases h0 : 0 < x
    · have h1 : ¬ y ≤ x := fun h => hl ⟨h0, h⟩
      go_enter Tryz.func37, Tryz.ntmps37
      go_wp2_with fail
      refine hc1.out.mono ?_
      rintro e w1 ⟨rfl, b1⟩
      obtain ⟨d0, d1⟩ := (HS.out.b b1).cells
      have HB1 := hide b1
      clear b1 hc1 c0 c1
      go_wp2_with fail
      refine (hc2.out _ HB1.out).mono ?_
      rintro e w2 ⟨rfl, b2⟩
      have HB2 := hide (HB1.out.trans (b2.mono HB1.out.size))
      clear b2 hc2 d0 d1
      go_wp2
      go_quiet (fail)
      go_wp2
      exact bodyPost_ret (v := .tuple #[.pointer (some ⟨b, 1, none⟩), .pointer (some ⟨b, 0, none⟩)]) (by simp [results, Tryz.results37, go_sem]) rfl ⟨rfl, by first | exact HB2.out | exact Below.drawn HB2.out _⟩
    · go_enter Tryz.func37, Tryz.ntmps37
      go_wp2_with fail
      refine hc1.out.mono ?_
      rintro e w1 ⟨rfl, b1⟩
      have HB1 := hide b1
      clear b1 hc1 c0 c1
      go_wp2
      go_quiet (fail)
      go_wp2
      exact bodyPost_ret (v := .tuple #[.pointer (some ⟨b, 1, none⟩), .pointer (some ⟨b, 0, none⟩)]) (by simp [results, Tryz.results37, go_sem]) rfl ⟨rfl, by first | exact HB1.out | exact Below.drawn HB1.out _⟩

/-- The slice that a place names. -/
theorem lat_cell {w : World} {b : Nat} {t : TypeId} {aA : Option Addr} {cA : Nat} {aB : Option Addr} {cB : Nat} {A B : List Int} (h : SB w b t aA A.length cA aB B.length cB) (hA : VBy w aA cA A) (hB : VBy w aB cB B) :
    ∃ ao cap, w.cell? ⟨b, (latN Classical.propDecidable) A B, none⟩ = some (.slice ao ((latL Classical.propDecidable) A B).length cap) ∧ VBy w ao cap ((latL Classical.propDecidable) A B) := by
  by_cases hl : Lat A B
  · rw [latN_yes hl, latL_yes hl]; exact ⟨_, _, h.cells.1, hA⟩
  · rw [latN_no hl, latL_no hl]; exact ⟨_, _, h.cells.2, hB⟩

set_option maxHeartbeats 1000000 in
theorem slotget_impl (aA aB : Option Addr) (cA cB : Nat) (A B : List Int) (w : World) (hg : ErrT w) (hA : VBy w aA cA A) (hB : VBy w aB cB B) :
    Calls Tryz.prog 11 #[.agg #[.slice aA A.length cA, .slice aB B.length cB]] w fun e w' => SlOut w w' ((latL Classical.propDecidable) A B) e := by
  obtain ⟨W, hW⟩ : ∃ W, W = ((w.alloc (.cells #[.slice aA A.length cA, .slice aB B.length cB] 25)).alloc (.cells #[.slice none 0 0, .slice none 0 0, .bool false, .bool false, .bool false, .int .i64 0] 29)) := ⟨_, rfl⟩
  have hb : Below w.heap.size w W := by rw [hW]; exact (bal1 _ _).alloc (by simp) _
  have hS : SB W w.heap.size 25 aA A.length cA aB B.length cB := by rw [hW]; exact (SB.new w _ _ _ _ _ _ _).b (bal1 _ _)
  have hK : KB W (w.heap.size + 1) 29 none 0 0 none 0 0 false false false 0 := by
    have := KB.new (w.alloc (.cells #[.slice aA A.length cA, .slice aB B.length cB] 25)) 29 none 0 0 none 0 0 false false false 0
    rw [alsz] at this
    rw [hW]; exact this
  have hcall := hide (latest_impl w.heap.size aA aB cA cB A B W (hg.below hb) hS (hA.below hb) (hB.below hb))
  have HB := hide hb
  have HS := hide hS
  have HK := hide hK
  have HVA := hide hA
  have HVB := hide hB
  have HG := hide hg
  clear hA hB hb hS hK hg
  go_enter Tryz.func11, Tryz.ntmps11
  go_wp2_with fail
  rw [← hW]
  clear hW
  refine hcall.out.mono ?_
  rintro e w2 ⟨rfl, b2⟩
  have HB2 := hide (HB.out.trans (b2.mono HB.out.size))
  have HK2 := hide (HK.out.b b2)
  obtain ⟨ao, cap, hc, hv⟩ := lat_cell (HS.out.b b2) (HVA.out.below HB2.out) (HVB.out.below HB2.out)
  have hlt2 : w.heap.size + 1 < w2.heap.size := HK2.out.lt
  have hcs := hide (sloti_any ao cap ((latL Classical.propDecidable) A B) w2 (HG.out.below HB2.out) hv)
  generalize (latN Classical.propDecidable) A B = i at *
  clear hcall b2 HB HS HK HVA HVB hv
  go_wp2_with fail
  refine hcs.out.mono ?_
  rintro e w3 ⟨h1, b3⟩
  have HB3 := hide (HB2.out.trans (b3.mono HB2.out.size))
  obtain ⟨r0, r1, r2, r3, r4, r5⟩ := (HK2.out.b b3).cells
  have rz := (HK2.out.b b3).froz
  have hz3 := b3.size
  clear b3 HB2 HK2 hcs
  rcases h1 with ⟨g, L, fi, ol, he, la, q, go, bo, gc, bc, hM, rfl, hO⟩ | ⟨hno, rfl⟩
  · have HM := hide hM
    have HO := hide hO
    clear hM hO
    go_wp2
    refine bodyPost_ret (v := .tuple #[.agg #[.slice go g.length gc, .slice bo 3 bc, .bool fi, .bool ol, .bool he, .int .i64 la], .int .i64 q, .bool true]) (by simp [results, Tryz.results11, go_sem, r0, r1, r2, r3, r4, r5]) rfl ?_
    refine ⟨.inl ⟨g, L, fi, ol, he, la, q, go, bo, gc, bc, HM.out, rfl, ?_⟩, ?_⟩
    · have hfin : ∀ F : World, w3.heap.size ≤ F.heap.size → (∀ j, w.heap.size + 1 + 1 ≤ j → j < w3.heap.size → F.heap[j]? = w3.heap[j]?) → OKm F w.heap.size F.heap.size go gc bo bc g 3 L := fun F hs hk =>
        (HO.out.kept (fun j h1 h2 => hk j (by omega) h2) hs).wider (by omega) hs (Nat.le_refl _)
      refine hfin _ (by rw [set6_size]; omega) ?_
      intro j hj hj2
      exact set6_at _ _ _ _ _ _ _ _ _ (by omega)
    · exact set6_below HB3.out (by omega)
  · have HNO := hide hno
    clear hno
    go_wp2
    refine bodyPost_ret (v := .tuple #[.agg #[.slice none 0 0, .slice none 0 0, .bool false, .bool false, .bool false, .int .i64 0], .int .i64 0, .bool false]) (by simp [results, Tryz.results11, go_sem, r0, r1, r2, r3, r4, r5]) rfl ?_
    exact ⟨.inr ⟨HNO.out, rfl⟩, set6_below HB3.out (by omega)⟩
end Go.Proofs.YtjjdbdkbpmbniaaGreatDoor

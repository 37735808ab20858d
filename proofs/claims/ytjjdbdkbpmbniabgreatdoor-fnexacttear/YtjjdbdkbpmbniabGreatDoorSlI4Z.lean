/- SlotGet of the program. -/
import Derived.Test.YtjjdbdkbpmbniabGreatDoorSlS3Z

namespace Go.Proofs.YtjjdbdkbpmbniabGreatDoor
open Go.ChangeShapes Go.WideShapes Go.ChangeAt Go.RowKit
set_option linter.unusedVariables false
set_option linter.unusedSimpArgs false
set_option maxRecDepth 100000

/-- Where the latest one lies. -/
def latN (D : (p : Prop) → Decidable p) (A B : List Int) : Nat := @ite Nat (Lat A B) (D _) 0 1
theorem latN_yes {A B : List Int} (h : Lat A B) : (latN Classical.propDecidable) A B = 0 := by unfold latN; rw [if_pos h]
theorem latN_no {A B : List Int} (h : ¬ Lat A B) : (latN Classical.propDecidable) A B = 1 := by unfold latN; rw [if_neg h]

set_option maxHeartbeats 1000000 in
theorem latest_impl (b : Nat) (aA aB : Option Addr) (cA cB : Nat) (A B : List Int) (w : World) (hg : ErrT w) (hS : SB w b 31 aA A.length cA aB B.length cB) (hA : VBy w aA cA A) (hB : VBy w aB cB B) :
    Calls Tryz.prog 28 #[.pointer (some ⟨b, 0, none⟩)] w fun e w' => e = .returned (.tuple #[.pointer (some ⟨b, (latN Classical.propDecidable) A B, none⟩), .pointer (some ⟨b, 1 - (latN Classical.propDecidable) A B, none⟩)]) ∧ Below w.heap.size w w' := by
  have hc1 := hide (seqof_impl aA cA A w hg hA)
  obtain ⟨c0, c1⟩ := hS.cells
  have HG := hide hg
  have HS := hide hS
  have HVB := hide hB
  clear hg hS hA hB
  have qA := sqv_bd A
  have qB := sqv_bd B
  by_cases hl : Lat A B
  · rw [latN_yes hl]
    unfold Lat at hl
    obtain ⟨hl1, hl2⟩ := hl
    generalize (sqv Classical.propDecidable) A = x at *
    have hc2 := hide (fun W (hb : Below w.heap.size w W) => seqof_impl aB cB B W (HG.out.below hb) (HVB.out.below hb))
    generalize (sqv Classical.propDecidable) B = y at *
    go_enter Tryz.func28, Tryz.ntmps28
    go_wp2_with fail
    refine hc1.out.mono ?_
    rintro e w1 ⟨rfl, b1⟩
    obtain ⟨d0, d1⟩ := (HS.out.b b1).cells
    have HB1 := hide b1
    clear b1 hc1 c0 c1
    go_wp2_with fail
    refine (hc2.out _ HB1.out).mono ?_
    rintro e w2 ⟨rfl, b2⟩
    have HB2 := hide (HB1.out.trans (b2.mono HB1.out.size))
    clear b2 hc2 d0 d1
    go_wp2
    go_quiet (fail)
    go_wp2
    exact bodyPost_ret (v := .tuple #[.pointer (some ⟨b, 0, none⟩), .pointer (some ⟨b, 1, none⟩)]) (by simp [results, Tryz.results28, go_sem]) rfl ⟨rfl, by first | exact HB2.out | exact Below.drawn HB2.out _⟩
  · rw [latN_no hl]
    unfold Lat at hl
    have hc2 := hide (fun W (hb : Below w.heap.size w W) => seqof_impl aB cB B W (HG.out.below hb) (HVB.out.below hb))
    generalize (sqv Classical.propDecidable) A = x at *
    generalize (sqv Classical.propDecidable) B = y at *
    by_cases h0 : 0 < x
    · have h1 : ¬ y ≤ x := fun h => hl ⟨h0, h⟩
      go_enter Tryz.func28, Tryz.ntmps28
      go_wp2_with fail
      refine hc1.out.mono ?_
      rintro e w1 ⟨rfl, b1⟩
      obtain ⟨d0, d1⟩ := (HS.out.b b1).cells
      have HB1 := hide b1
      clear b1 hc1 c0 c1
      go_wp2_with fail
      refine (hc2.out _ HB1.out).mono ?_
      rintro e w2 ⟨rfl, b2⟩
      have HB2 := hide (HB1.out.trans (b2.mono HB1.out.size))
      clear b2 hc2 d0 d1
      go_wp2
      go_quiet (fail)
      go_wp2
      exact bodyPost_ret (v := .tuple #[.pointer (some ⟨b, 1, none⟩), .pointer (some ⟨b, 0, none⟩)]) (by simp [results, Tryz.results28, go_sem]) rfl ⟨rfl, by first | exact HB2.out | exact Below.drawn HB2.out _⟩
    · go_enter Tryz.func28, Tryz.ntmps28
      go_wp2_with fail
      refine hc1.out.mono ?_
      rintro e w1 ⟨rfl, b1⟩
      have HB1 := hide b1
      clear b1 hc1 c0 c1
      go_wp2
      go_quiet (fail)
      go_wp2
      exact bodyPost_ret (v := .tuple #[.pointer (some ⟨b, 1, none⟩), .pointer (some ⟨b, 0, none⟩)]) (by simp [results, Tryz.results28, go_sem]) rfl ⟨rfl, by first | exact HB1.out | exact Below.drawn HB1.out _⟩

/-- The slice that a place names. -/
theorem lat_cell {w : World} {b : Nat} {t : TypeId} {aA : Option Addr} {cA : Nat} {aB : Option Addr} {cB : Nat} {A B : List Int} (h : SB w b t aA A.length cA aB B.length cB) (hA : VBy w aA cA A) (hB : VBy w aB cB B) :
    ∃ ao cap, w.cell? ⟨b, (latN Classical.propDecidable) A B, none⟩ = some (.slice ao ((latL Classical.propDecidable) A B).length cap) ∧ VBy w ao cap ((latL Classical.propDecidable) A B) := by
  by_cases hl : Lat A B
  · rw [latN_yes hl, latL_yes hl]; exact ⟨_, _, h.cells.1, hA⟩
  · rw [latN_no hl, latL_no hl]; exact ⟨_, _, h.cells.2, hB⟩

end Go.Proofs.YtjjdbdkbpmbniabGreatDoor

/- What the laws of slots and of what is known want besides. -/
import Derived.Test.YtkndnndildnbpaaGreatDoorSlPuZ

namespace Go.Proofs.YtkndnndildnbpaaGreatDoor
open Go.ChangeShapes Go.WideShapes Go.ChangeAt Go.RowKit
set_option linter.unusedVariables false
set_option linter.unusedSimpArgs false
set_option maxRecDepth 100000

theorem by_of {A : List Int} (h : A.length ≤ 1048576) (hb : ∀ z ∈ A, 0 ≤ z ∧ z ≤ 255) : By A := ⟨h, fun i hi => hb _ (by simp [List.getD, hi])⟩
theorem slm_by (g : List Int) (n : Nat) (L : Nat → List Int) (fi ol he : Bool) (la q : Int) : By ((slm Classical.propDecidable) g n L fi ol he la q) := by
  by_cases h : MtOk g n L ol he la ∧ 1 ≤ q ∧ q ≤ 1000000
  · rw [slm_yes h.1 h.2]
    have hl := mt_len (fi := fi) h.1
    exact by_of (by rw [slb_len (by omega)]; omega) (slb_byte (nums_byte _ (mseq_mem h.1)) (by omega))
  · rw [slm_no h]; exact by_of (by simp) (fun z hz => by cases hz)
theorem ptA_by {A C X : List Int} (hA : By A) (hX : By X) : By ((ptA Classical.propDecidable) A C X) := by unfold ptA; split <;> assumption
theorem ptB_by {A C X : List Int} (hC : By C) (hX : By X) : By ((ptB Classical.propDecidable) A C X) := by unfold ptB; split <;> assumption
end Go.Proofs.YtkndnndildnbpaaGreatDoor

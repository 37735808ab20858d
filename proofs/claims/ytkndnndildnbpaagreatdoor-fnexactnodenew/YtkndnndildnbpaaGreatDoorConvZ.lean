/- A slice of bytes as a string. -/
import Derived.Test.YtkndnndildnbpaaGreatDoorGa
import Derived.Laws.BytesArg
import Derived.Laws.IdiomStrings

namespace Go.Proofs.YtkndnndildnbpaaGreatDoor
open Go.ChangeShapes Go.WideShapes Go.ChangeAt Go.RowKit
set_option linter.unusedVariables false
set_option linter.unusedSimpArgs false

/-- The bytes as a string. -/
def bstr (L : List Int) : ByteArray := ⟨(L.map fun z => UInt8.ofNat z.toNat).toArray⟩

theorem conv_str {w : World} {ao : Option Addr} {cap : Nat} {L : List Int} (hs : SL .u8 w ao L.length (fun i => L.getD i 0)) (hz : ∀ z ∈ L, 0 ≤ z ∧ z ≤ 255) :
    (convert 26 9 (.slice ao L.length cap)).run Tryz.prog w = .ok (.string (bstr L)) w := by
  have h255 : ∀ j (hj : j < L.length), ((UInt8.ofNat L[j].toNat).toNat : Int) = L[j] := by
    intro j hj
    have := hz L[j] (List.getElem_mem hj)
    simp [UInt8.toNat_ofNat']
    omega
  cases ao with
  | some a =>
    have h := run_convert_bytes_back (P := Tryz.prog) w 26 9 5 a cap (L.map fun z => UInt8.ofNat z.toNat) Tryz.underlying26 Tryz.underlying5 Tryz.underlying9 (fun j hj => by
      have hj' : j < L.length := by simpa using hj
      obtain ⟨b, off, e, _, hc⟩ := hs j hj'
      simp at e
      subst e
      rw [Addr.add_lit, hc]
      simp only [List.getElem_map]
      rw [h255 j hj']
      simp [List.getD, hj'])
    simp only [List.length_map] at h
    exact h
  | none =>
    have hL : L = [] := by
      cases L with
      | nil => rfl
      | cons x L => obtain ⟨b, off, e, _⟩ := hs 0 (by simp); simp at e
    subst hL
    exact (run_convert_bytes_nil (P := Tryz.prog) (w := w) 26 5 Tryz.underlying26 Tryz.underlying5 0 cap 9 Tryz.underlying9).trans rfl
end Go.Proofs.YtkndnndildnbpaaGreatDoor

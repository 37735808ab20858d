/- MsgOf of the model. -/
import Derived.Test.YtabknfmhhjelaaaGreatDoorGo
import Derived.Test.YtabknfmhhjelaaaGreatDoorConvZ
import Derived.Test.YtabknfmhhjelaaaGreatDoorGb
import Derived.Deep.QuietTactic

namespace Go.Proofs.YtabknfmhhjelaaaGreatDoor
open Go.ChangeShapes Go.WideShapes Go.ChangeAt Go.RowKit
set_option linter.unusedVariables false
set_option linter.unusedSimpArgs false

theorem bstr_inj {L M : List Int} (hL : ∀ z ∈ L, 0 ≤ z ∧ z ≤ 255) (hM : ∀ z ∈ M, 0 ≤ z ∧ z ≤ 255) (h : bstr L = bstr M) : L = M := by
  have back : ∀ N : List Int, (∀ z ∈ N, 0 ≤ z ∧ z ≤ 255) → (N.map fun z => UInt8.ofNat z.toNat).map (fun u => ((u.toNat : Nat) : Int)) = N := by
    intro N hN
    rw [List.map_map]
    conv => rhs; rw [← List.map_id N]
    refine List.map_congr_left fun z hz => ?_
    have := hN z hz
    simp [UInt8.toNat_ofNat']
    omega
  have e : (L.map fun z => UInt8.ofNat z.toNat) = (M.map fun z => UInt8.ofNat z.toNat) := by
    have := congrArg (fun b : ByteArray => b.data.toList) h
    simpa [bstr] using this
  rw [← back L hL, ← back M hM, e]

end Go.Proofs.YtabknfmhhjelaaaGreatDoor

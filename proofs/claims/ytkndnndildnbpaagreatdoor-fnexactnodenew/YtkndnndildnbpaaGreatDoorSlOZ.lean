/- Bytes and slots that came in, opened. -/
import Derived.Test.YtkndnndildnbpaaGreatDoorGb
import Derived.Test.YtkndnndildnbpaaGreatDoorAsTZ
import Derived.Test.YtkndnndildnbpaaGreatDoorBytZ

namespace Go.Proofs.YtkndnndildnbpaaGreatDoor
open Go.ChangeShapes Go.WideShapes Go.ChangeAt Go.RowKit
set_option linter.unusedVariables false
set_option linter.unusedSimpArgs false

/-- Bytes of a slice that came in. -/
def VBw (w : World) (ao : Option Addr) (cap : Nat) (A : List Int) : Prop := SL .u8 w ao A.length (fun i => A.getD i 0) ∧ A.length ≤ cap ∧ A.length ≤ 9223372036854775807 ∧ ∀ i, i < A.length → 0 ≤ A.getD i 0 ∧ A.getD i 0 ≤ 255
theorem open_brow {H : Type} {enc : TypeId × Value → H} {w : World} {base : Nat} {sp : Nat → Bool} {held : Bool} {fuel : Nat} {cs : List Value} {x : DataW H × List MemPlace}
    (h : DataW.trod enc Tryz.prog w base sp held fuel 26 cs = some x) :
    ∃ (ao : Option Addr) (cap : Nat) (l : List Int), cs = [.slice ao l.length cap] ∧ l.length ≤ cap ∧ l.length ≤ 9223372036854775807 ∧ SL .u8 w ao l.length (fun i => l.getD i 0) ∧ ∀ i, i < l.length → 0 ≤ l.getD i 0 ∧ l.getD i 0 ≤ 255 := by
  have c5 : Tryz.prog.cellsOf 5 = 1 := by kernel_rfl
  rcases open_ints Tryz.underlying26 Tryz.underlying5 c5 h with ⟨hcs, _⟩ | ⟨a, l, cp, zs, hcs, _, hl', hm, hz, _, hcell, hwf⟩
  · cases hcs
    exact ⟨none, 0, [], rfl, Nat.le_refl _, by simp, fun i hi => absurd hi (Nat.not_lt_zero _), fun i hi => absurd hi (Nat.not_lt_zero _)⟩
  · cases hcs
    have hlz : l ≤ zs.length := by rw [hz]; split <;> omega
    have hlen : (zs.take l).length = l := by simp; omega
    refine ⟨some a, cp, zs.take l, by rw [hlen], by rw [hlen]; exact hl', by rw [hlen]; unfold maxLen at hm; omega, fun i hi => ?_, ?_⟩
    · rw [hlen] at hi
      have hc := hcell i (by omega)
      have h0 := hcell 0 (by omega)
      obtain ⟨b, off, spot⟩ := a
      have hspot : spot = none := by simpa [Addr.add] using World.cell?_spot h0
      subst hspot
      rw [Addr.add_lit] at hc
      refine ⟨b, off, rfl, lt_of_cell hc, ?_⟩
      rw [hc]
      simp only [List.getD, List.getElem?_take, if_pos hi]
    · refine view_u8 (n := (zs.take l).length) (f := fun i => (zs.take l).getD i 0) fun i hi => hwf _ ?_
      rw [hlen] at hi
      have : (zs.take l).getD i 0 = zs[i]'(by omega) := by simp [List.getD, List.getElem?_take, hi, show i < zs.length by omega]
      show (zs.take l).getD i 0 ∈ zs
      rw [this]
      exact List.getElem_mem _
theorem list2 {l : List Value} (h : l.length = 2) : ∃ a b, l = [a, b] := by
  match l, h with
  | [a, b], _ => exact ⟨a, b, rfl⟩
theorem open_slots {H : Type} {enc : TypeId × Value → H} {w : World} {base : Nat} {sp : Nat → Bool} {held : Bool} {fuel : Nat} {cs : List Value} {x : DataW H × List MemPlace}
    (h : DataW.trod enc Tryz.prog w base sp held fuel 37 cs = some x) :
    ∃ (aA aB : Option Addr) (cA cB : Nat) (A B : List Int), cs = [.slice aA A.length cA, .slice aB B.length cB] ∧ VBw w aA cA A ∧ VBw w aB cB B := by
  obtain ⟨xs, m, _, _, hl, hxl, hf⟩ := DataW.trod_struct Tryz.underlying37 h
  have h2 : Tryz.prog.cellsOf 37 = 2 := by kernel_rfl
  have cb : Tryz.prog.cellsOf 26 = 1 := by kernel_rfl
  obtain ⟨v0, v1, rfl⟩ := list2 (hl.trans h2)
  have g0 : DataW.trod enc Tryz.prog w base sp held m 26 (([v0, v1].drop 0).take (Tryz.prog.cellsOf 26)) = xs[0]? := hf 0 _ rfl
  rw [cb] at g0
  change DataW.trod enc Tryz.prog w base sp held m 26 [v0] = xs[0]? at g0
  have g1 : DataW.trod enc Tryz.prog w base sp held m 26 (([v0, v1].drop 1).take (Tryz.prog.cellsOf 26)) = xs[1]? := hf 1 _ rfl
  rw [cb] at g1
  change DataW.trod enc Tryz.prog w base sp held m 26 [v1] = xs[1]? at g1
  have e : xs.length = 2 := hxl
  rw [List.getElem?_eq_getElem (by omega)] at g0 g1
  obtain ⟨a0, c0, l0, e0, h01, h02, h03, h04⟩ := open_brow g0
  obtain ⟨a1, c1, l1, e1, h11, h12, h13, h14⟩ := open_brow g1
  cases e0; cases e1
  exact ⟨a0, a1, c0, c1, l0, l1, rfl, ⟨h03, h01, h02, h04⟩, ⟨h13, h11, h12, h14⟩⟩
end Go.Proofs.YtkndnndildnbpaaGreatDoor

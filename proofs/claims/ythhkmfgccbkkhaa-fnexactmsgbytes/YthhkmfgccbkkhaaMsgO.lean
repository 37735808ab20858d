/- A message that came in, opened: four numbers and a slice of numbers. -/
import Derived.Test.YthhkmfgccbkkhaaBase2
import Derived.Deep.Slices
import Derived.ChangeArms
namespace Go.Proofs.Ythhkmfgccbkkhaa
open Go.ChangeShapes Go.WideShapes Go.ChangeAt Go.RowKit
set_option linter.unusedVariables false
set_option linter.unusedSimpArgs false

theorem list5 {l : List Value} (h : l.length = 5) : ∃ a b c d e, l = [a, b, c, d, e] := by
  match l, h with
  | [a, b, c, d, e], _ => exact ⟨a, b, c, d, e, rfl⟩

theorem open_msg {H : Type} {enc : TypeId × Value → H} {w : World} {base : Nat} {sp : Nat → Bool} {held : Bool} {fuel : Nat} {cs : List Value} {x : DataW H × List MemPlace}
    (h : DataW.trod enc Try.prog w base sp held fuel 41 cs = some x) :
    ∃ (k c v d : Int) (ao : Option Addr) (n cap : Nat) (f : Nat → Int), cs = [.int .i64 k, .int .i64 c, .int .i64 v, .int .i64 d, .slice ao n cap] ∧ n ≤ cap ∧ cap ≤ maxLen ∧ SL .i64 w ao n f := by
  obtain ⟨xs, m, _, _, hl, hxl, hf⟩ := DataW.trod_struct Try.underlying41 h
  have h5 : Try.prog.cellsOf 41 = 5 := by kernel_rfl
  have c3 : Try.prog.cellsOf 3 = 1 := by kernel_rfl
  have c24 : Try.prog.cellsOf 24 = 1 := by kernel_rfl
  obtain ⟨v0, v1, v2, v3, v4, rfl⟩ := list5 (hl.trans h5)
  have g0 : DataW.trod enc Try.prog w base sp held m 3 (([v0, v1, v2, v3, v4].drop 0).take (Try.prog.cellsOf 3)) = xs[0]? := hf 0 _ rfl
  rw [c3] at g0
  change DataW.trod enc Try.prog w base sp held m 3 [v0] = xs[0]? at g0
  have g1 : DataW.trod enc Try.prog w base sp held m 3 (([v0, v1, v2, v3, v4].drop 1).take (Try.prog.cellsOf 3)) = xs[1]? := hf 1 _ rfl
  rw [c3] at g1
  change DataW.trod enc Try.prog w base sp held m 3 [v1] = xs[1]? at g1
  have g2 : DataW.trod enc Try.prog w base sp held m 3 (([v0, v1, v2, v3, v4].drop 2).take (Try.prog.cellsOf 3)) = xs[2]? := hf 2 _ rfl
  rw [c3] at g2
  change DataW.trod enc Try.prog w base sp held m 3 [v2] = xs[2]? at g2
  have g3 : DataW.trod enc Try.prog w base sp held m 3 (([v0, v1, v2, v3, v4].drop 3).take (Try.prog.cellsOf 3)) = xs[3]? := hf 3 _ rfl
  rw [c3] at g3
  change DataW.trod enc Try.prog w base sp held m 3 [v3] = xs[3]? at g3
  have g4 : DataW.trod enc Try.prog w base sp held m 24 (([v0, v1, v2, v3, v4].drop 4).take (Try.prog.cellsOf 24)) = xs[4]? := hf 4 _ rfl
  rw [c24] at g4
  change DataW.trod enc Try.prog w base sp held m 24 [v4] = xs[4]? at g4
  have e : xs.length = 5 := hxl
  rw [List.getElem?_eq_getElem (by omega)] at g0 g1 g2 g3 g4
  obtain ⟨k, e0, _⟩ := DataW.trod_int Try.underlying3 g0
  obtain ⟨c, e1, _⟩ := DataW.trod_int Try.underlying3 g1
  obtain ⟨v, e2, _⟩ := DataW.trod_int Try.underlying3 g2
  obtain ⟨d, e3, _⟩ := DataW.trod_int Try.underlying3 g3
  cases e0; cases e1; cases e2; cases e3
  rcases open_ints Try.underlying24 Try.underlying3 c3 g4 with ⟨hcs, _⟩ | ⟨a, l, cp, zs, hcs, _, hl', hm, hz, _, hcell, _⟩
  · cases hcs
    exact ⟨k, c, v, d, none, 0, 0, fun _ => 0, rfl, Nat.le_refl _, Nat.zero_le _, fun i hi => absurd hi (Nat.not_lt_zero _)⟩
  · cases hcs
    refine ⟨k, c, v, d, some a, l, cp, fun i => zs.getD i 0, rfl, hl', hm, fun i hi => ?_⟩
    have hlz : l ≤ zs.length := by rw [hz]; split <;> omega
    have hc := hcell i (by omega)
    have h0 := hcell 0 (by omega)
    obtain ⟨b, off, spot⟩ := a
    have hspot : spot = none := by simpa [Addr.add] using World.cell?_spot h0
    subst hspot
    rw [Addr.add_lit] at hc
    exact ⟨b, off, rfl, lt_of_cell hc, hc⟩
end Go.Proofs.Ythhkmfgccbkkhaa

/- What is known, that came in, opened: generations, marks for each node, three flags and a write. -/
import Derived.Test.YtkeojhnifnkpiabMtV
import Derived.Deep.Slices
import Derived.ChangeArms
namespace Go.Proofs.Ytkeojhnifnkpiab
open Go.ChangeShapes Go.WideShapes Go.ChangeAt Go.RowKit
set_option linter.unusedVariables false
set_option linter.unusedSimpArgs false

theorem list6 {l : List Value} (h : l.length = 6) : ∃ a b c d e f, l = [a, b, c, d, e, f] := by
  match l, h with
  | [a, b, c, d, e, f], _ => exact ⟨a, b, c, d, e, f, rfl⟩

/-- A slice of numbers that came in. -/
theorem open_row {H : Type} {enc : TypeId × Value → H} {w : World} {base : Nat} {sp : Nat → Bool} {held : Bool} {fuel : Nat} {cs : List Value} {x : DataW H × List MemPlace}
    (h : DataW.trod enc Try.prog w base sp held fuel 22 cs = some x) :
    ∃ (ao : Option Addr) (cap : Nat) (l : List Int), cs = [.slice ao l.length cap] ∧ l.length ≤ cap ∧ l.length ≤ 9223372036854775807 ∧ SL .i64 w ao l.length (fun i => l.getD i 0) := by
  have c3 : Try.prog.cellsOf 3 = 1 := by kernel_rfl
  rcases open_ints Try.underlying22 Try.underlying3 c3 h with ⟨hcs, _⟩ | ⟨a, l, cp, zs, hcs, _, hl', hm, hz, _, hcell, _⟩
  · cases hcs
    exact ⟨none, 0, [], rfl, Nat.le_refl _, by simp, fun i hi => absurd hi (Nat.not_lt_zero _)⟩
  · cases hcs
    have hlz : l ≤ zs.length := by rw [hz]; split <;> omega
    have hlen : (zs.take l).length = l := by simp; omega
    refine ⟨some a, cp, zs.take l, by rw [hlen], by rw [hlen]; exact hl', by rw [hlen]; unfold maxLen at hm; omega, fun i hi => ?_⟩
    rw [hlen] at hi
    have hc := hcell i (by omega)
    have h0 := hcell 0 (by omega)
    obtain ⟨b, off, spot⟩ := a
    have hspot : spot = none := by simpa [Addr.add] using World.cell?_spot h0
    subst hspot
    rw [Addr.add_lit] at hc
    refine ⟨b, off, rfl, lt_of_cell hc, ?_⟩
    rw [hc]
    simp only [List.getD, List.getElem?_take, if_pos hi]

theorem open_rows {H : Type} {enc : TypeId × Value → H} {w : World} {base : Nat} {sp : Nat → Bool} {held : Bool} {fuel : Nat} {cs : List Value} {x : DataW H × List MemPlace}
    (h : DataW.trod enc Try.prog w base sp held fuel 23 cs = some x) :
    ∃ (bo : Option Addr) (n bc : Nat) (L : Nat → List Int), cs = [.slice bo n bc] ∧ n ≤ bc ∧ n ≤ 9223372036854775807 ∧ BV w bo n L ∧ ∀ i, i < n → (L i).length ≤ 9223372036854775807 := by
  have h1 : Try.prog.cellsOf 22 = 1 := by kernel_rfl
  rcases Deep.open_slice Try.underlying23 h with ⟨rfl, _⟩ | ⟨a, len, cap, m, n, D, Pl, rfl, _, hl, hm, hmm, _, hel⟩
  · exact ⟨none, 0, 0, fun _ => [], rfl, Nat.le_refl _, by omega, fun i hi => absurd hi (Nat.not_lt_zero _), fun i hi => absurd hi (Nat.not_lt_zero _)⟩
  · have hml : len ≤ m := by rw [hmm]; split <;> omega
    rw [h1] at hel
    have hone : ∀ i, i < len → ∃ l : List Int, (∃ b off ro rc, (some a : Option Addr) = some ⟨b, off, none⟩ ∧ w.cell? ⟨b, off + i, none⟩ = some (.slice ro l.length rc) ∧ l.length ≤ rc ∧ SL .i64 w ro l.length (fun j => l.getD j 0)) ∧ l.length ≤ 9223372036854775807 := fun i hi => by
      obtain ⟨cs', hc, ht⟩ := hel i (by omega)
      obtain ⟨ro, rc, l, hcs, hlr, hmx, hs⟩ := open_row ht
      subst hcs
      have g0 := (World.cells?_some hc).2.2 0 (by omega)
      obtain ⟨cs0, hc0, _⟩ := hel 0 (by omega)
      have hz := (World.cells?_some hc0).2.2 0 (by omega)
      have hl0 := (World.cells?_some hc0).2.1
      obtain ⟨x0, hx0⟩ : ∃ x0, cs0[0]? = some x0 := ⟨cs0[0]'(by omega), List.getElem?_eq_getElem (by omega)⟩
      rw [hx0] at hz
      obtain ⟨b, off, spot⟩ := a
      have hspot : spot = none := by simpa [Addr.add] using World.cell?_spot hz
      subst hspot
      simp only [Addr.add_lit] at g0
      exact ⟨l, ⟨b, off, ro, rc, rfl, by simpa using g0, hlr, hs⟩, hmx⟩
    obtain ⟨L, hLL⟩ := Deep.choose_lt hone
    exact ⟨some a, len, cap, L, rfl, hl, by unfold maxLen at hm; omega, fun i hi => (hLL i hi).1, fun i hi => (hLL i hi).2⟩

theorem open_known {H : Type} {enc : TypeId × Value → H} {w : World} {base : Nat} {sp : Nat → Bool} {held : Bool} {fuel : Nat} {cs : List Value} {x : DataW H × List MemPlace}
    (h : DataW.trod enc Try.prog w base sp held fuel 25 cs = some x) :
    ∃ (go bo : Option Addr) (gc bc : Nat) (g : List Int) (n : Nat) (L : Nat → List Int) (fi ol he : Bool) (la : Int), cs = [.slice go g.length gc, .slice bo n bc, .bool fi, .bool ol, .bool he, .int .i64 la] ∧ MV w go gc bo bc g n L ∧
      g.length ≤ 9223372036854775807 ∧ n ≤ 9223372036854775807 ∧ ∀ i, i < n → (L i).length ≤ 9223372036854775807 := by
  obtain ⟨xs, m, _, _, hl, hxl, hf⟩ := DataW.trod_struct Try.underlying25 h
  have h6 : Try.prog.cellsOf 25 = 6 := by kernel_rfl
  have c3 : Try.prog.cellsOf 3 = 1 := by kernel_rfl
  have c4 : Try.prog.cellsOf 4 = 1 := by kernel_rfl
  have c24 : Try.prog.cellsOf 22 = 1 := by kernel_rfl
  have c25 : Try.prog.cellsOf 23 = 1 := by kernel_rfl
  obtain ⟨v0, v1, v2, v3, v4, v5, rfl⟩ := list6 (hl.trans h6)
  have g0 : DataW.trod enc Try.prog w base sp held m 22 (([v0, v1, v2, v3, v4, v5].drop 0).take (Try.prog.cellsOf 22)) = xs[0]? := hf 0 _ rfl
  rw [c24] at g0
  change DataW.trod enc Try.prog w base sp held m 22 [v0] = xs[0]? at g0
  have g1 : DataW.trod enc Try.prog w base sp held m 23 (([v0, v1, v2, v3, v4, v5].drop 1).take (Try.prog.cellsOf 23)) = xs[1]? := hf 1 _ rfl
  rw [c25] at g1
  change DataW.trod enc Try.prog w base sp held m 23 [v1] = xs[1]? at g1
  have g2 : DataW.trod enc Try.prog w base sp held m 4 (([v0, v1, v2, v3, v4, v5].drop 2).take (Try.prog.cellsOf 4)) = xs[2]? := hf 2 _ rfl
  rw [c4] at g2
  change DataW.trod enc Try.prog w base sp held m 4 [v2] = xs[2]? at g2
  have g3 : DataW.trod enc Try.prog w base sp held m 4 (([v0, v1, v2, v3, v4, v5].drop 3).take (Try.prog.cellsOf 4)) = xs[3]? := hf 3 _ rfl
  rw [c4] at g3
  change DataW.trod enc Try.prog w base sp held m 4 [v3] = xs[3]? at g3
  have g4 : DataW.trod enc Try.prog w base sp held m 4 (([v0, v1, v2, v3, v4, v5].drop 4).take (Try.prog.cellsOf 4)) = xs[4]? := hf 4 _ rfl
  rw [c4] at g4
  change DataW.trod enc Try.prog w base sp held m 4 [v4] = xs[4]? at g4
  have g5 : DataW.trod enc Try.prog w base sp held m 3 (([v0, v1, v2, v3, v4, v5].drop 5).take (Try.prog.cellsOf 3)) = xs[5]? := hf 5 _ rfl
  rw [c3] at g5
  change DataW.trod enc Try.prog w base sp held m 3 [v5] = xs[5]? at g5
  have e : xs.length = 6 := hxl
  rw [List.getElem?_eq_getElem (by omega)] at g0 g1 g2 g3 g4 g5
  obtain ⟨go, gc, g, e0, hg1, hg2, hg3⟩ := open_row g0
  obtain ⟨bo, n, bc, L, e1, hn1, hn2, hn3, hn4⟩ := open_rows g1
  obtain ⟨fi, e2, _⟩ := DataW.trod_bool Try.underlying4 g2
  obtain ⟨ol, e3, _⟩ := DataW.trod_bool Try.underlying4 g3
  obtain ⟨he, e4, _⟩ := DataW.trod_bool Try.underlying4 g4
  obtain ⟨la, e5, _⟩ := DataW.trod_int Try.underlying3 g5
  cases e0; cases e1; cases e2; cases e3; cases e4; cases e5
  exact ⟨go, bo, gc, bc, g, n, L, fi, ol, he, la, rfl, ⟨⟨hg1, hn1⟩, hg3, hn3⟩, hg2, hn2, hn4⟩
end Go.Proofs.Ytkeojhnifnkpiab

/- A node that came in, opened. -/
import Derived.Test.YtkndnndildnbpaaGreatDoorNdWZ
import Derived.Test.YtkndnndildnbpaaGreatDoorSlOZ

namespace Go.Proofs.YtkndnndildnbpaaGreatDoor
open Go.ChangeShapes Go.WideShapes Go.ChangeAt Go.RowKit
set_option linter.unusedVariables false
set_option linter.unusedSimpArgs false
set_option maxRecDepth 100000

theorem list16 {l : List Value} (h : l.length = 16) : ∃ v0 v1 v2 v3 v4 v5 v6 v7 v8 v9 v10 v11 v12 v13 v14 v15, l = [v0, v1, v2, v3, v4, v5, v6, v7, v8, v9, v10, v11, v12, v13, v14, v15] := by
  match l, h with
  | [v0, v1, v2, v3, v4, v5, v6, v7, v8, v9, v10, v11, v12, v13, v14, v15], _ => exact ⟨v0, v1, v2, v3, v4, v5, v6, v7, v8, v9, v10, v11, v12, v13, v14, v15, rfl⟩
theorem list10 {H : Type} {l : List H} (h : l.length = 10) (i : Nat) (hi : i < 10) : ∃ x, l[i]? = some x := ⟨l[i]'(by omega), List.getElem?_eq_getElem (by omega)⟩

/-- A slice of bools that came in. -/
theorem open_bools {H : Type} {enc : TypeId × Value → H} {w : World} {base : Nat} {sp : Nat → Bool} {held : Bool} {fuel : Nat} {cs : List Value} {x : DataW H × List MemPlace}
    (h : DataW.trod enc Tryz.prog w base sp held fuel 29 cs = some x) :
    ∃ (ao : Option Addr) (cap : Nat) (l : List Bool), cs = [.slice ao l.length cap] ∧ l.length ≤ cap ∧ l.length ≤ 9223372036854775807 ∧ SLb w ao l.length (fun i => l.getD i false) := by
  have h1 : Tryz.prog.cellsOf 4 = 1 := by kernel_rfl
  rcases Deep.open_slice Tryz.underlying29 h with ⟨rfl, _⟩ | ⟨a, len, cap, m, n, D, Pl, rfl, _, hl, hm, hmm, _, hel⟩
  · exact ⟨none, 0, [], rfl, Nat.le_refl _, by simp, fun i hi => absurd hi (Nat.not_lt_zero _)⟩
  · have hml : len ≤ m := by rw [hmm]; split <;> omega
    rw [h1] at hel
    have hone : ∀ i, i < len → ∃ v : Bool, ∃ b off, (some a : Option Addr) = some ⟨b, off, none⟩ ∧ w.cell? ⟨b, off + i, none⟩ = some (.bool v) := fun i hi => by
      obtain ⟨cs', hc, ht⟩ := hel i (by omega)
      have hl1 := (World.cells?_some hc).2.1
      obtain ⟨v, hv⟩ : ∃ v, cs' = [v] := by
        match cs', hl1 with
        | [v], _ => exact ⟨v, rfl⟩
      subst hv
      obtain ⟨b, e, _⟩ := DataW.trod_bool Tryz.underlying4 ht
      cases e
      have g0 := (World.cells?_some hc).2.2 0 (by omega)
      obtain ⟨cs0, hc0, _⟩ := hel 0 (by omega)
      have hz := (World.cells?_some hc0).2.2 0 (by omega)
      have hl0 := (World.cells?_some hc0).2.1
      obtain ⟨x0, hx0⟩ : ∃ x0, cs0[0]? = some x0 := ⟨cs0[0]'(by omega), List.getElem?_eq_getElem (by omega)⟩
      rw [hx0] at hz
      obtain ⟨bb, off, spot⟩ := a
      have hspot : spot = none := by simpa [Addr.add] using World.cell?_spot hz
      subst hspot
      simp only [Addr.add_lit] at g0
      exact ⟨b, bb, off, rfl, by simpa using g0⟩
    obtain ⟨L, hLL⟩ := Deep.choose_lt hone
    have hlen : ((List.range len).map L).length = len := by simp
    refine ⟨some a, cap, (List.range len).map L, by rw [hlen], by rw [hlen]; exact hl, by rw [hlen]; unfold maxLen at hm; omega, fun i hi => ?_⟩
    rw [hlen] at hi
    obtain ⟨b, off, e, hc⟩ := hLL i hi
    refine ⟨b, off, e, lt_of_cell hc, ?_⟩
    rw [hc]
    simp [List.getD, hi]

set_option maxHeartbeats 2000000 in
theorem open_node {H : Type} {enc : TypeId × Value → H} {w : World} {base : Nat} {sp : Nat → Bool} {held : Bool} {fuel : Nat} {cs : List Value} {x : DataW H × List MemPlace}
    (h : DataW.trod enc Tryz.prog w base sp held fuel 39 cs = some x) :
    ∃ (a : Na) (d : Nd), cs = (nds a d).toList ∧ NV w a d ∧ NBw d := by
  obtain ⟨xs, m, _, _, hl, hxl, hf⟩ := DataW.trod_struct Tryz.underlying39 h
  have h16 : Tryz.prog.cellsOf 39 = 16 := by kernel_rfl
  have c3 : Tryz.prog.cellsOf 3 = 1 := by kernel_rfl
  have c4 : Tryz.prog.cellsOf 4 = 1 := by kernel_rfl
  have ci : Tryz.prog.cellsOf 22 = 1 := by kernel_rfl
  have cb : Tryz.prog.cellsOf 29 = 1 := by kernel_rfl
  have cs1 : Tryz.prog.cellsOf 23 = 1 := by kernel_rfl
  have cm : Tryz.prog.cellsOf 36 = 6 := by kernel_rfl
  have csl : Tryz.prog.cellsOf 37 = 2 := by kernel_rfl
  obtain ⟨v0, v1, v2, v3, v4, v5, v6, v7, v8, v9, v10, v11, v12, v13, v14, v15, rfl⟩ := list16 (hl.trans h16)
  have e : xs.length = 10 := hxl
  have g0 : DataW.trod enc Tryz.prog w base sp held m 3 (([v0, v1, v2, v3, v4, v5, v6, v7, v8, v9, v10, v11, v12, v13, v14, v15].drop 0).take (Tryz.prog.cellsOf 3)) = xs[0]? := hf 0 _ rfl
  rw [c3] at g0
  change DataW.trod enc Tryz.prog w base sp held m 3 [v0] = xs[0]? at g0
  obtain ⟨y0, hy0⟩ := list10 e 0 (by omega)
  rw [hy0] at g0
  have g1 : DataW.trod enc Tryz.prog w base sp held m 4 (([v0, v1, v2, v3, v4, v5, v6, v7, v8, v9, v10, v11, v12, v13, v14, v15].drop 1).take (Tryz.prog.cellsOf 4)) = xs[1]? := hf 1 _ rfl
  rw [c4] at g1
  change DataW.trod enc Tryz.prog w base sp held m 4 [v1] = xs[1]? at g1
  obtain ⟨y1, hy1⟩ := list10 e 1 (by omega)
  rw [hy1] at g1
  have g2 : DataW.trod enc Tryz.prog w base sp held m 4 (([v0, v1, v2, v3, v4, v5, v6, v7, v8, v9, v10, v11, v12, v13, v14, v15].drop 2).take (Tryz.prog.cellsOf 4)) = xs[2]? := hf 2 _ rfl
  rw [c4] at g2
  change DataW.trod enc Tryz.prog w base sp held m 4 [v2] = xs[2]? at g2
  obtain ⟨y2, hy2⟩ := list10 e 2 (by omega)
  rw [hy2] at g2
  have g3 : DataW.trod enc Tryz.prog w base sp held m 22 (([v0, v1, v2, v3, v4, v5, v6, v7, v8, v9, v10, v11, v12, v13, v14, v15].drop 3).take (Tryz.prog.cellsOf 22)) = xs[3]? := hf 3 _ rfl
  rw [ci] at g3
  change DataW.trod enc Tryz.prog w base sp held m 22 [v3] = xs[3]? at g3
  obtain ⟨y3, hy3⟩ := list10 e 3 (by omega)
  rw [hy3] at g3
  have g4 : DataW.trod enc Tryz.prog w base sp held m 36 (([v0, v1, v2, v3, v4, v5, v6, v7, v8, v9, v10, v11, v12, v13, v14, v15].drop 4).take (Tryz.prog.cellsOf 36)) = xs[4]? := hf 4 _ rfl
  rw [cm] at g4
  change DataW.trod enc Tryz.prog w base sp held m 36 [v4, v5, v6, v7, v8, v9] = xs[4]? at g4
  obtain ⟨y4, hy4⟩ := list10 e 4 (by omega)
  rw [hy4] at g4
  have g5 : DataW.trod enc Tryz.prog w base sp held m 37 (([v0, v1, v2, v3, v4, v5, v6, v7, v8, v9, v10, v11, v12, v13, v14, v15].drop 10).take (Tryz.prog.cellsOf 37)) = xs[5]? := hf 5 _ rfl
  rw [csl] at g5
  change DataW.trod enc Tryz.prog w base sp held m 37 [v10, v11] = xs[5]? at g5
  obtain ⟨y5, hy5⟩ := list10 e 5 (by omega)
  rw [hy5] at g5
  have g6 : DataW.trod enc Tryz.prog w base sp held m 29 (([v0, v1, v2, v3, v4, v5, v6, v7, v8, v9, v10, v11, v12, v13, v14, v15].drop 12).take (Tryz.prog.cellsOf 29)) = xs[6]? := hf 6 _ rfl
  rw [cb] at g6
  change DataW.trod enc Tryz.prog w base sp held m 29 [v12] = xs[6]? at g6
  obtain ⟨y6, hy6⟩ := list10 e 6 (by omega)
  rw [hy6] at g6
  have g7 : DataW.trod enc Tryz.prog w base sp held m 23 (([v0, v1, v2, v3, v4, v5, v6, v7, v8, v9, v10, v11, v12, v13, v14, v15].drop 13).take (Tryz.prog.cellsOf 23)) = xs[7]? := hf 7 _ rfl
  rw [cs1] at g7
  change DataW.trod enc Tryz.prog w base sp held m 23 [v13] = xs[7]? at g7
  obtain ⟨y7, hy7⟩ := list10 e 7 (by omega)
  rw [hy7] at g7
  have g8 : DataW.trod enc Tryz.prog w base sp held m 29 (([v0, v1, v2, v3, v4, v5, v6, v7, v8, v9, v10, v11, v12, v13, v14, v15].drop 14).take (Tryz.prog.cellsOf 29)) = xs[8]? := hf 8 _ rfl
  rw [cb] at g8
  change DataW.trod enc Tryz.prog w base sp held m 29 [v14] = xs[8]? at g8
  obtain ⟨y8, hy8⟩ := list10 e 8 (by omega)
  rw [hy8] at g8
  have g9 : DataW.trod enc Tryz.prog w base sp held m 22 (([v0, v1, v2, v3, v4, v5, v6, v7, v8, v9, v10, v11, v12, v13, v14, v15].drop 15).take (Tryz.prog.cellsOf 22)) = xs[9]? := hf 9 _ rfl
  rw [ci] at g9
  change DataW.trod enc Tryz.prog w base sp held m 22 [v15] = xs[9]? at g9
  obtain ⟨y9, hy9⟩ := list10 e 9 (by omega)
  rw [hy9] at g9
  obtain ⟨id, e0, _⟩ := DataW.trod_int Tryz.underlying3 g0
  obtain ⟨up, e1, _⟩ := DataW.trod_bool Tryz.underlying4 g1
  obtain ⟨pr, e2, _⟩ := DataW.trod_bool Tryz.underlying4 g2
  obtain ⟨im, imc, l0, e3, k0, k1, k2⟩ := open_row g3
  obtain ⟨go, bo, gc, bc, g, n, L, fi, ol, he, la, e4, k3, k4, k5, k6⟩ := open_known g4
  obtain ⟨aA, aB, cA, cB, A, C, e5, k7, k8⟩ := open_slots g5
  obtain ⟨co, coc, l1, e6, k9, k10, k11⟩ := open_bools g6
  obtain ⟨so, mm, sc, S, e7, k12, k13, k14, k15⟩ := open_rows g7
  obtain ⟨cp, cpc, l2, e8, k16, k17, k18⟩ := open_bools g8
  obtain ⟨wt, wtc, l3, e9, k19, k20, k21⟩ := open_row g9
  cases e0; cases e1; cases e2; cases e3; cases e4; cases e5; cases e6; cases e7; cases e8; cases e9
  refine ⟨⟨im, imc, go, gc, bo, bc, aA, cA, aB, cB, co, coc, so, sc, cp, cpc, wt, wtc⟩, ⟨id, up, pr, l0, g, n, L, fi, ol, he, la, A, C, l1, mm, S, l2, l3⟩, rfl, ?_, ?_⟩
  · exact ⟨⟨k2, k0⟩, k3, ⟨⟨k7.1, k7.2.1, k7.2.2.2⟩, ⟨k8.1, k8.2.1, k8.2.2.2⟩⟩, ⟨k11, k9⟩, ⟨k14, k12⟩, ⟨k18, k16⟩, ⟨k21, k19⟩⟩
  · exact ⟨k1, ⟨k4, k5, k6⟩, ⟨k7.2.2.1, k8.2.2.1⟩, k10, ⟨k13, k15⟩, k17, k20⟩
end Go.Proofs.YtkndnndildnbpaaGreatDoor

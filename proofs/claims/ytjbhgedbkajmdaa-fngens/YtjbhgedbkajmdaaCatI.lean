/- slices.Concat at ints. -/
import Derived.Test.YtjbhgedbkajmdaaCatB
import Derived.Test.YtjbhgedbkajmdaaIntM
namespace Go.Proofs.Ytjbhgedbkajmdaa
open Go.ChangeShapes Go.WideShapes Go.ChangeAt Go.RowKit
set_option linter.unusedVariables false
set_option linter.unusedSimpArgs false

set_option maxRecDepth 100000 in
theorem igrow_any (n : Nat) (w : World) (hn : n ≤ 4194304) :
    Calls Try.prog 90 #[.slice none 0 0, .int .i64 (n : Int)] w fun e w' => ∃ v, e = .returned v ∧ w'.ownsRow w.heap.size 3 1 v 0 (([] : List Int).map (.int .i64)) ∧ Below w.heap.size w w' := by
  obtain ⟨i0, hi0, hz0, hz1, hz2⟩ := info_parts Try.info3
  by_cases h0 : n = 0
  · subst h0
    go_enter Try.func90, Try.ntmps90
    go_wp2
    go_ret
    exact ⟨_, rfl, gnil, Below.refl _ _⟩
  · have hrz : ∀ ty, (Builtin.append_ #[24, 3] ty #[.slice none 0 0, .int .i64 (n : Int)]).run Try.prog w =
        .ok (.slice (some ⟨w.heap.size, 0, none⟩) n (grownCap w n 0 3)) (w.drew.alloc (.cells (Builtin.zeroCells (Value.int .i64 0).cells n ++ Builtin.zeroCells (Value.int .i64 0).cells (grownCap w n 0 3 - n)) 3)) := fun ty =>
      Lib.run_append_nil_zeros w 24 3 ty 3 i0 _ .i64 .i64 Try.underlying24 Try.underlying3 hi0 hz0 n (by omega) (by omega) (by omega) (by rw [hz2]; omega)
    have hGn : n ≤ grownCap w n 0 3 := grownCap_ge w _ _ _
    have hGm : grownCap w n 0 3 ≤ maxLen := grownCap_le_maxLen w n 0 3 (by unfold maxLen; omega)
    generalize grownCap w n 0 3 = G at *
    obtain ⟨ROW, hROW⟩ : ∃ ROW : Array Value, ROW = Builtin.zeroCells (Value.int .i64 0).cells n ++ Builtin.zeroCells (Value.int .i64 0).cells (G - n) := ⟨_, rfl⟩
    have hRs : ROW.size = G := by rw [hROW]; simp [Builtin.zeroCells, Value.cells]; omega
    rw [← hROW] at hrz
    have hfin : (w.drew.alloc (.cells ROW 3)).ownsRow w.heap.size 3 1 (.slice (some ⟨w.heap.size, 0, none⟩) 0 G) 0 (([] : List Int).map (.int .i64)) :=
      ⟨rfl, .inr ⟨_, G, ROW, rfl, Nat.le_refl _, Deep.blk_alloc_new w.drew _, by omega, hGm, by omega, by simp⟩⟩
    have hB : Below w.heap.size w (w.drew.alloc (.cells ROW 3)) := (Below.drawn (Below.refl _ w) 1).alloc (Nat.le_refl _) _
    obtain ⟨W1, hW⟩ : ∃ W1, W1 = w.drew.alloc (.cells ROW 3) := ⟨_, rfl⟩
    rw [← hW] at hrz hfin hB
    have R := hide (And.intro hfin hB)
    clear hfin hB hW hROW hRs
    unfold maxLen at hGm
    have hpos : (0 : Int) < (n : Int) := by omega
    go_enter Try.func90, Try.ntmps90
    go_wp2_with (first
      | (at_builtin; refine Lib.wpList_append_run _ rfl _ _ _ _ rfl _ _ rfl rfl _ _ (hrz _) ?_))
    go_wp2
    go_ret
    exact ⟨_, rfl, R.out⟩

set_option maxRecDepth 100000 in
theorem iconcat_any (vb N : Nat) (ao : Nat → Option Addr) (c : Nat → Nat) (L : Nat → List Int) (w : World) (hN : N ≤ 16) (hlen : (catk L N).length ≤ 2097152) (hvlt : vb < w.heap.size)
    (hv : ∀ k, k < N → w.cell? ⟨vb, k, none⟩ = some (.slice (ao k) (L k).length (c k))) (hs : ∀ k, k < N → Src .i64 w (.slice (ao k) (L k).length (c k)) (L k)) :
    Calls Try.prog 66 #[.slice (some ⟨vb, 0, none⟩) N N] w fun e w' => ∃ v, e = .returned v ∧ w'.ownsRow w.heap.size 3 1 v (catk L N).length ((catk L N).map (.int .i64)) ∧ Below w.heap.size w w' := by
  obtain ⟨i0, hi, hz0, hz1, hz2⟩ := info_parts Try.info3
  have HV := hide hv
  have HS := hide hs
  clear hv hs
  go_enter Try.func66, Try.ntmps66
  go_wp2
  go_loop [3, 5, 11] (fun s _ i => ∃ k : Nat, k ≤ N ∧ i = .int .i64 k ∧ s = .int .i64 ((catk L k).length : Nat)) (fun _ _ i => N - (intOf i).toNat)
  case atStart => exact ⟨0, by omega, rfl, rfl⟩
  case round =>
    obtain ⟨k, hk, rfl, rfl⟩ := hrel
    by_cases hlt : k < N
    · have c0 := HV.out k hlt
      have hk1 := catk_le L (k + 1) N (by omega)
      have hk2 := catk_len L k
      generalize hx : (catk L k).length = x at *
      generalize hy : (L k).length = y at *
      have hle : (0 : Int) ≤ (x : Int) + (y : Int) := by omega
      go_wp2
      go_round
      case rel => exact ⟨k + 1, by omega, by go_num, by rw [hk2]; go_num⟩
      case measure => simp [intOf]; omega
    · obtain rfl : k = N := by omega
      go_wp2_with fail
      refine (igrow_any (catk L k).length _ (by omega)).mono ?_
      rintro e w1 ⟨v1, rfl, ho1, b1⟩
      have HO1 := hide ho1
      have HB1 := hide b1
      clear ho1 b1
      go_wp2_with fail
      go_loopw [6, 8, 27] (fun v _ i wr => ∃ j : Nat, j ≤ k ∧ i = .int .i64 j ∧ Hid (wr.ownsRow w.heap.size 3 1 v (catk L j).length ((catk L j).map (.int .i64)) ∧ Below w.heap.size w wr)) (fun _ _ i _ => k - (intOf i).toNat)
      case atStart => exact ⟨0, by omega, rfl, HO1.out, HB1.out⟩
      case round =>
        obtain ⟨j, hj, rfl, HI⟩ := hrel
        clear HO1 HB1
        by_cases hlt : j < k
        · have d0 := (HI.out.2.cell (p := ⟨vb, j, none⟩) hvlt).trans (HV.out j hlt)
          have hsrc := hide ((HS.out j hlt).below HI.out.2)
          have hsz := HI.out.2.size
          have hk1 := catk_le L (j + 1) k (by omega)
          have hk2 := catk_len L j
          have hLj : Hid (catk L (j + 1) = catk L j ++ L j) := rfl
          generalize L j = M at *
          generalize catk L j = C at *
          go_wp2_with (first
            | (at_builtin; refine wpList_append_src rfl _ _ 24 rfl w.heap.size 3 i0 (.int .i64 0) 8 Try.underlying24 hi hz0 hz1 hz2 rfl .i64 _ C rfl HI.out.1 _ M rfl hsrc.out (glens (by omega)) (by omega) hsz ?_; intro v' w2 hown' hgrow))
          have R := hide (And.intro hown' (ggrown HI.out.2 hsz HI.out.1 hgrow))
          clear hown' hgrow
          go_wp2
          go_roundw
          case rel => exact ⟨j + 1, by omega, by go_num, by rw [hLj.out]; exact R.out⟩
          case measure => simp [intOf]; omega
        · obtain rfl : j = k := by omega
          go_wp2
          go_ret
          exact ⟨_, rfl, HI.out⟩
end Go.Proofs.Ytjbhgedbkajmdaa

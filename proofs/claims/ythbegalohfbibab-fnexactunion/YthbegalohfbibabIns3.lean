/- slices.Insert of one int: into a new row, where there is no room. -/
import Derived.Test.YthbegalohfbibabIns2
namespace Go.Proofs.Ythbegalohfbibab
open Go.ChangeShapes Go.WideShapes Go.ChangeAt Go.RowKit

theorem ins_grow (B g n cap i vb : Nat) (L : List Int) (x : Int) (w : World) (hB : B ≤ w.heap.size) (ho : w.ownsRow B 3 1 (.slice (some ⟨g, 0, none⟩) n cap) n (L.map (.int .i64))) (hn : n ≤ 1000) (hi : i < n) (hroom : cap < n + 1)
    (hv : w.heap[vb]? = some (.cells #[.int .i64 x] 3 (0, 0))) :
    Calls Try.prog 35 #[.slice (some ⟨g, 0, none⟩) n cap, .int .i64 (i : Int), .slice (some ⟨vb, 0, none⟩) 1 1] w fun e w' => ∃ v', e = .returned v' ∧ w'.ownsRow B 3 1 v' (n + 1) ((ins L i x).map (.int .i64)) ∧ Below B w w' := by
  obtain ⟨i0, hi0, hz0, hz1, hz2⟩ := info_parts Try.info3
  obtain ⟨c, hc, hBg, hl, hnc, hcm, hcs, hget⟩ := owns_cells ho
  have mixed : Try.prog.follows Departure.mixedOrders = true := by kernel_rfl
  have hsz : (Try.prog.info? 3).map (·.size) = some 1 := by rw [hi0]; simp [hz1]
  have hgw : g < w.heap.size := (Array.getElem?_eq_some_iff.1 hc).1
  have hvw : vb < w.heap.size := (Array.getElem?_eq_some_iff.1 hv).1
  have hold : (Builtin.firstCells i0.size i (.slice (some ⟨g, 0, none⟩) i cap)).run Try.prog w.drew = .ok ((L.take i).map (Value.int .i64)).toArray w.drew := by
    rw [hz1]
    exact run_firstCells_some w.drew 1 i ⟨g, 0, none⟩ i cap ((L.take i).map (Value.int .i64)) (by simp; omega) (fun j v hj => by
      rw [Addr.add_lit, Nat.zero_add]
      have hji : j < i := by
        by_cases h : j < i
        · exact h
        · rw [List.getElem?_eq_none (by simp; omega)] at hj; cases hj
      show w.cell? ⟨g, j, none⟩ = some v
      rw [← hj, List.getElem?_map, List.getElem?_take, if_pos hji]
      simp only [World.cell?, hc]
      rw [if_neg (by simp), hget j (by omega), List.getElem?_map])
  have hrz : ∀ ty, (Builtin.append_ #[31, 3] ty #[.slice (some ⟨g, 0, none⟩) i cap, .int .i64 ((n : Int) + 1 - (i : Int))]).run Try.prog w =
      .ok (.slice (some ⟨w.heap.size, 0, none⟩) (n + 1) (grownCap w (n + 1) cap 3)) (w.drew.alloc (.cells (((L.take i).map (Value.int .i64)).toArray ++ Builtin.zeroCells (Value.int .i64 0).cells (n + 1 - i) ++ Builtin.zeroCells (Value.int .i64 0).cells (grownCap w (n + 1) cap 3 - (n + 1))) 3)) := fun ty => by
    have h := Lib.run_append_grow_zeros w 31 3 ty 3 i0 _ .i64 .i64 Try.underlying31 Try.underlying3 hi0 hz0 (some ⟨g, 0, none⟩) i cap _ hold (n + 1 - i) (by omega) (by omega) (by omega) (by omega) (by rw [hz2]; omega) (by rw [hz2, show i + (n + 1 - i) = n + 1 by omega]; exact growslice_fits hroom (by omega))
    rw [show i + (n + 1 - i) = n + 1 by omega] at h
    rw [show (n : Int) + 1 - (i : Int) = ((n + 1 - i : Nat) : Int) by omega]
    exact h
  have hGn : n + 1 ≤ grownCap w (n + 1) cap 3 := grownCap_ge w _ _ _
  have hGm : grownCap w (n + 1) cap 3 ≤ maxLen := grownCap_le_maxLen w (n + 1) cap 3 (by unfold maxLen; omega)
  obtain ⟨G, hG⟩ : ∃ G, G = grownCap w (n + 1) cap 3 := ⟨_, rfl⟩
  rw [← hG] at hrz hGn hGm
  obtain ⟨ROW, hROW⟩ : ∃ ROW : Array Value, ROW = ((L.take i).map (Value.int .i64)).toArray ++ Builtin.zeroCells (Value.int .i64 0).cells (n + 1 - i) ++ Builtin.zeroCells (Value.int .i64 0).cells (G - (n + 1)) := ⟨_, rfl⟩
  have hRs : ROW.size = G := by rw [hROW]; simp [Builtin.zeroCells, Value.cells]; omega
  have hRg : ∀ j, j < i → ROW[j]? = ((L.take i).map (Value.int .i64))[j]? := fun j hj => by
    rw [hROW, Array.append_assoc, Array.getElem?_append_left (by simp; omega)]
    simp
  rw [← hROW] at hrz
  have hH : (w.drew.alloc (.cells ROW 3)).heap[w.heap.size]? = some (.cells ROW 3 (0, 0)) := Deep.blk_alloc_new w.drew _
  have hgB : (w.drew.alloc (.cells ROW 3)).heap[g]? = some (.cells c 3 (0, 0)) := (Below.heap_alloc w.drew _ g hgw).trans hc
  have hvB : (w.drew.alloc (.cells ROW 3)).heap[vb]? = some (.cells #[.int .i64 x] 3 (0, 0)) := (Below.heap_alloc w.drew _ vb hvw).trans hv
  have hB1 : Below B w (w.drew.alloc (.cells ROW 3)) := (Below.drawn (Below.refl B w) 1).alloc hB _
  obtain ⟨W1, hW⟩ : ∃ W1, W1 = w.drew.alloc (.cells ROW 3) := ⟨_, rfl⟩
  rw [← hW] at hrz hH hgB hvB hB1
  obtain ⟨M, hMd⟩ : ∃ M, M = (L.drop i).map (Value.int .i64) := ⟨_, rfl⟩
  have hM : M.length = n - i := by rw [hMd]; simp [hl]
  have h1M : ∀ v ∈ M, v.oneCell' = true := by rw [hMd]; exact app_ones _ _
  have hMget : ∀ j v, M[j]? = some v → c[i + j]? = some v := fun j v hj => by
    have hjn : j < n - i := by
      by_cases h : j < n - i
      · exact h
      · rw [List.getElem?_eq_none (by omega)] at hj; cases hj
    rw [hget (i + j) (by omega), ← hj, hMd]
    simp
  have hcp1 : ∀ ty dc, (Builtin.copy_ #[31, 22] ty #[.slice (some ⟨w.heap.size, i, none⟩) (n + 1 - i) dc, .slice (some ⟨vb, 0, none⟩) 1 1]).run Try.prog W1 = .ok (goInt 1) (W1.setCells w.heap.size i [.int .i64 x]) := fun ty dc =>
    run_copy_cells W1 _ _ ty 3 w.heap.size i (n + 1 - i) dc ⟨vb, 0, none⟩ 1 1 [.int .i64 x] Try.underlying31 hsz (by simp only [Nat.min_def, List.length_singleton]; split <;> omega)
      (fun j v hj => by rw [Addr.add_lit, Nat.zero_add]; simp [World.cell?, hvB]; simpa using hj)
      (fun j hj => by simp only [World.cell?, hH]; rw [Array.getElem?_eq_getElem (by simp at hj; omega)]; rfl) (fun j hj => by simp [World.frozen?, hH]) (app_one _ _)
  have hH2 : (W1.setCells w.heap.size i [.int .i64 x]).heap[w.heap.size]? = some (.cells (wrt ROW i [.int .i64 x]) 3 (0, 0)) := blk_sets _ hH
  have hg2 : (W1.setCells w.heap.size i [.int .i64 x]).heap[g]? = some (.cells c 3 (0, 0)) := (oth_sets (by omega) _).trans hgB
  have hB2 : Below B w (W1.setCells w.heap.size i [.int .i64 x]) := below_sets hB1 hB _
  obtain ⟨W2, hW2⟩ : ∃ W2, W2 = W1.setCells w.heap.size i [.int .i64 x] := ⟨_, rfl⟩
  rw [← hW2] at hcp1 hH2 hg2 hB2
  have hcp2 : ∀ ty dc sc, (Builtin.copy_ #[31, 31] ty #[.slice (some ⟨w.heap.size, i + 1, none⟩) (n - i) dc, .slice (some ⟨g, i, none⟩) (n - i) sc]).run Try.prog W2.drew = .ok (goInt M.length) (W2.drew.setCells w.heap.size (i + 1) M) := fun ty dc sc =>
    run_copy_cells W2.drew _ _ ty 3 w.heap.size (i + 1) (n - i) dc ⟨g, i, none⟩ (n - i) sc M Try.underlying31 hsz (by rw [hM]; simp only [Nat.min_def]; split <;> omega)
      (fun j v hj => by rw [Addr.add_lit]; show W2.cell? ⟨g, i + j, none⟩ = some v; simp only [World.cell?, hg2]; rw [if_neg (by simp)]; exact hMget j v hj)
      (fun j hj => by show (W2.cell? ⟨w.heap.size, i + 1 + j, none⟩).isSome = true; simp only [World.cell?, hH2]; rw [Array.getElem?_eq_getElem (by rw [wrt_size]; omega)]; rfl) (fun j hj => by show W2.frozen? _ = false; simp [World.frozen?, hH2]) h1M
  have hfin : (W2.drew.setCells w.heap.size (i + 1) M).ownsRow B 3 1 (.slice (some ⟨w.heap.size, 0, none⟩) (n + 1) G) (n + 1) ((ins L i x).map (.int .i64)) := by
    refine owns_ins hB (blk_sets (w := W2.drew) M hH2) (by rw [ins_len, hl]) hGn hGm (by rw [wrt_size, wrt_size, hRs]) fun j hj => ?_
    rw [wrt_get _ _ _ (by rw [wrt_size]; omega), wrt_get _ _ _ (by simp; omega), List.getElem?_map, ins_get L i x (by omega)]
    by_cases h1 : j < i
    · rw [if_neg (by omega), if_neg (by simp; omega), if_pos h1, hRg j h1, List.getElem?_map, List.getElem?_take, if_pos h1]
    · by_cases h2 : j = i
      · subst h2
        rw [if_neg (by omega), if_pos (by simp), if_neg h1, if_pos rfl]
        simp
      · rw [if_pos (by omega), if_neg h1, if_neg h2, hMd, List.getElem?_map, List.getElem?_drop, show i + (j - (i + 1)) = j - 1 by omega]
  have hBfin : Below B w (W2.drew.setCells w.heap.size (i + 1) M) := below_sets (Below.drawn hB2 1) hB _
  obtain ⟨W3, hW3⟩ : ∃ W3, W3 = W2.drew.setCells w.heap.size (i + 1) M := ⟨_, rfl⟩
  rw [← hW3] at hcp2 hfin hBfin
  have HFIN := hide (And.intro hfin hBfin)
  clear hfin hBfin hW hW2 hW3 hH hH2 hg2 hgB hvB hB1 hB2 hget hMget hM h1M hMd ho hc hv hRs hRg hROW hold hG
  unfold maxLen at hcm hGm
  have hw1 : IntKind.i64.wrap ((i : Int) + 1) = (i : Int) + 1 := by rw [IntKind.wrap_i64]; omega
  have hb1 : (0 : Int) ≤ (i : Int) + 1 := by omega
  have hin : i ≤ n := by omega
  have htn : ((i : Int) + 1).toNat = i + 1 := by omega
  have hGi : ¬ (G = i) := by omega
  have hGim : ¬ (G = i + 1) := by omega
  have hci : ¬ (cap = i) := by omega
  have hb3 : (i : Int) ≤ (n : Int) := by omega
  have hz : ¬ ((i : Int) = (n : Int)) := by omega
  have hz3 : (cap : Int) < (n : Int) + 1 := by omega
  go_enter Try.func35, Try.ntmps35
  go_wp2_with (first
    | (at_builtin; refine Lib.wpList_append_run _ rfl _ _ _ _ rfl _ _ rfl rfl _ _ (hrz _) ?_)
    | (at_builtin; refine wpList_copy_runI _ rfl _ _ 31 22 rfl _ _ rfl rfl (hcp1 _ _) ?_))
  go_region_law_o (refine step_copy_runI rfl _ _ 31 31 rfl _ _ (by simp [Act.eval, Act.put]) (by simp [Act.eval, Act.put]) (hcp2 _ _ _) ?_)
  go_wp2
  go_ret
  exact ⟨_, rfl, HFIN.out⟩
end Go.Proofs.Ythbegalohfbibab

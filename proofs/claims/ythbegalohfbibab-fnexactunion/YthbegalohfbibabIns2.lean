/- slices.Insert of one int: in place, where there is room. -/
import Derived.Test.YthbegalohfbibabIns
namespace Go.Proofs.Ythbegalohfbibab
open Go.ChangeShapes Go.WideShapes Go.ChangeAt Go.RowKit

theorem ins_room (B g n cap i vb : Nat) (L : List Int) (x : Int) (w : World) (ho : w.ownsRow B 3 1 (.slice (some ⟨g, 0, none⟩) n cap) n (L.map (.int .i64))) (hn : n ≤ 1000) (hi : i < n) (hroom : n + 1 ≤ cap)
    (hv : w.heap[vb]? = some (.cells #[.int .i64 x] 3 (0, 0))) (hne : vb ≠ g) :
    Calls Try.prog 35 #[.slice (some ⟨g, 0, none⟩) n cap, .int .i64 (i : Int), .slice (some ⟨vb, 0, none⟩) 1 1] w fun e w' => ∃ v', e = .returned v' ∧ w'.ownsRow B 3 1 v' (n + 1) ((ins L i x).map (.int .i64)) ∧ Below B w w' := by
  obtain ⟨i0, hi0, hz0, hz1, hz2⟩ := info_parts Try.info3
  obtain ⟨c, hc, hBg, hl, hnc, hcm, hcs, hget⟩ := owns_cells ho
  have mixed : Try.prog.follows Departure.mixedOrders = true := by kernel_rfl
  have hsz : (Try.prog.info? 3).map (·.size) = some 1 := by rw [hi0]; simp [hz1]
  have cellc : ∀ j, w.cell? ⟨g, j, none⟩ = c[j]? := fun j => by simp [World.cell?, hc]
  have frzc : ∀ j, w.frozen? ⟨g, j, none⟩ = false := fun j => by simp [World.frozen?, hc]
  have hov : ∀ lb cb, (callFunc 36 #[.slice (some ⟨vb, 0, none⟩) 1 1, .slice (some ⟨g, i + 1, none⟩) lb cb]).run Try.prog w = .ok (.value (.bool false)) w := fun lb cb => by
    rw [run_callFunc_extern Try.func36 (by kernel_rfl) (by kernel_rfl) (by kernel_rfl) (e := Extern.SlicesOverlaps.overlaps #[22, 22] #[4]) (by kernel_rfl),
      Lib.run_overlaps_apart w 22 4 3 Try.underlying22 1 Try.sizeOf3 ⟨vb, 0, none⟩ ⟨g, i + 1, none⟩ 1 1 lb cb hne 3 3 1 cap (by simp [World.shape?, hv]) (by simp [World.shape?, hc, hcs]) (by omega) (by simp [World.frozen?, hv]) (by simp [World.frozen?, hv])]
    rfl
  have hM : ((L.drop i).map (Value.int .i64)).length = n - i := by simp [hl]
  have hMget : ∀ j v, ((L.drop i).map (Value.int .i64))[j]? = some v → c[i + j]? = some v := fun j v hj => by
    have hjn : j < n - i := by
      by_cases h : j < n - i
      · exact h
      · rw [List.getElem?_eq_none (by omega)] at hj; cases hj
    rw [hget (i + j) (by omega), ← hj]
    simp
  obtain ⟨M, hMd⟩ : ∃ M, M = (L.drop i).map (Value.int .i64) := ⟨_, rfl⟩
  rw [← hMd] at hM hMget
  have h1M : ∀ v ∈ M, v.oneCell' = true := by rw [hMd]; exact app_ones _ _
  have hcp1 : ∀ ty dc sc, (Builtin.copy_ #[31, 31] ty #[.slice (some ⟨g, i + 1, none⟩) (n - i) dc, .slice (some ⟨g, i, none⟩) (n + 1 - i) sc]).run Try.prog w.drew = .ok (goInt M.length) (w.drew.setCells g (i + 1) M) := fun ty dc sc =>
    run_copy_cells w.drew _ _ ty 3 g (i + 1) (n - i) dc ⟨g, i, none⟩ (n + 1 - i) sc M Try.underlying31 hsz (by rw [hM]; simp only [Nat.min_def]; split <;> omega)
      (fun j v hj => by rw [Addr.add_lit]; exact (cellc (i + j)).trans (hMget j v hj))
      (fun j hj => by show (w.cell? ⟨g, i + 1 + j, none⟩).isSome = true; rw [cellc, Array.getElem?_eq_getElem (by omega)]; rfl) (fun j hj => frzc _) h1M
  have hW1 : (w.drew.setCells g (i + 1) M).heap[g]? = some (.cells (wrt c (i + 1) M) 3 (0, 0)) := blk_sets M (w := w.drew) hc
  have hW1v : (w.drew.setCells g (i + 1) M).heap[vb]? = some (.cells #[.int .i64 x] 3 (0, 0)) := (oth_sets hne M (w := w.drew)).trans hv
  have hB1 : Below B w (w.drew.setCells g (i + 1) M) := below_sets (Below.drawn (Below.refl B w) 1) hBg M
  obtain ⟨W1, hW⟩ : ∃ W1, W1 = w.drew.setCells g (i + 1) M := ⟨_, rfl⟩
  rw [← hW] at hcp1 hW1 hW1v hB1
  have hcp2 : ∀ ty dc, (Builtin.copy_ #[31, 22] ty #[.slice (some ⟨g, i, none⟩) (n + 1 - i) dc, .slice (some ⟨vb, 0, none⟩) 1 1]).run Try.prog W1 = .ok (goInt 1) (W1.setCells g i [.int .i64 x]) := fun ty dc =>
    run_copy_cells W1 _ _ ty 3 g i (n + 1 - i) dc ⟨vb, 0, none⟩ 1 1 [.int .i64 x] Try.underlying31 hsz (by simp only [Nat.min_def, List.length_singleton]; split <;> omega)
      (fun j v hj => by rw [Addr.add_lit, Nat.zero_add]; simp [World.cell?, hW1v]; simpa using hj)
      (fun j hj => by simp only [World.cell?, hW1]; rw [Array.getElem?_eq_getElem (by rw [wrt_size]; simp at hj; omega)]; rfl) (fun j hj => by simp [World.frozen?, hW1]) (app_one _ _)
  have hfin : (W1.setCells g i [.int .i64 x]).ownsRow B 3 1 (.slice (some ⟨g, 0, none⟩) (n + 1) cap) (n + 1) ((ins L i x).map (.int .i64)) := by
    refine owns_ins hBg (blk_sets [.int .i64 x] hW1) (by rw [ins_len, hl]) hroom hcm (by rw [wrt_size, wrt_size, hcs]) fun j hj => ?_
    rw [wrt_get _ _ _ (by rw [wrt_size]; simp; omega), wrt_get _ _ _ (by omega), List.getElem?_map, ins_get L i x (by omega)]
    by_cases h1 : j < i
    · rw [if_neg (by simp; omega), if_neg (by omega), if_pos h1, hget j (by omega), List.getElem?_map]
    · by_cases h2 : j = i
      · subst h2
        rw [if_pos (by simp), if_neg (by omega), if_pos rfl]
        simp
      · rw [if_neg (by simp; omega), if_pos (by omega), if_neg h1, if_neg h2, hMd, List.getElem?_map, List.getElem?_drop, show i + (j - (i + 1)) = j - 1 by omega]
  have hBfin : Below B w (W1.setCells g i [.int .i64 x]) := below_sets hB1 hBg _
  have HFIN := hide (And.intro hfin hBfin)
  clear hfin hBfin hW hW1 hW1v hB1 hget hMget hM h1M hMd cellc frzc ho hc hv
  unfold maxLen at hcm
  have hw1 : IntKind.i64.wrap ((i : Int) + 1) = (i : Int) + 1 := by rw [IntKind.wrap_i64]; omega
  have hb1 : (0 : Int) ≤ (i : Int) + 1 := by omega
  have hin : i ≤ n := by omega
  have htn : ((i : Int) + 1).toNat = i + 1 := by omega
  have hb2 : ¬ (cap = i + 1) := by omega
  have hb3 : (i : Int) ≤ (n : Int) + 1 := by omega
  have hb4 : ¬ (cap = i) := by omega
  have hz : ¬ ((i : Int) = (n : Int)) := by omega
  go_enter Try.func35, Try.ntmps35
  go_wp2_with (simp only [hov])
  go_region_law_o (refine step_copy_runI rfl _ _ 31 31 rfl _ _ (by simp [Act.eval, Act.put]) (by simp [Act.eval, Act.put]) (hcp1 _ _ _) ?_)
  go_wp2_with (at_builtin; refine wpList_copy_runI _ rfl _ _ 31 22 rfl _ _ rfl rfl (hcp2 _ _) ?_)
  go_ret
  exact ⟨_, rfl, HFIN.out⟩
end Go.Proofs.Ythbegalohfbibab

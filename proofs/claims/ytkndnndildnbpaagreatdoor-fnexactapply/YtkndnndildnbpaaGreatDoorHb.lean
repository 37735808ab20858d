/- Marks as ascending lists. -/
import Derived.Test.YtkndnndildnbpaaGreatDoorGy
import Derived.Test.YtkndnndildnbpaaGreatDoorHa
import Derived.Lib.SliceRun
import Derived.Test.YtkndnndildnbpaaGreatDoorGa
import Derived.Lib.AppendZeros
import Derived.Deep.Cut

namespace Go.Proofs.YtkndnndildnbpaaGreatDoor
set_option maxRecDepth 100000

/-- With x, where it comes by its size. -/
def mk : List Int → Int → List Int
  | [], x => [x]
  | y :: r, x => if y < x then y :: mk r x else if y = x then y :: r else x :: y :: r

/-- Ascending, in 0 .. 7. -/
def Asc (M : List Int) : Prop := M.Pairwise (· < ·) ∧ ∀ y ∈ M, 0 ≤ y ∧ y ≤ 7

theorem Asc.nil : Asc [] := ⟨List.Pairwise.nil, fun y hy => by cases hy⟩

theorem asc_bound (M : List Int) (a : Int) (hp : M.Pairwise (· < ·)) (h : ∀ y ∈ M, a ≤ y ∧ y ≤ 7) (ha : a ≤ 8) : (M.length : Int) ≤ 8 - a := by
  induction M generalizing a with
  | nil => simp; omega
  | cons y r ih =>
    have hy := h y (by simp)
    rw [List.pairwise_cons] at hp
    have := ih (y + 1) hp.2 (fun z hz => ⟨by have := hp.1 z hz; omega, (h z (by simp [hz])).2⟩) (by omega)
    simp only [List.length_cons]
    omega

theorem Asc.len {M : List Int} (h : Asc M) : M.length ≤ 8 := by
  have := asc_bound M 0 h.1 h.2 (by omega)
  omega

theorem mem_mk {M : List Int} {x z : Int} (h : z ∈ mk M x) : z = x ∨ z ∈ M := by
  induction M with
  | nil => left; simpa [mk] using h
  | cons y r ih =>
    rw [mk] at h
    split at h
    · rcases List.mem_cons.1 h with h | h
      · right; simp [h]
      · rcases ih h with h | h
        · exact .inl h
        · right; simp [h]
    · split at h
      · exact .inr h
      · rcases List.mem_cons.1 h with h | h
        · exact .inl h
        · exact .inr h

theorem mk_asc {M : List Int} {x : Int} (h : Asc M) (h0 : 0 ≤ x) (h7 : x ≤ 7) : Asc (mk M x) := by
  refine ⟨?_, fun z hz => ?_⟩
  · replace h := h.1
    clear h0 h7
    induction M with
    | nil => simp [mk]
    | cons y r ih =>
      rw [List.pairwise_cons] at h
      rw [mk]
      split
      · rw [List.pairwise_cons]
        refine ⟨fun z hz => ?_, ih h.2⟩
        rcases mem_mk hz with e | e
        · omega
        · exact h.1 z e
      · split
        · rw [List.pairwise_cons]; exact h
        · rw [List.pairwise_cons]
          refine ⟨fun z hz => ?_, List.pairwise_cons.2 h⟩
          rcases List.mem_cons.1 hz with e | e
          · omega
          · have := h.1 z e; omega
  · rcases mem_mk hz with e | e
    · omega
    · exact h.2 z e

theorem mk_spec {M : List Int} {x : Int} {k : Nat} (hx : x ∉ M) (hk : k ≤ M.length) (h1 : ∀ i, i < k → M.getD i 0 < x) (h2 : k < M.length → ¬ M.getD k 0 < x) : ins M k x = mk M x := by
  induction M generalizing k with
  | nil =>
    obtain rfl : k = 0 := by simpa using hk
    rfl
  | cons y r ih =>
    rw [mk]
    cases k with
    | zero =>
      have hy : ¬ y < x := by simpa using h2 (by simp)
      have he : ¬ y = x := fun e => hx (by simp [e])
      rw [if_neg hy, if_neg he]; rfl
    | succ k =>
      have hy : y < x := by simpa using h1 0 (by omega)
      rw [if_pos hy, ← ih (k := k) (fun h => hx (by simp [h])) (by simpa using hk) (fun i hi => by simpa using h1 (i + 1) (by omega)) (fun hl => by simpa using h2 (by simpa using hl))]
      rfl

theorem mk_has {M : List Int} {x : Int} (hp : M.Pairwise (· < ·)) (hx : x ∈ M) : mk M x = M := by
  induction M with
  | nil => cases hx
  | cons y r ih =>
    rw [List.pairwise_cons] at hp
    rw [mk]
    rcases List.mem_cons.1 hx with e | e
    · rw [if_neg (by omega), if_pos e.symm]
    · have := hp.1 x e
      rw [if_pos this, ih hp.2 e]

theorem filter_all {M : List Int} {x : Int} (h : ∀ z ∈ M, x < z) : M.filter (fun y => decide (y ≠ x)) = M :=
  List.filter_eq_self.2 fun z hz => by have := h z hz; simp; omega

theorem mk_impl {M : List Int} {x : Int} {p : Nat} (hp : M.Pairwise (· < ·)) (hk : p ≤ (M.filter (fun y => decide (y ≠ x))).length) (h1 : ∀ i, i < p → ¬ x < (M.filter (fun y => decide (y ≠ x))).getD i 0)
    (h2 : p < (M.filter (fun y => decide (y ≠ x))).length → x < (M.filter (fun y => decide (y ≠ x))).getD p 0) : ins (M.filter (fun y => decide (y ≠ x))) p x = mk M x := by
  induction M generalizing p with
  | nil =>
    obtain rfl : p = 0 := by simpa using hk
    rfl
  | cons y r ih =>
    rw [List.pairwise_cons] at hp
    rw [mk]
    by_cases e : y = x
    · subst e
      have hr := filter_all (x := y) hp.1
      rw [if_neg (by omega), if_pos rfl]
      rw [List.filter_cons_of_neg (by simp), hr] at hk h1 h2 ⊢
      have hp0 : p = 0 := by
        cases p with
        | zero => rfl
        | succ p =>
          cases r with
          | nil => simp at hk
          | cons z r => exact absurd (hp.1 z (by simp)) (by simpa using h1 0 (by omega))
      subst hp0
      rfl
    · rw [List.filter_cons_of_pos (by simpa using e)] at hk h1 h2 ⊢
      by_cases hlt : y < x
      · rw [if_pos hlt]
        cases p with
        | zero => exact absurd (by simpa using h2 (by simp)) (show ¬ x < y by omega)
        | succ p =>
          rw [← ih (p := p) hp.2 (by simpa using hk) (fun i hi => by simpa using h1 (i + 1) (by omega)) (fun hl => by simpa using h2 (by simpa using hl))]
          rfl
      · rw [if_neg hlt, if_neg e]
        have hr := filter_all (x := x) (M := r) (fun z hz => by have := hp.1 z hz; omega)
        have hp0 : p = 0 := by
          cases p with
          | zero => rfl
          | succ p => exact absurd (show x < y by omega) (by simpa using h1 0 (by omega))
        subst hp0
        rw [hr]
        rfl

theorem kept_filter (M : List Int) (x : Int) (k : Nat) (hk : k ≤ M.length) : kept (fun i => M.getD i 0) x k = (M.take k).filter (fun y => decide (y ≠ x)) := by
  induction k with
  | zero => simp [kept]
  | succ k ih =>
    rw [kept, ih (by omega), List.take_add_one, List.getElem?_eq_getElem (by omega : k < M.length), List.filter_append]
    have e : M.getD k 0 = M[k] := by simp [List.getD, show k < M.length by omega]
    simp only [e]
    by_cases h : M[k] = x
    · rw [if_pos h]; simp [h]
    · rw [if_neg h]; simp [h]

/-- Mark. -/
def mkr (M : List Int) (x : Int) : List Int := if x < 0 ∨ 7 < x then M else mk M x
end Go.Proofs.YtkndnndildnbpaaGreatDoor
namespace Go.Proofs.YtkndnndildnbpaaGreatDoor
open Go.ChangeShapes Go.WideShapes Go.ChangeAt Go.RowKit
set_option linter.unusedVariables false
set_option linter.unusedSimpArgs false
set_option maxRecDepth 100000

/-- The first n, as a list. -/
def lst (f : Nat → Int) (n : Nat) : List Int := (List.range n).map f

theorem news_of {w w' : World} {ad : Addr} {n : Nat} {f : Nat → Int} (hs : SL .i64 w (some ad) n f) (hb : Below w.heap.size w w') :
    ∀ j u, ((lst f n).map (Value.int .i64))[j]? = some u → w'.cell? (ad.add j) = some u := by
  intro j u h
  have hj : j < n := by
    by_cases hj : j < n
    · exact hj
    · rw [List.getElem?_eq_none (by simp [lst]; omega)] at h; cases h
  have e : u = .int .i64 (f j) := by simpa [lst, hj] using h.symm
  obtain ⟨b, off, ea, hlt, hc⟩ := hs j hj
  simp only [Option.some.injEq] at ea
  subst ea
  rw [Addr.add_lit, e]
  exact (hb.cell (p := ⟨b, off + j, none⟩) hlt).trans hc

theorem clone_any (ad : Addr) (n cap : Nat) (f : Nat → Int) (w : World) (hn : n ≤ 2097152) (hs : SL .i64 w (some ad) n f) :
    Calls Tryz.prog 215 #[.slice (some ad) n cap] w fun e w' => ∃ v, e = .returned v ∧ w'.ownsRow w.heap.size 3 1 v n ((lst f n).map (.int .i64)) ∧ Below w.heap.size w w' := by
  obtain ⟨i0, hi, hz0, hz1, hz2⟩ := info_parts Tryz.info3
  have hnil : ∀ w, (binOp .eql 22 (.slice (some ad) n cap) (.slice none 0 0)).run Tryz.prog w = .ok (.bool false) w := fun w => Lib.run_eql_slice_nil w 22 3 (some ad) n cap 0 0 Tryz.underlying22
  have hnews := hide (news_of hs ((Below.refl w.heap.size w).alloc (Nat.le_refl _) (.cells #[] 3)))
  have hone := hide (app_ones .i64 (lst f n))
  clear hs
  go_enter Tryz.func215, Tryz.ntmps215
  go_wp2_with (first
    | (at_builtin; refine wpList_append_own _ rfl _ _ 22 rfl w.heap.size 3 i0 (.int .i64 0) 1 8 Tryz.underlying22 hi hz0 hz1 hz2 rfl (by decide) _ _ _ rfl (owns_empty (Nat.le_refl _)) ad n cap ((lst f n).map (.int .i64)) rfl (by simp [lst]) hnews.out hone.out (app_lens (by omega)) (by omega) (by simp) ?_; intro v' w1 hown' hgrow hnn))
  go_wp2
  go_ret
  exact ⟨_, rfl, by simpa using hown', grown_below ((Below.refl w.heap.size w).alloc (Nat.le_refl _) _) (by simp) (owns_empty (Nat.le_refl _)) hgrow⟩
theorem ins_room (B g n cap i vb : Nat) (L : List Int) (x : Int) (w : World) (ho : w.ownsRow B 3 1 (.slice (some ⟨g, 0, none⟩) n cap) n (L.map (.int .i64))) (hn : n ≤ 1000) (hi : i < n) (hroom : n + 1 ≤ cap)
    (hv : w.heap[vb]? = some (.cells #[.int .i64 x] 3 (0, 0))) (hne : vb ≠ g) :
    Calls Tryz.prog 189 #[.slice (some ⟨g, 0, none⟩) n cap, .int .i64 (i : Int), .slice (some ⟨vb, 0, none⟩) 1 1] w fun e w' => ∃ v', e = .returned v' ∧ w'.ownsRow B 3 1 v' (n + 1) ((ins L i x).map (.int .i64)) ∧ Below B w w' := by
  obtain ⟨i0, hi0, hz0, hz1, hz2⟩ := info_parts Tryz.info3
  obtain ⟨c, hc, hBg, hl, hnc, hcm, hcs, hget⟩ := owns_cells ho
  have mixed : Tryz.prog.follows Departure.mixedOrders = true := by kernel_rfl
  have hsz : (Tryz.prog.info? 3).map (·.size) = some 1 := by rw [hi0]; simp [hz1]
  have cellc : ∀ j, w.cell? ⟨g, j, none⟩ = c[j]? := fun j => by simp [World.cell?, hc]
  have frzc : ∀ j, w.frozen? ⟨g, j, none⟩ = false := fun j => by simp [World.frozen?, hc]
  have hov : ∀ lb cb, (callFunc 228 #[.slice (some ⟨vb, 0, none⟩) 1 1, .slice (some ⟨g, i + 1, none⟩) lb cb]).run Tryz.prog w = .ok (.value (.bool false)) w := fun lb cb => by
    rw [run_callFunc_extern Tryz.func228 (by kernel_rfl) (by kernel_rfl) (by kernel_rfl) (e := Extern.SlicesOverlaps.overlaps #[22, 22] #[4]) (by kernel_rfl),
      Lib.run_overlaps_apart w 22 4 3 Tryz.underlying22 1 Tryz.sizeOf3 ⟨vb, 0, none⟩ ⟨g, i + 1, none⟩ 1 1 lb cb hne 3 3 1 cap (by simp [World.shape?, hv]) (by simp [World.shape?, hc, hcs]) (by omega) (by simp [World.frozen?, hv]) (by simp [World.frozen?, hv])]
    rfl
  have hM : ((L.drop i).map (Value.int .i64)).length = n - i := by simp [hl]
  have hMget : ∀ j v, ((L.drop i).map (Value.int .i64))[j]? = some v → c[i + j]? = some v := fun j v hj => by
    have hjn : j < n - i := by
      by_cases h : j < n - i
      · exact h
      · rw [List.getElem?_eq_none (by omega)] at hj; cases hj
    rw [hget (i + j) (by omega), ← hj]
    simp
  obtain ⟨M, hMd⟩ : ∃ M, M = (L.drop i).map (Value.int .i64) := ⟨_, rfl⟩
  rw [← hMd] at hM hMget
  have h1M : ∀ v ∈ M, v.oneCell' = true := by rw [hMd]; exact app_ones _ _
  have hcp1 : ∀ ty dc sc, (Builtin.copy_ #[125, 125] ty #[.slice (some ⟨g, i + 1, none⟩) (n - i) dc, .slice (some ⟨g, i, none⟩) (n + 1 - i) sc]).run Tryz.prog w.drew = .ok (goInt M.length) (w.drew.setCells g (i + 1) M) := fun ty dc sc =>
    run_copy_cells w.drew _ _ ty 3 g (i + 1) (n - i) dc ⟨g, i, none⟩ (n + 1 - i) sc M Tryz.underlying125 hsz (by rw [hM]; simp only [Nat.min_def]; split <;> omega)
      (fun j v hj => by rw [Addr.add_lit]; exact (cellc (i + j)).trans (hMget j v hj))
      (fun j hj => by show (w.cell? ⟨g, i + 1 + j, none⟩).isSome = true; rw [cellc, Array.getElem?_eq_getElem (by omega)]; rfl) (fun j hj => frzc _) h1M
  have hW1 : (w.drew.setCells g (i + 1) M).heap[g]? = some (.cells (wrt c (i + 1) M) 3 (0, 0)) := blk_sets M (w := w.drew) hc
  have hW1v : (w.drew.setCells g (i + 1) M).heap[vb]? = some (.cells #[.int .i64 x] 3 (0, 0)) := (oth_sets hne M (w := w.drew)).trans hv
  have hB1 : Below B w (w.drew.setCells g (i + 1) M) := below_sets (Below.drawn (Below.refl B w) 1) hBg M
  obtain ⟨W1, hW⟩ : ∃ W1, W1 = w.drew.setCells g (i + 1) M := ⟨_, rfl⟩
  rw [← hW] at hcp1 hW1 hW1v hB1
  have hcp2 : ∀ ty dc, (Builtin.copy_ #[125, 22] ty #[.slice (some ⟨g, i, none⟩) (n + 1 - i) dc, .slice (some ⟨vb, 0, none⟩) 1 1]).run Tryz.prog W1 = .ok (goInt 1) (W1.setCells g i [.int .i64 x]) := fun ty dc =>
    run_copy_cells W1 _ _ ty 3 g i (n + 1 - i) dc ⟨vb, 0, none⟩ 1 1 [.int .i64 x] Tryz.underlying125 hsz (by simp only [Nat.min_def, List.length_singleton]; split <;> omega)
      (fun j v hj => by rw [Addr.add_lit, Nat.zero_add]; simp [World.cell?, hW1v]; simpa using hj)
      (fun j hj => by simp only [World.cell?, hW1]; rw [Array.getElem?_eq_getElem (by rw [wrt_size]; simp at hj; omega)]; rfl) (fun j hj => by simp [World.frozen?, hW1]) (app_one8 _ _)
  have hfin : (W1.setCells g i [.int .i64 x]).ownsRow B 3 1 (.slice (some ⟨g, 0, none⟩) (n + 1) cap) (n + 1) ((ins L i x).map (.int .i64)) := by
    refine owns_ins hBg (blk_sets [.int .i64 x] hW1) (by rw [ins_len, hl]) hroom hcm (by rw [wrt_size, wrt_size, hcs]) fun j hj => ?_
    rw [wrt_get _ _ _ (by rw [wrt_size]; simp; omega), wrt_get _ _ _ (by omega), List.getElem?_map, ins_get L i x (by omega)]
    by_cases h1 : j < i
    · rw [if_neg (by simp; omega), if_neg (by omega), if_pos h1, hget j (by omega), List.getElem?_map]
    · by_cases h2 : j = i
      · subst h2
        rw [if_pos (by simp), if_neg (by omega), if_pos rfl]
        simp
      · rw [if_neg (by simp; omega), if_pos (by omega), if_neg h1, if_neg h2, hMd, List.getElem?_map, List.getElem?_drop, show i + (j - (i + 1)) = j - 1 by omega]
  have hBfin : Below B w (W1.setCells g i [.int .i64 x]) := below_sets hB1 hBg _
  have HFIN := hide (And.intro hfin hBfin)
  clear hfin hBfin hW hW1 hW1v hB1 hget hMget hM h1M hMd cellc frzc ho hc hv
  unfold maxLen at hcm
  have hw1 : IntKind.i64.wrap ((i : Int) + 1) = (i : Int) + 1 := by rw [IntKind.wrap_i64]; omega
  have hb1 : (0 : Int) ≤ (i : Int) + 1 := by omega
  have hin : i ≤ n := by omega
  have htn : ((i : Int) + 1).toNat = i + 1 := by omega
  have hb2 : ¬ (cap = i + 1) := by omega
  have hb3 : (i : Int) ≤ (n : Int) + 1 := by omega
  have hb4 : ¬ (cap = i) := by omega
  have hz : ¬ ((i : Int) = (n : Int)) := by omega
  go_enter Tryz.func189, Tryz.ntmps189
  go_wp2_with (simp only [hov])
  go_region_law_o (refine step_copy_runI rfl _ _ 125 125 rfl _ _ (by simp [Act.eval, Act.put]) (by simp [Act.eval, Act.put]) (hcp1 _ _ _) ?_)
  go_wp2_with (at_builtin; refine wpList_copy_runI _ rfl _ _ 125 22 rfl _ _ rfl rfl (hcp2 _ _) ?_)
  go_ret
  exact ⟨_, rfl, HFIN.out⟩
theorem ins_grow (B g n cap i vb : Nat) (L : List Int) (x : Int) (w : World) (hB : B ≤ w.heap.size) (ho : w.ownsRow B 3 1 (.slice (some ⟨g, 0, none⟩) n cap) n (L.map (.int .i64))) (hn : n ≤ 1000) (hi : i < n) (hroom : cap < n + 1)
    (hv : w.heap[vb]? = some (.cells #[.int .i64 x] 3 (0, 0))) :
    Calls Tryz.prog 189 #[.slice (some ⟨g, 0, none⟩) n cap, .int .i64 (i : Int), .slice (some ⟨vb, 0, none⟩) 1 1] w fun e w' => ∃ v', e = .returned v' ∧ w'.ownsRow B 3 1 v' (n + 1) ((ins L i x).map (.int .i64)) ∧ Below B w w' := by
  obtain ⟨i0, hi0, hz0, hz1, hz2⟩ := info_parts Tryz.info3
  obtain ⟨c, hc, hBg, hl, hnc, hcm, hcs, hget⟩ := owns_cells ho
  have mixed : Tryz.prog.follows Departure.mixedOrders = true := by kernel_rfl
  have hsz : (Tryz.prog.info? 3).map (·.size) = some 1 := by rw [hi0]; simp [hz1]
  have hgw : g < w.heap.size := (Array.getElem?_eq_some_iff.1 hc).1
  have hvw : vb < w.heap.size := (Array.getElem?_eq_some_iff.1 hv).1
  have hold : (Builtin.firstCells i0.size i (.slice (some ⟨g, 0, none⟩) i cap)).run Tryz.prog w.drew = .ok ((L.take i).map (Value.int .i64)).toArray w.drew := by
    rw [hz1]
    exact run_firstCells_some w.drew 1 i ⟨g, 0, none⟩ i cap ((L.take i).map (Value.int .i64)) (by simp; omega) (fun j v hj => by
      rw [Addr.add_lit, Nat.zero_add]
      have hji : j < i := by
        by_cases h : j < i
        · exact h
        · rw [List.getElem?_eq_none (by simp; omega)] at hj; cases hj
      show w.cell? ⟨g, j, none⟩ = some v
      rw [← hj, List.getElem?_map, List.getElem?_take, if_pos hji]
      simp only [World.cell?, hc]
      rw [if_neg (by simp), hget j (by omega), List.getElem?_map])
  have hrz : ∀ ty, (Builtin.append_ #[125, 3] ty #[.slice (some ⟨g, 0, none⟩) i cap, .int .i64 ((n : Int) + 1 - (i : Int))]).run Tryz.prog w =
      .ok (.slice (some ⟨w.heap.size, 0, none⟩) (n + 1) (grownCap w (n + 1) cap 3)) (w.drew.alloc (.cells (((L.take i).map (Value.int .i64)).toArray ++ Builtin.zeroCells (Value.int .i64 0).cells (n + 1 - i) ++ Builtin.zeroCells (Value.int .i64 0).cells (grownCap w (n + 1) cap 3 - (n + 1))) 3)) := fun ty => by
    have h := Lib.run_append_grow_zeros w 125 3 ty 3 i0 _ .i64 .i64 Tryz.underlying125 Tryz.underlying3 hi0 hz0 (some ⟨g, 0, none⟩) i cap _ hold (n + 1 - i) (by omega) (by omega) (by omega) (by omega) (by rw [hz2]; omega) (by rw [hz2, show i + (n + 1 - i) = n + 1 by omega]; exact growslice_fits hroom (by omega))
    rw [show i + (n + 1 - i) = n + 1 by omega] at h
    rw [show (n : Int) + 1 - (i : Int) = ((n + 1 - i : Nat) : Int) by omega]
    exact h
  have hGn : n + 1 ≤ grownCap w (n + 1) cap 3 := grownCap_ge w _ _ _
  have hGm : grownCap w (n + 1) cap 3 ≤ maxLen := grownCap_le_maxLen w (n + 1) cap 3 (by unfold maxLen; omega)
  obtain ⟨G, hG⟩ : ∃ G, G = grownCap w (n + 1) cap 3 := ⟨_, rfl⟩
  rw [← hG] at hrz hGn hGm
  obtain ⟨ROW, hROW⟩ : ∃ ROW : Array Value, ROW = ((L.take i).map (Value.int .i64)).toArray ++ Builtin.zeroCells (Value.int .i64 0).cells (n + 1 - i) ++ Builtin.zeroCells (Value.int .i64 0).cells (G - (n + 1)) := ⟨_, rfl⟩
  have hRs : ROW.size = G := by rw [hROW]; simp [Builtin.zeroCells, Value.cells]; omega
  have hRg : ∀ j, j < i → ROW[j]? = ((L.take i).map (Value.int .i64))[j]? := fun j hj => by
    rw [hROW, Array.append_assoc, Array.getElem?_append_left (by simp; omega)]
    simp
  rw [← hROW] at hrz
  have hH : (w.drew.alloc (.cells ROW 3)).heap[w.heap.size]? = some (.cells ROW 3 (0, 0)) := Deep.blk_alloc_new w.drew _
  have hgB : (w.drew.alloc (.cells ROW 3)).heap[g]? = some (.cells c 3 (0, 0)) := (Below.heap_alloc w.drew _ g hgw).trans hc
  have hvB : (w.drew.alloc (.cells ROW 3)).heap[vb]? = some (.cells #[.int .i64 x] 3 (0, 0)) := (Below.heap_alloc w.drew _ vb hvw).trans hv
  have hB1 : Below B w (w.drew.alloc (.cells ROW 3)) := (Below.drawn (Below.refl B w) 1).alloc hB _
  obtain ⟨W1, hW⟩ : ∃ W1, W1 = w.drew.alloc (.cells ROW 3) := ⟨_, rfl⟩
  rw [← hW] at hrz hH hgB hvB hB1
  obtain ⟨M, hMd⟩ : ∃ M, M = (L.drop i).map (Value.int .i64) := ⟨_, rfl⟩
  have hM : M.length = n - i := by rw [hMd]; simp [hl]
  have h1M : ∀ v ∈ M, v.oneCell' = true := by rw [hMd]; exact app_ones _ _
  have hMget : ∀ j v, M[j]? = some v → c[i + j]? = some v := fun j v hj => by
    have hjn : j < n - i := by
      by_cases h : j < n - i
      · exact h
      · rw [List.getElem?_eq_none (by omega)] at hj; cases hj
    rw [hget (i + j) (by omega), ← hj, hMd]
    simp
  have hcp1 : ∀ ty dc, (Builtin.copy_ #[125, 22] ty #[.slice (some ⟨w.heap.size, i, none⟩) (n + 1 - i) dc, .slice (some ⟨vb, 0, none⟩) 1 1]).run Tryz.prog W1 = .ok (goInt 1) (W1.setCells w.heap.size i [.int .i64 x]) := fun ty dc =>
    run_copy_cells W1 _ _ ty 3 w.heap.size i (n + 1 - i) dc ⟨vb, 0, none⟩ 1 1 [.int .i64 x] Tryz.underlying125 hsz (by simp only [Nat.min_def, List.length_singleton]; split <;> omega)
      (fun j v hj => by rw [Addr.add_lit, Nat.zero_add]; simp [World.cell?, hvB]; simpa using hj)
      (fun j hj => by simp only [World.cell?, hH]; rw [Array.getElem?_eq_getElem (by simp at hj; omega)]; rfl) (fun j hj => by simp [World.frozen?, hH]) (app_one8 _ _)
  have hH2 : (W1.setCells w.heap.size i [.int .i64 x]).heap[w.heap.size]? = some (.cells (wrt ROW i [.int .i64 x]) 3 (0, 0)) := blk_sets _ hH
  have hg2 : (W1.setCells w.heap.size i [.int .i64 x]).heap[g]? = some (.cells c 3 (0, 0)) := (oth_sets (by omega) _).trans hgB
  have hB2 : Below B w (W1.setCells w.heap.size i [.int .i64 x]) := below_sets hB1 hB _
  obtain ⟨W2, hW2⟩ : ∃ W2, W2 = W1.setCells w.heap.size i [.int .i64 x] := ⟨_, rfl⟩
  rw [← hW2] at hcp1 hH2 hg2 hB2
  have hcp2 : ∀ ty dc sc, (Builtin.copy_ #[125, 125] ty #[.slice (some ⟨w.heap.size, i + 1, none⟩) (n - i) dc, .slice (some ⟨g, i, none⟩) (n - i) sc]).run Tryz.prog W2.drew = .ok (goInt M.length) (W2.drew.setCells w.heap.size (i + 1) M) := fun ty dc sc =>
    run_copy_cells W2.drew _ _ ty 3 w.heap.size (i + 1) (n - i) dc ⟨g, i, none⟩ (n - i) sc M Tryz.underlying125 hsz (by rw [hM]; simp only [Nat.min_def]; split <;> omega)
      (fun j v hj => by rw [Addr.add_lit]; show W2.cell? ⟨g, i + j, none⟩ = some v; simp only [World.cell?, hg2]; rw [if_neg (by simp)]; exact hMget j v hj)
      (fun j hj => by show (W2.cell? ⟨w.heap.size, i + 1 + j, none⟩).isSome = true; simp only [World.cell?, hH2]; rw [Array.getElem?_eq_getElem (by rw [wrt_size]; omega)]; rfl) (fun j hj => by show W2.frozen? _ = false; simp [World.frozen?, hH2]) h1M
  have hfin : (W2.drew.setCells w.heap.size (i + 1) M).ownsRow B 3 1 (.slice (some ⟨w.heap.size, 0, none⟩) (n + 1) G) (n + 1) ((ins L i x).map (.int .i64)) := by
    refine owns_ins hB (blk_sets (w := W2.drew) M hH2) (by rw [ins_len, hl]) hGn hGm (by rw [wrt_size, wrt_size, hRs]) fun j hj => ?_
    rw [wrt_get _ _ _ (by rw [wrt_size]; omega), wrt_get _ _ _ (by simp; omega), List.getElem?_map, ins_get L i x (by omega)]
    by_cases h1 : j < i
    · rw [if_neg (by omega), if_neg (by simp; omega), if_pos h1, hRg j h1, List.getElem?_map, List.getElem?_take, if_pos h1]
    · by_cases h2 : j = i
      · subst h2
        rw [if_neg (by omega), if_pos (by simp), if_neg h1, if_pos rfl]
        simp
      · rw [if_pos (by omega), if_neg h1, if_neg h2, hMd, List.getElem?_map, List.getElem?_drop, show i + (j - (i + 1)) = j - 1 by omega]
  have hBfin : Below B w (W2.drew.setCells w.heap.size (i + 1) M) := below_sets (Below.drawn hB2 1) hB _
  obtain ⟨W3, hW3⟩ : ∃ W3, W3 = W2.drew.setCells w.heap.size (i + 1) M := ⟨_, rfl⟩
  rw [← hW3] at hcp2 hfin hBfin
  have HFIN := hide (And.intro hfin hBfin)
  clear hfin hBfin hW hW2 hW3 hH hH2 hg2 hgB hvB hB1 hB2 hget hMget hM h1M hMd ho hc hv hRs hRg hROW hold hG
  unfold maxLen at hcm hGm
  have hw1 : IntKind.i64.wrap ((i : Int) + 1) = (i : Int) + 1 := by rw [IntKind.wrap_i64]; omega
  have hb1 : (0 : Int) ≤ (i : Int) + 1 := by omega
  have hin : i ≤ n := by omega
  have htn : ((i : Int) + 1).toNat = i + 1 := by omega
  have hGi : ¬ (G = i) := by omega
  have hGim : ¬ (G = i + 1) := by omega
  have hci : ¬ (cap = i) := by omega
  have hb3 : (i : Int) ≤ (n : Int) := by omega
  have hz : ¬ ((i : Int) = (n : Int)) := by omega
  have hz3 : (cap : Int) < (n : Int) + 1 := by omega
  go_enter Tryz.func189, Tryz.ntmps189
  go_wp2_with (first
    | (at_builtin; refine Lib.wpList_append_run _ rfl _ _ _ _ rfl _ _ rfl rfl _ _ (hrz _) ?_)
    | (at_builtin; refine wpList_copy_runI _ rfl _ _ 125 22 rfl _ _ rfl rfl (hcp1 _ _) ?_))
  go_region_law_o (refine step_copy_runI rfl _ _ 125 125 rfl _ _ (by simp [Act.eval, Act.put]) (by simp [Act.eval, Act.put]) (hcp2 _ _ _) ?_)
  go_wp2
  go_ret
  exact ⟨_, rfl, HFIN.out⟩
theorem idx_asc (g : Nat) (lb : Array Value) (p : Int → Bool) (ao : Option Addr) (n cap : Nat) (f : Nat → Int) (w : World)
    (eg : ∀ args w, (callFunc g args).run Tryz.prog w = .ok (.enter g args) w)
    (hp : ∀ x, Calls Tryz.prog g (#[.int .i64 x] ++ lb) w fun e w' => e = .returned (.bool (p x)) ∧ w' = w)
    (hn : n ≤ 1048576) (hs : SL .i64 w ao n f) :
    Calls Tryz.prog 187 #[.slice ao n cap, .func (.func g) #[] lb] w fun e w' => (∃ r : Int, e = .returned (.int .i64 r) ∧ IsFirst (fun i => p (f i)) n r) ∧ w' = w := by
  go_enter Tryz.func187, Tryz.ntmps187
  go_wp2
  go_loop [5, 8] (fun _ i => ∃ k : Nat, k ≤ n ∧ i = .int .i64 k ∧ Hid (∀ j, j < k → p (f j) = false)) (fun _ i => n - (intOf i).toNat)
  case atStart => exact ⟨0, Nat.zero_le _, rfl, fun j hj => absurd hj (Nat.not_lt_zero _)⟩
  case round =>
    obtain ⟨k, hk, rfl, A⟩ := hrel
    by_cases hlt : k < n
    · obtain ⟨b, off, rfl, hb, hc⟩ := hs k hlt
      have hcall := hp (f k)
      clear hs hp
      generalize hy : f k = y at *
      have B : Hid (f k = y) := hy
      clear hy
      cases hq : p y with
      | true =>
        rw [hq] at hcall
        go_wp2_with (go_at_fn g; refine hcall.mono ?_; rintro e w' ⟨rfl, rfl⟩)
        go_ret
        exact ⟨⟨_, rfl, .inr ⟨k, rfl, hlt, by show p (f k) = true; rw [B.out]; exact hq, A.out⟩⟩, rfl⟩
      | false =>
        rw [hq] at hcall
        go_wp2_with (go_at_fn g; refine hcall.mono ?_; rintro e w' ⟨rfl, rfl⟩)
        go_round
        case rel =>
          refine ⟨k + 1, by omega, by go_num, fun j hj => ?_⟩
          by_cases e : j = k
          · subst e; rw [B.out]; exact hq
          · exact A.out j (by omega)
        case measure => simp [intOf]; omega
    · have hkn : k = n := by omega
      subst hkn
      go_wp2
      go_ret
      exact ⟨⟨_, rfl, .inl ⟨rfl, A.out⟩⟩, rfl⟩

theorem gt_any (b : Nat) (x y : Int) (w : World) (hc : w.cell? ⟨b, 0, none⟩ = some (.int .i64 x)) :
    Calls Tryz.prog 188 (#[.int .i64 y] ++ #[.pointer (some ⟨b, 0, none⟩)]) w fun e w' => e = .returned (.bool (decide (x < y))) ∧ w' = w := by
  go_enter Tryz.func188, Tryz.ntmps188
  go_wp2
  go_ret
  exact ⟨rfl, rfl⟩

theorem ins_any (B n i vb : Nat) (v : Value) (L : List Int) (x : Int) (w : World) (hB : B ≤ w.heap.size) (ho : w.ownsRow B 3 1 v n (L.map (.int .i64))) (hn : n ≤ 1000) (hi : i ≤ n)
    (hv : w.heap[vb]? = some (.cells #[.int .i64 x] 3 (0, 0))) (hne : ∀ g cap, v = .slice (some ⟨g, 0, none⟩) n cap → vb ≠ g) :
    Calls Tryz.prog 189 #[v, .int .i64 (i : Int), .slice (some ⟨vb, 0, none⟩) 1 1] w fun e w' => ∃ v', e = .returned v' ∧ w'.ownsRow B 3 1 v' (n + 1) ((ins L i x).map (.int .i64)) ∧ Below B w w' := by
  by_cases h : i = n
  · subst h
    exact ins_end B i vb v L x w hB ho hn hv
  · rcases ho.2 with ⟨_, rfl⟩ | ⟨g, cap, cur, rfl, _, _, _⟩
    · omega
    · by_cases hr : n + 1 ≤ cap
      · exact ins_room B g n cap i vb L x w ho hn (by omega) hr hv (hne g cap rfl)
      · exact ins_grow B g n cap i vb L x w hB ho hn (by omega) (by omega) hv

/-- Where x comes in K. -/
def Place (K : List Int) (x : Int) (p : Nat) : Prop := p ≤ K.length ∧ (∀ i, i < p → ¬ x < K.getD i 0) ∧ (p < K.length → x < K.getD p 0)

theorem with_any (ao : Option Addr) (n cap : Nat) (f : Nat → Int) (x : Int) (w : World) (hn : n ≤ 999) (hs : SL .i64 w ao n f) :
    Calls Tryz.prog 117 #[.slice ao n cap, .int .i64 x] w fun e w' => ∃ v p, e = .returned v ∧ Place (kept f x n) x p ∧ w'.ownsRow w.heap.size 3 1 v ((kept f x n).length + 1) ((ins (kept f x n) p x).map (.int .i64)) ∧ Below w.heap.size w w' := by
  have hKn := kept_len f x n
  have b0 := (Below.refl w.heap.size w).alloc (Nat.le_refl _) (.cells #[.int .i64 x] 3)
  have hwo := hide (without_any ao n cap f x (w.alloc (.cells #[.int .i64 x] 3)) (by omega) (hs.below b0))
  have HB0 := hide b0
  clear hs b0
  generalize hK : kept f x n = K at *
  obtain ⟨k, hk⟩ : ∃ k, k = K.length := ⟨_, rfl⟩
  rw [← hk] at hKn hwo ⊢
  have HK := hide hk.symm
  clear hK hk
  go_enter Tryz.func117, Tryz.ntmps117
  go_wp2_with fail
  refine hwo.out.mono ?_
  rintro e w2 ⟨v, rfl, ho, b2⟩
  obtain ⟨ro, rc, rfl, hlen, hO⟩ := Own.of_owns ho
  clear hlen
  have hbox : w2.cell? ⟨w.heap.size, 0, none⟩ = some (.int .i64 x) := (b2.cell (p := ⟨w.heap.size, 0, none⟩) (by simp)).trans (by simp)
  have HO := hide ho
  have HSL := hide hO.sl
  have hsz0 : (w.alloc (.cells #[.int .i64 x] 3)).heap.size = w.heap.size + 1 := by simp
  have hsz : w.heap.size + 1 ≤ w2.heap.size := by have := b2.size; omega
  have HB2 := hide (HB0.out.trans (b2.mono HB0.out.size))
  clear ho hO b2 hwo
  go_wp2_with fail
  refine (idx_asc 188 #[.pointer (some ⟨w.heap.size, 0, none⟩)] (fun y => decide (x < y)) ro k rc (fun i => K.getD i 0) _ (enters_of Tryz.func188 (by kernel_rfl) rfl) (fun y => gt_any _ x y _ hbox) (by omega) HSL.out).mono ?_
  rintro e w3 ⟨⟨r, rfl, hr⟩, rfl⟩
  have hP : ∃ p : Nat, p ≤ k ∧ Hid (Place K x p) ∧ (r = -1 ∧ p = k ∨ r = (p : Int)) := by
    have hkk := HK.out
    rcases hr with ⟨rfl, h⟩ | ⟨q, rfl, hq, h1, h2⟩
    · exact ⟨k, Nat.le_refl _, ⟨by omega, fun i hi => by simpa using h i hi, fun hlt => by omega⟩, .inl ⟨rfl, rfl⟩⟩
    · exact ⟨q, by omega, ⟨by omega, fun i hi => by simpa using h2 i hi, fun _ => by simpa using h1⟩, .inr rfl⟩
  clear hr
  obtain ⟨p, hpk, HP, hrp⟩ := hP
  have hin : Hid (Calls Tryz.prog 189 #[.slice ro k rc, .int .i64 (p : Int), .slice (some ⟨w3.heap.size, 0, none⟩) 1 1] (w3.alloc (.cells #[.int .i64 x] 3)) fun e w' => ∃ v', e = .returned v' ∧ w'.ownsRow (w.heap.size + 1) 3 1 v' (k + 1) ((ins K p x).map (.int .i64)) ∧ Below (w.heap.size + 1) (w3.alloc (.cells #[.int .i64 x] 3)) w') :=
    ins_any (w.heap.size + 1) k p w3.heap.size (.slice ro k rc) K x (w3.alloc (.cells #[.int .i64 x] 3)) (by simp; omega) (by rw [← hsz0]; exact HO.out.alloc _) (by omega) hpk (Deep.blk_alloc_new _ _) (fun g c e => by
      rcases HO.out.2 with ⟨e2, _⟩ | ⟨g2, c2, cur, e2, _, hc2, _⟩
      · rw [e] at e2; simp at e2
      · rw [e] at e2
        simp only [Value.slice.injEq, Option.some.injEq, Addr.mk.injEq] at e2
        obtain ⟨⟨rfl, _, _⟩, _, _⟩ := e2
        have := (Array.getElem?_eq_some_iff.1 hc2).1
        omega)
  have hBn : Hid (Below w.heap.size w (w3.alloc (.cells #[.int .i64 x] 3))) := HB2.out.alloc (by omega) _
  clear HO HSL
  rcases hrp with ⟨rfl, rfl⟩ | rfl
  · go_wp2_with fail
    refine hin.out.mono ?_
    rintro e w4 ⟨v', rfl, ho4, b4⟩
    have R := hide (And.intro (owns_mono ho4 (Nat.le_succ _)) (hBn.out.trans (b4.mono (Nat.le_succ _))))
    clear ho4 b4
    go_wp2
    go_ret
    exact ⟨_, _, rfl, HP.out, R.out⟩
  · go_wp2_with fail
    refine hin.out.mono ?_
    rintro e w4 ⟨v', rfl, ho4, b4⟩
    have R := hide (And.intro (owns_mono ho4 (Nat.le_succ _)) (hBn.out.trans (b4.mono (Nat.le_succ _))))
    clear ho4 b4
    go_wp2
    go_ret
    exact ⟨_, _, rfl, HP.out, R.out⟩
theorem lst_of (M : List Int) : lst (fun i => M.getD i 0) M.length = M := by
  refine List.ext_getElem? fun j => ?_
  by_cases h : j < M.length
  · simp [lst, h, List.getD]
  · rw [List.getElem?_eq_none (by simp [lst]; omega), List.getElem?_eq_none (by omega)]

/-- A bool that tells whether p. -/
def IsB (e : Ending) (p : Prop) : Prop := ∃ b : Bool, e = .returned (.bool b) ∧ (b = true ↔ p)

theorem has_any (ao : Option Addr) (n cap : Nat) (f : Nat → Int) (x : Int) (w : World) (hn : n ≤ 1048576) (hs : SL .i64 w ao n f) :
    Calls Tryz.prog 122 #[.slice ao n cap, .int .i64 x] w fun e w' => IsB e (∃ i, i < n ∧ f i = x) ∧ w' = w := by
  go_enter Tryz.func122, Tryz.ntmps122
  go_wp2
  go_loop [5] (fun i => ∃ k : Nat, k ≤ n ∧ i = .int .i64 k ∧ Hid (∀ j, j < k → f j ≠ x)) (fun i => n - (intOf i).toNat)
  case atStart => exact ⟨0, by omega, rfl, fun j hj => absurd hj (by omega)⟩
  case round =>
    obtain ⟨k, hk, rfl, A⟩ := hrel
    by_cases hlt : k < n
    · obtain ⟨b, off, rfl, hb, hc⟩ := hs k hlt
      clear hs
      generalize hy : f k = y at *
      have B := hide hy
      clear hy
      by_cases he : y = x
      · subst he
        go_wp2
        go_ret
        exact ⟨⟨true, rfl, ⟨fun _ => ⟨k, hlt, B.out⟩, fun _ => rfl⟩⟩, rfl⟩
      · have hd : decide (y = x) = false := by simpa using he
        go_wp2
        go_round
        case rel =>
          refine ⟨k + 1, by omega, by go_num, fun j hj => ?_⟩
          by_cases e : j = k
          · subst e; rw [B.out]; exact he
          · exact A.out j (by omega)
        case measure => simp [intOf]; omega
    · obtain rfl : k = n := by omega
      go_wp2
      go_ret
      exact ⟨⟨false, rfl, ⟨(fun h => by cases h), fun ⟨i, hi, e⟩ => absurd e (A.out i hi)⟩⟩, rfl⟩

theorem news_at {w w' : World} {g off : Nat} {L : List Int} (hc : ∀ j, j < L.length → w.cell? ⟨g, off + j, none⟩ = some (.int .i64 (L.getD j 0))) (hg : L.length ≠ 0 → g < w.heap.size) (hb : Below w.heap.size w w') :
    ∀ j u, (L.map (Value.int .i64))[j]? = some u → w'.cell? ((⟨g, off, none⟩ : Addr).add j) = some u := by
  intro j u h
  have hj : j < L.length := by
    by_cases hj : j < L.length
    · exact hj
    · rw [List.getElem?_eq_none (by simp; omega)] at h; cases h
  have e : u = .int .i64 (L.getD j 0) := by simpa [hj, List.getD] using h.symm
  rw [Addr.add_lit, e]
  exact (hb.cell (p := ⟨g, off + j, none⟩) (hg (by omega))).trans (hc j hj)

/-- A row that is not nil. -/
def Fresh (w w' : World) (v : Value) (L : List Int) : Prop := w'.ownsRow w.heap.size 3 1 v L.length (L.map (.int .i64)) ∧ (∃ g c, v = .slice (some ⟨g, 0, none⟩) L.length c) ∧ Below w.heap.size w w'

theorem fresh_of {w w' : World} {v : Value} {L : List Int} (h : w'.ownsRow w.heap.size 3 1 v L.length (L.map (.int .i64))) (hn : v ≠ .slice none 0 0) (hb : Below w.heap.size w w') : Fresh w w' v L := by
  refine ⟨h, ?_, hb⟩
  rcases h.2 with ⟨e, _⟩ | ⟨g, c, _, e, _⟩
  · exact absurd e hn
  · exact ⟨g, c, e⟩

theorem cells_take {w : World} {g : Nat} {M : List Int} {k : Nat} (h : ∀ j, j < M.length → w.cell? ⟨g, j, none⟩ = some (.int .i64 (M.getD j 0))) : ∀ j, j < (M.take k).length → w.cell? ⟨g, j, none⟩ = some (.int .i64 ((M.take k).getD j 0)) := by
  intro j hj
  rw [List.length_take] at hj
  have h1 : j < k := by omega
  rw [h j (by omega)]
  simp [List.getD, h1]
theorem cells_drop {w : World} {g : Nat} {M : List Int} {k : Nat} (h : ∀ j, j < M.length → w.cell? ⟨g, j, none⟩ = some (.int .i64 (M.getD j 0))) : ∀ j, j < (M.drop k).length → w.cell? ⟨g, k + j, none⟩ = some (.int .i64 ((M.drop k).getD j 0)) := by
  intro j hj
  simp at hj
  rw [h (k + j) (by omega)]
  simp [List.getD, List.getElem?_drop]

theorem ins3 {M : List Int} {x : Int} {k : Nat} : ((M.take k ++ [x]) ++ M.drop k) = ins M k x := by simp [ins]

theorem Fresh.on {w wr w2 : World} {v v2 : Value} {L L2 : List Int} (h : Fresh w wr v L) (h2 : Fresh wr w2 v2 L2) : Fresh w w2 v2 L2 :=
  ⟨owns_mono h2.1 h.2.2.size, h2.2.1, h.2.2.trans (h2.2.2.mono h.2.2.size)⟩

end Go.Proofs.YtkndnndildnbpaaGreatDoor

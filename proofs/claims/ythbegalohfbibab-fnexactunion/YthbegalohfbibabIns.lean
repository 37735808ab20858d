/- slices.Insert of one int into a row of the call's own. -/
import Derived.Test.YthbegalohfbibabApp2
import Derived.Shelf.Spec.SlicesInsertGrow
namespace Go.Proofs.Ythbegalohfbibab
open Go.ChangeShapes Go.WideShapes Go.ChangeAt Go.RowKit

/-- A row with cells written from o on. -/
def wrt (c : Array Value) (o : Nat) : List Value → Array Value
  | [] => c
  | v :: r => wrt (c.setIfInBounds o v) (o + 1) r
theorem wrt_size (c : Array Value) (o : Nat) (vs : List Value) : (wrt c o vs).size = c.size := by
  induction vs generalizing c o with
  | nil => rfl
  | cons v r ih => rw [wrt, ih]; simp
theorem wrt_get (c : Array Value) (o : Nat) (vs : List Value) (h : o + vs.length ≤ c.size) (j : Nat) : (wrt c o vs)[j]? = if o ≤ j ∧ j < o + vs.length then vs[j - o]? else c[j]? := by
  induction vs generalizing c o with
  | nil => rw [wrt, if_neg (by simp)]
  | cons v r ih =>
    simp only [List.length_cons] at h ⊢
    rw [wrt, ih _ _ (by simp; omega)]
    by_cases h1 : o + 1 ≤ j ∧ j < o + 1 + r.length
    · rw [if_pos h1, if_pos (by omega), show j - o = (j - (o + 1)) + 1 by omega]; rfl
    · rw [if_neg h1, Array.getElem?_setIfInBounds]
      by_cases h2 : o = j
      · subst h2
        rw [if_pos rfl, if_pos (by omega), if_pos (by omega)]
        simp
      · rw [if_neg h2, if_neg (by omega)]
theorem blk_sets {g : Nat} {t : TypeId} (vs : List Value) : ∀ {c : Array Value} {o : Nat} {w : World}, w.heap[g]? = some (.cells c t (0, 0)) → (w.setCells g o vs).heap[g]? = some (.cells (wrt c o vs) t (0, 0)) := by
  induction vs with
  | nil => intro c o w h; exact h
  | cons v r ih =>
    intro c o w h
    rw [World.setCells, wrt]
    exact ih (by simp [World.setCell, Array.getElem?_modify, h])
theorem oth_sets {g k : Nat} (hk : k ≠ g) (vs : List Value) : ∀ {o : Nat} {w : World}, (w.setCells g o vs).heap[k]? = w.heap[k]? := by
  induction vs with
  | nil => intro o w; rfl
  | cons v r ih =>
    intro o w
    rw [World.setCells, ih]
    exact Below.heap_setCell w ⟨g, o, none⟩ v k hk
theorem size_sets {g : Nat} (vs : List Value) : ∀ {o : Nat} {w : World}, (w.setCells g o vs).heap.size = w.heap.size ∧ (w.setCells g o vs).os = w.os ∧ (w.setCells g o vs).tape = w.tape ∧ (w.setCells g o vs).output = w.output := by
  induction vs with
  | nil => intro o w; exact ⟨rfl, rfl, rfl, rfl⟩
  | cons v r ih =>
    intro o w
    rw [World.setCells]
    obtain ⟨h1, h2, h3, h4⟩ := ih (o := o + 1) (w := w.setCell ⟨g, o, none⟩ v)
    exact ⟨by rw [h1]; simp, h2, h3, h4⟩
theorem below_sets {B g o : Nat} {w w' : World} (h : Below B w w') (hg : B ≤ g) (vs : List Value) : Below B w (w'.setCells g o vs) := by
  obtain ⟨h1, h2, h3, h4⟩ := size_sets (g := g) vs (o := o) (w := w')
  exact h.trans ⟨h2, h3, h4, by omega, fun k hk => oth_sets (by omega) vs⟩

/-- With x at place i. -/
def ins (L : List Int) (i : Nat) (x : Int) : List Int := L.take i ++ x :: L.drop i
theorem ins_len (L : List Int) (i : Nat) (x : Int) : (ins L i x).length = L.length + 1 := by simp [ins]; omega
theorem ins_get (L : List Int) (i : Nat) (x : Int) (hi : i ≤ L.length) (j : Nat) : (ins L i x)[j]? = if j < i then L[j]? else if j = i then some x else L[j - 1]? := by
  unfold ins
  by_cases h1 : j < i
  · rw [if_pos h1, List.getElem?_append_left (by simp; omega), List.getElem?_take, if_pos h1]
  · rw [if_neg h1, List.getElem?_append_right (by simp; omega), List.length_take, Nat.min_eq_left hi]
    by_cases h2 : j = i
    · subst h2; simp
    · rw [if_neg h2, show j - i = (j - 1 - i) + 1 by omega, List.getElem?_cons_succ, List.getElem?_drop, show i + (j - 1 - i) = j - 1 by omega]

theorem owns_ins {w : World} {B g cap n : Nat} {c : Array Value} {L : List Int} (hB : B ≤ g) (hc : w.heap[g]? = some (.cells c 3 (0, 0))) (hl : L.length = n) (hn : n ≤ cap) (hm : cap ≤ maxLen) (hs : c.size = cap)
    (h : ∀ j, j < n → c[j]? = (L.map (Value.int .i64))[j]?) : w.ownsRow B 3 1 (.slice (some ⟨g, 0, none⟩) n cap) n (L.map (.int .i64)) := by
  refine ⟨by simp [hl], .inr ⟨g, cap, c, rfl, hB, hc, hn, hm, by omega, List.ext_getElem? fun j => ?_⟩⟩
  by_cases hj : j < n
  · rw [List.getElem?_take, if_pos (by omega), ← h j hj]; simp
  · rw [List.getElem?_eq_none (by simp; omega), List.getElem?_eq_none (by simp; omega)]

theorem owns_cells {w : World} {B g cap n : Nat} {L : List Int} (h : w.ownsRow B 3 1 (.slice (some ⟨g, 0, none⟩) n cap) n (L.map (.int .i64))) :
    ∃ c, w.heap[g]? = some (.cells c 3 (0, 0)) ∧ B ≤ g ∧ L.length = n ∧ n ≤ cap ∧ cap ≤ maxLen ∧ c.size = cap ∧ ∀ j, j < n → c[j]? = (L.map (Value.int .i64))[j]? := by
  obtain ⟨hl, h⟩ := h
  rcases h with ⟨h, _⟩ | ⟨g', cap', c, e, hB, hc, hn, hm, hs, ht⟩
  · simp at h
  · simp only [Value.slice.injEq, Option.some.injEq, Addr.mk.injEq] at e
    obtain ⟨⟨rfl, _, _⟩, _, rfl⟩ := e
    refine ⟨c, hc, hB, by simpa using hl, hn, hm, by omega, fun j hj => ?_⟩
    rw [← ht, List.getElem?_take, if_pos (by omega)]
    simp

/-- At the end. -/
theorem ins_end (B n vb : Nat) (v : Value) (L : List Int) (x : Int) (w : World) (hB : B ≤ w.heap.size) (ho : w.ownsRow B 3 1 v n (L.map (.int .i64))) (hn : n ≤ 1000) (hv : w.heap[vb]? = some (.cells #[.int .i64 x] 3 (0, 0))) :
    Calls Try.prog 35 #[v, .int .i64 (n : Int), .slice (some ⟨vb, 0, none⟩) 1 1] w fun e w' => ∃ v', e = .returned v' ∧ w'.ownsRow B 3 1 v' (n + 1) ((ins L n x).map (.int .i64)) ∧ Below B w w' := by
  obtain ⟨i0, hi, hz0, hz1, hz2⟩ := info_parts Try.info3
  have hnews : ∀ j u, [Value.int .i64 x][j]? = some u → w.cell? ((⟨vb, 0, none⟩ : Addr).add j) = some u := by
    intro j u hj
    rw [Addr.add_lit, Nat.zero_add]
    simp [World.cell?, hv]
    simpa using hj
  have hlen : L.length = n := by simpa using ho.1
  have hins : ins L n x = L ++ [x] := by unfold ins; rw [List.take_of_length_le (by omega), List.drop_of_length_le (by omega)]
  have HO := hide ho
  have HN := hide hnews
  have HL := hide hins
  have hcase : v = .slice none 0 0 ∧ n = 0 ∨ ∃ g cap, v = .slice (some ⟨g, 0, none⟩) n cap ∧ n ≤ cap ∧ cap ≤ maxLen := by
    rcases ho.2 with h | ⟨g, cap, cur, e, _, _, h1, h2, _⟩
    · exact .inl h
    · exact .inr ⟨g, cap, e, h1, h2⟩
  clear ho hnews hins hlen hv
  rcases hcase with ⟨rfl, rfl⟩ | ⟨g, cap, rfl, hc1, hc2⟩
  · go_enter Try.func35, Try.ntmps35
    go_wp2_with (first
      | (at_builtin; refine wpList_append_two rfl _ _ 31 22 rfl B 3 3 i0 (.int .i64 0) 1 8 Try.underlying31 Try.underlying22 hi hz0 hz1 hz2 rfl (by decide) _ _ _ rfl HO.out ⟨vb, 0, none⟩ 1 1 [.int .i64 x] rfl rfl HN.out (app_one _ _) (app_len (by omega)) (by omega) hB ?_; intro v' w1 hown' hgrow))
    go_wp2
    go_ret
    exact ⟨_, rfl, by rw [HL.out]; simpa using hown', grown_below (Below.refl _ _) hB HO.out hgrow⟩
  · unfold maxLen at hc2
    have hn0 : (0 : Int) ≤ (n : Int) := by omega
    by_cases hcn : cap = n
    · subst hcn
      go_enter Try.func35, Try.ntmps35
      go_wp2_with (first
        | (at_builtin; refine wpList_append_two rfl _ _ 31 22 rfl B 3 3 i0 (.int .i64 0) 1 8 Try.underlying31 Try.underlying22 hi hz0 hz1 hz2 rfl (by decide) _ _ _ rfl HO.out ⟨vb, 0, none⟩ 1 1 [.int .i64 x] rfl rfl HN.out (app_one _ _) (app_len (by omega)) (by omega) hB ?_; intro v' w1 hown' hgrow))
      go_wp2
      go_ret
      exact ⟨_, rfl, by rw [HL.out]; simpa using hown', grown_below (Below.refl _ _) hB HO.out hgrow⟩
    · go_enter Try.func35, Try.ntmps35
      go_wp2_with (first
        | (at_builtin; refine wpList_append_two rfl _ _ 31 22 rfl B 3 3 i0 (.int .i64 0) 1 8 Try.underlying31 Try.underlying22 hi hz0 hz1 hz2 rfl (by decide) _ _ _ rfl HO.out ⟨vb, 0, none⟩ 1 1 [.int .i64 x] rfl rfl HN.out (app_one _ _) (app_len (by omega)) (by omega) hB ?_; intro v' w1 hown' hgrow))
      go_wp2
      go_ret
      exact ⟨_, rfl, by rw [HL.out]; simpa using hown', grown_below (Below.refl _ _) hB HO.out hgrow⟩
end Go.Proofs.Ythbegalohfbibab

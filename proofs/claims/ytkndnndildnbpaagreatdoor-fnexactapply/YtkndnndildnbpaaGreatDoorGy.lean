/- append of one int to a row of the call's own. -/
import Derived.Test.YtkndnndildnbpaaGreatDoorGa
import Derived.Test.YtkndnndildnbpaaGreatDoorGb
import Derived.Lib.AppendZeros
import Derived.Shelf.Spec.SlicesInsertGrow

namespace Go.Proofs.YtkndnndildnbpaaGreatDoor
open Go.ChangeShapes Go.WideShapes Go.ChangeAt Go.RowKit
set_option linter.unusedVariables false
set_option linter.unusedSimpArgs false
set_option maxRecDepth 100000

theorem app_cell8 (wr : World) (u : Value) (t : TypeId) : ∀ j u', [u][j]? = some u' → (wr.alloc (.cells #[u] t)).cell? ((⟨wr.heap.size, 0, none⟩ : Addr).add j) = some u' := by
  intro j u' hj
  match j, hj with
  | 0, hj => simp at hj; subst hj; simp [Addr.add]
theorem app_one8 (k : IntKind) (x : Int) : ∀ u ∈ [Value.int k x], u.oneCell' = true := by
  intro u hu; simp at hu; subst hu; rfl
theorem app_ones (k : IntKind) (L : List Int) : ∀ u ∈ L.map (Value.int k), u.oneCell' = true := by
  intro u hu; simp at hu; obtain ⟨x, _, rfl⟩ := hu; rfl
theorem app_len8 {k : Nat} (h : k ≤ 8388608) : k + 1 ≤ maxLen := by unfold maxLen; omega
theorem app_lens {k m : Nat} (h : k + m ≤ 8388608) : k + m ≤ maxLen := by unfold maxLen; omega

theorem grown_below {B : Nat} {w wr w0 w1 : World} {v : Value} {k : Nat} {e : TypeId} {xs : List Value} (hb : Below B w w0) (hw : B ≤ w0.heap.size) (ho : wr.ownsRow B e 1 v k xs) (hg : w0.grownBy w1 v.ownBlock) : Below B w w1 := by
  refine hb.grown hg hw ?_
  intro g hgv
  rcases ho.2 with ⟨rfl, _⟩ | ⟨g', cap, cur, rfl, hge, _⟩
  · simp [Value.ownBlock] at hgv
  · simp [Value.ownBlock] at hgv; omega

/-- Behind 'append(out, x)'. -/
theorem push {B : Nat} {w wr w1 : World} {v v' : Value} {k : Nat} {x : Int} {L : List Int} (hb : Below B w wr) (hw : B ≤ wr.heap.size) (ho : wr.ownsRow B 3 1 v k (L.map (.int .i64)))
    (h1 : w1.ownsRow B 3 1 v' (k + 1) (L.map (.int .i64) ++ [.int .i64 x])) (hg : (wr.alloc (.cells #[.int .i64 x] 3)).grownBy w1 v.ownBlock) :
    w1.ownsRow B 3 1 v' (k + 1) ((L ++ [x]).map (.int .i64)) ∧ Below B w w1 :=
  ⟨by simpa using h1, grown_below (hb.alloc hw _) (by simp; omega) ho hg⟩

/-- A row that was laid whole, as append takes it. -/
theorem owns_nil {B : Nat} {w : World} : w.ownsRow B 3 1 (.slice none 0 0) 0 (([] : List Int).map (.int .i64)) := ⟨rfl, .inl ⟨rfl, rfl⟩⟩
theorem owns_empty {B : Nat} {w : World} (hB : B ≤ w.heap.size) : (w.alloc (.cells #[] 3)).ownsRow B 3 1 (.slice (some ⟨w.heap.size, 0, none⟩) 0 0) 0 (([] : List Int).map (.int .i64)) :=
  ⟨rfl, .inr ⟨_, _, #[], rfl, hB, Deep.blk_alloc_new _ _, by simp, by simp, by simp, by simp⟩⟩
theorem owns_mono {B B' n s : Nat} {w : World} {e : TypeId} {v : Value} {xs : List Value} (h : w.ownsRow B e s v n xs) (hB : B' ≤ B) : w.ownsRow B' e s v n xs := by
  refine ⟨h.1, ?_⟩
  rcases h.2 with h | ⟨g, cap, cur, e1, hge, h⟩
  · exact .inl h
  · exact .inr ⟨g, cap, cur, e1, Nat.le_trans hB hge, h⟩
theorem run_append_two {P : Program} {w : World} {t t' ty e e' : TypeId} {v : Value} {a : Option Addr} {m c : Nat} (ht : P.underlying t = some (.slice e)) (ht' : P.underlying t' = some (.slice e')) :
    (Builtin.append_ #[t, t'] ty #[v, .slice a m c]).run P w = (Builtin.append_ #[t, t] ty #[v, .slice a m c]).run P w := by
  cases v <;> simp [Builtin.append_, run_underlying ht, run_underlying ht']

theorem wpList_append_two {P : Program} {w : World} {ops : Array Oper} {rest : List Oper} {o : Oper} {a : Act} {Q : Exit → Act → World → Prop} (hgd : o.guard = none) (s x : Operand) (t t' : TypeId)
    (ho : o.op = .call { callee := .builtin .append, args := #[s, x], argTypes := #[t, t'] })
    (base : Nat) (e e' : TypeId) (i : TypeInfo) (z : Value) (size bytes : Nat) (ht : P.underlying t = some (.slice e)) (ht' : P.underlying t' = some (.slice e')) (hi : P.info? e = some i) (hz : i.zero = some z)
    (hsize : i.size = size) (hby : i.bytes = bytes) (hzs : z.cells.size = size) (hsz : 0 < size)
    (v : Value) (n : Nat) (xs : List Value) (hs : a.eval s = v) (hown : w.ownsRow base e size v n xs)
    (ad : Addr) (m c : Nat) (news : List Value) (hx : a.eval x = .slice (some ad) m c) (hl : news.length = m * size) (hnews : ∀ j u, news[j]? = some u → w.cell? (ad.add j) = some u) (h1 : ∀ u ∈ news, u.oneCell' = true)
    (h63 : n + m ≤ maxLen) (hbytes : (n + m) * bytes ≤ 140737488355328) (hbase : base ≤ w.heap.size)
    (h : ∀ v' w', w'.ownsRow base e size v' (n + m) (xs ++ news) → w.grownBy w' v.ownBlock → wpList P ops Q rest (a.put o.dst v') w') : wpList P ops Q (o :: rest) a w := by
  obtain ⟨v', w', hr, h2, h3, _⟩ := run_append_own (P := P) w base t o.type e i z size bytes ht hi hz hsize hby hzs hsz v n xs hown ad m c news hl hnews h1 h63 hbytes hbase
  exact Lib.wpList_append_run w hgd s x t t' ho v _ hs hx v' w' ((run_append_two ht ht').trans hr) (h v' w' h2 h3)
/-- A row with cells written from o on. -/
def wrt (c : Array Value) (o : Nat) : List Value → Array Value
  | [] => c
  | v :: r => wrt (c.setIfInBounds o v) (o + 1) r
theorem wrt_size (c : Array Value) (o : Nat) (vs : List Value) : (wrt c o vs).size = c.size := by
  induction vs generalizing c o with
  | nil => rfl
  | cons v r ih => rw [wrt, ih]; simp
theorem wrt_get (c : Array Value) (o : Nat) (vs : List Value) (h : o + vs.length ≤ c.size) (j : Nat) : (wrt c o vs)[j]? = if o ≤ j ∧ j < o + vs.length then vs[j - o]? else c[j]? := by
  induction vs generalizing c o with
  | nil => rw [wrt, if_neg (by simp)]
  | cons v r ih =>
    simp only [List.length_cons] at h ⊢
    rw [wrt, ih _ _ (by simp; omega)]
    by_cases h1 : o + 1 ≤ j ∧ j < o + 1 + r.length
    · rw [if_pos h1, if_pos (by omega), show j - o = (j - (o + 1)) + 1 by omega]; rfl
    · rw [if_neg h1, Array.getElem?_setIfInBounds]
      by_cases h2 : o = j
      · subst h2
        rw [if_pos rfl, if_pos (by omega), if_pos (by omega)]
        simp
      · rw [if_neg h2, if_neg (by omega)]
theorem blk_sets {g : Nat} {t : TypeId} (vs : List Value) : ∀ {c : Array Value} {o : Nat} {w : World}, w.heap[g]? = some (.cells c t (0, 0)) → (w.setCells g o vs).heap[g]? = some (.cells (wrt c o vs) t (0, 0)) := by
  induction vs with
  | nil => intro c o w h; exact h
  | cons v r ih =>
    intro c o w h
    rw [World.setCells, wrt]
    exact ih (by simp [World.setCell, Array.getElem?_modify, h])
theorem oth_sets {g k : Nat} (hk : k ≠ g) (vs : List Value) : ∀ {o : Nat} {w : World}, (w.setCells g o vs).heap[k]? = w.heap[k]? := by
  induction vs with
  | nil => intro o w; rfl
  | cons v r ih =>
    intro o w
    rw [World.setCells, ih]
    exact Below.heap_setCell w ⟨g, o, none⟩ v k hk
theorem size_sets {g : Nat} (vs : List Value) : ∀ {o : Nat} {w : World}, (w.setCells g o vs).heap.size = w.heap.size ∧ (w.setCells g o vs).os = w.os ∧ (w.setCells g o vs).tape = w.tape ∧ (w.setCells g o vs).output = w.output := by
  induction vs with
  | nil => intro o w; exact ⟨rfl, rfl, rfl, rfl⟩
  | cons v r ih =>
    intro o w
    rw [World.setCells]
    obtain ⟨h1, h2, h3, h4⟩ := ih (o := o + 1) (w := w.setCell ⟨g, o, none⟩ v)
    exact ⟨by rw [h1]; simp, h2, h3, h4⟩
theorem below_sets {B g o : Nat} {w w' : World} (h : Below B w w') (hg : B ≤ g) (vs : List Value) : Below B w (w'.setCells g o vs) := by
  obtain ⟨h1, h2, h3, h4⟩ := size_sets (g := g) vs (o := o) (w := w')
  exact h.trans ⟨h2, h3, h4, by omega, fun k hk => oth_sets (by omega) vs⟩

/-- With x at place i. -/
def ins (L : List Int) (i : Nat) (x : Int) : List Int := L.take i ++ x :: L.drop i
theorem ins_len (L : List Int) (i : Nat) (x : Int) : (ins L i x).length = L.length + 1 := by simp [ins]; omega
theorem ins_get (L : List Int) (i : Nat) (x : Int) (hi : i ≤ L.length) (j : Nat) : (ins L i x)[j]? = if j < i then L[j]? else if j = i then some x else L[j - 1]? := by
  unfold ins
  by_cases h1 : j < i
  · rw [if_pos h1, List.getElem?_append_left (by simp; omega), List.getElem?_take, if_pos h1]
  · rw [if_neg h1, List.getElem?_append_right (by simp; omega), List.length_take, Nat.min_eq_left hi]
    by_cases h2 : j = i
    · subst h2; simp
    · rw [if_neg h2, show j - i = (j - 1 - i) + 1 by omega, List.getElem?_cons_succ, List.getElem?_drop, show i + (j - 1 - i) = j - 1 by omega]

theorem owns_ins {w : World} {B g cap n : Nat} {c : Array Value} {L : List Int} (hB : B ≤ g) (hc : w.heap[g]? = some (.cells c 3 (0, 0))) (hl : L.length = n) (hn : n ≤ cap) (hm : cap ≤ maxLen) (hs : c.size = cap)
    (h : ∀ j, j < n → c[j]? = (L.map (Value.int .i64))[j]?) : w.ownsRow B 3 1 (.slice (some ⟨g, 0, none⟩) n cap) n (L.map (.int .i64)) := by
  refine ⟨by simp [hl], .inr ⟨g, cap, c, rfl, hB, hc, hn, hm, by omega, List.ext_getElem? fun j => ?_⟩⟩
  by_cases hj : j < n
  · rw [List.getElem?_take, if_pos (by omega), ← h j hj]; simp
  · rw [List.getElem?_eq_none (by simp; omega), List.getElem?_eq_none (by simp; omega)]

theorem owns_cells {w : World} {B g cap n : Nat} {L : List Int} (h : w.ownsRow B 3 1 (.slice (some ⟨g, 0, none⟩) n cap) n (L.map (.int .i64))) :
    ∃ c, w.heap[g]? = some (.cells c 3 (0, 0)) ∧ B ≤ g ∧ L.length = n ∧ n ≤ cap ∧ cap ≤ maxLen ∧ c.size = cap ∧ ∀ j, j < n → c[j]? = (L.map (Value.int .i64))[j]? := by
  obtain ⟨hl, h⟩ := h
  rcases h with ⟨h, _⟩ | ⟨g', cap', c, e, hB, hc, hn, hm, hs, ht⟩
  · simp at h
  · simp only [Value.slice.injEq, Option.some.injEq, Addr.mk.injEq] at e
    obtain ⟨⟨rfl, _, _⟩, _, rfl⟩ := e
    refine ⟨c, hc, hB, by simpa using hl, hn, hm, by omega, fun j hj => ?_⟩
    rw [← ht, List.getElem?_take, if_pos (by omega)]
    simp

/-- At the end. -/
theorem ins_end (B n vb : Nat) (v : Value) (L : List Int) (x : Int) (w : World) (hB : B ≤ w.heap.size) (ho : w.ownsRow B 3 1 v n (L.map (.int .i64))) (hn : n ≤ 1000) (hv : w.heap[vb]? = some (.cells #[.int .i64 x] 3 (0, 0))) :
    Calls Tryz.prog 189 #[v, .int .i64 (n : Int), .slice (some ⟨vb, 0, none⟩) 1 1] w fun e w' => ∃ v', e = .returned v' ∧ w'.ownsRow B 3 1 v' (n + 1) ((ins L n x).map (.int .i64)) ∧ Below B w w' := by
  obtain ⟨i0, hi, hz0, hz1, hz2⟩ := info_parts Tryz.info3
  have hnews : ∀ j u, [Value.int .i64 x][j]? = some u → w.cell? ((⟨vb, 0, none⟩ : Addr).add j) = some u := by
    intro j u hj
    rw [Addr.add_lit, Nat.zero_add]
    simp [World.cell?, hv]
    simpa using hj
  have hlen : L.length = n := by simpa using ho.1
  have hins : ins L n x = L ++ [x] := by unfold ins; rw [List.take_of_length_le (by omega), List.drop_of_length_le (by omega)]
  have HO := hide ho
  have HN := hide hnews
  have HL := hide hins
  have hcase : v = .slice none 0 0 ∧ n = 0 ∨ ∃ g cap, v = .slice (some ⟨g, 0, none⟩) n cap ∧ n ≤ cap ∧ cap ≤ maxLen := by
    rcases ho.2 with h | ⟨g, cap, cur, e, _, _, h1, h2, _⟩
    · exact .inl h
    · exact .inr ⟨g, cap, e, h1, h2⟩
  clear ho hnews hins hlen hv
  rcases hcase with ⟨rfl, rfl⟩ | ⟨g, cap, rfl, hc1, hc2⟩
  · go_enter Tryz.func189, Tryz.ntmps189
    go_wp2_with (first
      | (at_builtin; refine wpList_append_two rfl _ _ 125 22 rfl B 3 3 i0 (.int .i64 0) 1 8 Tryz.underlying125 Tryz.underlying22 hi hz0 hz1 hz2 rfl (by decide) _ _ _ rfl HO.out ⟨vb, 0, none⟩ 1 1 [.int .i64 x] rfl rfl HN.out (app_one8 _ _) (app_len8 (by omega)) (by omega) hB ?_; intro v' w1 hown' hgrow))
    go_wp2
    go_ret
    exact ⟨_, rfl, by rw [HL.out]; simpa using hown', grown_below (Below.refl _ _) hB HO.out hgrow⟩
  · unfold maxLen at hc2
    have hn0 : (0 : Int) ≤ (n : Int) := by omega
    by_cases hcn : cap = n
    · subst hcn
      go_enter Tryz.func189, Tryz.ntmps189
      go_wp2_with (first
        | (at_builtin; refine wpList_append_two rfl _ _ 125 22 rfl B 3 3 i0 (.int .i64 0) 1 8 Tryz.underlying125 Tryz.underlying22 hi hz0 hz1 hz2 rfl (by decide) _ _ _ rfl HO.out ⟨vb, 0, none⟩ 1 1 [.int .i64 x] rfl rfl HN.out (app_one8 _ _) (app_len8 (by omega)) (by omega) hB ?_; intro v' w1 hown' hgrow))
      go_wp2
      go_ret
      exact ⟨_, rfl, by rw [HL.out]; simpa using hown', grown_below (Below.refl _ _) hB HO.out hgrow⟩
    · go_enter Tryz.func189, Tryz.ntmps189
      go_wp2_with (first
        | (at_builtin; refine wpList_append_two rfl _ _ 125 22 rfl B 3 3 i0 (.int .i64 0) 1 8 Tryz.underlying125 Tryz.underlying22 hi hz0 hz1 hz2 rfl (by decide) _ _ _ rfl HO.out ⟨vb, 0, none⟩ 1 1 [.int .i64 x] rfl rfl HN.out (app_one8 _ _) (app_len8 (by omega)) (by omega) hB ?_; intro v' w1 hown' hgrow))
      go_wp2
      go_ret
      exact ⟨_, rfl, by rw [HL.out]; simpa using hown', grown_below (Below.refl _ _) hB HO.out hgrow⟩
end Go.Proofs.YtkndnndildnbpaaGreatDoor

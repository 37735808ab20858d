/- append of one int to a row of the call's own. -/
import Derived.Test.YtabknfmhhjelaaaGreatDoorGa
import Derived.Test.YtabknfmhhjelaaaGreatDoorGb
import Derived.Lib.AppendZeros
import Derived.Lib.SliceRun
import Derived.Shelf.Spec.SlicesInsertGrow

namespace Go.Proofs.YtabknfmhhjelaaaGreatDoor
open Go.ChangeShapes Go.WideShapes Go.ChangeAt Go.RowKit
set_option linter.unusedVariables false
set_option linter.unusedSimpArgs false
set_option maxRecDepth 100000

theorem app_cell8 (wr : World) (u : Value) (t : TypeId) : ∀ j u', [u][j]? = some u' → (wr.alloc (.cells #[u] t)).cell? ((⟨wr.heap.size, 0, none⟩ : Addr).add j) = some u' := by
  intro j u' hj
  match j, hj with
  | 0, hj => simp at hj; subst hj; simp [Addr.add]
theorem app_one8 (k : IntKind) (x : Int) : ∀ u ∈ [Value.int k x], u.oneCell' = true := by
  intro u hu; simp at hu; subst hu; rfl
theorem app_ones (k : IntKind) (L : List Int) : ∀ u ∈ L.map (Value.int k), u.oneCell' = true := by
  intro u hu; simp at hu; obtain ⟨x, _, rfl⟩ := hu; rfl
theorem app_len8 {k : Nat} (h : k ≤ 8388608) : k + 1 ≤ maxLen := by unfold maxLen; omega
theorem app_lens {k m : Nat} (h : k + m ≤ 8388608) : k + m ≤ maxLen := by unfold maxLen; omega

theorem grown_below {B : Nat} {w wr w0 w1 : World} {v : Value} {k : Nat} {e : TypeId} {xs : List Value} (hb : Below B w w0) (hw : B ≤ w0.heap.size) (ho : wr.ownsRow B e 1 v k xs) (hg : w0.grownBy w1 v.ownBlock) : Below B w w1 := by
  refine hb.grown hg hw ?_
  intro g hgv
  rcases ho.2 with ⟨rfl, _⟩ | ⟨g', cap, cur, rfl, hge, _⟩
  · simp [Value.ownBlock] at hgv
  · simp [Value.ownBlock] at hgv; omega

/-- Behind 'append(out, x)'. -/
theorem push {B : Nat} {w wr w1 : World} {v v' : Value} {k : Nat} {x : Int} {L : List Int} (hb : Below B w wr) (hw : B ≤ wr.heap.size) (ho : wr.ownsRow B 3 1 v k (L.map (.int .i64)))
    (h1 : w1.ownsRow B 3 1 v' (k + 1) (L.map (.int .i64) ++ [.int .i64 x])) (hg : (wr.alloc (.cells #[.int .i64 x] 3)).grownBy w1 v.ownBlock) :
    w1.ownsRow B 3 1 v' (k + 1) ((L ++ [x]).map (.int .i64)) ∧ Below B w w1 :=
  ⟨by simpa using h1, grown_below (hb.alloc hw _) (by simp; omega) ho hg⟩

/-- A row that was laid whole, as append takes it. -/
theorem owns_nil {B : Nat} {w : World} : w.ownsRow B 3 1 (.slice none 0 0) 0 (([] : List Int).map (.int .i64)) := ⟨rfl, .inl ⟨rfl, rfl⟩⟩
theorem owns_empty {B : Nat} {w : World} (hB : B ≤ w.heap.size) : (w.alloc (.cells #[] 3)).ownsRow B 3 1 (.slice (some ⟨w.heap.size, 0, none⟩) 0 0) 0 (([] : List Int).map (.int .i64)) :=
  ⟨rfl, .inr ⟨_, _, #[], rfl, hB, Deep.blk_alloc_new _ _, by simp, by simp, by simp, by simp⟩⟩
theorem owns_mono {B B' n s : Nat} {w : World} {e : TypeId} {v : Value} {xs : List Value} (h : w.ownsRow B e s v n xs) (hB : B' ≤ B) : w.ownsRow B' e s v n xs := by
  refine ⟨h.1, ?_⟩
  rcases h.2 with h | ⟨g, cap, cur, e1, hge, h⟩
  · exact .inl h
  · exact .inr ⟨g, cap, cur, e1, Nat.le_trans hB hge, h⟩
theorem run_append_two {P : Program} {w : World} {t t' ty e e' : TypeId} {v : Value} {a : Option Addr} {m c : Nat} (ht : P.underlying t = some (.slice e)) (ht' : P.underlying t' = some (.slice e')) :
    (Builtin.append_ #[t, t'] ty #[v, .slice a m c]).run P w = (Builtin.append_ #[t, t] ty #[v, .slice a m c]).run P w := by
  cases v <;> simp [Builtin.append_, run_underlying ht, run_underlying ht']

theorem wpList_append_two {P : Program} {w : World} {ops : Array Oper} {rest : List Oper} {o : Oper} {a : Act} {Q : Exit → Act → World → Prop} (hgd : o.guard = none) (s x : Operand) (t t' : TypeId)
    (ho : o.op = .call { callee := .builtin .append, args := #[s, x], argTypes := #[t, t'] })
    (base : Nat) (e e' : TypeId) (i : TypeInfo) (z : Value) (size bytes : Nat) (ht : P.underlying t = some (.slice e)) (ht' : P.underlying t' = some (.slice e')) (hi : P.info? e = some i) (hz : i.zero = some z)
    (hsize : i.size = size) (hby : i.bytes = bytes) (hzs : z.cells.size = size) (hsz : 0 < size)
    (v : Value) (n : Nat) (xs : List Value) (hs : a.eval s = v) (hown : w.ownsRow base e size v n xs)
    (ad : Addr) (m c : Nat) (news : List Value) (hx : a.eval x = .slice (some ad) m c) (hl : news.length = m * size) (hnews : ∀ j u, news[j]? = some u → w.cell? (ad.add j) = some u) (h1 : ∀ u ∈ news, u.oneCell' = true)
    (h63 : n + m ≤ maxLen) (hbytes : (n + m) * bytes ≤ 140737488355328) (hbase : base ≤ w.heap.size)
    (h : ∀ v' w', w'.ownsRow base e size v' (n + m) (xs ++ news) → w.grownBy w' v.ownBlock → wpList P ops Q rest (a.put o.dst v') w') : wpList P ops Q (o :: rest) a w := by
  obtain ⟨v', w', hr, h2, h3, _⟩ := run_append_own (P := P) w base t o.type e i z size bytes ht hi hz hsize hby hzs hsz v n xs hown ad m c news hl hnews h1 h63 hbytes hbase
  exact Lib.wpList_append_run w hgd s x t t' ho v _ hs hx v' w' ((run_append_two ht ht').trans hr) (h v' w' h2 h3)
/-- The first n, as a list. -/
def lst (f : Nat → Int) (n : Nat) : List Int := (List.range n).map f

theorem news_of {w w' : World} {ad : Addr} {n : Nat} {f : Nat → Int} (hs : SL .i64 w (some ad) n f) (hb : Below w.heap.size w w') :
    ∀ j u, ((lst f n).map (Value.int .i64))[j]? = some u → w'.cell? (ad.add j) = some u := by
  intro j u h
  have hj : j < n := by
    by_cases hj : j < n
    · exact hj
    · rw [List.getElem?_eq_none (by simp [lst]; omega)] at h; cases h
  have e : u = .int .i64 (f j) := by simpa [lst, hj] using h.symm
  obtain ⟨b, off, ea, hlt, hc⟩ := hs j hj
  simp only [Option.some.injEq] at ea
  subst ea
  rw [Addr.add_lit, e]
  exact (hb.cell (p := ⟨b, off + j, none⟩) hlt).trans hc

theorem clone_nil (w : World) :
    Calls Tryz.prog 69 #[.slice none 0 0] w fun e w' => e = .returned (.slice none 0 0) ∧ w' = w := by
  have hnil : ∀ w, (binOp .eql 22 (.slice none 0 0) (.slice none 0 0)).run Tryz.prog w = .ok (.bool true) w := fun w => Lib.run_eql_slice_nil w 22 3 none 0 0 0 0 Tryz.underlying22
  go_enter Tryz.func69, Tryz.ntmps69
  go_wp2
  go_ret
  exact ⟨rfl, rfl⟩

theorem clone_any (ad : Addr) (n cap : Nat) (f : Nat → Int) (w : World) (hn : n ≤ 2097152) (hs : SL .i64 w (some ad) n f) :
    Calls Tryz.prog 69 #[.slice (some ad) n cap] w fun e w' => ∃ v, e = .returned v ∧ w'.ownsRow w.heap.size 3 1 v n ((lst f n).map (.int .i64)) ∧ Below w.heap.size w w' := by
  obtain ⟨i0, hi, hz0, hz1, hz2⟩ := info_parts Tryz.info3
  have hnil : ∀ w, (binOp .eql 22 (.slice (some ad) n cap) (.slice none 0 0)).run Tryz.prog w = .ok (.bool false) w := fun w => Lib.run_eql_slice_nil w 22 3 (some ad) n cap 0 0 Tryz.underlying22
  have hnews := hide (news_of hs ((Below.refl w.heap.size w).alloc (Nat.le_refl _) (.cells #[] 3)))
  have hone := hide (app_ones .i64 (lst f n))
  clear hs
  go_enter Tryz.func69, Tryz.ntmps69
  go_wp2_with (first
    | (at_builtin; refine wpList_append_own _ rfl _ _ 22 rfl w.heap.size 3 i0 (.int .i64 0) 1 8 Tryz.underlying22 hi hz0 hz1 hz2 rfl (by decide) _ _ _ rfl (owns_empty (Nat.le_refl _)) ad n cap ((lst f n).map (.int .i64)) rfl (by simp [lst]) hnews.out hone.out (app_lens (by omega)) (by omega) (by simp) ?_; intro v' w1 hown' hgrow hnn))
  go_wp2
  go_ret
  exact ⟨_, rfl, by simpa using hown', grown_below ((Below.refl w.heap.size w).alloc (Nat.le_refl _) _) (by simp) (owns_empty (Nat.le_refl _)) hgrow⟩
/-- A row with cells written from o on. -/
def wrt (c : Array Value) (o : Nat) : List Value → Array Value
  | [] => c
  | v :: r => wrt (c.setIfInBounds o v) (o + 1) r
theorem wrt_size (c : Array Value) (o : Nat) (vs : List Value) : (wrt c o vs).size = c.size := by
  induction vs generalizing c o with
  | nil => rfl
  | cons v r ih => rw [wrt, ih]; simp
theorem wrt_get (c : Array Value) (o : Nat) (vs : List Value) (h : o + vs.length ≤ c.size) (j : Nat) : (wrt c o vs)[j]? = if o ≤ j ∧ j < o + vs.length then vs[j - o]? else c[j]? := by
  induction vs generalizing c o with
  | nil => rw [wrt, if_neg (by simp)]
  | cons v r ih =>
    simp only [List.length_cons] at h ⊢
    rw [wrt, ih _ _ (by simp; omega)]
    by_cases h1 : o + 1 ≤ j ∧ j < o + 1 + r.length
    · rw [if_pos h1, if_pos (by omega), show j - o = (j - (o + 1)) + 1 by omega]; rfl
    · rw [if_neg h1, Array.getElem?_setIfInBounds]
      by_cases h2 : o = j
      · subst h2
        rw [if_pos rfl, if_pos (by omega), if_pos (by omega)]
        simp
      · rw [if_neg h2, if_neg (by omega)]
theorem blk_sets {g : Nat} {t : TypeId} (vs : List Value) : ∀ {c : Array Value} {o : Nat} {w : World}, w.heap[g]? = some (.cells c t (0, 0)) → (w.setCells g o vs).heap[g]? = some (.cells (wrt c o vs) t (0, 0)) := by
  induction vs with
  | nil => intro c o w h; exact h
  | cons v r ih =>
    intro c o w h
    rw [World.setCells, wrt]
    exact ih (by simp [World.setCell, Array.getElem?_modify, h])
theorem oth_sets {g k : Nat} (hk : k ≠ g) (vs : List Value) : ∀ {o : Nat} {w : World}, (w.setCells g o vs).heap[k]? = w.heap[k]? := by
  induction vs with
  | nil => intro o w; rfl
  | cons v r ih =>
    intro o w
    rw [World.setCells, ih]
    exact Below.heap_setCell w ⟨g, o, none⟩ v k hk
theorem size_sets {g : Nat} (vs : List Value) : ∀ {o : Nat} {w : World}, (w.setCells g o vs).heap.size = w.heap.size ∧ (w.setCells g o vs).os = w.os ∧ (w.setCells g o vs).tape = w.tape ∧ (w.setCells g o vs).output = w.output := by
  induction vs with
  | nil => intro o w; exact ⟨rfl, rfl, rfl, rfl⟩
  | cons v r ih =>
    intro o w
    rw [World.setCells]
    obtain ⟨h1, h2, h3, h4⟩ := ih (o := o + 1) (w := w.setCell ⟨g, o, none⟩ v)
    exact ⟨by rw [h1]; simp, h2, h3, h4⟩
theorem below_sets {B g o : Nat} {w w' : World} (h : Below B w w') (hg : B ≤ g) (vs : List Value) : Below B w (w'.setCells g o vs) := by
  obtain ⟨h1, h2, h3, h4⟩ := size_sets (g := g) vs (o := o) (w := w')
  exact h.trans ⟨h2, h3, h4, by omega, fun k hk => oth_sets (by omega) vs⟩

/-- With x at place i. -/
def ins (L : List Int) (i : Nat) (x : Int) : List Int := L.take i ++ x :: L.drop i
theorem ins_len (L : List Int) (i : Nat) (x : Int) : (ins L i x).length = L.length + 1 := by simp [ins]; omega
theorem ins_get (L : List Int) (i : Nat) (x : Int) (hi : i ≤ L.length) (j : Nat) : (ins L i x)[j]? = if j < i then L[j]? else if j = i then some x else L[j - 1]? := by
  unfold ins
  by_cases h1 : j < i
  · rw [if_pos h1, List.getElem?_append_left (by simp; omega), List.getElem?_take, if_pos h1]
  · rw [if_neg h1, List.getElem?_append_right (by simp; omega), List.length_take, Nat.min_eq_left hi]
    by_cases h2 : j = i
    · subst h2; simp
    · rw [if_neg h2, show j - i = (j - 1 - i) + 1 by omega, List.getElem?_cons_succ, List.getElem?_drop, show i + (j - 1 - i) = j - 1 by omega]

theorem owns_ins {w : World} {B g cap n : Nat} {c : Array Value} {L : List Int} (hB : B ≤ g) (hc : w.heap[g]? = some (.cells c 3 (0, 0))) (hl : L.length = n) (hn : n ≤ cap) (hm : cap ≤ maxLen) (hs : c.size = cap)
    (h : ∀ j, j < n → c[j]? = (L.map (Value.int .i64))[j]?) : w.ownsRow B 3 1 (.slice (some ⟨g, 0, none⟩) n cap) n (L.map (.int .i64)) := by
  refine ⟨by simp [hl], .inr ⟨g, cap, c, rfl, hB, hc, hn, hm, by omega, List.ext_getElem? fun j => ?_⟩⟩
  by_cases hj : j < n
  · rw [List.getElem?_take, if_pos (by omega), ← h j hj]; simp
  · rw [List.getElem?_eq_none (by simp; omega), List.getElem?_eq_none (by simp; omega)]

theorem owns_cells {w : World} {B g cap n : Nat} {L : List Int} (h : w.ownsRow B 3 1 (.slice (some ⟨g, 0, none⟩) n cap) n (L.map (.int .i64))) :
    ∃ c, w.heap[g]? = some (.cells c 3 (0, 0)) ∧ B ≤ g ∧ L.length = n ∧ n ≤ cap ∧ cap ≤ maxLen ∧ c.size = cap ∧ ∀ j, j < n → c[j]? = (L.map (Value.int .i64))[j]? := by
  obtain ⟨hl, h⟩ := h
  rcases h with ⟨h, _⟩ | ⟨g', cap', c, e, hB, hc, hn, hm, hs, ht⟩
  · simp at h
  · simp only [Value.slice.injEq, Option.some.injEq, Addr.mk.injEq] at e
    obtain ⟨⟨rfl, _, _⟩, _, rfl⟩ := e
    refine ⟨c, hc, hB, by simpa using hl, hn, hm, by omega, fun j hj => ?_⟩
    rw [← ht, List.getElem?_take, if_pos (by omega)]
    simp

/-- At the end. -/
theorem ins_end (B n vb : Nat) (v : Value) (L : List Int) (x : Int) (w : World) (hB : B ≤ w.heap.size) (ho : w.ownsRow B 3 1 v n (L.map (.int .i64))) (hn : n ≤ 1000) (hv : w.heap[vb]? = some (.cells #[.int .i64 x] 3 (0, 0))) :
    Calls Tryz.prog 84 #[v, .int .i64 (n : Int), .slice (some ⟨vb, 0, none⟩) 1 1] w fun e w' => ∃ v', e = .returned v' ∧ w'.ownsRow B 3 1 v' (n + 1) ((ins L n x).map (.int .i64)) ∧ Below B w w' := by
  obtain ⟨i0, hi, hz0, hz1, hz2⟩ := info_parts Tryz.info3
  have hnews : ∀ j u, [Value.int .i64 x][j]? = some u → w.cell? ((⟨vb, 0, none⟩ : Addr).add j) = some u := by
    intro j u hj
    rw [Addr.add_lit, Nat.zero_add]
    simp [World.cell?, hv]
    simpa using hj
  have hlen : L.length = n := by simpa using ho.1
  have hins : ins L n x = L ++ [x] := by unfold ins; rw [List.take_of_length_le (by omega), List.drop_of_length_le (by omega)]
  have HO := hide ho
  have HN := hide hnews
  have HL := hide hins
  have hcase : v = .slice none 0 0 ∧ n = 0 ∨ ∃ g cap, v = .slice (some ⟨g, 0, none⟩) n cap ∧ n ≤ cap ∧ cap ≤ maxLen := by
    rcases ho.2 with h | ⟨g, cap, cur, e, _, _, h1, h2, _⟩
    · exact .inl h
    · exact .inr ⟨g, cap, e, h1, h2⟩
  clear ho hnews hins hlen hv
  rcases hcase with ⟨rfl, rfl⟩ | ⟨g, cap, rfl, hc1, hc2⟩
  · go_enter Tryz.func84, Tryz.ntmps84
    go_wp2_with (first
      | (at_builtin; refine wpList_append_two rfl _ _ 77 22 rfl B 3 3 i0 (.int .i64 0) 1 8 Tryz.underlying77 Tryz.underlying22 hi hz0 hz1 hz2 rfl (by decide) _ _ _ rfl HO.out ⟨vb, 0, none⟩ 1 1 [.int .i64 x] rfl rfl HN.out (app_one8 _ _) (app_len8 (by omega)) (by omega) hB ?_; intro v' w1 hown' hgrow))
    go_wp2
    go_ret
    exact ⟨_, rfl, by rw [HL.out]; simpa using hown', grown_below (Below.refl _ _) hB HO.out hgrow⟩
  · unfold maxLen at hc2
    have hn0 : (0 : Int) ≤ (n : Int) := by omega
    by_cases hcn : cap = n
    · subst hcn
      go_enter Tryz.func84, Tryz.ntmps84
      go_wp2_with (first
        | (at_builtin; refine wpList_append_two rfl _ _ 77 22 rfl B 3 3 i0 (.int .i64 0) 1 8 Tryz.underlying77 Tryz.underlying22 hi hz0 hz1 hz2 rfl (by decide) _ _ _ rfl HO.out ⟨vb, 0, none⟩ 1 1 [.int .i64 x] rfl rfl HN.out (app_one8 _ _) (app_len8 (by omega)) (by omega) hB ?_; intro v' w1 hown' hgrow))
      go_wp2
      go_ret
      exact ⟨_, rfl, by rw [HL.out]; simpa using hown', grown_below (Below.refl _ _) hB HO.out hgrow⟩
    · go_enter Tryz.func84, Tryz.ntmps84
      go_wp2_with (first
        | (at_builtin; refine wpList_append_two rfl _ _ 77 22 rfl B 3 3 i0 (.int .i64 0) 1 8 Tryz.underlying77 Tryz.underlying22 hi hz0 hz1 hz2 rfl (by decide) _ _ _ rfl HO.out ⟨vb, 0, none⟩ 1 1 [.int .i64 x] rfl rfl HN.out (app_one8 _ _) (app_len8 (by omega)) (by omega) hB ?_; intro v' w1 hown' hgrow))
      go_wp2
      go_ret
      exact ⟨_, rfl, by rw [HL.out]; simpa using hown', grown_below (Below.refl _ _) hB HO.out hgrow⟩
theorem ins_room (B g n cap i vb : Nat) (L : List Int) (x : Int) (w : World) (ho : w.ownsRow B 3 1 (.slice (some ⟨g, 0, none⟩) n cap) n (L.map (.int .i64))) (hn : n ≤ 1000) (hi : i < n) (hroom : n + 1 ≤ cap)
    (hv : w.heap[vb]? = some (.cells #[.int .i64 x] 3 (0, 0))) (hne : vb ≠ g) :
    Calls Tryz.prog 84 #[.slice (some ⟨g, 0, none⟩) n cap, .int .i64 (i : Int), .slice (some ⟨vb, 0, none⟩) 1 1] w fun e w' => ∃ v', e = .returned v' ∧ w'.ownsRow B 3 1 v' (n + 1) ((ins L i x).map (.int .i64)) ∧ Below B w w' := by
  obtain ⟨i0, hi0, hz0, hz1, hz2⟩ := info_parts Tryz.info3
  obtain ⟨c, hc, hBg, hl, hnc, hcm, hcs, hget⟩ := owns_cells ho
  have mixed : Tryz.prog.follows Departure.mixedOrders = true := by kernel_rfl
  have hsz : (Tryz.prog.info? 3).map (·.size) = some 1 := by rw [hi0]; simp [hz1]
  have cellc : ∀ j, w.cell? ⟨g, j, none⟩ = c[j]? := fun j => by simp [World.cell?, hc]
  have frzc : ∀ j, w.frozen? ⟨g, j, none⟩ = false := fun j => by simp [World.frozen?, hc]
  have hov : ∀ lb cb, (callFunc 92 #[.slice (some ⟨vb, 0, none⟩) 1 1, .slice (some ⟨g, i + 1, none⟩) lb cb]).run Tryz.prog w = .ok (.value (.bool false)) w := fun lb cb => by
    rw [run_callFunc_extern Tryz.func92 (by kernel_rfl) (by kernel_rfl) (by kernel_rfl) (e := Extern.SlicesOverlaps.overlaps #[22, 22] #[4]) (by kernel_rfl),
      Lib.run_overlaps_apart w 22 4 3 Tryz.underlying22 1 Tryz.sizeOf3 ⟨vb, 0, none⟩ ⟨g, i + 1, none⟩ 1 1 lb cb hne 3 3 1 cap (by simp [World.shape?, hv]) (by simp [World.shape?, hc, hcs]) (by omega) (by simp [World.frozen?, hv]) (by simp [World.frozen?, hv])]
    rfl
  have hM : ((L.drop i).map (Value.int .i64)).length = n - i := by simp [hl]
  have hMget : ∀ j v, ((L.drop i).map (Value.int .i64))[j]? = some v → c[i + j]? = some v := fun j v hj => by
    have hjn : j < n - i := by
      by_cases h : j < n - i
      · exact h
      · rw [List.getElem?_eq_none (by omega)] at hj; cases hj
    rw [hget (i + j) (by omega), ← hj]
    simp
  obtain ⟨M, hMd⟩ : ∃ M, M = (L.drop i).map (Value.int .i64) := ⟨_, rfl⟩
  rw [← hMd] at hM hMget
  have h1M : ∀ v ∈ M, v.oneCell' = true := by rw [hMd]; exact app_ones _ _
  have hcp1 : ∀ ty dc sc, (Builtin.copy_ #[77, 77] ty #[.slice (some ⟨g, i + 1, none⟩) (n - i) dc, .slice (some ⟨g, i, none⟩) (n + 1 - i) sc]).run Tryz.prog w.drew = .ok (goInt M.length) (w.drew.setCells g (i + 1) M) := fun ty dc sc =>
    run_copy_cells w.drew _ _ ty 3 g (i + 1) (n - i) dc ⟨g, i, none⟩ (n + 1 - i) sc M Tryz.underlying77 hsz (by rw [hM]; simp only [Nat.min_def]; split <;> omega)
      (fun j v hj => by rw [Addr.add_lit]; exact (cellc (i + j)).trans (hMget j v hj))
      (fun j hj => by show (w.cell? ⟨g, i + 1 + j, none⟩).isSome = true; rw [cellc, Array.getElem?_eq_getElem (by omega)]; rfl) (fun j hj => frzc _) h1M
  have hW1 : (w.drew.setCells g (i + 1) M).heap[g]? = some (.cells (wrt c (i + 1) M) 3 (0, 0)) := blk_sets M (w := w.drew) hc
  have hW1v : (w.drew.setCells g (i + 1) M).heap[vb]? = some (.cells #[.int .i64 x] 3 (0, 0)) := (oth_sets hne M (w := w.drew)).trans hv
  have hB1 : Below B w (w.drew.setCells g (i + 1) M) := below_sets (Below.drawn (Below.refl B w) 1) hBg M
  obtain ⟨W1, hW⟩ : ∃ W1, W1 = w.drew.setCells g (i + 1) M := ⟨_, rfl⟩
  rw [← hW] at hcp1 hW1 hW1v hB1
  have hcp2 : ∀ ty dc, (Builtin.copy_ #[77, 22] ty #[.slice (some ⟨g, i, none⟩) (n + 1 - i) dc, .slice (some ⟨vb, 0, none⟩) 1 1]).run Tryz.prog W1 = .ok (goInt 1) (W1.setCells g i [.int .i64 x]) := fun ty dc =>
    run_copy_cells W1 _ _ ty 3 g i (n + 1 - i) dc ⟨vb, 0, none⟩ 1 1 [.int .i64 x] Tryz.underlying77 hsz (by simp only [Nat.min_def, List.length_singleton]; split <;> omega)
      (fun j v hj => by rw [Addr.add_lit, Nat.zero_add]; simp [World.cell?, hW1v]; simpa using hj)
      (fun j hj => by simp only [World.cell?, hW1]; rw [Array.getElem?_eq_getElem (by rw [wrt_size]; simp at hj; omega)]; rfl) (fun j hj => by simp [World.frozen?, hW1]) (app_one8 _ _)
  have hfin : (W1.setCells g i [.int .i64 x]).ownsRow B 3 1 (.slice (some ⟨g, 0, none⟩) (n + 1) cap) (n + 1) ((ins L i x).map (.int .i64)) := by
    refine owns_ins hBg (blk_sets [.int .i64 x] hW1) (by rw [ins_len, hl]) hroom hcm (by rw [wrt_size, wrt_size, hcs]) fun j hj => ?_
    rw [wrt_get _ _ _ (by rw [wrt_size]; simp; omega), wrt_get _ _ _ (by omega), List.getElem?_map, ins_get L i x (by omega)]
    by_cases h1 : j < i
    · rw [if_neg (by simp; omega), if_neg (by omega), if_pos h1, hget j (by omega), List.getElem?_map]
    · by_cases h2 : j = i
      · subst h2
        rw [if_pos (by simp), if_neg (by omega), if_pos rfl]
        simp
      · rw [if_neg (by simp; omega), if_pos (by omega), if_neg h1, if_neg h2, hMd, List.getElem?_map, List.getElem?_drop, show i + (j - (i + 1)) = j - 1 by omega]
  have hBfin : Below B w (W1.setCells g i [.int .i64 x]) := below_sets hB1 hBg _
  have HFIN := hide (And.intro hfin hBfin)
  clear hfin hBfin hW hW1 hW1v hB1 hget hMget hM h1M hMd cellc frzc ho hc hv
  unfold maxLen at hcm
  have hw1 : IntKind.i64.wrap ((i : Int) + 1) = (i : Int) + 1 := by rw [IntKind.wrap_i64]; omega
  have hb1 : (0 : Int) ≤ (i : Int) + 1 := by omega
  have hin : i ≤ n := by omega
  have htn : ((i : Int) + 1).toNat = i + 1 := by omega
  have hb2 : ¬ (cap = i + 1) := by omega
  have hb3 : (i : Int) ≤ (n : Int) + 1 := by omega
  have hb4 : ¬ (cap = i) := by omega
  have hz : ¬ ((i : Int) = (n : Int)) := by omega
  go_enter Tryz.func84, Tryz.ntmps84
  go_wp2_with (simp only [hov])
  go_region_law_o (refine step_copy_runI rfl _ _ 77 77 rfl _ _ (by simp [Act.eval, Act.put]) (by simp [Act.eval, Act.put]) (hcp1 _ _ _) ?_)
  go_wp2_with (at_builtin; refine wpList_copy_runI _ rfl _ _ 77 22 rfl _ _ rfl rfl (hcp2 _ _) ?_)
  go_ret
  exact ⟨_, rfl, HFIN.out⟩
theorem ins_grow (B g n cap i vb : Nat) (L : List Int) (x : Int) (w : World) (hB : B ≤ w.heap.size) (ho : w.ownsRow B 3 1 (.slice (some ⟨g, 0, none⟩) n cap) n (L.map (.int .i64))) (hn : n ≤ 1000) (hi : i < n) (hroom : cap < n + 1)
    (hv : w.heap[vb]? = some (.cells #[.int .i64 x] 3 (0, 0))) :
    Calls Tryz.prog 84 #[.slice (some ⟨g, 0, none⟩) n cap, .int .i64 (i : Int), .slice (some ⟨vb, 0, none⟩) 1 1] w fun e w' => ∃ v', e = .returned v' ∧ w'.ownsRow B 3 1 v' (n + 1) ((ins L i x).map (.int .i64)) ∧ Below B w w' := by
  obtain ⟨i0, hi0, hz0, hz1, hz2⟩ := info_parts Tryz.info3
  obtain ⟨c, hc, hBg, hl, hnc, hcm, hcs, hget⟩ := owns_cells ho
  have mixed : Tryz.prog.follows Departure.mixedOrders = true := by kernel_rfl
  have hsz : (Tryz.prog.info? 3).map (·.size) = some 1 := by rw [hi0]; simp [hz1]
  have hgw : g < w.heap.size := (Array.getElem?_eq_some_iff.1 hc).1
  have hvw : vb < w.heap.size := (Array.getElem?_eq_some_iff.1 hv).1
  have hold : (Builtin.firstCells i0.size i (.slice (some ⟨g, 0, none⟩) i cap)).run Tryz.prog w.drew = .ok ((L.take i).map (Value.int .i64)).toArray w.drew := by
    rw [hz1]
    exact run_firstCells_some w.drew 1 i ⟨g, 0, none⟩ i cap ((L.take i).map (Value.int .i64)) (by simp; omega) (fun j v hj => by
      rw [Addr.add_lit, Nat.zero_add]
      have hji : j < i := by
        by_cases h : j < i
        · exact h
        · rw [List.getElem?_eq_none (by simp; omega)] at hj; cases hj
      show w.cell? ⟨g, j, none⟩ = some v
      rw [← hj, List.getElem?_map, List.getElem?_take, if_pos hji]
      simp only [World.cell?, hc]
      rw [if_neg (by simp), hget j (by omega), List.getElem?_map])
  have hrz : ∀ ty, (Builtin.append_ #[77, 3] ty #[.slice (some ⟨g, 0, none⟩) i cap, .int .i64 ((n : Int) + 1 - (i : Int))]).run Tryz.prog w =
      .ok (.slice (some ⟨w.heap.size, 0, none⟩) (n + 1) (grownCap w (n + 1) cap 3)) (w.drew.alloc (.cells (((L.take i).map (Value.int .i64)).toArray ++ Builtin.zeroCells (Value.int .i64 0).cells (n + 1 - i) ++ Builtin.zeroCells (Value.int .i64 0).cells (grownCap w (n + 1) cap 3 - (n + 1))) 3)) := fun ty => by
    have h := Lib.run_append_grow_zeros w 77 3 ty 3 i0 _ .i64 .i64 Tryz.underlying77 Tryz.underlying3 hi0 hz0 (some ⟨g, 0, none⟩) i cap _ hold (n + 1 - i) (by omega) (by omega) (by omega) (by omega) (by rw [hz2]; omega) (by rw [hz2, show i + (n + 1 - i) = n + 1 by omega]; exact growslice_fits hroom (by omega))
    rw [show i + (n + 1 - i) = n + 1 by omega] at h
    rw [show (n : Int) + 1 - (i : Int) = ((n + 1 - i : Nat) : Int) by omega]
    exact h
  have hGn : n + 1 ≤ grownCap w (n + 1) cap 3 := grownCap_ge w _ _ _
  have hGm : grownCap w (n + 1) cap 3 ≤ maxLen := grownCap_le_maxLen w (n + 1) cap 3 (by unfold maxLen; omega)
  obtain ⟨G, hG⟩ : ∃ G, G = grownCap w (n + 1) cap 3 := ⟨_, rfl⟩
  rw [← hG] at hrz hGn hGm
  obtain ⟨ROW, hROW⟩ : ∃ ROW : Array Value, ROW = ((L.take i).map (Value.int .i64)).toArray ++ Builtin.zeroCells (Value.int .i64 0).cells (n + 1 - i) ++ Builtin.zeroCells (Value.int .i64 0).cells (G - (n + 1)) := ⟨_, rfl⟩
  have hRs : ROW.size = G := by rw [hROW]; simp [Builtin.zeroCells, Value.cells]; omega
  have hRg : ∀ j, j < i → ROW[j]? = ((L.take i).map (Value.int .i64))[j]? := fun j hj => by
    rw [hROW, Array.append_assoc, Array.getElem?_append_left (by simp; omega)]
    simp
  rw [← hROW] at hrz
  have hH : (w.drew.alloc (.cells ROW 3)).heap[w.heap.size]? = some (.cells ROW 3 (0, 0)) := Deep.blk_alloc_new w.drew _
  have hgB : (w.drew.alloc (.cells ROW 3)).heap[g]? = some (.cells c 3 (0, 0)) := (Below.heap_alloc w.drew _ g hgw).trans hc
  have hvB : (w.drew.alloc (.cells ROW 3)).heap[vb]? = some (.cells #[.int .i64 x] 3 (0, 0)) := (Below.heap_alloc w.drew _ vb hvw).trans hv
  have hB1 : Below B w (w.drew.alloc (.cells ROW 3)) := (Below.drawn (Below.refl B w) 1).alloc hB _
  obtain ⟨W1, hW⟩ : ∃ W1, W1 = w.drew.alloc (.cells ROW 3) := ⟨_, rfl⟩
  rw [← hW] at hrz hH hgB hvB hB1
  obtain ⟨M, hMd⟩ : ∃ M, M = (L.drop i).map (Value.int .i64) := ⟨_, rfl⟩
  have hM : M.length = n - i := by rw [hMd]; simp [hl]
  have h1M : ∀ v ∈ M, v.oneCell' = true := by rw [hMd]; exact app_ones _ _
  have hMget : ∀ j v, M[j]? = some v → c[i + j]? = some v := fun j v hj => by
    have hjn : j < n - i := by
      by_cases h : j < n - i
      · exact h
      · rw [List.getElem?_eq_none (by omega)] at hj; cases hj
    rw [hget (i + j) (by omega), ← hj, hMd]
    simp
  have hcp1 : ∀ ty dc, (Builtin.copy_ #[77, 22] ty #[.slice (some ⟨w.heap.size, i, none⟩) (n + 1 - i) dc, .slice (some ⟨vb, 0, none⟩) 1 1]).run Tryz.prog W1 = .ok (goInt 1) (W1.setCells w.heap.size i [.int .i64 x]) := fun ty dc =>
    run_copy_cells W1 _ _ ty 3 w.heap.size i (n + 1 - i) dc ⟨vb, 0, none⟩ 1 1 [.int .i64 x] Tryz.underlying77 hsz (by simp only [Nat.min_def, List.length_singleton]; split <;> omega)
      (fun j v hj => by rw [Addr.add_lit, Nat.zero_add]; simp [World.cell?, hvB]; simpa using hj)
      (fun j hj => by simp only [World.cell?, hH]; rw [Array.getElem?_eq_getElem (by simp at hj; omega)]; rfl) (fun j hj => by simp [World.frozen?, hH]) (app_one8 _ _)
  have hH2 : (W1.setCells w.heap.size i [.int .i64 x]).heap[w.heap.size]? = some (.cells (wrt ROW i [.int .i64 x]) 3 (0, 0)) := blk_sets _ hH
  have hg2 : (W1.setCells w.heap.size i [.int .i64 x]).heap[g]? = some (.cells c 3 (0, 0)) := (oth_sets (by omega) _).trans hgB
  have hB2 : Below B w (W1.setCells w.heap.size i [.int .i64 x]) := below_sets hB1 hB _
  obtain ⟨W2, hW2⟩ : ∃ W2, W2 = W1.setCells w.heap.size i [.int .i64 x] := ⟨_, rfl⟩
  rw [← hW2] at hcp1 hH2 hg2 hB2
  have hcp2 : ∀ ty dc sc, (Builtin.copy_ #[77, 77] ty #[.slice (some ⟨w.heap.size, i + 1, none⟩) (n - i) dc, .slice (some ⟨g, i, none⟩) (n - i) sc]).run Tryz.prog W2.drew = .ok (goInt M.length) (W2.drew.setCells w.heap.size (i + 1) M) := fun ty dc sc =>
    run_copy_cells W2.drew _ _ ty 3 w.heap.size (i + 1) (n - i) dc ⟨g, i, none⟩ (n - i) sc M Tryz.underlying77 hsz (by rw [hM]; simp only [Nat.min_def]; split <;> omega)
      (fun j v hj => by rw [Addr.add_lit]; show W2.cell? ⟨g, i + j, none⟩ = some v; simp only [World.cell?, hg2]; rw [if_neg (by simp)]; exact hMget j v hj)
      (fun j hj => by show (W2.cell? ⟨w.heap.size, i + 1 + j, none⟩).isSome = true; simp only [World.cell?, hH2]; rw [Array.getElem?_eq_getElem (by rw [wrt_size]; omega)]; rfl) (fun j hj => by show W2.frozen? _ = false; simp [World.frozen?, hH2]) h1M
  have hfin : (W2.drew.setCells w.heap.size (i + 1) M).ownsRow B 3 1 (.slice (some ⟨w.heap.size, 0, none⟩) (n + 1) G) (n + 1) ((ins L i x).map (.int .i64)) := by
    refine owns_ins hB (blk_sets (w := W2.drew) M hH2) (by rw [ins_len, hl]) hGn hGm (by rw [wrt_size, wrt_size, hRs]) fun j hj => ?_
    rw [wrt_get _ _ _ (by rw [wrt_size]; omega), wrt_get _ _ _ (by simp; omega), List.getElem?_map, ins_get L i x (by omega)]
    by_cases h1 : j < i
    · rw [if_neg (by omega), if_neg (by simp; omega), if_pos h1, hRg j h1, List.getElem?_map, List.getElem?_take, if_pos h1]
    · by_cases h2 : j = i
      · subst h2
        rw [if_neg (by omega), if_pos (by simp), if_neg h1, if_pos rfl]
        simp
      · rw [if_pos (by omega), if_neg h1, if_neg h2, hMd, List.getElem?_map, List.getElem?_drop, show i + (j - (i + 1)) = j - 1 by omega]
  have hBfin : Below B w (W2.drew.setCells w.heap.size (i + 1) M) := below_sets (Below.drawn hB2 1) hB _
  obtain ⟨W3, hW3⟩ : ∃ W3, W3 = W2.drew.setCells w.heap.size (i + 1) M := ⟨_, rfl⟩
  rw [← hW3] at hcp2 hfin hBfin
  have HFIN := hide (And.intro hfin hBfin)
  clear hfin hBfin hW hW2 hW3 hH hH2 hg2 hgB hvB hB1 hB2 hget hMget hM h1M hMd ho hc hv hRs hRg hROW hold hG
  unfold maxLen at hcm hGm
  have hw1 : IntKind.i64.wrap ((i : Int) + 1) = (i : Int) + 1 := by rw [IntKind.wrap_i64]; omega
  have hb1 : (0 : Int) ≤ (i : Int) + 1 := by omega
  have hin : i ≤ n := by omega
  have htn : ((i : Int) + 1).toNat = i + 1 := by omega
  have hGi : ¬ (G = i) := by omega
  have hGim : ¬ (G = i + 1) := by omega
  have hci : ¬ (cap = i) := by omega
  have hb3 : (i : Int) ≤ (n : Int) := by omega
  have hz : ¬ ((i : Int) = (n : Int)) := by omega
  have hz3 : (cap : Int) < (n : Int) + 1 := by omega
  go_enter Tryz.func84, Tryz.ntmps84
  go_wp2_with (first
    | (at_builtin; refine Lib.wpList_append_run _ rfl _ _ _ _ rfl _ _ rfl rfl _ _ (hrz _) ?_)
    | (at_builtin; refine wpList_copy_runI _ rfl _ _ 77 22 rfl _ _ rfl rfl (hcp1 _ _) ?_))
  go_region_law_o (refine step_copy_runI rfl _ _ 77 77 rfl _ _ (by simp [Act.eval, Act.put]) (by simp [Act.eval, Act.put]) (hcp2 _ _ _) ?_)
  go_wp2
  go_ret
  exact ⟨_, rfl, HFIN.out⟩
/-- The first k without x. -/
def kept (f : Nat → Int) (x : Int) : Nat → List Int
  | 0 => []
  | k + 1 => if f k = x then kept f x k else kept f x k ++ [f k]

theorem kept_len (f : Nat → Int) (x : Int) (k : Nat) : (kept f x k).length ≤ k := by
  induction k with
  | zero => simp [kept]
  | succ k ih =>
    simp only [kept]
    split
    · omega
    · simp; omega

theorem without_any (ao : Option Addr) (n cap : Nat) (f : Nat → Int) (x : Int) (w : World) (hn : n ≤ 2097152) (hs : SL .i64 w ao n f) :
    Calls Tryz.prog 81 #[.slice ao n cap, .int .i64 x] w fun e w' => ∃ v, e = .returned v ∧ w'.ownsRow w.heap.size 3 1 v (kept f x n).length ((kept f x n).map (.int .i64)) ∧ Below w.heap.size w w' := by
  obtain ⟨i0, hi, hz0, hz1, hz2⟩ := info_parts Tryz.info3
  go_enter Tryz.func81, Tryz.ntmps81
  go_wp2
  go_loopw [5, 7, 10] (fun v _ i wr => ∃ (k m : Nat) (L : List Int), k ≤ n ∧ i = .int .i64 k ∧ m ≤ k ∧ Hid (L = kept f x k ∧ L.length = m) ∧ wr.ownsRow w.heap.size 3 1 v m (L.map (.int .i64)) ∧ Below w.heap.size w wr) (fun _ _ i _ => n - (intOf i).toNat)
  case atStart => exact ⟨0, 0, [], by omega, rfl, by omega, ⟨rfl, rfl⟩, owns_nil, Below.refl _ _⟩
  case round =>
    obtain ⟨k, m, L, hk, rfl, hm, hL, hown, hbel⟩ := hrel
    by_cases hlt : k < n
    · obtain ⟨b, off, rfl, hb, hc0⟩ := hs k hlt
      have hc := (hbel.cell (p := ⟨b, off + k, none⟩) hb).trans hc0
      clear hs hc0
      generalize hy : f k = y at *
      have B : Hid (f k = y) := hy
      clear hy
      by_cases he : y = x
      · subst he
        go_wp2
        go_roundw
        case rel => exact ⟨k + 1, m, L, by omega, by go_num, by omega, ⟨by rw [hL.out.1, kept, if_pos B.out], hL.out.2⟩, hown, hbel⟩
        case measure => simp [intOf]; omega
      · have hd : decide (y = x) = false := by simpa using he
        go_wp2_with (first
          | (at_builtin; refine wpList_append_own _ rfl _ _ 77 rfl w.heap.size 3 i0 (.int .i64 0) 1 8 Tryz.underlying77 hi hz0 hz1 hz2 rfl (by decide) _ _ _ rfl (hown.alloc _) ⟨wr.heap.size, 0, none⟩ 1 1 [.int .i64 y] rfl rfl (app_cell8 _ _ _) (app_one8 _ _) (app_len8 (by omega)) (by omega) (by have := hbel.size; simp; omega) ?_; intro v' w1 hown' hgrow hnn))
        have R := push hbel hbel.size hown hown' hgrow
        clear hown' hgrow hown hnn
        go_wp2
        go_roundw
        case rel => exact ⟨k + 1, m + 1, L ++ [y], by omega, by go_num, by omega, ⟨by rw [kept, if_neg (by rw [B.out]; exact he), hL.out.1, B.out], by simp [hL.out.2]⟩, R.1, R.2⟩
        case measure => simp [intOf]; omega
    · have hkn : k = n := by omega
      subst hkn
      go_wp2
      go_ret
      refine ⟨_, rfl, ?_, hbel⟩
      obtain ⟨rfl, rfl⟩ := hL.out
      exact hown

end Go.Proofs.YtabknfmhhjelaaaGreatDoor
namespace Go.Proofs.YtabknfmhhjelaaaGreatDoor
set_option maxRecDepth 100000

/-- With x, where it comes by its size. -/
def mk : List Int → Int → List Int
  | [], x => [x]
  | y :: r, x => if y < x then y :: mk r x else if y = x then y :: r else x :: y :: r

/-- Ascending, in 0 .. 7. -/
def Asc (M : List Int) : Prop := M.Pairwise (· < ·) ∧ ∀ y ∈ M, 0 ≤ y ∧ y ≤ 7

theorem Asc.nil : Asc [] := ⟨List.Pairwise.nil, fun y hy => by cases hy⟩

theorem asc_bound (M : List Int) (a : Int) (hp : M.Pairwise (· < ·)) (h : ∀ y ∈ M, a ≤ y ∧ y ≤ 7) (ha : a ≤ 8) : (M.length : Int) ≤ 8 - a := by
  induction M generalizing a with
  | nil => simp; omega
  | cons y r ih =>
    have hy := h y (by simp)
    rw [List.pairwise_cons] at hp
    have := ih (y + 1) hp.2 (fun z hz => ⟨by have := hp.1 z hz; omega, (h z (by simp [hz])).2⟩) (by omega)
    simp only [List.length_cons]
    omega

theorem Asc.len {M : List Int} (h : Asc M) : M.length ≤ 8 := by
  have := asc_bound M 0 h.1 h.2 (by omega)
  omega

theorem mem_mk {M : List Int} {x z : Int} (h : z ∈ mk M x) : z = x ∨ z ∈ M := by
  induction M with
  | nil => left; simpa [mk] using h
  | cons y r ih =>
    rw [mk] at h
    split at h
    · rcases List.mem_cons.1 h with h | h
      · right; simp [h]
      · rcases ih h with h | h
        · exact .inl h
        · right; simp [h]
    · split at h
      · exact .inr h
      · rcases List.mem_cons.1 h with h | h
        · exact .inl h
        · exact .inr h

theorem mk_asc {M : List Int} {x : Int} (h : Asc M) (h0 : 0 ≤ x) (h7 : x ≤ 7) : Asc (mk M x) := by
  refine ⟨?_, fun z hz => ?_⟩
  · replace h := h.1
    clear h0 h7
    induction M with
    | nil => simp [mk]
    | cons y r ih =>
      rw [List.pairwise_cons] at h
      rw [mk]
      split
      · rw [List.pairwise_cons]
        refine ⟨fun z hz => ?_, ih h.2⟩
        rcases mem_mk hz with e | e
        · omega
        · exact h.1 z e
      · split
        · rw [List.pairwise_cons]; exact h
        · rw [List.pairwise_cons]
          refine ⟨fun z hz => ?_, List.pairwise_cons.2 h⟩
          rcases List.mem_cons.1 hz with e | e
          · omega
          · have := h.1 z e; omega
  · rcases mem_mk hz with e | e
    · omega
    · exact h.2 z e

theorem mk_spec {M : List Int} {x : Int} {k : Nat} (hx : x ∉ M) (hk : k ≤ M.length) (h1 : ∀ i, i < k → M.getD i 0 < x) (h2 : k < M.length → ¬ M.getD k 0 < x) : ins M k x = mk M x := by
  induction M generalizing k with
  | nil =>
    obtain rfl : k = 0 := by simpa using hk
    rfl
  | cons y r ih =>
    rw [mk]
    cases k with
    | zero =>
      have hy : ¬ y < x := by simpa using h2 (by simp)
      have he : ¬ y = x := fun e => hx (by simp [e])
      rw [if_neg hy, if_neg he]; rfl
    | succ k =>
      have hy : y < x := by simpa using h1 0 (by omega)
      rw [if_pos hy, ← ih (k := k) (fun h => hx (by simp [h])) (by simpa using hk) (fun i hi => by simpa using h1 (i + 1) (by omega)) (fun hl => by simpa using h2 (by simpa using hl))]
      rfl

theorem mk_has {M : List Int} {x : Int} (hp : M.Pairwise (· < ·)) (hx : x ∈ M) : mk M x = M := by
  induction M with
  | nil => cases hx
  | cons y r ih =>
    rw [List.pairwise_cons] at hp
    rw [mk]
    rcases List.mem_cons.1 hx with e | e
    · rw [if_neg (by omega), if_pos e.symm]
    · have := hp.1 x e
      rw [if_pos this, ih hp.2 e]

theorem filter_all {M : List Int} {x : Int} (h : ∀ z ∈ M, x < z) : M.filter (fun y => decide (y ≠ x)) = M :=
  List.filter_eq_self.2 fun z hz => by have := h z hz; simp; omega

theorem mk_impl {M : List Int} {x : Int} {p : Nat} (hp : M.Pairwise (· < ·)) (hk : p ≤ (M.filter (fun y => decide (y ≠ x))).length) (h1 : ∀ i, i < p → ¬ x < (M.filter (fun y => decide (y ≠ x))).getD i 0)
    (h2 : p < (M.filter (fun y => decide (y ≠ x))).length → x < (M.filter (fun y => decide (y ≠ x))).getD p 0) : ins (M.filter (fun y => decide (y ≠ x))) p x = mk M x := by
  induction M generalizing p with
  | nil =>
    obtain rfl : p = 0 := by simpa using hk
    rfl
  | cons y r ih =>
    rw [List.pairwise_cons] at hp
    rw [mk]
    by_cases e : y = x
    · subst e
      have hr := filter_all (x := y) hp.1
      rw [if_neg (by omega), if_pos rfl]
      rw [List.filter_cons_of_neg (by simp), hr] at hk h1 h2 ⊢
      have hp0 : p = 0 := by
        cases p with
        | zero => rfl
        | succ p =>
          cases r with
          | nil => simp at hk
          | cons z r => exact absurd (hp.1 z (by simp)) (by simpa using h1 0 (by omega))
      subst hp0
      rfl
    · rw [List.filter_cons_of_pos (by simpa using e)] at hk h1 h2 ⊢
      by_cases hlt : y < x
      · rw [if_pos hlt]
        cases p with
        | zero => exact absurd (by simpa using h2 (by simp)) (show ¬ x < y by omega)
        | succ p =>
          rw [← ih (p := p) hp.2 (by simpa using hk) (fun i hi => by simpa using h1 (i + 1) (by omega)) (fun hl => by simpa using h2 (by simpa using hl))]
          rfl
      · rw [if_neg hlt, if_neg e]
        have hr := filter_all (x := x) (M := r) (fun z hz => by have := hp.1 z hz; omega)
        have hp0 : p = 0 := by
          cases p with
          | zero => rfl
          | succ p => exact absurd (show x < y by omega) (by simpa using h1 0 (by omega))
        subst hp0
        rw [hr]
        rfl

theorem kept_filter (M : List Int) (x : Int) (k : Nat) (hk : k ≤ M.length) : kept (fun i => M.getD i 0) x k = (M.take k).filter (fun y => decide (y ≠ x)) := by
  induction k with
  | zero => simp [kept]
  | succ k ih =>
    rw [kept, ih (by omega), List.take_add_one, List.getElem?_eq_getElem (by omega : k < M.length), List.filter_append]
    have e : M.getD k 0 = M[k] := by simp [List.getD, show k < M.length by omega]
    simp only [e]
    by_cases h : M[k] = x
    · rw [if_pos h]; simp [h]
    · rw [if_neg h]; simp [h]

/-- Mark. -/
def mkr (M : List Int) (x : Int) : List Int := if x < 0 ∨ 7 < x then M else mk M x
theorem mkr_asc {M : List Int} {x : Int} (h : Asc M) : Asc (mkr M x) := by
  unfold mkr
  split
  · exact h
  · exact mk_asc h (by omega) (by omega)

/-- Union of the first k. -/
def un (h : Nat → Int) : Nat → List Int
  | 0 => []
  | k + 1 => mkr (un h k) (h k)
theorem un_asc (h : Nat → Int) (k : Nat) : Asc (un h k) := by
  induction k with
  | zero => exact Asc.nil
  | succ k ih => exact mkr_asc ih
end Go.Proofs.YtabknfmhhjelaaaGreatDoor

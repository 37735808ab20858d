/- The body of a message: its numbers as bytes, one behind the other. -/
import Derived.Test.YtjbhgedbkajmdaaGb
import Derived.Test.YtjbhgedbkajmdaaGa
import Derived.Deep.AppendLies
import Derived.Laws.AppendOwnNone
import Derived.Lib.AppendZeros
import Derived.Shelf.Abstract

namespace Go.Proofs.Ytjbhgedbkajmdaa
open Go.ChangeShapes Go.WideShapes Go.ChangeAt Go.RowKit
set_option linter.unusedVariables false
set_option linter.unusedSimpArgs false

/-- Numbers as bytes, one behind the other. -/
def nums (l : List Int) : List Int := (l.map (pb 4)).flatten
theorem nums_nil : nums [] = [] := rfl
theorem nums_cons (x : Int) (l : List Int) : nums (x :: l) = pb 4 x ++ nums l := by simp [nums]
theorem nums_app (l m : List Int) : nums (l ++ m) = nums l ++ nums m := by simp [nums]
theorem nums_one (x : Int) : nums [x] = pb 4 x := by simp [nums]
theorem nums_len (l : List Int) : (nums l).length ≤ 5 * l.length := by
  induction l with
  | nil => simp [nums]
  | cons x l ih =>
    have := pb_len 4 x
    rw [nums_cons, List.length_append, List.length_cons]
    omega

theorem mpb_pos (fuel : Nat) (x : Int) : 0 < (pb fuel x).length := by
  cases fuel with
  | zero => simp [pb]
  | succ f => rw [pb]; split <;> simp
theorem mpb_255 (fuel : Nat) (x : Int) (k : Nat) (hk : k + fuel = 4) (h0 : 0 ≤ x) (h1 : x < lim k) : ∀ z ∈ pb fuel x, 0 ≤ z ∧ z ≤ 255 := by
  induction fuel generalizing x k with
  | zero =>
    intro z hz
    simp [pb] at hz
    subst hz
    have : k = 4 := by omega
    subst this
    simp [lim] at h1
    omega
  | succ f ih =>
    intro z hz
    rw [pb] at hz
    split at hz
    · simp at hz; omega
    · next h =>
      obtain ⟨_, g0, g1⟩ := lim_step k x (by omega) h1
      rcases List.mem_cons.1 hz with rfl | hz
      · omega
      · exact ih (x / 128) (k + 1) (by omega) g0 g1 z hz
theorem pb_byte (x : Int) (h0 : 0 ≤ x) (h1 : x ≤ 2147483647) : ∀ z ∈ pb 4 x, 0 ≤ z ∧ z ≤ 255 := mpb_255 4 x 0 rfl h0 (by simp [lim]; omega)
theorem nums_byte (l : List Int) (h : ∀ x ∈ l, 0 ≤ x ∧ x ≤ 2147483647) : ∀ z ∈ nums l, 0 ≤ z ∧ z ≤ 255 := by
  intro z hz
  simp only [nums, List.mem_flatten, List.mem_map] at hz
  obtain ⟨_, ⟨x, hx, rfl⟩, hz⟩ := hz
  exact pb_byte x (h x hx).1 (h x hx).2 z hz

theorem gbelow {B n s : Nat} {w w' : World} {e : TypeId} {v : Value} {xs : List Value} (h : w.ownsRow B e s v n xs) (hb : Below w.heap.size w w') : w'.ownsRow B e s v n xs := by
  refine ⟨h.1, ?_⟩
  rcases h.2 with h | ⟨g, cap, cur, e1, hge, hc, r⟩
  · exact .inl h
  · exact .inr ⟨g, cap, cur, e1, hge, (hb.block g (Array.getElem?_eq_some_iff.1 hc).1).trans hc, r⟩
theorem msrc {w : World} {B : Nat} {v : Value} {L : List Int} {k : IntKind} {t : TypeId} (h : w.ownsRow B t 1 v L.length (L.map (.int k))) (hne : 0 < L.length) :
    ∃ g cap, v = .slice (some ⟨g, 0, none⟩) L.length cap ∧ g < w.heap.size ∧ B ≤ g ∧ ∀ j u, (L.map (Value.int k))[j]? = some u → w.cell? ((⟨g, 0, none⟩ : Addr).add j) = some u := by
  rcases h.2 with ⟨_, h0⟩ | ⟨g, cap, cur, e, hge, hc, _⟩
  · omega
  · exact ⟨g, cap, e, (Array.getElem?_eq_some_iff.1 hc).1, hge, h.cells (by rw [e]; rfl)⟩

/-- Bytes that are built beside a list of numbers at block q, and a message at block p. -/
def Bo (w0 w : World) (p q : Nat) (v : Value) (L : List Int) : Prop :=
  w.ownsRow w0.heap.size 5 1 v L.length (L.map (.int .u8)) ∧ v.ownBlock ≠ some p ∧ v.ownBlock ≠ some q ∧ p < w.heap.size ∧ q < w.heap.size ∧ Below w0.heap.size w0 w

theorem Bo.step {w0 w w' : World} {p q : Nat} {v : Value} {L : List Int} (h : Bo w0 w p q v L) (hb : Below w.heap.size w w') : Bo w0 w' p q v L :=
  ⟨gbelow h.1 hb, h.2.1, h.2.2.1, Nat.lt_of_lt_of_le h.2.2.2.1 hb.size, Nat.lt_of_lt_of_le h.2.2.2.2.1 hb.size, h.2.2.2.2.2.trans (hb.mono h.2.2.2.2.2.size)⟩
theorem Bo.app {w0 w w' : World} {p q g cap : Nat} {v : Value} {L M : List Int} (h : Bo w0 w p q v L)
    (h1 : w'.ownsRow w0.heap.size 5 1 (.slice (some ⟨g, 0, none⟩) (L.length + M.length) cap) (L.length + M.length) (L.map (.int .u8) ++ M.map (.int .u8))) (hg : w.grownBy w' v.ownBlock) (hat : v.ownBlock = some g ∨ g = w.heap.size) :
    Bo w0 w' p q (.slice (some ⟨g, 0, none⟩) (L.length + M.length) cap) (L ++ M) := by
  obtain ⟨ho, hp, hq, lp, lq, hb⟩ := h
  refine ⟨by simpa using h1, ?_, ?_, Nat.lt_of_lt_of_le lp hg.size, Nat.lt_of_lt_of_le lq hg.size, ggrown hb hb.size ho hg⟩
  · rcases hat with e | e
    · intro c; exact hp (e.trans (by simpa [Value.ownBlock] using c))
    · intro c; simp [Value.ownBlock] at c; omega
  · rcases hat with e | e
    · intro c; exact hq (e.trans (by simpa [Value.ownBlock] using c))
    · intro c; simp [Value.ownBlock] at c; omega
theorem Bo.keep {w0 w w' : World} {p q : Nat} {v : Value} {L : List Int} (h : Bo w0 w p q v L) (hg : w.grownBy w' v.ownBlock) (a : Addr) (ha : a.block = p ∨ a.block = q) : w'.cell? a = w.cell? a := by
  rcases ha with e | e
  · exact hg.cell_far a (by rw [e]; exact h.2.2.2.1) (by rw [e]; exact fun c => h.2.1 c.symm)
  · exact hg.cell_far a (by rw [e]; exact h.2.2.2.2.1) (by rw [e]; exact fun c => h.2.2.1 c.symm)

theorem al3 (w : World) (o1 o2 o3 : Obj) : (((w.alloc o1).alloc o2).alloc o3).heap[w.heap.size]? = some o1 ∧ (((w.alloc o1).alloc o2).alloc o3).heap[w.heap.size + 1]? = some o2 ∧ (((w.alloc o1).alloc o2).alloc o3).heap[w.heap.size + 1 + 1]? = some o3 ∧ (((w.alloc o1).alloc o2).alloc o3).heap.size = w.heap.size + 1 + 1 + 1 := by
  have e : ∀ (w : World) (o : Obj), (w.alloc o).heap = w.heap.push o := fun _ _ => rfl
  refine ⟨?_, ?_, ?_, ?_⟩
  · simp only [e, Array.getElem?_push, Array.size_push]
    rw [if_neg (by omega), if_neg (by omega), if_pos trivial]
  · simp only [e, Array.getElem?_push, Array.size_push]
    rw [if_neg (by omega), if_pos trivial]
  · simp only [e, Array.getElem?_push, Array.size_push]
    rw [if_pos trivial]
  · simp only [e, Array.size_push]
theorem bo_start (w : World) (m l : Array Value) (t : TypeId) : Bo w (((w.alloc (.cells m t)).alloc (.cells #[] 5)).alloc (.cells l 3)) w.heap.size (w.heap.size + 1 + 1) (.slice (some ⟨w.heap.size + 1, 0, none⟩) 0 0) [] := by
  obtain ⟨h1, h2, h3, h4⟩ := al3 w (.cells m t) (.cells #[] 5) (.cells l 3)
  refine ⟨⟨rfl, .inr ⟨_, _, #[], rfl, by omega, h2, by simp, by simp, by simp, by simp⟩⟩, by simp [Value.ownBlock], by simp [Value.ownBlock], by omega, by omega, ?_⟩
  exact (((Below.refl _ _).alloc (Nat.le_refl _) _).alloc (by simp) _).alloc (by simp; omega) _
theorem blk_cell {w : World} {g i : Nat} {cs : Array Value} {t : TypeId} {fr : Nat × Nat} {v : Value} (h : w.heap[g]? = some (.cells cs t fr)) (hv : cs[i]? = some v) : w.cell? ⟨g, i, none⟩ = some v := by
  simp [World.cell?, h, hv]

end Go.Proofs.Ytjbhgedbkajmdaa

/- slices.Concat at bytes; what is appended may be nil. -/
namespace Go.Proofs.Ytjbhgedbkajmdaa
open Go.ChangeShapes Go.WideShapes Go.ChangeAt Go.RowKit
set_option linter.unusedVariables false
set_option linter.unusedSimpArgs false

/-- A slice that holds the numbers L, or nil where there are none. -/
def Src (k : IntKind) (w : World) (x : Value) (L : List Int) : Prop :=
  (x = .slice none 0 0 ∧ L = []) ∨ ∃ ad c, x = .slice (some ad) L.length c ∧ ∀ j u, (L.map (Value.int k))[j]? = some u → w.cell? (ad.add j) = some u
theorem Src.of_owns {w : World} {B : Nat} {v : Value} {L : List Int} {k : IntKind} {t : TypeId} (h : w.ownsRow B t 1 v L.length (L.map (.int k))) : Src k w v L := by
  rcases h.2 with ⟨e, h0⟩ | ⟨g, cap, cur, e, hge, hc, _⟩
  · exact .inl ⟨e, List.length_eq_zero_iff.1 h0⟩
  · exact .inr ⟨⟨g, 0, none⟩, cap, e, h.cells (by rw [e]; rfl)⟩
theorem Src.below {k : IntKind} {w w' : World} {x : Value} {L : List Int} (h : Src k w x L) (hb : Below w.heap.size w w') : Src k w' x L := by
  rcases h with h | ⟨ad, c, e, hc⟩
  · exact .inl h
  · refine .inr ⟨ad, c, e, fun j u hu => ?_⟩
    have h1 := hc j u hu
    exact (hb.cell (lt_of_cell h1)).trans h1
theorem Src.form {k : IntKind} {w : World} {x : Value} {L : List Int} (h : Src k w x L) : ∃ ao c, x = .slice ao L.length c := by
  rcases h with ⟨e, rfl⟩ | ⟨ad, c, e, _⟩
  · exact ⟨none, 0, e⟩
  · exact ⟨some ad, c, e⟩
theorem Src.of_sl {k : IntKind} {w : World} {ao : Option Addr} {n c : Nat} {f : Nat → Int} (h : SL k w ao n f) (h0 : ao = none → n = 0 ∧ c = 0) : Src k w (.slice ao n c) ((List.range n).map f) := by
  cases ao with
  | none =>
    obtain ⟨rfl, rfl⟩ := h0 rfl
    exact .inl ⟨rfl, rfl⟩
  | some ad =>
    refine .inr ⟨ad, c, by simp, fun j u hu => ?_⟩
    have hj : j < n := by
      by_cases hj : j < n
      · exact hj
      · rw [List.getElem?_eq_none (by simp; omega)] at hu; cases hu
    obtain ⟨b, off, e, hlt, hc⟩ := h j hj
    simp only [Option.some.injEq] at e
    subst e
    rw [Addr.add_lit, hc]
    simpa [hj] using hu

theorem Src.slu {w : World} {ao : Option Addr} {c : Nat} {L : List Int} {k : IntKind} (h : Src k w (.slice ao L.length c) L) : SL k w ao L.length (fun i => L.getD i 0) := by
  intro i hi
  rcases h with ⟨_, rfl⟩ | ⟨ad, c', e, hc⟩
  · simp at hi
  · cases e
    have h1 := hc i (.int k (L.getD i 0)) (by simp [List.getD, hi])
    obtain ⟨b, off, spot⟩ := ad
    have h2 := hc 0 (.int k (L.getD 0 0)) (by simp [List.getD, show 0 < L.length by omega])
    have hspot : spot = none := by simpa [Addr.add] using World.cell?_spot h2
    subst hspot
    rw [Addr.add_lit] at h1
    exact ⟨b, off, rfl, lt_of_cell h1, h1⟩

theorem grownBy_refl (w : World) (r : Option Nat) : w.grownBy w r := by
  constructor <;> first | exact Nat.le_refl _ | (intros; rfl) | skip

theorem wpList_append_src {P : Program} {w : World} {ops : Array Oper} {rest : List Oper} {o : Oper} {a : Act} {Q : Exit → Act → World → Prop} (hgd : o.guard = none) (s x : Operand) (t : TypeId)
    (ho : o.op = .call { callee := .builtin .append, args := #[s, x], argTypes := #[t, t] })
    (base : Nat) (e : TypeId) (i : TypeInfo) (z : Value) (bytes : Nat) (ht : P.underlying t = some (.slice e)) (hi : P.info? e = some i) (hz : i.zero = some z)
    (hsize : i.size = 1) (hby : i.bytes = bytes) (hzs : z.cells.size = 1) (k : IntKind)
    (v : Value) (M : List Int) (hs : a.eval s = v) (hown : w.ownsRow base e 1 v M.length (M.map (.int k)))
    (xv : Value) (L : List Int) (hx : a.eval x = xv) (hsrc : Src k w xv L)
    (h63 : M.length + L.length ≤ maxLen) (hbytes : (M.length + L.length) * bytes ≤ 140737488355328) (hbase : base ≤ w.heap.size)
    (h : ∀ v' w', w'.ownsRow base e 1 v' (M ++ L).length ((M ++ L).map (.int k)) → w.grownBy w' v.ownBlock → wpList P ops Q rest (a.put o.dst v') w') : wpList P ops Q (o :: rest) a w := by
  rcases hsrc with ⟨e1, rfl⟩ | ⟨ad, c, e1, hc⟩
  · refine wpList_append_own_none hgd s x t ho base e i 1 ht hi v M.length (M.map (.int k)) hs hown (hx.trans e1) ?_
    exact h v w (by simpa using hown) (grownBy_refl _ _)
  · refine wpList_append_own w hgd s x t ho base e i z 1 bytes ht hi hz hsize hby hzs (by decide) v M.length (M.map (.int k)) hs hown ad L.length c (L.map (.int k)) (hx.trans e1) (by simp) hc (gones _ _) h63 hbytes hbase ?_
    intro v' w' h1 h2 _
    exact h v' w' (by simpa using h1) h2

set_option maxRecDepth 100000 in
theorem bgrow_any (n : Nat) (w : World) (hn : n ≤ 4194304) :
    Calls Try.prog 79 #[.slice none 0 0, .int .i64 (n : Int)] w fun e w' => ∃ v, e = .returned v ∧ w'.ownsRow w.heap.size 5 1 v 0 (([] : List Int).map (.int .u8)) ∧ Below w.heap.size w w' := by
  obtain ⟨i0, hi0, hz0, hz1, hz2⟩ := info_parts Try.info5
  by_cases h0 : n = 0
  · subst h0
    go_enter Try.func79, Try.ntmps79
    go_wp2
    go_ret
    exact ⟨_, rfl, gnil, Below.refl _ _⟩
  · have hrz : ∀ ty, (Builtin.append_ #[22, 3] ty #[.slice none 0 0, .int .i64 (n : Int)]).run Try.prog w =
        .ok (.slice (some ⟨w.heap.size, 0, none⟩) n (grownCap w n 0 5)) (w.drew.alloc (.cells (Builtin.zeroCells (Value.int .u8 0).cells n ++ Builtin.zeroCells (Value.int .u8 0).cells (grownCap w n 0 5 - n)) 5)) := fun ty =>
      Lib.run_append_nil_zeros w 22 3 ty 5 i0 _ .u8 .i64 Try.underlying22 Try.underlying3 hi0 hz0 n (by omega) (by omega) (by omega) (by rw [hz2]; omega)
    have hGn : n ≤ grownCap w n 0 5 := grownCap_ge w _ _ _
    have hGm : grownCap w n 0 5 ≤ maxLen := grownCap_le_maxLen w n 0 5 (by unfold maxLen; omega)
    generalize grownCap w n 0 5 = G at *
    obtain ⟨ROW, hROW⟩ : ∃ ROW : Array Value, ROW = Builtin.zeroCells (Value.int .u8 0).cells n ++ Builtin.zeroCells (Value.int .u8 0).cells (G - n) := ⟨_, rfl⟩
    have hRs : ROW.size = G := by rw [hROW]; simp [Builtin.zeroCells, Value.cells]; omega
    rw [← hROW] at hrz
    have hfin : (w.drew.alloc (.cells ROW 5)).ownsRow w.heap.size 5 1 (.slice (some ⟨w.heap.size, 0, none⟩) 0 G) 0 (([] : List Int).map (.int .u8)) :=
      ⟨rfl, .inr ⟨_, G, ROW, rfl, Nat.le_refl _, Deep.blk_alloc_new w.drew _, by omega, hGm, by omega, by simp⟩⟩
    have hB : Below w.heap.size w (w.drew.alloc (.cells ROW 5)) := (Below.drawn (Below.refl _ w) 1).alloc (Nat.le_refl _) _
    obtain ⟨W1, hW⟩ : ∃ W1, W1 = w.drew.alloc (.cells ROW 5) := ⟨_, rfl⟩
    rw [← hW] at hrz hfin hB
    have R := hide (And.intro hfin hB)
    clear hfin hB hW hROW hRs
    unfold maxLen at hGm
    have hpos : (0 : Int) < (n : Int) := by omega
    go_enter Try.func79, Try.ntmps79
    go_wp2_with (first
      | (at_builtin; refine Lib.wpList_append_run _ rfl _ _ _ _ rfl _ _ rfl rfl _ _ (hrz _) ?_))
    go_wp2
    go_ret
    exact ⟨_, rfl, R.out⟩

/-- The first k lists, one behind the other. -/
def catk (L : Nat → List Int) : Nat → List Int
  | 0 => []
  | k + 1 => catk L k ++ L k
theorem catk_len (L : Nat → List Int) (k : Nat) : (catk L (k + 1)).length = (catk L k).length + (L k).length := by simp [catk]
theorem catk_le (L : Nat → List Int) (k n : Nat) (h : k ≤ n) : (catk L k).length ≤ (catk L n).length := by
  induction n with
  | zero => obtain rfl : k = 0 := by omega
            exact Nat.le_refl _
  | succ n ih =>
    by_cases e : k = n + 1
    · subst e; exact Nat.le_refl _
    · have := ih (by omega); rw [catk_len]; omega

set_option maxRecDepth 100000 in
theorem bconcat_any (vb N : Nat) (ao : Nat → Option Addr) (c : Nat → Nat) (L : Nat → List Int) (w : World) (hN : N ≤ 16) (hlen : (catk L N).length ≤ 1048576) (hvlt : vb < w.heap.size)
    (hv : ∀ k, k < N → w.cell? ⟨vb, k, none⟩ = some (.slice (ao k) (L k).length (c k))) (hs : ∀ k, k < N → Src .u8 w (.slice (ao k) (L k).length (c k)) (L k)) :
    Calls Try.prog 41 #[.slice (some ⟨vb, 0, none⟩) N N] w fun e w' => ∃ v, e = .returned v ∧ w'.ownsRow w.heap.size 5 1 v (catk L N).length ((catk L N).map (.int .u8)) ∧ Below w.heap.size w w' := by
  obtain ⟨i0, hi, hz0, hz1, hz2⟩ := info_parts Try.info5
  have HV := hide hv
  have HS := hide hs
  clear hv hs
  go_enter Try.func41, Try.ntmps41
  go_wp2
  go_loop [3, 5, 11] (fun s _ i => ∃ k : Nat, k ≤ N ∧ i = .int .i64 k ∧ s = .int .i64 ((catk L k).length : Nat)) (fun _ _ i => N - (intOf i).toNat)
  case atStart => exact ⟨0, by omega, rfl, rfl⟩
  case round =>
    obtain ⟨k, hk, rfl, rfl⟩ := hrel
    by_cases hlt : k < N
    · have c0 := HV.out k hlt
      have hk1 := catk_le L (k + 1) N (by omega)
      have hk2 := catk_len L k
      generalize hx : (catk L k).length = x at *
      generalize hy : (L k).length = y at *
      have hle : (0 : Int) ≤ (x : Int) + (y : Int) := by omega
      go_wp2
      go_round
      case rel => exact ⟨k + 1, by omega, by go_num, by rw [hk2]; go_num⟩
      case measure => simp [intOf]; omega
    · obtain rfl : k = N := by omega
      go_wp2_with fail
      refine (bgrow_any (catk L k).length _ (by omega)).mono ?_
      rintro e w1 ⟨v1, rfl, ho1, b1⟩
      have HO1 := hide ho1
      have HB1 := hide b1
      clear ho1 b1
      go_wp2_with fail
      go_loopw [6, 8, 27] (fun v _ i wr => ∃ j : Nat, j ≤ k ∧ i = .int .i64 j ∧ Hid (wr.ownsRow w.heap.size 5 1 v (catk L j).length ((catk L j).map (.int .u8)) ∧ Below w.heap.size w wr)) (fun _ _ i _ => k - (intOf i).toNat)
      case atStart => exact ⟨0, by omega, rfl, HO1.out, HB1.out⟩
      case round =>
        obtain ⟨j, hj, rfl, HI⟩ := hrel
        clear HO1 HB1
        by_cases hlt : j < k
        · have d0 := (HI.out.2.cell (p := ⟨vb, j, none⟩) hvlt).trans (HV.out j hlt)
          have hsrc := hide ((HS.out j hlt).below HI.out.2)
          have hsz := HI.out.2.size
          have hk1 := catk_le L (j + 1) k (by omega)
          have hk2 := catk_len L j
          have hLj : Hid (catk L (j + 1) = catk L j ++ L j) := rfl
          generalize L j = M at *
          generalize catk L j = C at *
          go_wp2_with (first
            | (at_builtin; refine wpList_append_src rfl _ _ 22 rfl w.heap.size 5 i0 (.int .u8 0) 1 Try.underlying22 hi hz0 hz1 hz2 rfl .u8 _ C rfl HI.out.1 _ M rfl hsrc.out (glens (by omega)) (by omega) hsz ?_; intro v' w2 hown' hgrow))
          have R := hide (And.intro hown' (ggrown HI.out.2 hsz HI.out.1 hgrow))
          clear hown' hgrow
          go_wp2
          go_roundw
          case rel => exact ⟨j + 1, by omega, by go_num, by rw [hLj.out]; exact R.out⟩
          case measure => simp [intOf]; omega
        · obtain rfl : j = k := by omega
          go_wp2
          go_ret
          exact ⟨_, rfl, HI.out⟩
end Go.Proofs.Ytjbhgedbkajmdaa

/- (Beside the messages.) slices.IndexFunc and slices.ContainsFunc over a slice of ints, at a function that reads alone. -/
namespace Go.Proofs.Ytjbhgedbkajmdaa
open Go.ChangeShapes Go.WideShapes Go.ChangeAt Go.RowKit
set_option linter.unusedVariables false
set_option linter.unusedSimpArgs false

/-- The first place below n at which p holds, or -1. -/
def IsFirst (p : Nat → Bool) (n : Nat) (r : Int) : Prop :=
  (r = -1 ∧ ∀ i, i < n → p i = false) ∨ ∃ k : Nat, r = k ∧ k < n ∧ p k = true ∧ ∀ i, i < k → p i = false

theorem idx_any (g : Nat) (lb : Array Value) (p : Int → Bool) (ao : Option Addr) (n cap : Nat) (f : Nat → Int) (w : World)
    (eg : ∀ args w, (callFunc g args).run Try.prog w = .ok (.enter g args) w)
    (hp : ∀ x, Calls Try.prog g (#[.int .i64 x] ++ lb) w fun e w' => e = .returned (.bool (p x)) ∧ w' = w)
    (hn : n ≤ 1048576) (hs : SL .i64 w ao n f) :
    Calls Try.prog 100 #[.slice ao n cap, .func (.func g) #[] lb] w fun e w' => (∃ r : Int, e = .returned (.int .i64 r) ∧ IsFirst (fun i => p (f i)) n r) ∧ w' = w := by
  go_enter Try.func100, Try.ntmps100
  go_wp2
  go_loop [5, 8] (fun _ i => ∃ k : Nat, k ≤ n ∧ i = .int .i64 k ∧ Hid (∀ j, j < k → p (f j) = false)) (fun _ i => n - (intOf i).toNat)
  case atStart => exact ⟨0, Nat.zero_le _, rfl, fun j hj => absurd hj (Nat.not_lt_zero _)⟩
  case round =>
    obtain ⟨k, hk, rfl, A⟩ := hrel
    by_cases hlt : k < n
    · obtain ⟨b, off, rfl, hb, hc⟩ := hs k hlt
      have hcall := hp (f k)
      clear hs hp
      generalize hy : f k = y at *
      have B : Hid (f k = y) := hy
      clear hy
      cases hq : p y with
      | true =>
        rw [hq] at hcall
        go_wp2_with (go_at_fn g; refine hcall.mono ?_; rintro e w' ⟨rfl, rfl⟩)
        go_ret
        exact ⟨⟨_, rfl, .inr ⟨k, rfl, hlt, by show p (f k) = true; rw [B.out]; exact hq, A.out⟩⟩, rfl⟩
      | false =>
        rw [hq] at hcall
        go_wp2_with (go_at_fn g; refine hcall.mono ?_; rintro e w' ⟨rfl, rfl⟩)
        go_round
        case rel =>
          refine ⟨k + 1, by omega, by go_num, fun j hj => ?_⟩
          by_cases e : j = k
          · subst e; rw [B.out]; exact hq
          · exact A.out j (by omega)
        case measure => simp [intOf]; omega
    · have hkn : k = n := by omega
      subst hkn
      go_wp2
      go_ret
      exact ⟨⟨_, rfl, .inl ⟨rfl, A.out⟩⟩, rfl⟩

theorem cf_any (g : Nat) (lb : Array Value) (p : Int → Bool) (ao : Option Addr) (n cap : Nat) (f : Nat → Int) (w : World)
    (eg : ∀ args w, (callFunc g args).run Try.prog w = .ok (.enter g args) w)
    (hp : ∀ x, Calls Try.prog g (#[.int .i64 x] ++ lb) w fun e w' => e = .returned (.bool (p x)) ∧ w' = w)
    (hn : n ≤ 1048576) (hs : SL .i64 w ao n f) :
    Calls Try.prog 96 #[.slice ao n cap, .func (.func g) #[] lb] w fun e w' => (∃ b : Bool, e = .returned (.bool b) ∧ (b = true ↔ ∃ i, i < n ∧ p (f i) = true)) ∧ w' = w := by
  have hi := idx_any g lb p ao n cap f w eg hp hn hs
  clear hp hs eg
  go_enter Try.func96, Try.ntmps96
  go_wp2_with (go_at_call 100; refine hi.mono ?_; rintro e w' ⟨⟨r, rfl, hr⟩, rfl⟩)
  go_ret
  refine ⟨⟨_, rfl, ?_⟩, rfl⟩
  rcases hr with ⟨rfl, h⟩ | ⟨k, rfl, hk, h1, h2⟩
  · constructor
    · intro h0; simp at h0
    · rintro ⟨i, hi, h1⟩; exact absurd (h i hi) (by simp [h1])
  · constructor
    · intro _; exact ⟨k, hk, h1⟩
    · intro _; simp
end Go.Proofs.Ytjbhgedbkajmdaa

/- MsgOk of the program: its parts. -/
namespace Go.Proofs.Ytjbhgedbkajmdaa
open Go.ChangeShapes Go.WideShapes Go.ChangeAt Go.RowKit
set_option linter.unusedVariables false
set_option linter.unusedSimpArgs false

theorem nocell_any (x : Int) (w : World) : Calls Try.prog 97 #[.int .i64 x] w fun e w' => e = .returned (.bool (decide (x < 0 ∨ 8 ≤ x))) ∧ w' = w := by
  by_cases h0 : x < 0
  · go_enter Try.func97, Try.ntmps97
    go_wp2
    go_ret
    exact ⟨by simp [h0], rfl⟩
  · go_enter Try.func97, Try.ntmps97
    go_wp2
    go_ret
    exact ⟨by simp [Int.not_lt.2 h0], rfl⟩
theorem nowrite_any (x : Int) (w : World) : Calls Try.prog 61 #[.int .i64 x] w fun e w' => e = .returned (.bool (decide (x < 0 ∨ 200 < x))) ∧ w' = w := by
  by_cases h0 : x < 0
  · go_enter Try.func61, Try.ntmps61
    go_wp2
    go_ret
    exact ⟨by simp [h0], rfl⟩
  · go_enter Try.func61, Try.ntmps61
    go_wp2
    go_ret
    exact ⟨by simp [Int.not_lt.2 h0], rfl⟩
theorem nogen_any (x : Int) (w : World) : Calls Try.prog 74 #[.int .i64 x] w fun e w' => e = .returned (.bool (decide (x < 1 ∨ 100000 < x))) ∧ w' = w := by
  by_cases h0 : x < 1
  · go_enter Try.func74, Try.ntmps74
    go_wp2
    go_ret
    exact ⟨by simp [h0], rfl⟩
  · go_enter Try.func74, Try.ntmps74
    go_wp2
    go_ret
    exact ⟨by simp [Int.not_lt.2 h0], rfl⟩
end Go.Proofs.Ytjbhgedbkajmdaa

/- Marks, beside messages: MarksOk of the program and of its model. -/
namespace Go.Proofs.Ytjbhgedbkajmdaa
open Go.ChangeShapes Go.WideShapes Go.ChangeAt Go.RowKit
set_option linter.unusedVariables false
set_option linter.unusedSimpArgs false

theorem asc_any (ao : Option Addr) (n cap : Nat) (f : Nat → Int) (w : World) (hn : n ≤ 1048576) (hs : SL .i64 w ao n f) :
    Calls Try.prog 95 #[.slice ao n cap] w fun e w' => (∃ b : Bool, e = .returned (.bool b) ∧ (b = true ↔ ∀ i, 1 ≤ i → i < n → f (i - 1) < f i)) ∧ ∃ q, w' = w.drewN q := by
  go_enter Try.func95, Try.ntmps95
  go_wp2
  go_loopw [3] (fun i wr => ∃ k : Nat, 1 ≤ k ∧ k ≤ n + 1 ∧ i = .int .i64 k ∧ Hid (∀ j, 1 ≤ j → j < k → f (j - 1) < f j) ∧ ∃ q, wr = w.drewN q) (fun i _ => n + 1 - (intOf i).toNat)
  case atStart => exact ⟨1, Nat.le_refl _, by omega, rfl, (fun j h1 h2 => absurd h2 (by omega)), 0, rfl⟩
  case round =>
    obtain ⟨k, h1k, hk, rfl, A, q, rfl⟩ := hrel
    by_cases hlt : k < n
    · obtain ⟨b, off, e1, hb, hc⟩ := hs k hlt
      obtain ⟨b', off', e2, hb', hc'⟩ := hs (k - 1) (by omega)
      subst e1
      simp only [Option.some.injEq, Addr.mk.injEq] at e2
      obtain ⟨rfl, rfl, _⟩ := e2
      obtain ⟨k, rfl⟩ : ∃ k', k = k' + 1 := ⟨k - 1, by omega⟩
      rw [show k + 1 - 1 = k by omega] at hc'
      have hsub : ((k + 1 : Nat) : Int) - 1 = (k : Int) := by omega
      clear hs
      generalize hy : f (k + 1) = y at *
      generalize hx : f k = x at *
      have B : Hid (f (k + 1) = y ∧ f k = x) := ⟨hy, hx⟩
      clear hy hx
      by_cases hle : y ≤ x
      · have hd : decide (y ≤ x) = true := by simpa using hle
        go_wp2
        go_quiet (fail)
        go_wp2
        go_ret
        refine ⟨⟨_, rfl, ?_⟩, _, World.drewN_drewN ..⟩
        constructor
        · intro h; cases h
        · intro h
          have := h (k + 1) (by omega) hlt
          rw [show k + 1 - 1 = k by omega, B.out.1, B.out.2] at this
          omega
      · have hd : decide (y ≤ x) = false := by simpa using hle
        go_wp2
        go_quiet (fail)
        go_wp2
        go_roundw
        case rel =>
          refine ⟨k + 1 + 1, by omega, by omega, by go_num, fun j h1 h2 => ?_, _, rfl⟩
          by_cases e : j = k + 1
          · subst e; rw [show k + 1 - 1 = k by omega, B.out.1, B.out.2]; omega
          · exact A.out j h1 (by omega)
        case measure => simp [intOf]; omega
    · go_wp2
      go_ret
      exact ⟨⟨_, rfl, ⟨fun _ i h1 h2 => A.out i h1 (by omega), fun _ => rfl⟩⟩, q, rfl⟩

/-- Ascending, each once, in 0 .. 7. -/
def KIn (f : Nat → Int) (n : Nat) : Prop := (∀ i, i < n → 0 ≤ f i ∧ f i ≤ 7) ∧ ∀ i, 1 ≤ i → i < n → f (i - 1) < f i

theorem marksok_spec (ao : Option Addr) (n cap : Nat) (f : Nat → Int) (w : World) (hn : n ≤ 1048576) (hs : SL .i64 w ao n f) :
    Calls Try.prog 62 #[.slice ao n cap] w fun e w' => (∃ b : Bool, e = .returned (.bool b) ∧ (b = true ↔ KIn f n)) ∧ ∃ q, w' = w.drewN q := by
  go_enter Try.func62, Try.ntmps62
  go_wp2
  go_loopw [3] (fun i wr => ∃ k : Nat, k ≤ n ∧ i = .int .i64 k ∧ Hid (KIn f k) ∧ ∃ q, wr = w.drewN q) (fun i _ => n - (intOf i).toNat)
  case atStart => exact ⟨0, by omega, rfl, ⟨fun i hi => absurd hi (by omega), fun i h1 h2 => absurd h2 (by omega)⟩, 0, rfl⟩
  case round =>
    obtain ⟨k, hk, rfl, A, q, rfl⟩ := hrel
    by_cases hlt : k < n
    · obtain ⟨b, off, e1, hb, hc⟩ := hs k hlt
      by_cases hin : 0 ≤ f k ∧ f k ≤ 7
      · by_cases hk0 : k = 0
        · subst hk0
          obtain ⟨hin0, hin1⟩ := hin
          subst e1
          rw [Nat.add_zero] at hc
          have hd : decide ((0 : Int) < ((0 : Nat) : Int)) = false := by simp
          clear hs
          generalize hy : f 0 = y at *
          have B : Hid (f 0 = y) := hy
          clear hy
          go_wp2
          go_quiet (first | (go_at_call 63; refine quiet_q (in_yes _ _ _ _ hin0 hin1)))
          go_wp2
          go_roundw
          case rel =>
            refine ⟨1, by omega, by go_num, ⟨fun i hi => ?_, fun i h1 h2 => absurd h2 (by omega)⟩, _, rfl⟩
            obtain rfl : i = 0 := by omega
            rw [B.out]; omega
          case measure => simp [intOf]; omega
        · obtain ⟨b', off', e2, hb', hc'⟩ := hs (k - 1) (by omega)
          subst e1
          simp only [Option.some.injEq, Addr.mk.injEq] at e2
          obtain ⟨rfl, rfl, _⟩ := e2
          obtain ⟨k, rfl⟩ : ∃ k', k = k' + 1 := ⟨k - 1, by omega⟩
          rw [show k + 1 - 1 = k by omega] at hc'
          obtain ⟨hin0, hin1⟩ := hin
          have hpos : decide ((0 : Int) < ((k + 1 : Nat) : Int)) = true := by simp
          clear hs hk0
          generalize hy : f (k + 1) = y at *
          generalize hx : f k = x at *
          have B : Hid (f (k + 1) = y ∧ f k = x) := ⟨hy, hx⟩
          clear hy hx
          by_cases hle : y ≤ x
          · have hd : decide (y ≤ x) = true := by simpa using hle
            go_wp2
            go_quiet (first | (go_at_call 63; refine quiet_q (in_yes _ _ _ _ hin0 hin1)))
            go_wp2
            go_ret
            refine ⟨⟨_, rfl, ?_⟩, _, World.drewN_drewN ..⟩
            constructor
            · intro h; cases h
            · intro h
              have := h.2 (k + 1) (by omega) hlt
              rw [show k + 1 - 1 = k by omega, B.out.1, B.out.2] at this
              omega
          · have hd : decide (y ≤ x) = false := by simpa using hle
            go_wp2
            go_quiet (first | (go_at_call 63; refine quiet_q (in_yes _ _ _ _ hin0 hin1)))
            go_wp2
            go_roundw
            case rel =>
              refine ⟨k + 1 + 1, by omega, by go_num, ⟨fun i hi => ?_, fun j h1 h2 => ?_⟩, _, rfl⟩
              · by_cases e : i = k + 1
                · subst e; rw [B.out.1]; omega
                · exact A.out.1 i (by omega)
              · by_cases e : j = k + 1
                · subst e; rw [show k + 1 - 1 = k by omega, B.out.1, B.out.2]; omega
                · exact A.out.2 j h1 (by omega)
            case measure => simp [intOf]; omega
      · have hno : f k < 0 ∨ 7 < f k := by omega
        subst e1
        clear hs
        go_wp2
        go_quiet (first | (go_at_call 63; refine quiet_q (in_no _ _ _ _ hno)))
        go_wp2
        go_ret
        refine ⟨⟨_, rfl, ?_⟩, _, World.drewN_drewN ..⟩
        constructor
        · intro h; cases h
        · intro h; exact absurd (h.1 k hlt) hin
    · have hkn : k = n := by omega
      subst hkn
      go_wp2
      go_ret
      exact ⟨⟨_, rfl, ⟨fun _ => A.out, fun _ => rfl⟩⟩, q, rfl⟩

theorem marksok_impl (ao : Option Addr) (n cap : Nat) (f : Nat → Int) (w : World) (hn : n ≤ 1048576) (hs : SL .i64 w ao n f) :
    Calls Try.prog 88 #[.slice ao n cap] w fun e w' => (∃ b : Bool, e = .returned (.bool b) ∧ (b = true ↔ KIn f n)) ∧ ∃ q, w' = w.drewN q := by
  have h1 := asc_any ao n cap f w hn hs
  have h2 : Hid (∀ q, Calls Try.prog 96 #[.slice ao n cap, .func (.func 97) #[] #[]] (w.drewN q) fun e w' => (∃ b : Bool, e = .returned (.bool b) ∧ (b = true ↔ ∃ i, i < n ∧ decide (f i < 0 ∨ 8 ≤ f i) = true)) ∧ w' = w.drewN q) :=
    fun q => cf_any 97 #[] (fun x => decide (x < 0 ∨ 8 ≤ x)) ao n cap f (w.drewN q) (enters_of Try.func97 (by kernel_rfl) rfl) (fun x => nocell_any x _) hn hs
  clear hs
  go_enter Try.func88, Try.ntmps88
  go_wp2_with fail
  refine h1.mono ?_
  rintro e w1 ⟨⟨b, rfl, hb0⟩, q, rfl⟩
  have hb : Hid (b = true ↔ ∀ i, 1 ≤ i → i < n → f (i - 1) < f i) := hb0
  clear hb0 h1
  cases b with
  | false =>
    go_wp2
    go_ret
    refine ⟨⟨_, rfl, ?_⟩, q, rfl⟩
    constructor
    · intro h; cases h
    · intro h; exact hb.out.2 h.2
  | true =>
    go_wp2_with fail
    refine (h2.out q).mono ?_
    rintro e w2 ⟨⟨c, rfl, hc⟩, rfl⟩
    go_wp2
    go_ret
    refine ⟨⟨_, rfl, ?_⟩, q, rfl⟩
    cases c with
    | true =>
      obtain ⟨i, hi, hx⟩ := hc.1 rfl
      constructor
      · intro h; cases h
      · intro h
        have := h.1 i hi
        simp at hx
        omega
    | false =>
      refine ⟨fun _ => ⟨fun i hi => ?_, hb.out.1 trivial⟩, fun _ => rfl⟩
      have hx : ¬ (decide (f i < 0 ∨ 8 ≤ f i) = true) := fun hx => by have := hc.2 ⟨i, hi, hx⟩; cases this
      simp at hx
      omega

/-- Of a list. -/
def KOk (l : List Int) : Prop := KIn (fun i => l.getD i 0) l.length
theorem marks_spec (ro : Option Addr) (rc : Nat) (l : List Int) (w : World) (hl : l.length ≤ 1048576) (hs : SL .i64 w ro l.length (fun i => l.getD i 0)) :
    Calls Try.prog 62 #[.slice ro l.length rc] w fun e w' => ((KOk l ∧ e = .returned (.bool true)) ∨ (¬ KOk l ∧ e = .returned (.bool false))) ∧ ∃ q, w' = w.drewN q := by
  refine (marksok_spec ro l.length rc (fun i => l.getD i 0) w hl hs).mono ?_
  rintro e w' ⟨⟨b, rfl, hb⟩, hq⟩
  refine ⟨?_, hq⟩
  cases b with
  | true => exact .inl ⟨hb.1 rfl, rfl⟩
  | false => exact .inr ⟨(fun h => by have := hb.2 h; cases this), rfl⟩
theorem marks_impl (ro : Option Addr) (rc : Nat) (l : List Int) (w : World) (hl : l.length ≤ 1048576) (hs : SL .i64 w ro l.length (fun i => l.getD i 0)) :
    Calls Try.prog 88 #[.slice ro l.length rc] w fun e w' => ((KOk l ∧ e = .returned (.bool true)) ∨ (¬ KOk l ∧ e = .returned (.bool false))) ∧ ∃ q, w' = w.drewN q := by
  refine (marksok_impl ro l.length rc (fun i => l.getD i 0) w hl hs).mono ?_
  rintro e w' ⟨⟨b, rfl, hb⟩, hq⟩
  refine ⟨?_, hq⟩
  cases b with
  | true => exact .inl ⟨hb.1 rfl, rfl⟩
  | false => exact .inr ⟨(fun h => by have := hb.2 h; cases this), rfl⟩
end Go.Proofs.Ytjbhgedbkajmdaa

/- (Beside the bytes' own.) Slices of ints as the laws hand them on: toIntS copies its argument into memory of its own, eqIntS tells whether two are alike. -/
namespace Go.Proofs.Ytjbhgedbkajmdaa
open Go.ChangeShapes Go.WideShapes Go.ChangeAt Go.RowKit
set_option linter.unusedVariables false
set_option linter.unusedSimpArgs false

theorem Try.info3 : (Try.prog.info? 3).map (fun i => (i.zero, i.size, i.bytes)) = some (some (.int .i64 0), 1, 8) := by kernel_rfl

theorem ito_step {wr : World} {g n k : Nat} {t : TypeId} {f : Nat → Int} (h : wr.rowIs g t n (fun j => if j < k then .int .i64 (f j) else .int .i64 0)) :
    (wr.setCell ⟨g, k, none⟩ (.int .i64 (f k))).rowIs g t n (fun j => if j < k + 1 then .int .i64 (f j) else .int .i64 0) := by
  refine (h.set k (.int .i64 (f k))).congr fun j hj => ?_
  by_cases e : j = k
  · subst e; simp
  · simp only [if_neg e]
    by_cases e2 : j < k
    · rw [if_pos e2, if_pos (by omega)]
    · rw [if_neg e2, if_neg (by omega)]

theorem ito_any (ao : Option Addr) (n cap : Nat) (f : Nat → Int) (w : World) (hn : n ≤ 1048576) (hs : SL .i64 w ao n f) :
    Calls Try.prog 34 #[.slice ao n cap] w fun e w' => e = .returned (.slice (some ⟨w.heap.size, 0, none⟩) n n) ∧ w'.rowIs w.heap.size 3 n (fun i => .int .i64 (f i)) ∧ Below w.heap.size w w' := by
  have hmk := run_make_row' (P := Try.prog) 24 3 (.int .i64 0) 8 Try.underlying24 Try.info3 rfl .i64 .i64 n (by omega) (by omega)
  go_enter Try.func34, Try.ntmps34
  go_wp2
  go_loopw [4] (fun i wr => ∃ k : Nat, k ≤ n ∧ i = .int .i64 k ∧ wr.rowIs w.heap.size 3 n (fun j => if j < k then .int .i64 (f j) else .int .i64 0) ∧ Below w.heap.size w wr) (fun i _ => n - (intOf i).toNat)
  case atStart => exact ⟨0, Nat.zero_le _, rfl, (World.rowIs_made _ _ _ _).congr (by intro i _; simp), (Below.refl _ _).alloc (Nat.le_refl _) _⟩
  case round =>
    obtain ⟨k, hk, rfl, hrow, hbel⟩ := hrel
    clear hmk
    by_cases hlt : k < n
    · obtain ⟨b, off, rfl, hb, hc⟩ := hs k hlt
      have hc' := (hbel.cell (p := ⟨b, off + k, none⟩) hb).trans hc
      have hf := hrow.frozen k
      have hcell := hrow.cell hlt
      have R := ito_step (f := f) hrow
      have R2 := hbel.setCell (p := ⟨w.heap.size, k, none⟩) (Nat.le_refl _) (.int .i64 (f k))
      clear hc hs hrow
      go_wp2
      go_roundw
      case rel => exact ⟨k + 1, by omega, by go_num, R, R2⟩
      case measure => simp [intOf]; omega
    · have hkn : n = k := by omega
      go_wp2
      go_ret
      exact ⟨rfl, hrow.congr (by intro i hi; rw [if_pos (by omega)]), hbel⟩

theorem ieq_yes (ao bo : Option Addr) (n ca cb : Nat) (f g : Nat → Int) (w : World) (hn : n ≤ 1048576) (hA : SL .i64 w ao n f) (hB : SL .i64 w bo n g) (he : ∀ i, i < n → f i = g i) :
    Calls Try.prog 35 #[.slice ao n ca, .slice bo n cb] w fun e w' => e = .returned (.bool true) ∧ ∃ q, w' = w.drewN q := by
  go_enter Try.func35, Try.ntmps35
  go_wp2
  go_loopw [5] (fun i wr => ∃ k : Nat, k ≤ n ∧ i = .int .i64 k ∧ ∃ q, wr = w.drewN q) (fun i _ => n - (intOf i).toNat)
  case atStart => exact ⟨0, Nat.zero_le _, rfl, 0, rfl⟩
  case round =>
    obtain ⟨k, hk, rfl, q, rfl⟩ := hrel
    by_cases hlt : k < n
    · obtain ⟨b, off, rfl, hb, hc⟩ := hA k hlt
      obtain ⟨b', off', rfl, hb', hc'⟩ := hB k hlt
      rw [← he k hlt] at hc'
      clear hA hB he
      go_wp2
      go_quiet (fail)
      go_wp2
      go_roundw
      case rel => exact ⟨k + 1, by omega, by go_num, _, rfl⟩
      case measure => simp [intOf]; omega
    · go_wp2
      go_ret
      exact ⟨rfl, q, rfl⟩

end Go.Proofs.Ytjbhgedbkajmdaa

/- markByteS writes a running number into memory that was handed back, heldByteS finds it there. -/
namespace Go.Proofs.Ytjbhgedbkajmdaa
open Go.ChangeShapes Go.WideShapes Go.ChangeAt Go.RowKit
set_option linter.unusedVariables false
set_option linter.unusedSimpArgs false

theorem mark_step {wr : World} {B g n k : Nat} {k0 : Int} {t : TypeId} {F : Nat → Value} (h : Own wr B t (some ⟨g, 0, none⟩) n (fun j => if j < k then .int .u8 ((k0 + j) % 256) else F j)) :
    Own (wr.setCell ⟨g, k, none⟩ (.int .u8 ((k0 + k) % 256))) B t (some ⟨g, 0, none⟩) n (fun j => if j < k + 1 then .int .u8 ((k0 + j) % 256) else F j) := by
  refine (h.set k _).congr fun j hj => ?_
  by_cases e : j = k
  · subst e; simp
  · simp only [if_neg e]
    by_cases e2 : j < k
    · rw [if_pos e2, if_pos (by omega)]
    · rw [if_neg e2, if_neg (by omega)]

/-- Block g alone was written. -/
def Only (g : Nat) (w w' : World) : Prop := Below g w w' ∧ w'.heap.size = w.heap.size ∧ ∀ j, j ≠ g → w'.heap[j]? = w.heap[j]?

theorem Only.refl (g : Nat) (w : World) : Only g w w := ⟨Below.refl _ _, rfl, fun _ _ => rfl⟩
theorem Only.setCell {g i : Nat} {w w' : World} (h : Only g w w') (v : Value) : Only g w (w'.setCell ⟨g, i, none⟩ v) :=
  ⟨h.1.setCell (p := ⟨g, i, none⟩) (Nat.le_refl _) v, by simpa [World.setCell] using h.2.1, fun j hj => by rw [← h.2.2 j hj]; simp [World.setCell, Array.getElem?_modify]; intro e; exact absurd e.symm hj⟩
theorem Only.row {g g' n : Nat} {w w' : World} {t : TypeId} {F : Nat → Value} (h : Only g w w') (hne : g' ≠ g) (r : w.rowIs g' t n F) : w'.rowIs g' t n F := r.of_block (h.2.2 g' hne)
theorem Only.own {g n B : Nat} {w w' : World} {t : TypeId} {ao : Option Addr} {F : Nat → Value} (h : Only g w w') (r : Own w B t ao n F) (hB : g < B) : Own w' B t ao n F := by
  rcases r with r | ⟨g', ea, hB', c, hc, hs, hF⟩
  · exact .inl r
  · exact .inr ⟨g', ea, hB', c, (h.2.2 g' (by omega)).trans hc, hs, hF⟩
/-- .. of memory that lay ahead of the block. -/
theorem Only.own' {g n B : Nat} {w w' : World} {t : TypeId} {ao : Option Addr} {F : Nat → Value} (h : Only g w w') (r : Own w B t ao n F) (hB : ∀ g', ao = some ⟨g', 0, none⟩ → g' ≠ g) : Own w' B t ao n F := by
  rcases r with r | ⟨g', ea, hB', c, hc, hs, hF⟩
  · exact .inl r
  · exact .inr ⟨g', ea, hB', c, (h.2.2 g' (hB g' ea)).trans hc, hs, hF⟩

theorem mark_row_step {wr : World} {g n k : Nat} {k0 : Int} {t : TypeId} {F : Nat → Value} (h : wr.rowIs g t n (fun j => if j < k then .int .u8 ((k0 + j) % 256) else F j)) :
    (wr.setCell ⟨g, k, none⟩ (.int .u8 ((k0 + k) % 256))).rowIs g t n (fun j => if j < k + 1 then .int .u8 ((k0 + j) % 256) else F j) := by
  refine (h.set k _).congr fun j hj => ?_
  by_cases e : j = k
  · subst e; simp
  · simp only [if_neg e]
    by_cases e2 : j < k
    · rw [if_pos e2, if_pos (by omega)]
    · rw [if_neg e2, if_neg (by omega)]

end Go.Proofs.Ytjbhgedbkajmdaa

/- (Beside the bytes' own.) markIntS writes a running number into memory that was handed back, heldIntS finds it there. -/
namespace Go.Proofs.Ytjbhgedbkajmdaa
open Go.ChangeShapes Go.WideShapes Go.ChangeAt Go.RowKit
set_option linter.unusedVariables false
set_option linter.unusedSimpArgs false

theorem imark_step {wr : World} {B g n k : Nat} {k0 : Int} {t : TypeId} {F : Nat → Value} (h : Own wr B t (some ⟨g, 0, none⟩) n (fun j => if j < k then .int .i64 (k0 + j) else F j)) :
    Own (wr.setCell ⟨g, k, none⟩ (.int .i64 (k0 + k))) B t (some ⟨g, 0, none⟩) n (fun j => if j < k + 1 then .int .i64 (k0 + j) else F j) := by
  refine (h.set k _).congr fun j hj => ?_
  by_cases e : j = k
  · subst e; simp
  · simp only [if_neg e]
    by_cases e2 : j < k
    · rw [if_pos e2, if_pos (by omega)]
    · rw [if_neg e2, if_neg (by omega)]

theorem imark_any (ao : Option Addr) (n cap B : Nat) (k0 : Int) (F : Nat → Value) (w : World) (hn : n ≤ 1048576) (h0 : 0 ≤ k0) (h1 : k0 ≤ 1099511627776) (ho : Own w B 3 ao n F) :
    Calls Try.prog 36 #[.slice ao n cap, .int .i64 k0] w fun e w' => e = .returned (.int .i64 (k0 + n)) ∧ Own w' B 3 ao n (fun j => .int .i64 (k0 + j)) ∧ Below B w w' := by
  go_enter Try.func36, Try.ntmps36
  go_wp2
  go_loopw [1, 5] (fun m i wr => ∃ k : Nat, k ≤ n ∧ i = .int .i64 k ∧ m = .int .i64 (k0 + k) ∧ Own wr B 3 ao n (fun j => if j < k then .int .i64 (k0 + j) else F j) ∧ Below B w wr) (fun _ i _ => n - (intOf i).toNat)
  case atStart => exact ⟨0, Nat.zero_le _, rfl, by simp, ho.congr (by intro i _; simp), Below.refl _ _⟩
  case round =>
    obtain ⟨k, hk, rfl, rfl, hrow, hbel⟩ := hrel
    by_cases hlt : k < n
    · obtain ⟨g, rfl, hB, hg, hc, hf⟩ := hrow.at hlt
      have R := imark_step hrow
      have R2 := hbel.setCell (p := ⟨g, k, none⟩) hB (.int .i64 (k0 + k))
      clear hrow ho
      go_wp2
      go_roundw
      case rel => exact ⟨k + 1, by omega, by go_num, by go_num, R, R2⟩
      case measure => simp [intOf]; omega
    · have hkn : k = n := by omega
      subst hkn
      go_wp2
      go_ret
      exact ⟨rfl, hrow.congr (by intro i hi; rw [if_pos (by omega)]), hbel⟩

theorem iheld_any (ao : Option Addr) (n cap : Nat) (k0 : Int) (w : World) (hn : n ≤ 1048576) (h0 : 0 ≤ k0) (h1 : k0 ≤ 1099511627776) (hs : SL .i64 w ao n (fun j => k0 + j)) :
    Calls Try.prog 37 #[.slice ao n cap, .int .i64 k0] w fun e w' => e = .returned (.int .i64 (k0 + n)) ∧ w' = w := by
  go_enter Try.func37, Try.ntmps37
  go_wp2
  go_loop [1, 5] (fun m i => ∃ k : Nat, k ≤ n ∧ i = .int .i64 k ∧ m = .int .i64 (k0 + k)) (fun _ i => n - (intOf i).toNat)
  case atStart => exact ⟨0, Nat.zero_le _, rfl, by simp⟩
  case round =>
    obtain ⟨k, hk, rfl, rfl⟩ := hrel
    by_cases hlt : k < n
    · obtain ⟨b, off, rfl, hb, hc⟩ := hs k hlt
      clear hs
      go_wp2
      go_round
      case rel => exact ⟨k + 1, by omega, by go_num, by go_num⟩
      case measure => simp [intOf]; omega
    · have hkn : k = n := by omega
      subst hkn
      go_wp2
      go_ret
      exact ⟨rfl, rfl⟩

theorem imark_row_step {wr : World} {g n k : Nat} {k0 : Int} {t : TypeId} {F : Nat → Value} (h : wr.rowIs g t n (fun j => if j < k then .int .i64 (k0 + j) else F j)) :
    (wr.setCell ⟨g, k, none⟩ (.int .i64 (k0 + k))).rowIs g t n (fun j => if j < k + 1 then .int .i64 (k0 + j) else F j) := by
  refine (h.set k _).congr fun j hj => ?_
  by_cases e : j = k
  · subst e; simp
  · simp only [if_neg e]
    by_cases e2 : j < k
    · rw [if_pos e2, if_pos (by omega)]
    · rw [if_neg e2, if_neg (by omega)]

theorem imark_row (g n cap : Nat) (k0 : Int) (F : Nat → Value) (w : World) (hn : n ≤ 1048576) (h0 : 0 ≤ k0) (h1 : k0 ≤ 1099511627776) (ho : w.rowIs g 3 n F) :
    Calls Try.prog 36 #[.slice (some ⟨g, 0, none⟩) n cap, .int .i64 k0] w fun e w' => e = .returned (.int .i64 (k0 + n)) ∧ w'.rowIs g 3 n (fun j => .int .i64 (k0 + j)) ∧ Only g w w' := by
  go_enter Try.func36, Try.ntmps36
  go_wp2
  go_loopw [1, 5] (fun m i wr => ∃ k : Nat, k ≤ n ∧ i = .int .i64 k ∧ m = .int .i64 (k0 + k) ∧ wr.rowIs g 3 n (fun j => if j < k then .int .i64 (k0 + j) else F j) ∧ Only g w wr) (fun _ i _ => n - (intOf i).toNat)
  case atStart => exact ⟨0, Nat.zero_le _, rfl, by simp, ho.congr (by intro i _; simp), Only.refl _ _⟩
  case round =>
    obtain ⟨k, hk, rfl, rfl, hrow, hbel⟩ := hrel
    by_cases hlt : k < n
    · have hf := hrow.frozen k
      have hc := hrow.cell hlt
      have R := imark_row_step hrow
      have R2 := hbel.setCell (i := k) (.int .i64 (k0 + k))
      clear hrow ho
      go_wp2
      go_roundw
      case rel => exact ⟨k + 1, by omega, by go_num, by go_num, R, R2⟩
      case measure => simp [intOf]; omega
    · have hkn : k = n := by omega
      subst hkn
      go_wp2
      go_ret
      exact ⟨rfl, hrow.congr (by intro i hi; rw [if_pos (by omega)]), hbel⟩
end Go.Proofs.Ytjbhgedbkajmdaa

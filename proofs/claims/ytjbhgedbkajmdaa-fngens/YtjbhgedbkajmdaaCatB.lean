/- slices.Concat at bytes; what is appended may be nil. -/
import Derived.Test.YtjbhgedbkajmdaaBodS
import Derived.Laws.AppendOwnNone
import Derived.Lib.AppendZeros
namespace Go.Proofs.Ytjbhgedbkajmdaa
open Go.ChangeShapes Go.WideShapes Go.ChangeAt Go.RowKit
set_option linter.unusedVariables false
set_option linter.unusedSimpArgs false

/-- A slice that holds the numbers L, or nil where there are none. -/
def Src (k : IntKind) (w : World) (x : Value) (L : List Int) : Prop :=
  (x = .slice none 0 0 ∧ L = []) ∨ ∃ ad c, x = .slice (some ad) L.length c ∧ ∀ j u, (L.map (Value.int k))[j]? = some u → w.cell? (ad.add j) = some u
theorem Src.of_owns {w : World} {B : Nat} {v : Value} {L : List Int} {k : IntKind} {t : TypeId} (h : w.ownsRow B t 1 v L.length (L.map (.int k))) : Src k w v L := by
  rcases h.2 with ⟨e, h0⟩ | ⟨g, cap, cur, e, hge, hc, _⟩
  · exact .inl ⟨e, List.length_eq_zero_iff.1 h0⟩
  · exact .inr ⟨⟨g, 0, none⟩, cap, e, h.cells (by rw [e]; rfl)⟩
theorem Src.below {k : IntKind} {w w' : World} {x : Value} {L : List Int} (h : Src k w x L) (hb : Below w.heap.size w w') : Src k w' x L := by
  rcases h with h | ⟨ad, c, e, hc⟩
  · exact .inl h
  · refine .inr ⟨ad, c, e, fun j u hu => ?_⟩
    have h1 := hc j u hu
    exact (hb.cell (lt_of_cell h1)).trans h1
theorem Src.form {k : IntKind} {w : World} {x : Value} {L : List Int} (h : Src k w x L) : ∃ ao c, x = .slice ao L.length c := by
  rcases h with ⟨e, rfl⟩ | ⟨ad, c, e, _⟩
  · exact ⟨none, 0, e⟩
  · exact ⟨some ad, c, e⟩
theorem Src.of_sl {k : IntKind} {w : World} {ao : Option Addr} {n c : Nat} {f : Nat → Int} (h : SL k w ao n f) (h0 : ao = none → n = 0 ∧ c = 0) : Src k w (.slice ao n c) ((List.range n).map f) := by
  cases ao with
  | none =>
    obtain ⟨rfl, rfl⟩ := h0 rfl
    exact .inl ⟨rfl, rfl⟩
  | some ad =>
    refine .inr ⟨ad, c, by simp, fun j u hu => ?_⟩
    have hj : j < n := by
      by_cases hj : j < n
      · exact hj
      · rw [List.getElem?_eq_none (by simp; omega)] at hu; cases hu
    obtain ⟨b, off, e, hlt, hc⟩ := h j hj
    simp only [Option.some.injEq] at e
    subst e
    rw [Addr.add_lit, hc]
    simpa [hj] using hu

theorem Src.slu {w : World} {ao : Option Addr} {c : Nat} {L : List Int} {k : IntKind} (h : Src k w (.slice ao L.length c) L) : SL k w ao L.length (fun i => L.getD i 0) := by
  intro i hi
  rcases h with ⟨_, rfl⟩ | ⟨ad, c', e, hc⟩
  · simp at hi
  · cases e
    have h1 := hc i (.int k (L.getD i 0)) (by simp [List.getD, hi])
    obtain ⟨b, off, spot⟩ := ad
    have h2 := hc 0 (.int k (L.getD 0 0)) (by simp [List.getD, show 0 < L.length by omega])
    have hspot : spot = none := by simpa [Addr.add] using World.cell?_spot h2
    subst hspot
    rw [Addr.add_lit] at h1
    exact ⟨b, off, rfl, lt_of_cell h1, h1⟩

theorem grownBy_refl (w : World) (r : Option Nat) : w.grownBy w r := by
  constructor <;> first | exact Nat.le_refl _ | (intros; rfl) | skip

theorem wpList_append_src {P : Program} {w : World} {ops : Array Oper} {rest : List Oper} {o : Oper} {a : Act} {Q : Exit → Act → World → Prop} (hgd : o.guard = none) (s x : Operand) (t : TypeId)
    (ho : o.op = .call { callee := .builtin .append, args := #[s, x], argTypes := #[t, t] })
    (base : Nat) (e : TypeId) (i : TypeInfo) (z : Value) (bytes : Nat) (ht : P.underlying t = some (.slice e)) (hi : P.info? e = some i) (hz : i.zero = some z)
    (hsize : i.size = 1) (hby : i.bytes = bytes) (hzs : z.cells.size = 1) (k : IntKind)
    (v : Value) (M : List Int) (hs : a.eval s = v) (hown : w.ownsRow base e 1 v M.length (M.map (.int k)))
    (xv : Value) (L : List Int) (hx : a.eval x = xv) (hsrc : Src k w xv L)
    (h63 : M.length + L.length ≤ maxLen) (hbytes : (M.length + L.length) * bytes ≤ 140737488355328) (hbase : base ≤ w.heap.size)
    (h : ∀ v' w', w'.ownsRow base e 1 v' (M ++ L).length ((M ++ L).map (.int k)) → w.grownBy w' v.ownBlock → wpList P ops Q rest (a.put o.dst v') w') : wpList P ops Q (o :: rest) a w := by
  rcases hsrc with ⟨e1, rfl⟩ | ⟨ad, c, e1, hc⟩
  · refine wpList_append_own_none hgd s x t ho base e i 1 ht hi v M.length (M.map (.int k)) hs hown (hx.trans e1) ?_
    exact h v w (by simpa using hown) (grownBy_refl _ _)
  · refine wpList_append_own w hgd s x t ho base e i z 1 bytes ht hi hz hsize hby hzs (by decide) v M.length (M.map (.int k)) hs hown ad L.length c (L.map (.int k)) (hx.trans e1) (by simp) hc (gones _ _) h63 hbytes hbase ?_
    intro v' w' h1 h2 _
    exact h v' w' (by simpa using h1) h2

set_option maxRecDepth 100000 in
theorem bgrow_any (n : Nat) (w : World) (hn : n ≤ 4194304) :
    Calls Try.prog 79 #[.slice none 0 0, .int .i64 (n : Int)] w fun e w' => ∃ v, e = .returned v ∧ w'.ownsRow w.heap.size 5 1 v 0 (([] : List Int).map (.int .u8)) ∧ Below w.heap.size w w' := by
  obtain ⟨i0, hi0, hz0, hz1, hz2⟩ := info_parts Try.info5
  by_cases h0 : n = 0
  · subst h0
    go_enter Try.func79, Try.ntmps79
    go_wp2
    go_ret
    exact ⟨_, rfl, gnil, Below.refl _ _⟩
  · have hrz : ∀ ty, (Builtin.append_ #[22, 3] ty #[.slice none 0 0, .int .i64 (n : Int)]).run Try.prog w =
        .ok (.slice (some ⟨w.heap.size, 0, none⟩) n (grownCap w n 0 5)) (w.drew.alloc (.cells (Builtin.zeroCells (Value.int .u8 0).cells n ++ Builtin.zeroCells (Value.int .u8 0).cells (grownCap w n 0 5 - n)) 5)) := fun ty =>
      Lib.run_append_nil_zeros w 22 3 ty 5 i0 _ .u8 .i64 Try.underlying22 Try.underlying3 hi0 hz0 n (by omega) (by omega) (by omega) (by rw [hz2]; omega)
    have hGn : n ≤ grownCap w n 0 5 := grownCap_ge w _ _ _
    have hGm : grownCap w n 0 5 ≤ maxLen := grownCap_le_maxLen w n 0 5 (by unfold maxLen; omega)
    generalize grownCap w n 0 5 = G at *
    obtain ⟨ROW, hROW⟩ : ∃ ROW : Array Value, ROW = Builtin.zeroCells (Value.int .u8 0).cells n ++ Builtin.zeroCells (Value.int .u8 0).cells (G - n) := ⟨_, rfl⟩
    have hRs : ROW.size = G := by rw [hROW]; simp [Builtin.zeroCells, Value.cells]; omega
    rw [← hROW] at hrz
    have hfin : (w.drew.alloc (.cells ROW 5)).ownsRow w.heap.size 5 1 (.slice (some ⟨w.heap.size, 0, none⟩) 0 G) 0 (([] : List Int).map (.int .u8)) :=
      ⟨rfl, .inr ⟨_, G, ROW, rfl, Nat.le_refl _, Deep.blk_alloc_new w.drew _, by omega, hGm, by omega, by simp⟩⟩
    have hB : Below w.heap.size w (w.drew.alloc (.cells ROW 5)) := (Below.drawn (Below.refl _ w) 1).alloc (Nat.le_refl _) _
    obtain ⟨W1, hW⟩ : ∃ W1, W1 = w.drew.alloc (.cells ROW 5) := ⟨_, rfl⟩
    rw [← hW] at hrz hfin hB
    have R := hide (And.intro hfin hB)
    clear hfin hB hW hROW hRs
    unfold maxLen at hGm
    have hpos : (0 : Int) < (n : Int) := by omega
    go_enter Try.func79, Try.ntmps79
    go_wp2_with (first
      | (at_builtin; refine Lib.wpList_append_run _ rfl _ _ _ _ rfl _ _ rfl rfl _ _ (hrz _) ?_))
    go_wp2
    go_ret
    exact ⟨_, rfl, R.out⟩

/-- The first k lists, one behind the other. -/
def catk (L : Nat → List Int) : Nat → List Int
  | 0 => []
  | k + 1 => catk L k ++ L k
theorem catk_len (L : Nat → List Int) (k : Nat) : (catk L (k + 1)).length = (catk L k).length + (L k).length := by simp [catk]
theorem catk_le (L : Nat → List Int) (k n : Nat) (h : k ≤ n) : (catk L k).length ≤ (catk L n).length := by
  induction n with
  | zero => obtain rfl : k = 0 := by omega
            exact Nat.le_refl _
  | succ n ih =>
    by_cases e : k = n + 1
    · subst e; exact Nat.le_refl _
    · have := ih (by omega); rw [catk_len]; omega

set_option maxRecDepth 100000 in
theorem bconcat_any (vb N : Nat) (ao : Nat → Option Addr) (c : Nat → Nat) (L : Nat → List Int) (w : World) (hN : N ≤ 16) (hlen : (catk L N).length ≤ 1048576) (hvlt : vb < w.heap.size)
    (hv : ∀ k, k < N → w.cell? ⟨vb, k, none⟩ = some (.slice (ao k) (L k).length (c k))) (hs : ∀ k, k < N → Src .u8 w (.slice (ao k) (L k).length (c k)) (L k)) :
    Calls Try.prog 41 #[.slice (some ⟨vb, 0, none⟩) N N] w fun e w' => ∃ v, e = .returned v ∧ w'.ownsRow w.heap.size 5 1 v (catk L N).length ((catk L N).map (.int .u8)) ∧ Below w.heap.size w w' := by
  obtain ⟨i0, hi, hz0, hz1, hz2⟩ := info_parts Try.info5
  have HV := hide hv
  have HS := hide hs
  clear hv hs
  go_enter Try.func41, Try.ntmps41
  go_wp2
  go_loop [3, 5, 11] (fun s _ i => ∃ k : Nat, k ≤ N ∧ i = .int .i64 k ∧ s = .int .i64 ((catk L k).length : Nat)) (fun _ _ i => N - (intOf i).toNat)
  case atStart => exact ⟨0, by omega, rfl, rfl⟩
  case round =>
    obtain ⟨k, hk, rfl, rfl⟩ := hrel
    by_cases hlt : k < N
    · have c0 := HV.out k hlt
      have hk1 := catk_le L (k + 1) N (by omega)
      have hk2 := catk_len L k
      generalize hx : (catk L k).length = x at *
      generalize hy : (L k).length = y at *
      have hle : (0 : Int) ≤ (x : Int) + (y : Int) := by omega
      go_wp2
      go_round
      case rel => exact ⟨k + 1, by omega, by go_num, by rw [hk2]; go_num⟩
      case measure => simp [intOf]; omega
    · obtain rfl : k = N := by omega
      go_wp2_with fail
      refine (bgrow_any (catk L k).length _ (by omega)).mono ?_
      rintro e w1 ⟨v1, rfl, ho1, b1⟩
      have HO1 := hide ho1
      have HB1 := hide b1
      clear ho1 b1
      go_wp2_with fail
      go_loopw [6, 8, 27] (fun v _ i wr => ∃ j : Nat, j ≤ k ∧ i = .int .i64 j ∧ Hid (wr.ownsRow w.heap.size 5 1 v (catk L j).length ((catk L j).map (.int .u8)) ∧ Below w.heap.size w wr)) (fun _ _ i _ => k - (intOf i).toNat)
      case atStart => exact ⟨0, by omega, rfl, HO1.out, HB1.out⟩
      case round =>
        obtain ⟨j, hj, rfl, HI⟩ := hrel
        clear HO1 HB1
        by_cases hlt : j < k
        · have d0 := (HI.out.2.cell (p := ⟨vb, j, none⟩) hvlt).trans (HV.out j hlt)
          have hsrc := hide ((HS.out j hlt).below HI.out.2)
          have hsz := HI.out.2.size
          have hk1 := catk_le L (j + 1) k (by omega)
          have hk2 := catk_len L j
          have hLj : Hid (catk L (j + 1) = catk L j ++ L j) := rfl
          generalize L j = M at *
          generalize catk L j = C at *
          go_wp2_with (first
            | (at_builtin; refine wpList_append_src rfl _ _ 22 rfl w.heap.size 5 i0 (.int .u8 0) 1 Try.underlying22 hi hz0 hz1 hz2 rfl .u8 _ C rfl HI.out.1 _ M rfl hsrc.out (glens (by omega)) (by omega) hsz ?_; intro v' w2 hown' hgrow))
          have R := hide (And.intro hown' (ggrown HI.out.2 hsz HI.out.1 hgrow))
          clear hown' hgrow
          go_wp2
          go_roundw
          case rel => exact ⟨j + 1, by omega, by go_num, by rw [hLj.out]; exact R.out⟩
          case measure => simp [intOf]; omega
        · obtain rfl : j = k := by omega
          go_wp2
          go_ret
          exact ⟨_, rfl, HI.out⟩
end Go.Proofs.Ytjbhgedbkajmdaa

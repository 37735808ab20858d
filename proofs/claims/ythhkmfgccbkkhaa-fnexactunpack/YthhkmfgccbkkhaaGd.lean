/- slices.Concat at bytes; what is appended may be nil. -/
import Derived.Test.YthhkmfgccbkkhaaGc
import Derived.Laws.AppendOwnNone
import Derived.Lib.AppendZeros
import Derived.Test.YthhkmfgccbkkhaaGa
import Derived.Deep.QuietTactic

namespace Go.Proofs.Ythhkmfgccbkkhaa
open Go.ChangeShapes Go.WideShapes Go.ChangeAt Go.RowKit
set_option linter.unusedVariables false
set_option linter.unusedSimpArgs false

/-- A slice that holds the numbers L, or nil where there are none. -/
def Src (k : IntKind) (w : World) (x : Value) (L : List Int) : Prop :=
  (x = .slice none 0 0 ∧ L = []) ∨ ∃ ad c, x = .slice (some ad) L.length c ∧ ∀ j u, (L.map (Value.int k))[j]? = some u → w.cell? (ad.add j) = some u
theorem Src.of_owns {w : World} {B : Nat} {v : Value} {L : List Int} {k : IntKind} {t : TypeId} (h : w.ownsRow B t 1 v L.length (L.map (.int k))) : Src k w v L := by
  rcases h.2 with ⟨e, h0⟩ | ⟨g, cap, cur, e, hge, hc, _⟩
  · exact .inl ⟨e, List.length_eq_zero_iff.1 h0⟩
  · exact .inr ⟨⟨g, 0, none⟩, cap, e, h.cells (by rw [e]; rfl)⟩
theorem Src.below {k : IntKind} {w w' : World} {x : Value} {L : List Int} (h : Src k w x L) (hb : Below w.heap.size w w') : Src k w' x L := by
  rcases h with h | ⟨ad, c, e, hc⟩
  · exact .inl h
  · refine .inr ⟨ad, c, e, fun j u hu => ?_⟩
    have h1 := hc j u hu
    exact (hb.cell (lt_of_cell h1)).trans h1
theorem Src.form {k : IntKind} {w : World} {x : Value} {L : List Int} (h : Src k w x L) : ∃ ao c, x = .slice ao L.length c := by
  rcases h with ⟨e, rfl⟩ | ⟨ad, c, e, _⟩
  · exact ⟨none, 0, e⟩
  · exact ⟨some ad, c, e⟩
theorem Src.of_sl {k : IntKind} {w : World} {ao : Option Addr} {n c : Nat} {f : Nat → Int} (h : SL k w ao n f) (h0 : ao = none → n = 0 ∧ c = 0) : Src k w (.slice ao n c) ((List.range n).map f) := by
  cases ao with
  | none =>
    obtain ⟨rfl, rfl⟩ := h0 rfl
    exact .inl ⟨rfl, rfl⟩
  | some ad =>
    refine .inr ⟨ad, c, by simp, fun j u hu => ?_⟩
    have hj : j < n := by
      by_cases hj : j < n
      · exact hj
      · rw [List.getElem?_eq_none (by simp; omega)] at hu; cases hu
    obtain ⟨b, off, e, hlt, hc⟩ := h j hj
    simp only [Option.some.injEq] at e
    subst e
    rw [Addr.add_lit, hc]
    simpa [hj] using hu

theorem grownBy_refl (w : World) (r : Option Nat) : w.grownBy w r := by
  constructor <;> first | exact Nat.le_refl _ | (intros; rfl) | skip

theorem wpList_append_src {P : Program} {w : World} {ops : Array Oper} {rest : List Oper} {o : Oper} {a : Act} {Q : Exit → Act → World → Prop} (hgd : o.guard = none) (s x : Operand) (t : TypeId)
    (ho : o.op = .call { callee := .builtin .append, args := #[s, x], argTypes := #[t, t] })
    (base : Nat) (e : TypeId) (i : TypeInfo) (z : Value) (bytes : Nat) (ht : P.underlying t = some (.slice e)) (hi : P.info? e = some i) (hz : i.zero = some z)
    (hsize : i.size = 1) (hby : i.bytes = bytes) (hzs : z.cells.size = 1) (k : IntKind)
    (v : Value) (M : List Int) (hs : a.eval s = v) (hown : w.ownsRow base e 1 v M.length (M.map (.int k)))
    (xv : Value) (L : List Int) (hx : a.eval x = xv) (hsrc : Src k w xv L)
    (h63 : M.length + L.length ≤ maxLen) (hbytes : (M.length + L.length) * bytes ≤ 140737488355328) (hbase : base ≤ w.heap.size)
    (h : ∀ v' w', w'.ownsRow base e 1 v' (M ++ L).length ((M ++ L).map (.int k)) → w.grownBy w' v.ownBlock → wpList P ops Q rest (a.put o.dst v') w') : wpList P ops Q (o :: rest) a w := by
  rcases hsrc with ⟨e1, rfl⟩ | ⟨ad, c, e1, hc⟩
  · refine wpList_append_own_none hgd s x t ho base e i 1 ht hi v M.length (M.map (.int k)) hs hown (hx.trans e1) ?_
    exact h v w (by simpa using hown) (grownBy_refl _ _)
  · refine wpList_append_own w hgd s x t ho base e i z 1 bytes ht hi hz hsize hby hzs (by decide) v M.length (M.map (.int k)) hs hown ad L.length c (L.map (.int k)) (hx.trans e1) (by simp) hc (gones _ _) h63 hbytes hbase ?_
    intro v' w' h1 h2 _
    exact h v' w' (by simpa using h1) h2

set_option maxRecDepth 100000 in
theorem bgrow_any (n : Nat) (w : World) (hn : n ≤ 4194304) :
    Calls Try.prog 82 #[.slice none 0 0, .int .i64 (n : Int)] w fun e w' => ∃ v, e = .returned v ∧ w'.ownsRow w.heap.size 5 1 v 0 (([] : List Int).map (.int .u8)) ∧ Below w.heap.size w w' := by
  obtain ⟨i0, hi0, hz0, hz1, hz2⟩ := info_parts Try.info5
  by_cases h0 : n = 0
  · subst h0
    go_enter Try.func82, Try.ntmps82
    go_wp2
    go_ret
    exact ⟨_, rfl, gnil, Below.refl _ _⟩
  · have hrz : ∀ ty, (Builtin.append_ #[22, 3] ty #[.slice none 0 0, .int .i64 (n : Int)]).run Try.prog w =
        .ok (.slice (some ⟨w.heap.size, 0, none⟩) n (grownCap w n 0 5)) (w.drew.alloc (.cells (Builtin.zeroCells (Value.int .u8 0).cells n ++ Builtin.zeroCells (Value.int .u8 0).cells (grownCap w n 0 5 - n)) 5)) := fun ty =>
      Lib.run_append_nil_zeros w 22 3 ty 5 i0 _ .u8 .i64 Try.underlying22 Try.underlying3 hi0 hz0 n (by omega) (by omega) (by omega) (by rw [hz2]; omega)
    have hGn : n ≤ grownCap w n 0 5 := grownCap_ge w _ _ _
    have hGm : grownCap w n 0 5 ≤ maxLen := grownCap_le_maxLen w n 0 5 (by unfold maxLen; omega)
    generalize grownCap w n 0 5 = G at *
    obtain ⟨ROW, hROW⟩ : ∃ ROW : Array Value, ROW = Builtin.zeroCells (Value.int .u8 0).cells n ++ Builtin.zeroCells (Value.int .u8 0).cells (G - n) := ⟨_, rfl⟩
    have hRs : ROW.size = G := by rw [hROW]; simp [Builtin.zeroCells, Value.cells]; omega
    rw [← hROW] at hrz
    have hfin : (w.drew.alloc (.cells ROW 5)).ownsRow w.heap.size 5 1 (.slice (some ⟨w.heap.size, 0, none⟩) 0 G) 0 (([] : List Int).map (.int .u8)) :=
      ⟨rfl, .inr ⟨_, G, ROW, rfl, Nat.le_refl _, Deep.blk_alloc_new w.drew _, by omega, hGm, by omega, by simp⟩⟩
    have hB : Below w.heap.size w (w.drew.alloc (.cells ROW 5)) := (Below.drawn (Below.refl _ w) 1).alloc (Nat.le_refl _) _
    obtain ⟨W1, hW⟩ : ∃ W1, W1 = w.drew.alloc (.cells ROW 5) := ⟨_, rfl⟩
    rw [← hW] at hrz hfin hB
    have R := hide (And.intro hfin hB)
    clear hfin hB hW hROW hRs
    unfold maxLen at hGm
    have hpos : (0 : Int) < (n : Int) := by omega
    go_enter Try.func82, Try.ntmps82
    go_wp2_with (first
      | (at_builtin; refine Lib.wpList_append_run _ rfl _ _ _ _ rfl _ _ rfl rfl _ _ (hrz _) ?_))
    go_wp2
    go_ret
    exact ⟨_, rfl, R.out⟩

/-- The first k lists, one behind the other. -/
def catk (L : Nat → List Int) : Nat → List Int
  | 0 => []
  | k + 1 => catk L k ++ L k
theorem catk_len (L : Nat → List Int) (k : Nat) : (catk L (k + 1)).length = (catk L k).length + (L k).length := by simp [catk]
theorem catk_le (L : Nat → List Int) (k n : Nat) (h : k ≤ n) : (catk L k).length ≤ (catk L n).length := by
  induction n with
  | zero => obtain rfl : k = 0 := by omega
            exact Nat.le_refl _
  | succ n ih =>
    by_cases e : k = n + 1
    · subst e; exact Nat.le_refl _
    · have := ih (by omega); rw [catk_len]; omega

set_option maxRecDepth 100000 in
theorem bconcat_any (vb N : Nat) (ao : Nat → Option Addr) (c : Nat → Nat) (L : Nat → List Int) (w : World) (hN : N ≤ 16) (hlen : (catk L N).length ≤ 1048576) (hvlt : vb < w.heap.size)
    (hv : ∀ k, k < N → w.cell? ⟨vb, k, none⟩ = some (.slice (ao k) (L k).length (c k))) (hs : ∀ k, k < N → Src .u8 w (.slice (ao k) (L k).length (c k)) (L k)) :
    Calls Try.prog 43 #[.slice (some ⟨vb, 0, none⟩) N N] w fun e w' => ∃ v, e = .returned v ∧ w'.ownsRow w.heap.size 5 1 v (catk L N).length ((catk L N).map (.int .u8)) ∧ Below w.heap.size w w' := by
  obtain ⟨i0, hi, hz0, hz1, hz2⟩ := info_parts Try.info5
  have HV := hide hv
  have HS := hide hs
  clear hv hs
  go_enter Try.func43, Try.ntmps43
  go_wp2
  go_loop [3, 5, 11] (fun s _ i => ∃ k : Nat, k ≤ N ∧ i = .int .i64 k ∧ s = .int .i64 ((catk L k).length : Nat)) (fun _ _ i => N - (intOf i).toNat)
  case atStart => exact ⟨0, by omega, rfl, rfl⟩
  case round =>
    obtain ⟨k, hk, rfl, rfl⟩ := hrel
    by_cases hlt : k < N
    · have c0 := HV.out k hlt
      have hk1 := catk_le L (k + 1) N (by omega)
      have hk2 := catk_len L k
      generalize hx : (catk L k).length = x at *
      generalize hy : (L k).length = y at *
      have hle : (0 : Int) ≤ (x : Int) + (y : Int) := by omega
      go_wp2
      go_round
      case rel => exact ⟨k + 1, by omega, by go_num, by rw [hk2]; go_num⟩
      case measure => simp [intOf]; omega
    · obtain rfl : k = N := by omega
      go_wp2_with fail
      refine (bgrow_any (catk L k).length _ (by omega)).mono ?_
      rintro e w1 ⟨v1, rfl, ho1, b1⟩
      have HO1 := hide ho1
      have HB1 := hide b1
      clear ho1 b1
      go_wp2_with fail
      go_loopw [6, 8, 27] (fun v _ i wr => ∃ j : Nat, j ≤ k ∧ i = .int .i64 j ∧ Hid (wr.ownsRow w.heap.size 5 1 v (catk L j).length ((catk L j).map (.int .u8)) ∧ Below w.heap.size w wr)) (fun _ _ i _ => k - (intOf i).toNat)
      case atStart => exact ⟨0, by omega, rfl, HO1.out, HB1.out⟩
      case round =>
        obtain ⟨j, hj, rfl, HI⟩ := hrel
        clear HO1 HB1
        by_cases hlt : j < k
        · have d0 := (HI.out.2.cell (p := ⟨vb, j, none⟩) hvlt).trans (HV.out j hlt)
          have hsrc := hide ((HS.out j hlt).below HI.out.2)
          have hsz := HI.out.2.size
          have hk1 := catk_le L (j + 1) k (by omega)
          have hk2 := catk_len L j
          have hLj : Hid (catk L (j + 1) = catk L j ++ L j) := rfl
          generalize L j = M at *
          generalize catk L j = C at *
          go_wp2_with (first
            | (at_builtin; refine wpList_append_src rfl _ _ 22 rfl w.heap.size 5 i0 (.int .u8 0) 1 Try.underlying22 hi hz0 hz1 hz2 rfl .u8 _ C rfl HI.out.1 _ M rfl hsrc.out (glens (by omega)) (by omega) hsz ?_; intro v' w2 hown' hgrow))
          have R := hide (And.intro hown' (ggrown HI.out.2 hsz HI.out.1 hgrow))
          clear hown' hgrow
          go_wp2
          go_roundw
          case rel => exact ⟨j + 1, by omega, by go_num, by rw [hLj.out]; exact R.out⟩
          case measure => simp [intOf]; omega
        · obtain rfl : j = k := by omega
          go_wp2
          go_ret
          exact ⟨_, rfl, HI.out⟩
end Go.Proofs.Ythhkmfgccbkkhaa

/- MsgBytes of the program: its parts. -/
namespace Go.Proofs.Ythhkmfgccbkkhaa
open Go.ChangeShapes Go.WideShapes Go.ChangeAt Go.RowKit
set_option linter.unusedVariables false
set_option linter.unusedSimpArgs false

set_option maxRecDepth 100000 in
theorem putnums_impl (ao : Option Addr) (n cap : Nat) (f : Nat → Int) (w : World) (hn : n ≤ 100) (hs : SL .i64 w ao n f) (hf : ∀ i, i < n → 0 ≤ f i ∧ f i ≤ 2147483647) :
    Calls Try.prog 81 #[.slice ao n cap] w fun e w' => ∃ x, e = .returned x ∧ w'.ownsRow w.heap.size 5 1 x (nums ((List.range n).map f)).length ((nums ((List.range n).map f)).map (.int .u8)) ∧ Below w.heap.size w w' := by
  obtain ⟨i0, hi, hz0, hz1, hz2⟩ := info_parts Try.info5
  have HS := hide hs
  have HF := hide hf
  clear hs hf
  go_enter Try.func81, Try.ntmps81
  go_wp2
  go_loopw [3, 5, 8] (fun v _ i wr => ∃ (j : Nat) (L : List Int), j ≤ n ∧ i = .int .i64 j ∧ Hid (L = nums ((List.range j).map f)) ∧ Hid (wr.ownsRow w.heap.size 5 1 v L.length (L.map (.int .u8)) ∧ Below w.heap.size w wr)) (fun _ _ i _ => n - (intOf i).toNat)
  case atStart => exact ⟨0, [], by omega, rfl, rfl, gnil, Below.refl _ _⟩
  case round =>
    obtain ⟨j, L, hj, rfl, HL, HI⟩ := hrel
    have hLl : L.length ≤ 5 * j := by have := nums_len ((List.range j).map f); rw [← HL.out] at this; simpa using this
    by_cases hlt : j < n
    · obtain ⟨b, off, rfl, hb, hcj0⟩ := HS.out j hlt
      have hcj := (HI.out.2.cell (p := ⟨b, off + j, none⟩) hb).trans hcj0
      obtain ⟨hz1', hz2'⟩ := HF.out j hlt
      have hnx : Hid (nums ((List.range (j + 1)).map f) = L ++ pb 4 (f j)) := (show _ = _ by
        rw [List.range_succ, List.map_append, nums_app, ← HL.out]; simp [nums_one])
      generalize f j = z at *
      clear hcj0
      go_wp2_with fail
      refine (put_impl z _ hz1' hz2').mono ?_
      rintro e w3 ⟨v3, rfl, ho3, hb3⟩
      have hpl := pb_len 4 z
      have HSR := hide (Src.of_owns ho3)
      have HI3 : Hid (w3.ownsRow w.heap.size 5 1 u3 (L.length) (L.map (.int .u8)) ∧ Below w.heap.size w w3) := ⟨gbelow HI.out.1 hb3, HI.out.2.trans (hb3.mono HI.out.2.size)⟩
      generalize pb 4 z = M at hpl HSR hnx
      have hsz := HI3.out.2.size
      clear ho3 hb3 HI hcj
      go_wp2_with (first
        | (at_builtin; refine wpList_append_src rfl _ _ 22 rfl w.heap.size 5 i0 (.int .u8 0) 1 Try.underlying22 hi hz0 hz1 hz2 rfl .u8 _ L rfl HI3.out.1 _ M rfl HSR.out (glens (by omega)) (by omega) hsz ?_; intro v' w4 hown' hgrow))
      have R := hide (And.intro hown' (ggrown HI3.out.2 hsz HI3.out.1 hgrow))
      clear hown' hgrow
      go_wp2
      go_roundw
      case rel => exact ⟨j + 1, L ++ M, by omega, by go_num, (show _ = _ by rw [hnx.out]), R.out⟩
      case measure => simp [intOf]; omega
    · obtain rfl : j = n := by omega
      go_wp2
      go_ret
      rw [← HL.out]
      exact ⟨_, rfl, HI.out⟩

/-- What is left behind k bytes, and the first k of them. -/
def dk (x : Int) : Nat → Int
  | 0 => x
  | k + 1 => dk x k / 256
def fk (x : Int) : Nat → List Int
  | 0 => []
  | k + 1 => fk x k ++ [dk x k % 256]
theorem fk_len (x : Int) (k : Nat) : (fk x k).length = k := by
  induction k with
  | zero => rfl
  | succ k ih => simp [fk, ih]
theorem dk_bd (x : Int) (k : Nat) (h0 : 0 ≤ x) (h1 : x < 4294967296) : 0 ≤ dk x k ∧ dk x k < 4294967296 := by
  induction k with
  | zero => exact ⟨h0, h1⟩
  | succ k ih => simp only [dk]; omega
theorem fk_four (x : Int) : fk x 4 = s4 x := by
  simp only [fk, dk, s4, List.nil_append, List.cons_append]
  rw [show x / 256 / 256 = x / 65536 by omega, show x / 65536 / 256 = x / 16777216 by omega]

set_option maxRecDepth 100000 in
theorem low4_impl (x : Int) (w : World) (h0 : 0 ≤ x) (h1 : x < 4294967296) :
    Calls Try.prog 45 #[.int .i64 x, .int .i64 4] w fun e w' => ∃ v, e = .returned v ∧ w'.ownsRow w.heap.size 5 1 v (s4 x).length ((s4 x).map (.int .u8)) ∧ Below w.heap.size w w' := by
  obtain ⟨i0, hi, hz0, hz1, hz2⟩ := info_parts Try.info5
  go_enter Try.func45, Try.ntmps45
  go_wp2
  go_loopw [0, 5, 7] (fun y v i wr => ∃ k : Nat, k ≤ 4 ∧ i = .int .i64 k ∧ y = .int .i64 (dk x k) ∧ Hid (wr.ownsRow w.heap.size 5 1 v (fk x k).length ((fk x k).map (.int .u8)) ∧ Below w.heap.size w wr)) (fun _ _ i _ => 4 - (intOf i).toNat)
  case atStart => exact ⟨0, by omega, rfl, rfl, gnil, Below.refl _ _⟩
  case round =>
    obtain ⟨k, hk, rfl, rfl, HI⟩ := hrel
    have hd := dk_bd x k h0 h1
    have hfl := fk_len x k
    by_cases hlt : k < 4
    · have E1 : Hid (dk x (k + 1) = dk x k / 256) := rfl
      have E2 : Hid (fk x (k + 1) = fk x k ++ [dk x k % 256]) := rfl
      generalize dk x k = y at *
      generalize fk x k = L at *
      have HI2 : Hid (∀ o, (wr.alloc o).ownsRow w.heap.size 5 1 u5 L.length (L.map (.int .u8))) := fun o => HI.out.1.alloc o
      have HB2 : Hid (∀ o, Below w.heap.size w (wr.alloc o)) := fun o => HI.out.2.alloc HI.out.2.size o
      have HSR : Hid (Src .u8 (wr.alloc (.cells #[.int .u8 (y % 256)] 5)) (.slice (some ⟨wr.heap.size, 0, none⟩) 1 1) [y % 256]) := .inr ⟨⟨wr.heap.size, 0, none⟩, 1, rfl, gcells wr [.int .u8 (y % 256)] 5⟩
      go_wp2_with (first
        | (at_builtin; refine wpList_append_src rfl _ _ 22 rfl w.heap.size 5 i0 (.int .u8 0) 1 Try.underlying22 hi hz0 hz1 hz2 rfl .u8 _ L rfl (HI2.out _) _ [y % 256] rfl HSR.out (glens (by simp; omega)) (by simp; omega) (HB2.out _).size ?_; intro v' w4 hown' hgrow))
      have R := hide (And.intro hown' (ggrown (HB2.out _) (HB2.out _).size HI.out.1 hgrow))
      clear hown' hgrow HI2 HB2 HSR
      go_wp2
      go_roundw
      case rel => exact ⟨k + 1, by omega, by go_num, by rw [E1.out], by rw [E2.out]; exact R.out⟩
      case measure => simp [intOf]; omega
    · obtain rfl : k = 4 := by omega
      go_wp2
      go_ret
      rw [← fk_four]
      exact ⟨_, rfl, HI.out⟩

theorem bconcat3 (vb : Nat) (a0 a1 a2 : Option Addr) (c0 c1 c2 : Nat) (L0 L1 L2 : List Int) (w : World) (hlen : L0.length + L1.length + L2.length ≤ 1048576) (hv : w.heap[vb]? = some (.cells #[.slice a0 L0.length c0, .slice a1 L1.length c1, .slice a2 L2.length c2] 22 (0, 0)))
    (h0 : Src .u8 w (.slice a0 L0.length c0) L0) (h1 : Src .u8 w (.slice a1 L1.length c1) L1) (h2 : Src .u8 w (.slice a2 L2.length c2) L2) :
    Calls Try.prog 43 #[.slice (some ⟨vb, 0, none⟩) 3 3] w fun e w' => ∃ v, e = .returned v ∧ w'.ownsRow w.heap.size 5 1 v (L0 ++ L1 ++ L2).length ((L0 ++ L1 ++ L2).map (.int .u8)) ∧ Below w.heap.size w w' := by
  have h := bconcat_any vb 3 (fun k => if k = 0 then a0 else if k = 1 then a1 else a2) (fun k => if k = 0 then c0 else if k = 1 then c1 else c2) (fun k => if k = 0 then L0 else if k = 1 then L1 else L2) w (by omega) (by simp [catk]; omega) (Array.getElem?_eq_some_iff.1 hv).1
    (fun k hk => by
      obtain rfl | rfl | rfl : k = 0 ∨ k = 1 ∨ k = 2 := by omega
      · exact blk_cell hv rfl
      · exact blk_cell hv rfl
      · exact blk_cell hv rfl)
    (fun k hk => by
      obtain rfl | rfl | rfl : k = 0 ∨ k = 1 ∨ k = 2 := by omega
      · exact h0
      · exact h1
      · exact h2)
  simpa [catk] using h
end Go.Proofs.Ythhkmfgccbkkhaa

/- MsgBytes of the program. -/
namespace Go.Proofs.Ythhkmfgccbkkhaa
open Go.ChangeShapes Go.WideShapes Go.ChangeAt Go.RowKit
set_option linter.unusedVariables false
set_option linter.unusedSimpArgs false

set_option maxHeartbeats 1000000 in
set_option maxRecDepth 100000 in
theorem body_impl (ao : Option Addr) (n cap : Nat) (f : Nat → Int) (k c v h : Int) (w : World) (hn : n ≤ 12) (hs : SL .i64 w ao n f) (hf : ∀ i, i < n → 0 ≤ f i ∧ f i ≤ 2147483647)
    (hk : 0 ≤ k ∧ k ≤ 2147483647) (hc : 0 ≤ c ∧ c ≤ 2147483647) (hv : 0 ≤ v ∧ v ≤ 2147483647) (hh : 0 ≤ h ∧ h ≤ 2147483647) :
    Calls Try.prog 42 #[.agg #[.int .i64 k, .int .i64 c, .int .i64 v, .int .i64 h, .slice ao n cap]] w fun e w' => ∃ x, e = .returned x ∧ w'.ownsRow w.heap.size 5 1 x (mbody k c v h f n).length ((mbody k c v h f n).map (.int .u8)) ∧ Below w.heap.size w w' := by
  have HMB : Hid (mbody k c v h f n = nums [k, c, v, h] ++ pb 4 (n : Int) ++ nums ((List.range n).map f)) := (show _ = _ by
    unfold mbody
    rw [show [k, c, v, h, (n : Int)] ++ (List.range n).map f = [k, c, v, h] ++ ([(n : Int)] ++ (List.range n).map f) from rfl, nums_app, nums_app, nums_one, List.append_assoc])
  have hA : Hid (∀ W ad, SL .i64 W (some ad) 4 (fun i => [k, c, v, h].getD i 0) → Calls Try.prog 81 #[.slice (some ad) 4 4] W fun e w' => ∃ x, e = .returned x ∧ w'.ownsRow W.heap.size 5 1 x (nums [k, c, v, h]).length ((nums [k, c, v, h]).map (.int .u8)) ∧ Below W.heap.size W w') := fun W ad hW => by
    have := putnums_impl (some ad) 4 4 (fun i => [k, c, v, h].getD i 0) W (by omega) hW (fun i hi => by
      obtain rfl | rfl | rfl | rfl : i = 0 ∨ i = 1 ∨ i = 2 ∨ i = 3 := by omega
      · exact hk
      · exact hc
      · exact hv
      · exact hh)
    exact this
  have hG : Hid (∀ W, SL .i64 W ao n f → Calls Try.prog 81 #[.slice ao n cap] W fun e w' => ∃ x, e = .returned x ∧ w'.ownsRow W.heap.size 5 1 x (nums ((List.range n).map f)).length ((nums ((List.range n).map f)).map (.int .u8)) ∧ Below W.heap.size W w') := fun W hW => putnums_impl ao n cap f W (by omega) hW hf
  have hP : Hid (∀ W, Calls Try.prog 44 #[.int .i64 (n : Int)] W fun e w' => ∃ x, e = .returned x ∧ w'.ownsRow W.heap.size 5 1 x (pb 4 (n : Int)).length ((pb 4 (n : Int)).map (.int .u8)) ∧ Below W.heap.size W w') := fun W => put_impl (n : Int) W (by omega) (by omega)
  have l0 := nums_len [k, c, v, h]
  have l1 := pb_len 4 (n : Int)
  have l2 := nums_len ((List.range n).map f)
  simp only [List.length_cons, List.length_nil, List.length_map, List.length_range] at l0 l2
  rw [HMB.out]
  generalize nums [k, c, v, h] = L0 at *
  generalize pb 4 (n : Int) = L1 at *
  generalize nums ((List.range n).map f) = L2 at *
  obtain ⟨W, hW⟩ : ∃ W, W = w.alloc (.cells #[.int .i64 k, .int .i64 c, .int .i64 v, .int .i64 h, .slice ao n cap] 26) := ⟨_, rfl⟩
  have M1 : MB W w.heap.size 26 k c v h ao n cap := by rw [hW]; exact MB.new w _ _ c v h ao n cap
  have hb : Below w.heap.size w W := by rw [hW]; exact (Below.refl _ _).alloc (Nat.le_refl _) _
  have HA := hide (hs.below hb)
  have HB0 := hide hb
  clear hs hb hf hk hc hv hh HMB
  go_enter Try.func42, Try.ntmps42
  go_wp2_with fail
  rw [← hW]
  refine (headof ao n cap k c v h _).mono ?_
  rintro e w1 ⟨rfl, b1⟩
  have H1 : Hid (MB w1 w.heap.size 26 k c v h ao n cap ∧ SL .i64 w1 ao n f ∧ Below w.heap.size w w1) := ⟨M1.below b1 M1.lt, HA.out.below b1, HB0.out.trans (b1.mono HB0.out.size)⟩
  clear hW M1 HA HB0 b1
  go_wp2_with fail
  obtain ⟨W, hW⟩ : ∃ W, W = w1.alloc (.cells #[.int .i64 k, .int .i64 c, .int .i64 v, .int .i64 h] 92) := ⟨_, rfl⟩
  rw [← hW]
  have bW : Below w1.heap.size w1 W := by rw [hW]; exact (Below.refl _ _).alloc (Nat.le_refl _) _
  have H5 : Hid (MB W.drew w.heap.size 26 k c v h ao n cap ∧ SL .i64 W.drew ao n f ∧ Below w.heap.size w W.drew ∧ SL .i64 W.drew (some ⟨w1.heap.size, 0, none⟩) 4 (fun i => [k, c, v, h].getD i 0)) := by
    have bD := Below.drawn bW 1
    refine ⟨H1.out.1.below bD H1.out.1.lt, H1.out.2.1.below bD, H1.out.2.2.trans (bD.mono H1.out.2.2.size), fun i hi => ⟨w1.heap.size, 0, rfl, ?_, ?_⟩⟩
    · show w1.heap.size < W.heap.size
      rw [hW]; simp
    · have hblk : W.heap[w1.heap.size]? = some (.cells #[.int .i64 k, .int .i64 c, .int .i64 v, .int .i64 h] 92 (0, 0)) := by rw [hW]; exact Deep.blk_alloc_new _ _
      show W.cell? _ = _
      obtain rfl | rfl | rfl | rfl : i = 0 ∨ i = 1 ∨ i = 2 ∨ i = 3 := by omega
      · exact blk_cell hblk rfl
      · exact blk_cell hblk rfl
      · exact blk_cell hblk rfl
      · exact blk_cell hblk rfl
  have m4 := (show MB W w.heap.size 26 k c v h ao n cap from H5.out.1).cells.2.2.2.2
  generalize w1.heap.size = hb at *
  clear hW bW H1
  go_region_held3 (fun w' => w'.cell? ⟨w.heap.size, 4, none⟩ = some (.slice ao n cap)) (first | assumption | exact m4 | exact H8'.out) (first
    | (go_at_call 43; refine (bconcat3 w8.heap.size a6 a7 a8 c6 c7 c8 L0 L1 L2 _ (by omega) (Deep.blk_alloc_new _ _) (H8.out.2.2.1.below H8a.out) (H8.out.2.2.2.1.below H8a.out) (H8.out.2.2.2.2.below H8a.out)).mono ?_; rintro e w9 ⟨v9, rfl, o9, b9⟩; have H9 : Hid (w9.ownsRow w.heap.size 5 1 v9 (L0 ++ L1 ++ L2).length ((L0 ++ L1 ++ L2).map (.int .u8)) ∧ Below w.heap.size w w9) := ⟨gmono o9 (Nat.le_trans H8.out.2.1.size H8a.out.size), (H8.out.2.1.trans (H8a.out.mono H8.out.2.1.size)).trans (b9.mono (Nat.le_trans H8.out.2.1.size H8a.out.size))⟩; have hk9 := (((H8.out.1.below H8a.out H8.out.1.lt)).below b9 (Nat.lt_of_lt_of_le H8.out.1.lt H8a.out.size)).cells.2.2.2.2; clear o9 b9)
    | (go_at_call 81; refine (hG.out w7 H7.out.2.1).mono ?_; rintro e w8 ⟨v8, rfl, o8, b8⟩; obtain ⟨a8, c8, rfl⟩ := (Src.of_owns o8).form; have H8 : Hid (MB w8 w.heap.size 26 k c v h ao n cap ∧ Below w.heap.size w w8 ∧ Src .u8 w8 (.slice a6 L0.length c6) L0 ∧ Src .u8 w8 (.slice a7 L1.length c7) L1 ∧ Src .u8 w8 (.slice a8 L2.length c8) L2) := ⟨H7.out.1.below b8 H7.out.1.lt, H7.out.2.2.1.trans (b8.mono H7.out.2.2.1.size), H7.out.2.2.2.1.below b8, H7.out.2.2.2.2.below b8, Src.of_owns o8⟩; have hk8 := H8.out.1.cells.2.2.2.2; have H8a : Hid (Below w8.heap.size w8 (w8.alloc (.cells #[.slice a6 L0.length c6, .slice a7 L1.length c7, .slice a8 L2.length c8] 22))) := (Below.refl _ _).alloc (Nat.le_refl _) _; have H8' := hide ((H8.out.1.below H8a.out H8.out.1.lt).cells.2.2.2.2); clear o8 b8)
    | (go_at_call 44; refine (hP.out w6).mono ?_; rintro e w7 ⟨v7, rfl, o7, b7⟩; obtain ⟨a7, c7, rfl⟩ := (Src.of_owns o7).form; have H7 : Hid (MB w7 w.heap.size 26 k c v h ao n cap ∧ SL .i64 w7 ao n f ∧ Below w.heap.size w w7 ∧ Src .u8 w7 (.slice a6 L0.length c6) L0 ∧ Src .u8 w7 (.slice a7 L1.length c7) L1) := ⟨H6.out.1.below b7 H6.out.1.lt, H6.out.2.1.below b7, H6.out.2.2.1.trans (b7.mono H6.out.2.2.1.size), H6.out.2.2.2.below b7, Src.of_owns o7⟩; have hk7 := H7.out.1.cells.2.2.2.2; clear o7 b7)
    | (go_at_call 81; refine (hA.out W.drew _ H5.out.2.2.2).mono ?_; rintro e w6 ⟨v6, rfl, o6, b6⟩; obtain ⟨a6, c6, rfl⟩ := (Src.of_owns o6).form; have H6 : Hid (MB w6 w.heap.size 26 k c v h ao n cap ∧ SL .i64 w6 ao n f ∧ Below w.heap.size w w6 ∧ Src .u8 w6 (.slice a6 L0.length c6) L0) := ⟨H5.out.1.below b6 H5.out.1.lt, H5.out.2.1.below b6, H5.out.2.2.1.trans (b6.mono H5.out.2.2.1.size), Src.of_owns o6⟩; have hk6 := H6.out.1.cells.2.2.2.2; clear o6 b6))
  go_wp2
  go_ret
  exact ⟨_, rfl, H9.out⟩
end Go.Proofs.Ythhkmfgccbkkhaa

/- MsgBytes of the program. -/
namespace Go.Proofs.Ythhkmfgccbkkhaa
open Go.ChangeShapes Go.WideShapes Go.ChangeAt Go.RowKit
set_option linter.unusedVariables false
set_option linter.unusedSimpArgs false

theorem msgoki_yes (ao : Option Addr) (n cap : Nat) (f : Nat → Int) (k c v h : Int) (w : World) (hn : n ≤ 1048576) (hcap : n ≤ cap) (hs : SL .i64 w ao n f) (hok : MOk k c v h f n) :
    Calls Try.prog 22 #[.agg #[.int .i64 k, .int .i64 c, .int .i64 v, .int .i64 h, .slice ao n cap]] w fun e w' => e = .returned (.bool true) ∧ Below w.heap.size w w' :=
  (msgok_impl ao n cap f k c v h w hn hcap hs).mono fun _ _ ⟨h1, h2⟩ => ⟨h1.elim (·.2) (fun x => absurd hok x.1), h2⟩
theorem msgoki_no (ao : Option Addr) (n cap : Nat) (f : Nat → Int) (k c v h : Int) (w : World) (hn : n ≤ 1048576) (hcap : n ≤ cap) (hs : SL .i64 w ao n f) (hok : ¬ MOk k c v h f n) :
    Calls Try.prog 22 #[.agg #[.int .i64 k, .int .i64 c, .int .i64 v, .int .i64 h, .slice ao n cap]] w fun e w' => e = .returned (.bool false) ∧ Below w.heap.size w w' :=
  (msgok_impl ao n cap f k c v h w hn hcap hs).mono fun _ _ ⟨h1, h2⟩ => ⟨h1.elim (fun x => absurd x.1 hok) (·.2), h2⟩
theorem Src.slu {w : World} {ao : Option Addr} {c : Nat} {L : List Int} {k : IntKind} (h : Src k w (.slice ao L.length c) L) : SL k w ao L.length (fun i => L.getD i 0) := by
  intro i hi
  rcases h with ⟨_, rfl⟩ | ⟨ad, c', e, hc⟩
  · simp at hi
  · cases e
    have h1 := hc i (.int k (L.getD i 0)) (by simp [List.getD, hi])
    obtain ⟨b, off, spot⟩ := ad
    have h2 := hc 0 (.int k (L.getD 0 0)) (by simp [List.getD, show 0 < L.length by omega])
    have hspot : spot = none := by simpa [Addr.add] using World.cell?_spot h2
    subst hspot
    rw [Addr.add_lit] at h1
    exact ⟨b, off, rfl, lt_of_cell h1, h1⟩

set_option maxHeartbeats 1000000 in
set_option maxRecDepth 100000 in
theorem msgbytes_impl (ao : Option Addr) (n cap : Nat) (f : Nat → Int) (k c v h : Int) (w : World) (hn : n ≤ 1048576) (hcap : n ≤ cap) (hs : SL .i64 w ao n f) :
    Calls Try.prog 11 #[.agg #[.int .i64 k, .int .i64 c, .int .i64 v, .int .i64 h, .slice ao n cap]] w fun e w' => ∃ x, e = .returned x ∧ w'.ownsRow w.heap.size 5 1 x (mb k c v h f n).length ((mb k c v h f n).map (.int .u8)) ∧ Below w.heap.size w w' := by
  have HS := hide hs
  clear hs
  by_cases hok : MOk k c v h f n
  · obtain ⟨hn12, hfb, hkb, hcb, hvb, hhb⟩ := mok_bd hok
    have hmb : mb k c v h f n = framed (mbody k c v h f n) := by unfold mb; rw [if_pos hok]
    rw [hmb]
    have hbl := mbody_len (k := k) (c := c) (v := v) (h := h) (f := f) hn12
    have hbb : Hid (∀ i, i < (mbody k c v h f n).length → 0 ≤ (mbody k c v h f n).getD i 0 ∧ (mbody k c v h f n).getD i 0 ≤ 255) := fun i hi => by
      refine nums_byte ([k, c, v, h, (n : Int)] ++ (List.range n).map f) ?_ _ (getD_mem _ i hi)
      intro x hx
      simp at hx
      rcases hx with rfl | rfl | rfl | rfl | rfl | ⟨j, hj, rfl⟩
      · exact hkb
      · exact hcb
      · exact hvb
      · exact hhb
      · omega
      · exact hfb j hj
    have hcallA : Hid (∀ W, SL .i64 W ao n f → Calls Try.prog 42 #[.agg #[.int .i64 k, .int .i64 c, .int .i64 v, .int .i64 h, .slice ao n cap]] W fun e w' => ∃ x, e = .returned x ∧ w'.ownsRow W.heap.size 5 1 x (mbody k c v h f n).length ((mbody k c v h f n).map (.int .u8)) ∧ Below W.heap.size W w') := fun W hW => body_impl ao n cap f k c v h W hn12 hW hfb hkb hcb hvb hhb
    generalize mbody k c v h f n = B at *
    have HR : Hid (framed B = pb 4 (B.length : Int) ++ B ++ s4 (asum B)) := rfl
    have hP : Hid (∀ W, Calls Try.prog 44 #[.int .i64 (B.length : Int)] W fun e w' => ∃ x, e = .returned x ∧ w'.ownsRow W.heap.size 5 1 x (pb 4 (B.length : Int)).length ((pb 4 (B.length : Int)).map (.int .u8)) ∧ Below W.heap.size W w') := fun W => put_impl (B.length : Int) W (by omega) (by omega)
    have hQ : Hid (∀ W, Calls Try.prog 45 #[.int .i64 (asum B), .int .i64 4] W fun e w' => ∃ x, e = .returned x ∧ w'.ownsRow W.heap.size 5 1 x (s4 (asum B)).length ((s4 (asum B)).map (.int .u8)) ∧ Below W.heap.size W w') := fun W => low4_impl (asum B) W (asum_bd B).1 (asum_bd B).2
    have hSm : Hid (∀ W ao c, Src .u8 W (.slice ao B.length c) B → Calls Try.prog 46 #[.slice ao B.length c] W fun e w' => e = .returned (.int .i64 (asum B)) ∧ w' = W) := fun W ao c hs => sum_impl ao B.length c (fun i => B.getD i 0) W (by omega) hs.slu hbb.out
    have l1 := pb_len 4 (B.length : Int)
    have l2 : (s4 (asum B)).length ≤ 4 := Nat.le_refl _
    rw [HR.out]
    generalize pb 4 (B.length : Int) = L1 at *
    generalize s4 (asum B) = L2 at *
    generalize asum B = sm at *
    clear HR hmb hfb hkb hcb hvb hhb hbb
    go_enter Try.func11, Try.ntmps11
    go_wp2_with fail
    refine (msgoki_yes ao n cap f k c v h _ hn hcap (HS.out.below ((Below.refl _ _).alloc (Nat.le_refl _) _)) hok).mono ?_
    rintro e w1 ⟨rfl, b1⟩
    have hblk : w1.heap[w.heap.size]? = some (.cells #[.int .i64 k, .int .i64 c, .int .i64 v, .int .i64 h, .slice ao n cap] 26 (0, 0)) := (b1.block w.heap.size (by simp)).trans (Deep.blk_alloc_new _ _)
    have B1 := hide (((Below.refl _ _).alloc (Nat.le_refl _) _).trans (b1.mono (by simp)) : Below w.heap.size w w1)
    clear b1
    have hc0 := blk_cell (i := 0) hblk rfl
    have hc1 := blk_cell (i := 1) hblk rfl
    have hc2 := blk_cell (i := 2) hblk rfl
    have hc3 := blk_cell (i := 3) hblk rfl
    have hc4 := blk_cell (i := 4) hblk rfl
    have hcall := hide (hcallA.out w1 (HS.out.below B1.out))
    clear hblk HS hcallA
    go_wp2_with fail
    refine hcall.out.mono ?_
    rintro e w2 ⟨v2, rfl, ho2, hb2⟩
    clear hcall hc0 hc1 hc2 hc3 hc4
    obtain ⟨a2, c2, rfl⟩ := (Src.of_owns ho2).form
    have H2 : Hid (Below w.heap.size w w2 ∧ Src .u8 w2 (.slice a2 B.length c2) B) := ⟨B1.out.trans (hb2.mono B1.out.size), Src.of_owns ho2⟩
    clear ho2 hb2 B1
    go_wp2_with fail
    refine (hP.out _).mono ?_
    rintro e w3 ⟨v3, rfl, ho3, hb3⟩
    obtain ⟨a3, c3, rfl⟩ := (Src.of_owns ho3).form
    have H3 : Hid (Below w.heap.size w w3 ∧ Src .u8 w3 (.slice a2 B.length c2) B ∧ Src .u8 w3 (.slice a3 L1.length c3) L1) := ⟨H2.out.1.trans (hb3.mono H2.out.1.size), H2.out.2.below hb3, Src.of_owns ho3⟩
    clear ho3 hb3 H2
    go_wp2_with fail
    refine (hSm.out _ _ _ H3.out.2.1).mono ?_
    rintro e w3' ⟨rfl, hw⟩
    rw [hw]
    clear hw hSm
    go_wp2_with fail
    refine (hQ.out _).mono ?_
    rintro e w4 ⟨v4, rfl, ho4, hb4⟩
    obtain ⟨a4, c4, rfl⟩ := (Src.of_owns ho4).form
    have H4 : Hid (Below w.heap.size w w4 ∧ Src .u8 w4 (.slice a2 B.length c2) B ∧ Src .u8 w4 (.slice a3 L1.length c3) L1 ∧ Src .u8 w4 (.slice a4 L2.length c4) L2) := ⟨H3.out.1.trans (hb4.mono H3.out.1.size), H3.out.2.1.below hb4, H3.out.2.2.below hb4, Src.of_owns ho4⟩
    clear ho4 hb4 H3
    go_wp2_with fail
    have H5 : Hid (Below w4.heap.size w4 (w4.alloc (.cells #[.slice a3 L1.length c3, .slice a2 B.length c2, .slice a4 L2.length c4] 22))) := (Below.refl _ _).alloc (Nat.le_refl _) _
    refine (bconcat3 w4.heap.size a3 a2 a4 c3 c2 c4 L1 B L2 _ (by omega) (Deep.blk_alloc_new _ _) (H4.out.2.2.1.below H5.out) (H4.out.2.1.below H5.out) (H4.out.2.2.2.below H5.out)).mono ?_
    rintro e w9 ⟨v9, rfl, o9, b9⟩
    have H9 : Hid (w9.ownsRow w.heap.size 5 1 v9 (L1 ++ B ++ L2).length ((L1 ++ B ++ L2).map (.int .u8)) ∧ Below w.heap.size w w9) := ⟨gmono o9 (Nat.le_trans H4.out.1.size H5.out.size), (H4.out.1.trans (H5.out.mono H4.out.1.size)).trans (b9.mono (Nat.le_trans H4.out.1.size H5.out.size))⟩
    clear o9 b9
    go_wp2
    go_ret
    exact ⟨_, rfl, H9.out⟩
  · have hmb : mb k c v h f n = [] := by unfold mb; rw [if_neg hok]
    rw [hmb]
    clear hmb
    go_enter Try.func11, Try.ntmps11
    go_wp2_with fail
    refine (msgoki_no ao n cap f k c v h _ hn hcap (HS.out.below ((Below.refl _ _).alloc (Nat.le_refl _) _)) hok).mono ?_
    rintro e w1 ⟨rfl, b1⟩
    have B1 := hide (((Below.refl _ _).alloc (Nat.le_refl _) _).trans (b1.mono (by simp)) : Below w.heap.size w w1)
    clear b1 HS
    go_wp2
    go_ret
    exact ⟨_, rfl, gnil, B1.out⟩
end Go.Proofs.Ythhkmfgccbkkhaa

/- l4Num of the model: numbers read one behind the other; once there was none, none more. -/
namespace Go.Proofs.Ythhkmfgccbkkhaa
open Go.ChangeShapes Go.WideShapes Go.ChangeAt Go.RowKit
set_option linter.unusedVariables false
set_option linter.unusedSimpArgs false

/-- The number that begins at p, and the place behind it. -/
def rdI (n : Nat) (f : Nat → Int) (p : Int) : Option (Int × Int) := if p < 0 then none else gr n f p.toNat 5 0
/-- Where the next number begins; none: there was one that is none. -/
def nx (n : Nat) (f : Nat → Int) : Option Int → Option Int
  | none => none
  | some p => (rdI n f p).map (·.2)
def rdv (n : Nat) (f : Nat → Int) : Option Int → Int
  | none => 0
  | some p => ((rdI n f p).map (·.1)).getD 0

theorem gr_pos (n : Nat) (f : Nat → Int) (a fuel k : Nat) (x y : Int) (h : gr n f a fuel k = some (x, y)) : (a : Int) < y ∧ y ≤ n ∧ 0 ≤ x ∧ x ≤ 2147483647 := by
  induction fuel generalizing k with
  | zero => cases h
  | succ fuel ih =>
    rw [gr] at h
    split at h
    · split at h
      · split at h
        · cases h
        · next h1 =>
          simp only [Option.some.injEq, Prod.mk.injEq] at h
          have := (gacc_bd f a (k + 1)).1
          omega
      · exact ih _ h
    · cases h
theorem rdI_pos {n : Nat} {f : Nat → Int} {p x y : Int} (h : rdI n f p = some (x, y)) : 0 ≤ p ∧ p < y ∧ y ≤ n ∧ 0 ≤ x ∧ x ≤ 2147483647 := by
  unfold rdI at h
  split at h
  · cases h
  · have := gr_pos n f p.toNat 5 0 x y h
    omega

theorem get_any (ao : Option Addr) (n cap : Nat) (p : Int) (f : Nat → Int) (w : World) (hn : n ≤ 1048576) (hp : p ≤ 9223372036854775807) (hs : SL .u8 w ao n f) (hf : ∀ i, i < n → 0 ≤ f i ∧ f i ≤ 255) :
    Calls Try.prog 90 #[.slice ao n cap, .int .i64 p] w fun e w' => e = .returned (gres (rdI n f p)) ∧ w' = w := by
  by_cases h : p < 0
  · have e : rdI n f p = none := by unfold rdI; rw [if_pos h]
    rw [e]
    exact get_spec_neg ao n cap p w h
  · obtain ⟨a, rfl⟩ := Int.eq_ofNat_of_zero_le (Int.not_lt.1 h)
    have e : rdI n f (a : Int) = gr n f a 5 0 := by unfold rdI; rw [if_neg h]; simp
    rw [e]
    exact get_spec ao n cap a f w hn hp hs hf

/-- A cursor at block g. -/
def Cu (w : World) (g : Nat) (ao : Option Addr) (n cap : Nat) (st : Option Int) : Prop :=
  ∃ p : Int, w.heap[g]? = some (.cells #[.slice ao n cap, .int .i64 p, .bool st.isSome] 71 (0, 0)) ∧ (∀ q, st = some q → p = q) ∧ p ≤ 9223372036854775807

theorem Only.drawn {g : Nat} {w w' : World} (h : Only g w w') (q : Nat) : Only g w (w'.drewN q) := ⟨Below.drawn h.1 q, h.2.1, h.2.2⟩

theorem Cu.fail {w : World} {g : Nat} {ao : Option Addr} {n cap : Nat} {p : Int} {b : Bool} (h : w.heap[g]? = some (.cells #[.slice ao n cap, .int .i64 p, .bool b] 71 (0, 0))) (hp : p ≤ 9223372036854775807) (q : Nat) : Cu ((w.drewN q).setCell ⟨g, 2, none⟩ (.bool false)) g ao n cap none := by
  refine ⟨p, ?_, (fun _ e => by cases e), hp⟩
  have e : (w.drewN q).heap = w.heap := rfl
  simp [World.setCell, Array.getElem?_modify, e, h]
theorem Cu.next {w : World} {g : Nat} {ao : Option Addr} {n cap : Nat} {p y : Int} (h : w.heap[g]? = some (.cells #[.slice ao n cap, .int .i64 p, .bool true] 71 (0, 0))) (hy : y ≤ 9223372036854775807) (q : Nat) : Cu ((w.drewN q).setCell ⟨g, 1, none⟩ (.int .i64 y)) g ao n cap (some y) := by
  refine ⟨y, ?_, (fun _ e => by cases e; rfl), hy⟩
  have e : (w.drewN q).heap = w.heap := rfl
  simp [World.setCell, Array.getElem?_modify, e, h]

theorem num_any (g : Nat) (ao : Option Addr) (n cap : Nat) (f : Nat → Int) (st : Option Int) (w : World) (hn : n ≤ 1048576) (hs : SL .u8 w ao n f) (hf : ∀ i, i < n → 0 ≤ f i ∧ f i ≤ 255) (hc : Cu w g ao n cap st) :
    Calls Try.prog 54 #[.pointer (some ⟨g, 0, none⟩)] w fun e w' => e = .returned (.int .i64 (rdv n f st)) ∧ Cu w' g ao n cap (nx n f st) ∧ Only g w w' := by
  obtain ⟨p, hblk, hq, hp⟩ := hc
  have hget : Hid (∀ q, Calls Try.prog 90 #[.slice ao n cap, .int .i64 p] (w.drewN q) fun e w' => e = .returned (gres (rdI n f p)) ∧ w' = w.drewN q) := fun q => get_any ao n cap p f (w.drewN q) hn hp hs hf
  have c0 := blk_cell (i := 0) hblk rfl
  have c1 := blk_cell (i := 1) hblk rfl
  have c2 := blk_cell (i := 2) hblk rfl
  have z0 : ∀ i, w.frozen? ⟨g, i, none⟩ = false := fun i => by simp [World.frozen?, hblk]
  have HBK := hide hblk
  clear hs hf hblk
  change w.cell? ⟨g, 0, none⟩ = some (.slice ao n cap) at c0
  change w.cell? ⟨g, 1, none⟩ = some (.int .i64 p) at c1
  change w.cell? ⟨g, 2, none⟩ = some (.bool st.isSome) at c2
  cases st with
  | none =>
    have HR : Hid (rdv n f none = 0 ∧ nx n f none = none) := ⟨rfl, rfl⟩
    rw [HR.out.1, HR.out.2]
    simp only [Option.isSome_none] at c2
    cases hr : rdI n f p with
    | none =>
      rw [hr] at hget
      unfold gres at hget
      clear hr
      go_enter Try.func54, Try.ntmps54
      go_wp2
      go_quiet (first | (go_at_call 90; refine Calls.quiet_of_same (hget.out _)))
      go_wp2
      go_ret
      exact ⟨rfl, Cu.fail HBK.out hp nq, ((Only.refl g w).drawn nq).setCell _⟩
    | some xy =>
      obtain ⟨x, y⟩ := xy
      rw [hr] at hget
      unfold gres at hget
      clear hr
      go_enter Try.func54, Try.ntmps54
      go_wp2
      go_quiet (first | (go_at_call 90; refine Calls.quiet_of_same (hget.out _)))
      go_wp2
      go_ret
      exact ⟨rfl, Cu.fail HBK.out hp nq, ((Only.refl g w).drawn nq).setCell _⟩
  | some p' =>
    obtain rfl : p = p' := hq p' rfl
    simp only [Option.isSome_some] at c2
    cases hr : rdI n f p with
    | none =>
      have HR : Hid (rdv n f (some p) = 0 ∧ nx n f (some p) = none) := ⟨by simp [rdv, hr], by simp [nx, hr]⟩
      rw [HR.out.1, HR.out.2]
      rw [hr] at hget
      unfold gres at hget
      clear hr hq
      go_enter Try.func54, Try.ntmps54
      go_wp2
      go_quiet (first | (go_at_call 90; refine Calls.quiet_of_same (hget.out _)))
      go_wp2
      go_ret
      exact ⟨rfl, Cu.fail HBK.out hp nq, ((Only.refl g w).drawn nq).setCell _⟩
    | some xy =>
      obtain ⟨x, y⟩ := xy
      have HR : Hid (rdv n f (some p) = x ∧ nx n f (some p) = some y) := ⟨by simp [rdv, hr], by simp [nx, hr]⟩
      have hy := rdI_pos hr
      rw [HR.out.1, HR.out.2]
      rw [hr] at hget
      unfold gres at hget
      clear hr hq
      go_enter Try.func54, Try.ntmps54
      go_wp2
      go_quiet (first | (go_at_call 90; refine Calls.quiet_of_same (hget.out _)))
      go_wp2
      go_ret
      exact ⟨rfl, Cu.next HBK.out (by omega) nq, ((Only.refl g w).drawn nq).setCell _⟩
end Go.Proofs.Ythhkmfgccbkkhaa

/- A message read back from its bytes: plain arithmetic. -/
namespace Go.Proofs.Ythhkmfgccbkkhaa
open Go.ChangeShapes Go.WideShapes Go.ChangeAt Go.RowKit
set_option linter.unusedVariables false
set_option linter.unusedSimpArgs false

theorem mput_back (f : Nat → Int) (a : Nat) (fuel : Nat) : ∀ (k : Nat) (x : Int), 0 ≤ x → x < 128 ^ (fuel + 1) → (0 < k → 0 < x) → gacc f a k + 128 ^ k * x ≤ 2147483647 → (∀ i, i < (pb fuel x).length → f (a + k + i) = (pb fuel x).getD i 0) →
    gr (a + k + (pb fuel x).length) f a (fuel + 1) k = some (gacc f a k + 128 ^ k * x, (a : Int) + k + (pb fuel x).length) := by
  induction fuel with
  | zero =>
    intro k x h0 h1 h2 h3 h4
    have hx : x < 128 := by simpa using h1
    have hd : f (a + k) = x := by have := h4 0 (by simp [pb]); simpa [pb] using this
    have hl : (pb 0 x).length = 1 := by simp [pb]
    rw [hl, gr_in (by omega), hd, if_pos hx]
    have e : gacc f a (k + 1) = gacc f a k + 128 ^ k * x := by rw [gacc, hd, Int.emod_eq_of_lt h0 hx, Int.mul_comm]
    rw [e, if_neg]
    · simp
    · rintro (⟨p, q⟩ | r)
      · have := h2 p; omega
      · omega
  | succ fuel ih =>
    intro k x h0 h1 h2 h3 h4
    by_cases hx : x < 128
    · have hpb := pb_last (fuel + 1) x hx
      rw [hpb] at h4 ⊢
      have hd : f (a + k) = x := by have := h4 0 (by simp); simpa using this
      rw [show [x].length = 1 from rfl, gr_in (by omega), hd, if_pos hx]
      have e : gacc f a (k + 1) = gacc f a k + 128 ^ k * x := by rw [gacc, hd, Int.emod_eq_of_lt h0 hx, Int.mul_comm]
      rw [e, if_neg]
      · simp
      · rintro (⟨p, q⟩ | r)
        · have := h2 p; omega
        · omega
    · have hpb := pb_more fuel x hx
      rw [hpb] at h4 ⊢
      have hd : f (a + k) = x % 128 + 128 := by have := h4 0 (by simp); simpa using this
      have e1 : gacc f a (k + 1) + 128 ^ (k + 1) * (x / 128) = gacc f a k + 128 ^ k * x := by
        rw [gacc, hd, show (x % 128 + 128) % 128 = x % 128 by omega, Int.pow_succ]
        generalize hP : (128 : Int) ^ k = P
        have e2 : P * x = P * (128 * (x / 128) + x % 128) := by rw [Int.mul_ediv_add_emod]
        rw [e2, Int.mul_add, Int.mul_assoc P 128 (x / 128), Int.mul_comm (x % 128) P]
        omega
      have hlen : ((x % 128 + 128) :: pb fuel (x / 128)).length = (pb fuel (x / 128)).length + 1 := rfl
      have hx2 : x / 128 < 128 ^ (fuel + 1) := by
        rw [Int.pow_succ] at h1
        generalize (128 : Int) ^ (fuel + 1) = P at h1 ⊢
        omega
      have := ih (k + 1) (x / 128) (by omega) hx2 (fun _ => by omega) (by rw [e1]; exact h3) (fun i hi => by
        have := h4 (i + 1) (by rw [hlen]; omega)
        rw [show a + (k + 1) + i = a + k + (i + 1) by omega, this]; simp)
      rw [hlen, gr_in (by omega), hd, if_neg (by omega)]
      rw [show a + (k + 1) + (pb fuel (x / 128)).length = a + k + ((pb fuel (x / 128)).length + 1) by omega] at this
      rw [this, e1]
      simp
      omega

theorem gr_mono (n n' : Nat) (f : Nat → Int) (a fuel k : Nat) (x y : Int) (hn : n ≤ n') (h : gr n f a fuel k = some (x, y)) : gr n' f a fuel k = some (x, y) := by
  induction fuel generalizing k with
  | zero => cases h
  | succ fuel ih =>
    by_cases hin : a + k < n
    · rw [gr_in hin] at h
      rw [gr_in (by omega)]
      split at h
      · next h1 => rw [if_pos h1]; exact h
      · next h1 => rw [if_neg h1]; exact ih _ h
    · rw [gr_out hin] at h; cases h

/-- The bytes L lie at a. -/
def Has (n : Nat) (f : Nat → Int) (a : Nat) (L : List Int) : Prop := a + L.length ≤ n ∧ ∀ i, i < L.length → f (a + i) = L.getD i 0
theorem Has.left {n : Nat} {f : Nat → Int} {a : Nat} {L M : List Int} (h : Has n f a (L ++ M)) : Has n f a L := by
  refine ⟨by have := h.1; simp at this; omega, fun i hi => ?_⟩
  rw [h.2 i (by simp; omega)]
  simp [List.getD, List.getElem?_append_left hi]
theorem Has.right {n : Nat} {f : Nat → Int} {a : Nat} {L M : List Int} (h : Has n f a (L ++ M)) : Has n f (a + L.length) M := by
  refine ⟨by have := h.1; simp at this; omega, fun i hi => ?_⟩
  rw [Nat.add_assoc, h.2 (L.length + i) (by simp; omega)]
  simp [List.getD, List.getElem?_append_right (Nat.le_add_right _ _)]
theorem Has.num {n : Nat} {f : Nat → Int} {a : Nat} {x : Int} {R : List Int} (h : Has n f a (pb 4 x ++ R)) (h0 : 0 ≤ x) (h1 : x ≤ 2147483647) :
    rdI n f (a : Int) = some (x, ((a + (pb 4 x).length : Nat) : Int)) ∧ Has n f (a + (pb 4 x).length) R := by
  refine ⟨?_, h.right⟩
  have hl := h.left
  have g := mput_back f a 4 0 x h0 (by omega) (fun h => absurd h (by omega)) (by simp [gacc]; omega) (fun i hi => by have := hl.2 i hi; simpa using this)
  have g' := gr_mono _ n f a 5 0 _ _ (by have := hl.1; omega) g
  unfold rdI
  rw [if_neg (by omega)]
  simp [gacc] at g'
  simpa using g'

/-- The state behind j numbers. -/
def sts (n : Nat) (f : Nat → Int) (st : Option Int) : Nat → Option Int
  | 0 => st
  | j + 1 => nx n f (sts n f st j)
theorem sts_none (n : Nat) (f : Nat → Int) (j : Nat) : sts n f none j = none := by
  induction j with
  | zero => rfl
  | succ j ih => rw [sts, ih]; rfl
theorem sts_succ (n : Nat) (f : Nat → Int) (st : Option Int) (j : Nat) : sts n f st (j + 1) = sts n f (nx n f st) j := by
  induction j with
  | zero => rfl
  | succ j ih => rw [sts, ih]; rfl
/-- Numbers that lie one behind the other are read as they are. -/
theorem Has.nums {n : Nat} {f : Nat → Int} {R : List Int} (l : List Int) (hl : ∀ x ∈ l, 0 ≤ x ∧ x ≤ 2147483647) : ∀ {a : Nat}, Has n f a (nums l ++ R) →
    (∀ j, j ≤ l.length → ∃ q : Nat, sts n f (some (a : Int)) j = some (q : Int) ∧ q ≤ n) ∧ (∀ j, j < l.length → rdv n f (sts n f (some (a : Int)) j) = l.getD j 0) ∧ Has n f (a + (nums l).length) R := by
  induction l with
  | nil =>
    intro a h
    refine ⟨fun j hj => ?_, fun j hj => absurd hj (by simp), by simpa [Proofs.Ythhkmfgccbkkhaa.nums] using h⟩
    obtain rfl : j = 0 := by simpa using hj
    exact ⟨a, rfl, by have := h.1; omega⟩
  | cons x l ih =>
    intro a h
    rw [nums_cons, List.append_assoc] at h
    obtain ⟨h0, h1⟩ := hl x (by simp)
    obtain ⟨g, hr⟩ := h.num h0 h1
    obtain ⟨i1, i2, i3⟩ := ih (fun y hy => hl y (by simp [hy])) hr
    have e1 : nx n f (some (a : Int)) = some ((a + (pb 4 x).length : Nat) : Int) := by simp only [nx, g, Option.map_some]
    refine ⟨fun j hj => ?_, fun j hj => ?_, ?_⟩
    · cases j with
      | zero => exact ⟨a, rfl, by have := h.1; omega⟩
      | succ j => rw [sts_succ, e1]; exact i1 j (by simpa using hj)
    · cases j with
      | zero => simp [sts, rdv, g]
      | succ j => rw [sts_succ, e1, i2 j (by simpa using hj)]; simp
    · rw [nums_cons, List.length_append, ← Nat.add_assoc]; exact i3

/-- A message whose bytes begin at p. -/
def Begins (n : Nat) (f : Nat → Int) (p k c v d : Int) (G : List Int) : Prop :=
  0 ≤ p ∧ MOk k c v d (fun i => G.getD i 0) G.length ∧ Has n f p.toNat (mb k c v d (fun i => G.getD i 0) G.length)
theorem range_getD (G : List Int) : (List.range G.length).map (fun i => G.getD i 0) = G := by
  refine List.ext_getElem? fun j => ?_
  by_cases h : j < G.length
  · simp [h, List.getD]
  · rw [List.getElem?_eq_none (by simp; omega), List.getElem?_eq_none (by omega)]
theorem begins_read {n : Nat} {f : Nat → Int} {p k c v d : Int} {G : List Int} (h : Begins n f p k c v d G) :
    (∃ q : Int, sts n f (some p) 1 = some q ∧ rdv n f (some p) ≤ (n : Int) - q - 4) ∧ (∀ j, j ≤ 6 + G.length → (sts n f (some p) j).isSome = true) ∧
    rdv n f (sts n f (some p) 1) = k ∧ rdv n f (sts n f (some p) 2) = c ∧ rdv n f (sts n f (some p) 3) = v ∧ rdv n f (sts n f (some p) 4) = d ∧ rdv n f (sts n f (some p) 5) = G.length ∧ ∀ i, i < G.length → rdv n f (sts n f (some p) (6 + i)) = G.getD i 0 := by
  obtain ⟨h0, hok, hh⟩ := h
  obtain ⟨a, rfl⟩ := Int.eq_ofNat_of_zero_le h0
  obtain ⟨hn12, hfb, hkb, hcb, hvb, hdb⟩ := mok_bd hok
  have hbl := mbody_len (k := k) (c := c) (v := v) (h := d) (f := fun i => G.getD i 0) hn12
  unfold mb at hh
  rw [if_pos hok] at hh
  unfold framed at hh
  have e : mbody k c v d (fun i => G.getD i 0) G.length = nums ([k, c, v, d, (G.length : Int)] ++ G) := by unfold mbody; rw [range_getD]
  have e1 : pb 4 ((mbody k c v d (fun i => G.getD i 0) G.length).length : Int) ++ mbody k c v d (fun i => G.getD i 0) G.length ++ s4 (asum (mbody k c v d (fun i => G.getD i 0) G.length)) =
      nums (((mbody k c v d (fun i => G.getD i 0) G.length).length : Int) :: ([k, c, v, d, (G.length : Int)] ++ G)) ++ s4 (asum (mbody k c v d (fun i => G.getD i 0) G.length)) := by rw [nums_cons, ← e]
  have e2 : pb 4 ((mbody k c v d (fun i => G.getD i 0) G.length).length : Int) ++ mbody k c v d (fun i => G.getD i 0) G.length ++ s4 (asum (mbody k c v d (fun i => G.getD i 0) G.length)) =
      pb 4 ((mbody k c v d (fun i => G.getD i 0) G.length).length : Int) ++ (mbody k c v d (fun i => G.getD i 0) G.length ++ s4 (asum (mbody k c v d (fun i => G.getD i 0) G.length))) := by rw [List.append_assoc]
  have hN := hh
  rw [e1] at hN
  have hA := hh
  rw [e2] at hA
  have ha : ((a : Int)).toNat = a := by omega
  rw [ha] at hN hA
  obtain ⟨g, hr⟩ := hA.num (by omega) (by omega)
  have hsz := hr.1
  have hs4 : (s4 (asum (mbody k c v d (fun i => G.getD i 0) G.length))).length = 4 := rfl
  rw [List.length_append, hs4] at hsz
  generalize hB : (mbody k c v d (fun i => G.getD i 0) G.length).length = L at *
  have hmem : ∀ x ∈ ((L : Int) :: ([k, c, v, d, (G.length : Int)] ++ G)), 0 ≤ x ∧ x ≤ 2147483647 := by
    intro x hx
    simp at hx
    rcases hx with rfl | rfl | rfl | rfl | rfl | rfl | hx
    · omega
    · exact hkb
    · exact hcb
    · exact hvb
    · exact hdb
    · omega
    · obtain ⟨i, hi, rfl⟩ := List.getElem_of_mem hx
      have := hfb i hi
      simpa [List.getD, hi] using this
  obtain ⟨i1, i2, _⟩ := hN.nums _ hmem
  have hlen : ((L : Int) :: ([k, c, v, d, (G.length : Int)] ++ G)).length = 6 + G.length := by simp; omega
  rw [hlen] at i1 i2
  refine ⟨⟨((a + (pb 4 (L : Int)).length : Nat) : Int), by simp only [sts, nx, g, Option.map_some], by simp only [rdv, g, Option.map_some, Option.getD_some]; omega⟩, fun j hj => ?_, by simpa using i2 1 (by omega), by simpa using i2 2 (by omega), by simpa using i2 3 (by omega), by simpa using i2 4 (by omega), by simpa using i2 5 (by omega), fun i hi => ?_⟩
  · obtain ⟨q, hq, _⟩ := i1 j hj
    rw [hq]; rfl
  · have := i2 (6 + i) (by omega)
    rw [this]
    rw [show 6 + i = i + 1 + 5 by omega]
    simp [List.getD]
end Go.Proofs.Ythhkmfgccbkkhaa

/- MsgOf of the model. -/
namespace Go.Proofs.Ythhkmfgccbkkhaa
open Go.ChangeShapes Go.WideShapes Go.ChangeAt Go.RowKit
set_option linter.unusedVariables false
set_option linter.unusedSimpArgs false

/-- What MsgOf hands back. -/
def MsgOut (w w' : World) (n : Nat) (f : Nat → Int) (p : Int) (e : Ending) : Prop :=
  ((∃ k c v d G ro rc, Begins n f p k c v d G ∧ e = .returned (.tuple #[.agg #[.int .i64 k, .int .i64 c, .int .i64 v, .int .i64 d, .slice ro G.length rc], .int .i64 (p + (mb k c v d (fun i => G.getD i 0) G.length).length), .bool true]) ∧ G.length ≤ rc ∧ Own w' w.heap.size 3 ro G.length (fun i => .int .i64 (G.getD i 0))) ∨
   ((¬ ∃ k c v d G, Begins n f p k c v d G) ∧ e = .returned (.tuple #[.agg #[.int .i64 0, .int .i64 0, .int .i64 0, .int .i64 0, .slice none 0 0], .int .i64 0, .bool false]))) ∧ Below w.heap.size w w'

/-- The result's block, a cursor behind it, a message behind that. -/
def MoS (w0 wr : World) (ao : Option Addr) (n cap : Nat) (st : Option Int) (k c v d : Int) (gv : Value) (G : List Int) : Prop :=
  MB wr w0.heap.size 26 0 0 0 0 none 0 0 ∧ Cu wr (w0.heap.size + 1) ao n cap st ∧ wr.heap[w0.heap.size + 1 + 1]? = some (.cells #[.int .i64 k, .int .i64 c, .int .i64 v, .int .i64 d, gv] 26 (0, 0)) ∧
  wr.ownsRow (w0.heap.size + 1 + 1 + 1) 3 1 gv G.length (G.map (.int .i64)) ∧ w0.heap.size + 1 + 1 + 1 ≤ wr.heap.size ∧ Below w0.heap.size w0 wr

theorem MoS.num {w0 wr w' : World} {ao : Option Addr} {n cap : Nat} {st st' : Option Int} {k c v d : Int} {gv : Value} {G : List Int} (h : MoS w0 wr ao n cap st k c v d gv G) (ho : Only (w0.heap.size + 1) wr w') (hc : Cu w' (w0.heap.size + 1) ao n cap st') :
    MoS w0 w' ao n cap st' k c v d gv G := by
  obtain ⟨h1, h2, h3, h4, h5, h6⟩ := h
  refine ⟨(ho.2.2 _ (by omega)).trans h1, hc, (ho.2.2 _ (by omega)).trans h3, ⟨h4.1, ?_⟩, by rw [ho.2.1]; exact h5, h6.trans (ho.1.mono (by omega))⟩
  rcases h4.2 with e | ⟨g, cp, cur, e, hge, hh, r⟩
  · exact .inl e
  · exact .inr ⟨g, cp, cur, e, hge, (ho.2.2 g (by omega)).trans hh, r⟩
theorem mo_put {w0 wr : World} {ao : Option Addr} {n cap : Nat} {st : Option Int} {k c v d k' c' v' d' : Int} {gv gv' : Value} {G' : List Int}
    (h1 : MB wr w0.heap.size 26 0 0 0 0 none 0 0) (h2 : Cu wr (w0.heap.size + 1) ao n cap st) (h3 : wr.heap[w0.heap.size + 1 + 1]? = some (.cells #[.int .i64 k, .int .i64 c, .int .i64 v, .int .i64 d, gv] 26 (0, 0)))
    (h5 : w0.heap.size + 1 + 1 + 1 ≤ wr.heap.size) (h6 : Below w0.heap.size w0 wr) (i : Nat) (x : Value)
    (hx : (#[.int .i64 k, .int .i64 c, .int .i64 v, .int .i64 d, gv] : Array Value).setIfInBounds i x = #[.int .i64 k', .int .i64 c', .int .i64 v', .int .i64 d', gv'])
    (hg : wr.ownsRow (w0.heap.size + 1 + 1 + 1) 3 1 gv' G'.length (G'.map (.int .i64))) :
    MoS w0 (wr.setCell ⟨w0.heap.size + 1 + 1, i, none⟩ x) ao n cap st k' c' v' d' gv' G' := by
  obtain ⟨p, h2, h2'⟩ := h2
  have far : ∀ j, j ≠ w0.heap.size + 1 + 1 → (wr.setCell ⟨w0.heap.size + 1 + 1, i, none⟩ x).heap[j]? = wr.heap[j]? := fun j hj => by
    simp only [World.setCell, Array.getElem?_modify]
    rw [if_neg (fun e => hj e.symm)]
  refine ⟨(far _ (by omega)).trans h1, ⟨p, (far _ (by omega)).trans h2, h2'⟩, ?_, ⟨hg.1, ?_⟩, by simpa [World.setCell] using h5, h6.setCell (p := ⟨w0.heap.size + 1 + 1, i, none⟩) (by simp; omega) _⟩
  · simp only [World.setCell, Array.getElem?_modify, if_true, h3, Option.map_some]
    rw [← hx]
    rfl
  · rcases hg.2 with e | ⟨g, cp, cur, e, hge, hh, r⟩
    · exact .inl e
    · exact .inr ⟨g, cp, cur, e, hge, (far g (by omega)).trans hh, r⟩
theorem MoS.put {w0 wr : World} {ao : Option Addr} {n cap : Nat} {st : Option Int} {k c v d k' c' v' d' : Int} {gv : Value} {G : List Int} (h : MoS w0 wr ao n cap st k c v d gv G) (i : Nat) (x : Value)
    (hx : (#[.int .i64 k, .int .i64 c, .int .i64 v, .int .i64 d, gv] : Array Value).setIfInBounds i x = #[.int .i64 k', .int .i64 c', .int .i64 v', .int .i64 d', gv]) :
    MoS w0 (wr.setCell ⟨w0.heap.size + 1 + 1, i, none⟩ x) ao n cap st k' c' v' d' gv G := mo_put h.1 h.2.1 h.2.2.1 h.2.2.2.2.1 h.2.2.2.2.2 i x hx h.2.2.2.1
theorem MoS.alloc {w0 wr : World} {ao : Option Addr} {n cap : Nat} {st : Option Int} {k c v d : Int} {gv : Value} {G : List Int} (h : MoS w0 wr ao n cap st k c v d gv G) (o : Obj) : MoS w0 (wr.alloc o) ao n cap st k c v d gv G := by
  have ba : Below wr.heap.size wr (wr.alloc o) := (Below.refl _ _).alloc (Nat.le_refl _) _
  obtain ⟨h1, ⟨p, h2, h2'⟩, h3, h4, h5, h6⟩ := h
  exact ⟨h1.below ba h1.lt, ⟨p, (ba.block _ (by omega)).trans h2, h2'⟩, (ba.block _ (by omega)).trans h3, h4.alloc o, Nat.le_trans h5 ba.size, h6.trans (ba.mono h6.size)⟩
theorem MoS.step {w0 wr w' : World} {ao : Option Addr} {n cap : Nat} {st : Option Int} {k c v d : Int} {gv : Value} {G : List Int} (h : MoS w0 wr ao n cap st k c v d gv G) (ba : Below wr.heap.size wr w') : MoS w0 w' ao n cap st k c v d gv G := by
  obtain ⟨h1, ⟨p, h2, h2'⟩, h3, h4, h5, h6⟩ := h
  exact ⟨h1.below ba h1.lt, ⟨p, (ba.block _ (by omega)).trans h2, h2'⟩, (ba.block _ (by omega)).trans h3, gbelow h4 ba, Nat.le_trans h5 ba.size, h6.trans (ba.mono h6.size)⟩
theorem MoS.grow {w0 wr w' : World} {ao : Option Addr} {n cap : Nat} {st : Option Int} {k c v d : Int} {gv gv' : Value} {G G' : List Int} (h : MoS w0 wr ao n cap st k c v d gv G) (hg : wr.grownBy w' gv.ownBlock)
    (hn : w'.ownsRow (w0.heap.size + 1 + 1 + 1) 3 1 gv' G'.length (G'.map (.int .i64))) : MB w' w0.heap.size 26 0 0 0 0 none 0 0 ∧ Cu w' (w0.heap.size + 1) ao n cap st ∧ w'.heap[w0.heap.size + 1 + 1]? = some (.cells #[.int .i64 k, .int .i64 c, .int .i64 v, .int .i64 d, gv] 26 (0, 0)) ∧
      w'.ownsRow (w0.heap.size + 1 + 1 + 1) 3 1 gv' G'.length (G'.map (.int .i64)) ∧ w0.heap.size + 1 + 1 + 1 ≤ w'.heap.size ∧ Below w0.heap.size w0 w' := by
  obtain ⟨h1, ⟨p, h2, h2'⟩, h3, h4, h5, h6⟩ := h
  have hne : ∀ j, j < w0.heap.size + 1 + 1 + 1 → some j ≠ gv.ownBlock := fun j hj e => by have := (World.ownsRow.lt h4) j e.symm; omega
  refine ⟨(hg.block _ (by omega) (hne _ (by omega))).trans h1, ⟨p, (hg.block _ (by omega) (hne _ (by omega))).trans h2, h2'⟩, (hg.block _ (by omega) (hne _ (by omega))).trans h3, hn, Nat.le_trans h5 hg.size, h6.grown hg h6.size ?_⟩
  intro j hj
  have := (World.ownsRow.lt h4) j hj
  omega
theorem MoS.cells {w0 wr : World} {ao : Option Addr} {n cap : Nat} {st : Option Int} {k c v d : Int} {gv : Value} {G : List Int} (h : MoS w0 wr ao n cap st k c v d gv G) :
    (wr.cell? ⟨w0.heap.size + 1 + 1, 0, none⟩ = some (.int .i64 k) ∧ wr.cell? ⟨w0.heap.size + 1 + 1, 1, none⟩ = some (.int .i64 c) ∧ wr.cell? ⟨w0.heap.size + 1 + 1, 2, none⟩ = some (.int .i64 v) ∧ wr.cell? ⟨w0.heap.size + 1 + 1, 3, none⟩ = some (.int .i64 d) ∧ wr.cell? ⟨w0.heap.size + 1 + 1, 4, none⟩ = some gv) ∧
    (∀ i, wr.frozen? ⟨w0.heap.size + 1 + 1, i, none⟩ = false) :=
  ⟨⟨blk_cell h.2.2.1 rfl, blk_cell h.2.2.1 rfl, blk_cell h.2.2.1 rfl, blk_cell h.2.2.1 rfl, blk_cell h.2.2.1 rfl⟩, fun i => by simp [World.frozen?, h.2.2.1]⟩
theorem MoS.cur {w0 wr : World} {ao : Option Addr} {n cap : Nat} {st : Option Int} {k c v d : Int} {gv : Value} {G : List Int} (h : MoS w0 wr ao n cap st k c v d gv G) :
    wr.cell? ⟨w0.heap.size + 1, 2, none⟩ = some (.bool st.isSome) := by
  obtain ⟨_, ⟨p, h2, _⟩, _⟩ := h
  exact blk_cell h2 rfl

theorem sts_pos {n : Nat} {f : Nat → Int} {p : Int} (j : Nat) : ∀ {q : Int}, sts n f (some p) j = some q → p + j ≤ q ∧ (0 < j → q ≤ n) := by
  induction j with
  | zero => intro q h; cases h; exact ⟨by omega, fun h => absurd h (by omega)⟩
  | succ j ih =>
    intro q h
    rw [sts] at h
    cases hs : sts n f (some p) j with
    | none => rw [hs] at h; cases h
    | some q' =>
      rw [hs] at h
      have h1 := (ih hs).1
      simp only [nx] at h
      cases hr : rdI n f q' with
      | none => rw [hr] at h; cases h
      | some xy =>
        rw [hr] at h
        simp at h
        obtain ⟨x, y⟩ := xy
        have := rdI_pos hr
        simp at h
        omega
theorem rdv_pos (n : Nat) (f : Nat → Int) (st : Option Int) : 0 ≤ rdv n f st ∧ rdv n f st ≤ 2147483647 := by
  cases st with
  | none => simp [rdv]
  | some p =>
    simp only [rdv]
    cases hr : rdI n f p with
    | none => simp
    | some xy => obtain ⟨x, y⟩ := xy; have := rdI_pos hr; simp; omega

theorem mb_byte (k c v h : Int) (f : Nat → Int) (n : Nat) : ∀ z ∈ mb k c v h f n, 0 ≤ z ∧ z ≤ 255 := by
  unfold mb
  split
  · next hok =>
    obtain ⟨hn12, hfb, hkb, hcb, hvb, hhb⟩ := mok_bd hok
    have hl := mbody_len (k := k) (c := c) (v := v) (h := h) (f := f) hn12
    intro z hz
    simp only [framed, List.mem_append] at hz
    rcases hz with (hz | hz) | hz
    · exact pb_byte _ (by omega) (by omega) z hz
    · refine nums_byte ([k, c, v, h, (n : Int)] ++ (List.range n).map f) ?_ z hz
      intro x hx
      simp at hx
      rcases hx with rfl | rfl | rfl | rfl | rfl | ⟨j, hj, rfl⟩
      · exact hkb
      · exact hcb
      · exact hvb
      · exact hhb
      · omega
      · exact hfb j hj
    · simp [s4] at hz
      omega
  · simp
theorem bstr_inj {L M : List Int} (hL : ∀ z ∈ L, 0 ≤ z ∧ z ≤ 255) (hM : ∀ z ∈ M, 0 ≤ z ∧ z ≤ 255) (h : bstr L = bstr M) : L = M := by
  have back : ∀ N : List Int, (∀ z ∈ N, 0 ≤ z ∧ z ≤ 255) → (N.map fun z => UInt8.ofNat z.toNat).map (fun u => ((u.toNat : Nat) : Int)) = N := by
    intro N hN
    rw [List.map_map]
    conv => rhs; rw [← List.map_id N]
    refine List.map_congr_left fun z hz => ?_
    have := hN z hz
    simp [UInt8.toNat_ofNat']
    omega
  have e : (L.map fun z => UInt8.ofNat z.toNat) = (M.map fun z => UInt8.ofNat z.toNat) := by
    have := congrArg (fun b : ByteArray => b.data.toList) h
    simpa [bstr] using this
  rw [← back L hL, ← back M hM, e]

theorem bytes_ne {a b : ByteArray} (h : ¬ a = b) : (a.toList == b.toList) = false := by
  rw [beq_eq_false_iff_ne]
  intro e
  rw [ByteArray.toList_eq, ByteArray.toList_eq] at e
  exact h (WideShapes.bytes_inj e)
theorem own_set {w : World} {B g i n : Nat} {t : TypeId} {ao : Option Addr} {F : Nat → Value} (h : Own w B t ao n F) (hg : g < B) (v : Value) : Own (w.setCell ⟨g, i, none⟩ v) B t ao n F := by
  rcases h with h | ⟨g', ea, hB', c, hc, hs, hF⟩
  · exact .inl h
  · refine .inr ⟨g', ea, hB', c, ?_, hs, hF⟩
    simp only [World.setCell, Array.getElem?_modify]
    rw [if_neg (by omega)]
    exact hc
theorem own_put5 {w : World} {R B B' n : Nat} {t : TypeId} {ao : Option Addr} {F : Nat → Value} (h : Own w B t ao n F) (hR : R < B) (hB : B' ≤ B) (a b c d e : Value) :
    Own (((((w.setCell ⟨R, 0, none⟩ a).setCell ⟨R, 1, none⟩ b).setCell ⟨R, 2, none⟩ c).setCell ⟨R, 3, none⟩ d).setCell ⟨R, 4, none⟩ e) B' t ao n F := by
  have := own_set (i := 4) (own_set (i := 3) (own_set (i := 2) (own_set (i := 1) (own_set (i := 0) h hR a) hR b) hR c) hR d) hR e
  rcases this with h | ⟨g', ea, hB', c, hc, hs, hF⟩
  · exact .inl h
  · exact .inr ⟨g', ea, by omega, c, hc, hs, hF⟩

theorem below_put5 {w wr : World} (h : Below w.heap.size w wr) (a b c d e : Value) : Below w.heap.size w (((((wr.setCell ⟨w.heap.size, 0, none⟩ a).setCell ⟨w.heap.size, 1, none⟩ b).setCell ⟨w.heap.size, 2, none⟩ c).setCell ⟨w.heap.size, 3, none⟩ d).setCell ⟨w.heap.size, 4, none⟩ e) :=
  ((((h.setCell (p := ⟨w.heap.size, 0, none⟩) (Nat.le_refl _) a).setCell (p := ⟨w.heap.size, 1, none⟩) (Nat.le_refl _) b).setCell (p := ⟨w.heap.size, 2, none⟩) (Nat.le_refl _) c).setCell (p := ⟨w.heap.size, 3, none⟩) (Nat.le_refl _) d).setCell (p := ⟨w.heap.size, 4, none⟩) (Nat.le_refl _) e

set_option maxHeartbeats 4000000 in
set_option maxRecDepth 100000 in
theorem msgof_spec (ao : Option Addr) (n cap : Nat) (p : Int) (f : Nat → Int) (w : World) (hn : n ≤ 1048576) (hcap : n ≤ cap) (hp0 : -9223372036854775808 ≤ p) (hp : p ≤ 9223372036854775807) (hs : SL .u8 w ao n f) (hf : ∀ i, i < n → 0 ≤ f i ∧ f i ≤ 255) :
    Calls Try.prog 14 #[.slice ao n cap, .int .i64 p] w fun e w' => MsgOut w w' n f p e := by
  obtain ⟨i0, hi, hz0, hz1, hz2⟩ := info_parts Try.info3
  have HS := hide hs
  have HF := hide hf
  clear hs hf
  go_enter Try.func14, Try.ntmps14
  go_wp2_with fail
  have hb2 : Below w.heap.size w ((w.alloc (.cells #[.int .i64 0, .int .i64 0, .int .i64 0, .int .i64 0, .slice none 0 0] 26)).alloc (.cells #[.slice ao n cap, .int .i64 p, .bool true] 71)) := ((Below.refl _ _).alloc (Nat.le_refl _) _).alloc (by simp) _
  have hR := (MB.new w 26 0 0 0 0 none 0 0)
  have hC : ((w.alloc (.cells #[.int .i64 0, .int .i64 0, .int .i64 0, .int .i64 0, .slice none 0 0] 26)).alloc (.cells #[.slice ao n cap, .int .i64 p, .bool true] 71)).heap[w.heap.size + 1]? = some (.cells #[.slice ao n cap, .int .i64 p, .bool true] 71 (0, 0)) := by
    have := Deep.blk_alloc_new (w.alloc (.cells #[.int .i64 0, .int .i64 0, .int .i64 0, .int .i64 0, .slice none 0 0] 26)) (.cells #[.slice ao n cap, .int .i64 p, .bool true] 71)
    simpa using this
  refine (num_any (w.heap.size + 1) ao n cap f (some p) _ hn (HS.out.below hb2) HF.out ⟨p, hC, (fun _ e => by cases e; rfl), hp⟩).mono ?_
  rintro e w1 ⟨rfl, hc1, ho1⟩
  have hR1 : MB w1 w.heap.size 26 0 0 0 0 none 0 0 := (ho1.2.2 _ (by omega)).trans ((hR.below ((Below.refl _ _).alloc (Nat.le_refl _) _) (by simp) : MB ((w.alloc (.cells #[.int .i64 0, .int .i64 0, .int .i64 0, .int .i64 0, .slice none 0 0] 26)).alloc (.cells #[.slice ao n cap, .int .i64 p, .bool true] 71)) w.heap.size 26 0 0 0 0 none 0 0))
  have hsz1 : w1.heap.size = w.heap.size + 1 + 1 := by rw [ho1.2.1]; simp
  have B1 := hide (hb2.trans (ho1.1.mono (by omega)))
  have HR1 := hide hR1
  have HC1 := hide hc1
  clear hb2 hR hC hR1 hc1 ho1
  cases hs1 : nx n f (some p) with
  | none =>
    have hno : Hid (¬ ∃ k c v d G, Begins n f p k c v d G) := fun ⟨k, c, v, d, G, hB⟩ => by
      obtain ⟨⟨q, hq, _⟩, _⟩ := begins_read hB
      rw [show sts n f (some p) 1 = nx n f (some p) from rfl, hs1] at hq
      cases hq
    obtain ⟨q, hblk, _, _⟩ := HC1.out
    rw [hs1] at hblk
    have c2 := blk_cell (i := 2) hblk rfl
    change w1.cell? ⟨w.heap.size + 1, 2, none⟩ = some (.bool false) at c2
    obtain ⟨r0, r1, r2, r3, r4⟩ := HR1.out.cells
    have zr : ∀ i, w1.frozen? ⟨w.heap.size, i, none⟩ = false := fun i => by have := HR1.out; unfold MB at this; simp [World.frozen?, this]
    clear hblk hs1 HC1
    go_wp2_with fail
    refine bodyPost_ret (v := .tuple #[.agg #[.int .i64 0, .int .i64 0, .int .i64 0, .int .i64 0, .slice none 0 0], .int .i64 0, .bool false]) (by simp [results, Try.results14, go_sem, r0, r1, r2, r3, r4]) rfl ?_
    exact ⟨.inr ⟨hno.out, rfl⟩, below_put5 B1.out _ _ _ _ _⟩
  | some q1 =>
    obtain ⟨q, hblk, hq, _⟩ := HC1.out
    rw [hs1] at hblk hq HC1
    obtain rfl : q = q1 := hq q1 rfl
    obtain ⟨x, hx⟩ : ∃ x, rdI n f p = some (x, q) := by
      simp only [nx] at hs1
      cases hr : rdI n f p with
      | none => rw [hr] at hs1; cases hs1
      | some xy => rw [hr] at hs1; simp at hs1; exact ⟨xy.1, by rw [← hs1]⟩
    have hxp := rdI_pos hx
    have hxv : rdv n f (some p) = x := by simp [rdv, hx]
    have HX1 := hide (And.intro hs1 hxv)
    have HXP := hide hxp
    rw [hxv]
    have c1 := blk_cell (i := 1) hblk rfl
    have c2 := blk_cell (i := 2) hblk rfl
    change w1.cell? ⟨w.heap.size + 1, 1, none⟩ = some (.int .i64 q) at c1
    change w1.cell? ⟨w.heap.size + 1, 2, none⟩ = some (.bool true) at c2
    clear hblk hq hs1 hx hxv
    by_cases hbig : (n : Int) - q - 4 < x
    · have hno : Hid (¬ ∃ k c v d G, Begins n f p k c v d G) := fun ⟨k, c, v, d, G, hB⟩ => by
        obtain ⟨⟨q', hq', hle⟩, _⟩ := begins_read hB
        rw [show sts n f (some p) 1 = nx n f (some p) from rfl, HX1.out.1] at hq'
        cases hq'
        rw [HX1.out.2] at hle
        omega
      obtain ⟨r0, r1, r2, r3, r4⟩ := HR1.out.cells
      have zr : ∀ i, w1.frozen? ⟨w.heap.size, i, none⟩ = false := fun i => by have := HR1.out; unfold MB at this; simp [World.frozen?, this]
      clear HC1
      go_wp2_with fail
      refine bodyPost_ret (v := .tuple #[.agg #[.int .i64 0, .int .i64 0, .int .i64 0, .int .i64 0, .slice none 0 0], .int .i64 0, .bool false]) (by simp [results, Try.results14, go_sem, r0, r1, r2, r3, r4]) rfl ?_
      exact ⟨.inr ⟨hno.out, rfl⟩, below_put5 B1.out _ _ _ _ _⟩
    · have hM0 : Hid (MoS w (w1.alloc (.cells #[.int .i64 0, .int .i64 0, .int .i64 0, .int .i64 0, .slice none 0 0] 26)) ao n cap (sts n f (some p) 1) 0 0 0 0 (.slice none 0 0) []) := by
        have ba : Below w1.heap.size w1 (w1.alloc (.cells #[.int .i64 0, .int .i64 0, .int .i64 0, .int .i64 0, .slice none 0 0] 26)) := (Below.refl _ _).alloc (Nat.le_refl _) _
        rw [show sts n f (some p) 1 = nx n f (some p) from rfl, HX1.out.1]
        obtain ⟨q', hb', hq', hle'⟩ := HC1.out
        refine ⟨HR1.out.below ba HR1.out.lt, ⟨q', (ba.block _ (by omega)).trans hb', hq', hle'⟩, ?_, gnil, by simp; omega, B1.out.trans (ba.mono B1.out.size)⟩
        have := Deep.blk_alloc_new w1 (.cells #[.int .i64 0, .int .i64 0, .int .i64 0, .int .i64 0, .slice none 0 0] 26)
        rw [hsz1] at this
        exact this
      clear HC1 HR1 B1
      go_wp2_with fail
      refine (num_any (w.heap.size + 1) ao n cap f (sts n f (some p) 1) _ hn (HS.out.below hM0.out.2.2.2.2.2) HF.out hM0.out.2.1).mono ?_
      rintro e wN1 ⟨rfl, hcN, hoN⟩
      have hN1 := hide (hM0.out.num hoN (show Cu wN1 (w.heap.size + 1) ao n cap (sts n f (some p) 2) from hcN))
      obtain ⟨⟨m0, m1, m2, m3, m4⟩, mz⟩ := hN1.out.cells
      have HK1 : Hid (∃ K1, rdv n f (sts n f (some p) 1) = K1) := ⟨_, rfl⟩
      obtain ⟨K1, hK1⟩ := HK1.out
      have HE1 := hide hK1
      rw [hK1]
      have hM1 := hide (hN1.out.put 0 (.int .i64 K1) rfl)
      clear hcN hoN hM0 hK1 HK1 hN1
      go_wp2_with fail
      clear m0 m1 m2 m3 m4 mz
      refine (num_any (w.heap.size + 1) ao n cap f (sts n f (some p) 2) _ hn (HS.out.below hM1.out.2.2.2.2.2) HF.out hM1.out.2.1).mono ?_
      rintro e wN2 ⟨rfl, hcN, hoN⟩
      have hN2 := hide (hM1.out.num hoN (show Cu wN2 (w.heap.size + 1) ao n cap (sts n f (some p) 3) from hcN))
      obtain ⟨⟨m0, m1, m2, m3, m4⟩, mz⟩ := hN2.out.cells
      have HK2 : Hid (∃ K2, rdv n f (sts n f (some p) 2) = K2) := ⟨_, rfl⟩
      obtain ⟨K2, hK2⟩ := HK2.out
      have HE2 := hide hK2
      rw [hK2]
      have hM2 := hide (hN2.out.put 1 (.int .i64 K2) rfl)
      clear hcN hoN hM1 hK2 HK2 hN2
      go_wp2_with fail
      clear m0 m1 m2 m3 m4 mz
      refine (num_any (w.heap.size + 1) ao n cap f (sts n f (some p) 3) _ hn (HS.out.below hM2.out.2.2.2.2.2) HF.out hM2.out.2.1).mono ?_
      rintro e wN3 ⟨rfl, hcN, hoN⟩
      have hN3 := hide (hM2.out.num hoN (show Cu wN3 (w.heap.size + 1) ao n cap (sts n f (some p) 4) from hcN))
      obtain ⟨⟨m0, m1, m2, m3, m4⟩, mz⟩ := hN3.out.cells
      have HK3 : Hid (∃ K3, rdv n f (sts n f (some p) 3) = K3) := ⟨_, rfl⟩
      obtain ⟨K3, hK3⟩ := HK3.out
      have HE3 := hide hK3
      rw [hK3]
      have hM3 := hide (hN3.out.put 2 (.int .i64 K3) rfl)
      clear hcN hoN hM2 hK3 HK3 hN3
      go_wp2_with fail
      clear m0 m1 m2 m3 m4 mz
      refine (num_any (w.heap.size + 1) ao n cap f (sts n f (some p) 4) _ hn (HS.out.below hM3.out.2.2.2.2.2) HF.out hM3.out.2.1).mono ?_
      rintro e wN4 ⟨rfl, hcN, hoN⟩
      have hN4 := hide (hM3.out.num hoN (show Cu wN4 (w.heap.size + 1) ao n cap (sts n f (some p) 5) from hcN))
      obtain ⟨⟨m0, m1, m2, m3, m4⟩, mz⟩ := hN4.out.cells
      have HK4 : Hid (∃ K4, rdv n f (sts n f (some p) 4) = K4) := ⟨_, rfl⟩
      obtain ⟨K4, hK4⟩ := HK4.out
      have HE4 := hide hK4
      rw [hK4]
      have hM4 := hide (hN4.out.put 3 (.int .i64 K4) rfl)
      clear hcN hoN hM3 hK4 HK4 hN4
      go_wp2_with fail
      clear m0 m1 m2 m3 m4 mz c1 c2
      refine (num_any (w.heap.size + 1) ao n cap f (sts n f (some p) 5) _ hn (HS.out.below hM4.out.2.2.2.2.2) HF.out hM4.out.2.1).mono ?_
      rintro e w6 ⟨rfl, hcN, hoN⟩
      have hM6 := hide (hM4.out.num hoN (show Cu w6 (w.heap.size + 1) ao n cap (sts n f (some p) 6) from hcN))
      obtain ⟨hct0, hct1⟩ := rdv_pos n f (sts n f (some p) 5)
      have HK5 : Hid (∃ K5, rdv n f (sts n f (some p) 5) = K5) := ⟨_, rfl⟩
      obtain ⟨cnt, hK5⟩ := HK5.out
      have HE5 := hide hK5
      rw [hK5] at hct0 hct1 ⊢
      clear hcN hoN hM4 hK5 HK5
      clear hbig
      go_wp2
      go_loopw [11, 12] (fun i _ wr => ∃ (j : Nat) (gv : Value) (G : List Int), j ≤ n ∧ (j : Int) ≤ cnt ∧ i = .int .i64 j ∧ Hid (G = (List.range j).map (fun i => rdv n f (sts n f (some p) (6 + i)))) ∧ Hid (MoS w wr ao n cap (sts n f (some p) (6 + j)) K1 K2 K3 K4 gv G)) (fun i _ _ => cnt.toNat - (intOf i).toNat)
      case atStart => exact ⟨0, _, [], by omega, by omega, rfl, rfl, hM6.out⟩
      case round =>
        clear hM6
        obtain ⟨j, gv, G, hjn, hjc, rfl, HG, HM⟩ := hrel
        have HGL : Hid (G.length = j) := (show _ = _ by rw [HG.out]; simp)
        have hcur := HM.out.cur
        cases hst : sts n f (some p) (6 + j) with
        | none =>
          rw [hst] at hcur HM
          simp only [Option.isSome_none] at hcur
          have hno : Hid (¬ ∃ k c v d G, Begins n f p k c v d G) := fun ⟨k, c, v, d, G0, hB⟩ => by
            obtain ⟨_, hs, _, _, _, _, h5, _⟩ := begins_read hB
            have h := hs (6 + j) (by rw [HE5.out] at h5; omega)
            rw [hst] at h
            cases h
          clear hst
          by_cases hjl : (j : Int) < cnt
          · skip
            obtain ⟨ro, rc, rfl, ⟨_, hrc, _⟩, hOw⟩ := Own.of_owns HM.out.2.2.2.1
            obtain ⟨⟨m0, m1, m2, m3, m4⟩, _⟩ := HM.out.cells
            have hGl := HGL.out
            have HOW := hide (And.intro hrc hOw.sl)
            clear hrc hOw hGl
            go_wp2_with fail
            refine (msgbytes_spec ro G.length rc (fun i => G.getD i 0) K1 K2 K3 K4 _ (by have := HGL.out; omega) HOW.out.1 HOW.out.2).mono ?_
            rintro e w9 ⟨v9, rfl, ho9, hb9⟩
            obtain ⟨bo, bc, rfl, ⟨_, hbc, _⟩, hO9⟩ := Own.of_owns ho9
            have HM9 := hide (HM.out.step hb9)
            have hcur9 := HM9.out.cur
            obtain ⟨r0, r1, r2, r3, r4⟩ := HM9.out.1.cells
            have zr : ∀ i, w9.frozen? ⟨w.heap.size, i, none⟩ = false := fun i => by have := HM9.out.1; unfold MB at this; simp [World.frozen?, this]
            clear m0 m1 m2 m3 m4 hcur HM
            simp only [Option.isSome_none] at hcur9
            clear ho9 hb9 hO9 hbc HOW
            go_wp2_with fail
            go_quiet (fail)
            go_wp2_with fail
            refine bodyPost_ret (v := .tuple #[.agg #[.int .i64 0, .int .i64 0, .int .i64 0, .int .i64 0, .slice none 0 0], .int .i64 0, .bool false]) (by simp [results, Try.results14, go_sem, r0, r1, r2, r3, r4]) rfl ?_
            exact ⟨.inr ⟨hno.out, rfl⟩, below_put5 (Below.drawn HM9.out.2.2.2.2.2 _) _ _ _ _ _⟩
          · skip
            obtain ⟨ro, rc, rfl, ⟨_, hrc, _⟩, hOw⟩ := Own.of_owns HM.out.2.2.2.1
            obtain ⟨⟨m0, m1, m2, m3, m4⟩, _⟩ := HM.out.cells
            have hGl := HGL.out
            have HOW := hide (And.intro hrc hOw.sl)
            clear hrc hOw hGl
            go_wp2_with fail
            refine (msgbytes_spec ro G.length rc (fun i => G.getD i 0) K1 K2 K3 K4 _ (by have := HGL.out; omega) HOW.out.1 HOW.out.2).mono ?_
            rintro e w9 ⟨v9, rfl, ho9, hb9⟩
            obtain ⟨bo, bc, rfl, ⟨_, hbc, _⟩, hO9⟩ := Own.of_owns ho9
            have HM9 := hide (HM.out.step hb9)
            have hcur9 := HM9.out.cur
            obtain ⟨r0, r1, r2, r3, r4⟩ := HM9.out.1.cells
            have zr : ∀ i, w9.frozen? ⟨w.heap.size, i, none⟩ = false := fun i => by have := HM9.out.1; unfold MB at this; simp [World.frozen?, this]
            clear m0 m1 m2 m3 m4 hcur HM
            simp only [Option.isSome_none] at hcur9
            clear ho9 hb9 hO9 hbc HOW
            go_wp2_with fail
            go_quiet (fail)
            go_wp2_with fail
            refine bodyPost_ret (v := .tuple #[.agg #[.int .i64 0, .int .i64 0, .int .i64 0, .int .i64 0, .slice none 0 0], .int .i64 0, .bool false]) (by simp [results, Try.results14, go_sem, r0, r1, r2, r3, r4]) rfl ?_
            exact ⟨.inr ⟨hno.out, rfl⟩, below_put5 (Below.drawn HM9.out.2.2.2.2.2 _) _ _ _ _ _⟩
        | some q6 =>
          rw [hst] at hcur
          simp only [Option.isSome_some] at hcur
          have hq6 := sts_pos (6 + j) hst
          by_cases hjl : (j : Int) < cnt
          · have hjn' : j + 1 ≤ n := by have := hq6.2 (by omega); omega
            clear hst hq6
            go_wp2_with fail
            refine (num_any (w.heap.size + 1) ao n cap f (sts n f (some p) (6 + j)) _ hn (HS.out.below HM.out.2.2.2.2.2) HF.out HM.out.2.1).mono ?_
            rintro e w7 ⟨rfl, hcN, hoN⟩
            have hN := hide (HM.out.num hoN (show Cu w7 (w.heap.size + 1) ao n cap (sts n f (some p) (6 + (j + 1))) from hcN))
            obtain ⟨⟨m0, m1, m2, m3, m4⟩, mz⟩ := hN.out.cells
            have hnx : Hid (G ++ [rdv n f (sts n f (some p) (6 + j))] = (List.range (j + 1)).map (fun i => rdv n f (sts n f (some p) (6 + i)))) := (show _ = _ by rw [List.range_succ, List.map_append, ← HG.out]; rfl)
            generalize rdv n f (sts n f (some p) (6 + j)) = z at *
            have hGl := HGL.out
            clear hcN hoN HM hcur
            go_wp2_with (first | (at_builtin; refine wpList_append_lies _ rfl _ _ 24 rfl (w.heap.size + 1 + 1 + 1) 3 i0 (.int .i64 0) 1 8 Try.underlying24 hi hz0 hz1 hz2 rfl (by decide) _ _ _ rfl (hN.out.2.2.2.1.alloc _) ⟨w7.heap.size, 0, none⟩ 1 1 ([z].map (.int .i64)) rfl rfl (gcells _ _ _) (gones _ _) (by omega) (glens (by omega)) (by omega) (by have := hN.out.2.2.2.2.1; simp; omega) _ rfl ?_; intro g8 c8 w8 hown8 hgrow8 hat8 hlt8; have H8 := hide ((hN.out.alloc _).grow (G' := G ++ [z]) (gv' := .slice (some ⟨g8, 0, none⟩) (G.length + 1) c8) hgrow8 (by simpa using hown8)); have c84 : w8.cell? ⟨w.heap.size + 1 + 1, 4, none⟩ = some gv := blk_cell H8.out.2.2.1 rfl; have z84 : w8.frozen? ⟨w.heap.size + 1 + 1, 4, none⟩ = false := (by have := H8.out.2.2.1; simp [World.frozen?, this]); clear hown8 hgrow8 hat8 hlt8 m0 m1 m2 m3 m4 mz))
            have HM8 := hide (mo_put H8.out.1 H8.out.2.1 H8.out.2.2.1 H8.out.2.2.2.2.1 H8.out.2.2.2.2.2 4 (.slice (some ⟨g8, 0, none⟩) (G.length + 1) c8) rfl H8.out.2.2.2.1)
            go_roundw
            case rel => exact ⟨j + 1, _, G ++ [z], hjn', by omega, by go_num, hnx.out, (by have h := HM8.out; rw [hGl] at h; exact h)⟩
            case measure => simp [intOf]; omega
          · skip
            obtain ⟨ro, rc, rfl, ⟨_, hrc, _⟩, hOw⟩ := Own.of_owns HM.out.2.2.2.1
            obtain ⟨⟨m0, m1, m2, m3, m4⟩, _⟩ := HM.out.cells
            have hGl := HGL.out
            have HOW := hide (And.intro hrc hOw.sl)
            clear hrc hOw hGl
            go_wp2_with fail
            refine (msgbytes_spec ro G.length rc (fun i => G.getD i 0) K1 K2 K3 K4 _ (by have := HGL.out; omega) HOW.out.1 HOW.out.2).mono ?_
            rintro e w9 ⟨v9, rfl, ho9, hb9⟩
            obtain ⟨bo, bc, rfl, ⟨_, hbc, _⟩, hO9⟩ := Own.of_owns ho9
            have HM9 := hide (HM.out.step hb9)
            have hcur9 := HM9.out.cur
            obtain ⟨r0, r1, r2, r3, r4⟩ := HM9.out.1.cells
            have zr : ∀ i, w9.frozen? ⟨w.heap.size, i, none⟩ = false := fun i => by have := HM9.out.1; unfold MB at this; simp [World.frozen?, this]
            clear m0 m1 m2 m3 m4 hcur HM
            rw [hst] at hcur9
            simp only [Option.isSome_some] at hcur9
            have hjc' : (j : Int) = cnt := by omega
            have hpar : Hid (∀ k c v d G0, Begins n f p k c v d G0 → K1 = k ∧ K2 = c ∧ K3 = v ∧ K4 = d ∧ G = G0) := fun k c v d G0 hB => by
              obtain ⟨_, _, e1, e2, e3, e4, e5, e6⟩ := begins_read hB
              rw [HE1.out] at e1
              rw [HE2.out] at e2
              rw [HE3.out] at e3
              rw [HE4.out] at e4
              rw [HE5.out] at e5
              refine ⟨e1, e2, e3, e4, ?_⟩
              have ej : j = G0.length := by omega
              rw [HG.out, ej]
              conv => rhs; rw [← range_getD G0]
              refine List.map_congr_left fun i hi => ?_
              simp at hi
              rw [e6 i hi]
            have HB9 := hide HM9.out.2.2.2.2.2
            have hq0 := hq6.1
            have hq1 := hq6.2 (by omega)
            clear hb9 hst hjc' HOW ho9 hq6
            by_cases hok : MOk K1 K2 K3 K4 (fun i => G.getD i 0) G.length
            · have hmbl : 0 < (mb K1 K2 K3 K4 (fun i => G.getD i 0) G.length).length := by
                unfold mb
                rw [if_pos hok]
                simp [framed, s4]
                omega
              have hmb1 := mb_len K1 K2 K3 K4 (fun i => G.getD i 0) G.length
              have hbyt := hide (mb_byte K1 K2 K3 K4 (fun i => G.getD i 0) G.length)
              generalize hMB : mb K1 K2 K3 K4 (fun i => G.getD i 0) G.length = L at *
              have HMB := hide hMB
              clear hMB
              have d0 : decide ((L.length : Int) = 0) = false := decide_eq_false (by omega)
              have d1 : ((L.length : Int) == 0) = false := by rw [beq_eq_false_iff_ne]; omega
              by_cases hlong : (n : Int) - p < (L.length : Int)
              · have hno : Hid (¬ ∃ k c v d G, Begins n f p k c v d G) := fun ⟨k, c, v, d, G0, hB⟩ => by
                  obtain ⟨rfl, rfl, rfl, rfl, rfl⟩ := hpar.out k c v d G0 hB
                  have := hB.2.2.1
                  rw [HMB.out] at this
                  omega
                clear hpar
                go_wp2_with fail
                go_quiet (fail)
                go_wp2_with fail
                refine bodyPost_ret (v := .tuple #[.agg #[.int .i64 0, .int .i64 0, .int .i64 0, .int .i64 0, .slice none 0 0], .int .i64 0, .bool false]) (by simp [results, Try.results14, go_sem, r0, r1, r2, r3, r4]) rfl ?_
                exact ⟨.inr ⟨hno.out, rfl⟩, below_put5 (Below.drawn HM9.out.2.2.2.2.2 _) _ _ _ _ _⟩
              · obtain ⟨a, rfl⟩ : ∃ a : Nat, p = a := ⟨p.toNat, by have := HXP.out; omega⟩
                obtain ⟨b, off, rfl, hb, _⟩ := HS.out 0 (by have := HXP.out; omega)
                have HSb := hide (HS.out.below HB9.out)
                have hLbl : Hid (((List.range L.length).map (fun i => f (a + i))).length = L.length) := (show _ = _ by simp)
                have hLbb : Hid (∀ z ∈ (List.range L.length).map (fun i => f (a + i)), 0 ≤ z ∧ z ≤ 255) := fun z hz => by
                  simp at hz
                  obtain ⟨i, hi, rfl⟩ := hz
                  exact HF.out (a + i) (by omega)
                have hcv1 : ∀ q, (convert 22 9 (.slice bo L.length bc)).run Try.prog (w9.drewN q) = .ok (.string (bstr L)) (w9.drewN q) := fun q => conv_str (hO9.drawn q).sl hbyt.out
                have hcv2 : ∀ q c, (convert 22 9 (.slice (some ⟨b, off + a, none⟩) L.length c)).run Try.prog (w9.drewN q) = .ok (.string (bstr ((List.range L.length).map (fun i => f (a + i))))) (w9.drewN q) := fun q c => by
                  have h := conv_str (w := w9.drewN q) (ao := some ⟨b, off + a, none⟩) (cap := c) (L := (List.range L.length).map (fun i => f (a + i))) (fun i hi => by
                    have hi' : i < L.length := by simpa using hi
                    obtain ⟨b', off', e', hb', hc'⟩ := HSb.out (a + i) (by omega)
                    simp only [Option.some.injEq, Addr.mk.injEq] at e'
                    obtain ⟨rfl, rfl, _⟩ := e'
                    refine ⟨b, off + a, rfl, hb', ?_⟩
                    rw [Nat.add_assoc]
                    simp [List.getD, hi']
                    exact hc') hLbb.out
                  rw [hLbl.out] at h
                  exact h
                have HTR : Hid (bstr L = bstr ((List.range L.length).map (fun i => f (a + i))) ↔ Has n f a L) := ⟨fun h => by
                    have e := bstr_inj hbyt.out hLbb.out h
                    refine ⟨by omega, fun i hi => ?_⟩
                    have this : L.getD i 0 = ((List.range L.length).map (fun i => f (a + i))).getD i 0 := congrArg (fun l => l.getD i 0) e
                    rw [this]
                    simp [List.getD, hi], fun h => by
                    congr 1
                    refine List.ext_getElem (by simp) fun i h1 h2 => ?_
                    have := h.2 i h1
                    simp [List.getD, h1] at this
                    simp [this]⟩
                generalize bstr ((List.range L.length).map (fun i => f (a + i))) = sb at *
                generalize bstr L = sl at *
                have t1 : IntKind.i64.wrap ((a : Int) + (L.length : Int)) = (a : Int) + (L.length : Int) := by rw [IntKind.wrap_i64]; omega
                have t2 : (0 : Int) ≤ (a : Int) := by omega
                have t3 : (a : Int) ≤ (a : Int) + (L.length : Int) := by omega
                have t4 : (a : Int) + (L.length : Int) ≤ (cap : Int) := by omega
                have t5 : ((a : Int) + (L.length : Int)).toNat = a + L.length := by omega
                have t7 : IntKind.i64.wrap ((n : Int) - (a : Int)) = (n : Int) - (a : Int) := by rw [IntKind.wrap_i64]; omega
                have t6 : decide ((n : Int) - (a : Int) < (L.length : Int)) = false := decide_eq_false hlong
                clear hLbl hLbb hbyt HSb HF HS hO9 hbc
                have t8 : ¬ cap = a := by omega
                by_cases hEq : sl = sb
                · have hHas := hide (HTR.out.1 hEq)
                  subst hEq
                  obtain ⟨⟨m0, m1, m2, m3, m4⟩, _⟩ := HM9.out.cells
                  have hgl : Hid (G.length ≤ rc ∧ Own w9 (w.heap.size + 1 + 1 + 1) 3 ro G.length (fun i => .int .i64 (G.getD i 0))) := by
                    obtain ⟨ro', rc', e', ⟨_, h2, _⟩, h3⟩ := Own.of_owns HM9.out.2.2.2.1
                    cases e'
                    exact ⟨h2, h3⟩
                  go_wp2_with fail
                  go_quiet (fail)
                  go_wp2_with fail
                  refine bodyPost_ret (v := .tuple #[.agg #[.int .i64 K1, .int .i64 K2, .int .i64 K3, .int .i64 K4, .slice ro G.length rc], .int .i64 ((a : Int) + (L.length : Int)), .bool true]) (by simp [results, Try.results14, go_sem, r0, r1, r2, r3, r4]) rfl ?_
                  refine ⟨.inl ⟨K1, K2, K3, K4, G, ro, rc, ⟨by omega, hok, ?_⟩, by rw [HMB.out], hgl.out.1, own_put5 (hgl.out.2.drawn _) (by omega) (by omega) _ _ _ _ _⟩, below_put5 (Below.drawn HM9.out.2.2.2.2.2 _) _ _ _ _ _⟩
                  rw [HMB.out]
                  exact hHas.out
                · have hno : Hid (¬ ∃ k c v d G, Begins n f (a : Int) k c v d G) := fun ⟨k, c, v, d, G0, hB⟩ => by
                    obtain ⟨rfl, rfl, rfl, rfl, rfl⟩ := hpar.out k c v d G0 hB
                    have h := hB.2.2
                    rw [HMB.out] at h
                    exact hEq (HTR.out.2 h)
                  have hne : (sl.toList == sb.toList) = false := bytes_ne hEq
                  clear hpar
                  go_wp2_with fail
                  go_quiet (fail)
                  go_wp2_with fail
                  refine bodyPost_ret (v := .tuple #[.agg #[.int .i64 0, .int .i64 0, .int .i64 0, .int .i64 0, .slice none 0 0], .int .i64 0, .bool false]) (by simp [results, Try.results14, go_sem, r0, r1, r2, r3, r4]) rfl ?_
                  exact ⟨.inr ⟨hno.out, rfl⟩, below_put5 (Below.drawn HM9.out.2.2.2.2.2 _) _ _ _ _ _⟩
            · have hmb : mb K1 K2 K3 K4 (fun i => G.getD i 0) G.length = [] := by unfold mb; rw [if_neg hok]
              have hno : Hid (¬ ∃ k c v d G, Begins n f p k c v d G) := fun ⟨k, c, v, d, G0, hB⟩ => by
                obtain ⟨rfl, rfl, rfl, rfl, rfl⟩ := hpar.out k c v d G0 hB
                exact hok hB.2.1
              rw [hmb] at hbc hO9 ⊢
              clear hmb hok hpar hO9 hbc
              simp only [List.length_nil] at *
              go_wp2_with fail
              go_quiet (fail)
              go_wp2_with fail
              refine bodyPost_ret (v := .tuple #[.agg #[.int .i64 0, .int .i64 0, .int .i64 0, .int .i64 0, .slice none 0 0], .int .i64 0, .bool false]) (by simp [results, Try.results14, go_sem, r0, r1, r2, r3, r4]) rfl ?_
              exact ⟨.inr ⟨hno.out, rfl⟩, below_put5 (Below.drawn HM9.out.2.2.2.2.2 _) _ _ _ _ _⟩
end Go.Proofs.Ythhkmfgccbkkhaa

/- A message that MsgOf handed back, marked and found again; that it is one alone. -/
namespace Go.Proofs.Ythhkmfgccbkkhaa
open Go.ChangeShapes Go.WideShapes Go.ChangeAt Go.RowKit
set_option linter.unusedVariables false
set_option linter.unusedSimpArgs false

theorem begins_one {n : Nat} {f : Nat → Int} {p k c v d k' c' v' d' : Int} {G G' : List Int} (h : Begins n f p k c v d G) (h' : Begins n f p k' c' v' d' G') : k = k' ∧ c = c' ∧ v = v' ∧ d = d' ∧ G = G' := by
  obtain ⟨_, _, e1, e2, e3, e4, e5, e6⟩ := begins_read h
  obtain ⟨_, _, g1, g2, g3, g4, g5, g6⟩ := begins_read h'
  have hl : G.length = G'.length := by omega
  refine ⟨e1.symm.trans g1, e2.symm.trans g2, e3.symm.trans g3, e4.symm.trans g4, ?_⟩
  rw [← range_getD G, ← range_getD G', hl]
  refine List.map_congr_left fun i hi => ?_
  have hi' : i < G'.length := by simpa using hi
  rw [← e6 i (by omega), ← g6 i hi']

theorem imark_own (g n cap B : Nat) (k0 : Int) (F : Nat → Value) (w : World) (hn : n ≤ 1048576) (h0 : 0 ≤ k0) (h1 : k0 ≤ 1099511627776) (ho : Own w B 3 (some ⟨g, 0, none⟩) n F) :
    Calls Try.prog 77 #[.slice (some ⟨g, 0, none⟩) n cap, .int .i64 k0] w fun e w' => e = .returned (.int .i64 (k0 + n)) ∧ Own w' B 3 (some ⟨g, 0, none⟩) n (fun j => .int .i64 (k0 + j)) ∧ Only g w w' := by
  go_enter Try.func77, Try.ntmps77
  go_wp2
  go_loopw [1, 5] (fun m i wr => ∃ k : Nat, k ≤ n ∧ i = .int .i64 k ∧ m = .int .i64 (k0 + k) ∧ Own wr B 3 (some ⟨g, 0, none⟩) n (fun j => if j < k then .int .i64 (k0 + j) else F j) ∧ Only g w wr) (fun _ i _ => n - (intOf i).toNat)
  case atStart => exact ⟨0, Nat.zero_le _, rfl, by simp, ho.congr (by intro i _; simp), Only.refl _ _⟩
  case round =>
    obtain ⟨k, hk, rfl, rfl, hrow, hbel⟩ := hrel
    by_cases hlt : k < n
    · obtain ⟨g', e, hB, hg, hc, hf⟩ := hrow.at hlt
      cases e
      have R := imark_step hrow
      have R2 := hbel.setCell (i := k) (.int .i64 (k0 + k))
      clear hrow ho
      go_wp2
      go_roundw
      case rel => exact ⟨k + 1, by omega, by go_num, by go_num, R, R2⟩
      case measure => simp [intOf]; omega
    · have hkn : k = n := by omega
      subst hkn
      go_wp2
      go_ret
      exact ⟨rfl, hrow.congr (by intro i hi; rw [if_pos (by omega)]), hbel⟩

/-- Its generations marked: all else that was there is as it was. -/
theorem mark_msg_own (ao : Option Addr) (n cap B : Nat) (k c v h k0 : Int) (F : Nat → Value) (w : World) (hn : n ≤ 1048576) (h0 : 0 ≤ k0) (h1 : k0 ≤ 1099511627776) (hB : B ≤ w.heap.size) (ho : Own w B 3 ao n F) :
    Calls Try.prog 30 #[.agg #[.int .i64 k, .int .i64 c, .int .i64 v, .int .i64 h, .slice ao n cap], .int .i64 k0] w fun e w' => e = .returned (.int .i64 (k0 + n)) ∧ Own w' B 3 ao n (fun j => .int .i64 (k0 + j)) ∧ Below B w w' ∧ ∀ j, j < w.heap.size → (∀ g, ao = some ⟨g, 0, none⟩ → n = 0 ∨ j ≠ g) → w'.heap[j]? = w.heap[j]? := by
  have hb : Below w.heap.size w (w.alloc (.cells #[.int .i64 k, .int .i64 c, .int .i64 v, .int .i64 h, .slice ao n cap] 26)) := (Below.refl _ _).alloc (Nat.le_refl _) _
  rcases (Nat.eq_zero_or_pos n) with hn0 | hn0
  · subst hn0
    have HB := hide hb
    clear hb
    go_enter Try.func30, Try.ntmps30
    go_wp2_with fail
    refine (imark_any ao 0 cap w.heap.size k0 F _ (by omega) h0 h1 (.inl rfl)).mono ?_
    rintro e w1 ⟨rfl, _, hy⟩
    have HY := hide (HB.out.trans hy)
    clear hy
    go_wp2
    go_ret
    exact ⟨congrArg (fun z => Ending.returned (.int .i64 z)) (show k0 = k0 + ((0 : Nat) : Int) by omega), .inl rfl, HY.out.mono hB, fun j hj _ => HY.out.block j hj⟩
  · obtain ⟨g, rfl, hgB, hgw, _, _⟩ := ho.at hn0
    have HO := hide (ho.below hb)
    have HB := hide hb
    clear ho hb
    go_enter Try.func30, Try.ntmps30
    go_wp2_with fail
    refine (imark_own g n cap B k0 F _ hn h0 h1 HO.out).mono ?_
    rintro e w1 ⟨rfl, hr, hy⟩
    have HR : Hid (Own w1 B 3 (some ⟨g, 0, none⟩) n (fun j => .int .i64 (k0 + j)) ∧ Below B w w1 ∧ ∀ j, j < w.heap.size → (∀ g', (some ⟨g, 0, none⟩ : Option Addr) = some ⟨g', 0, none⟩ → n = 0 ∨ j ≠ g') → w1.heap[j]? = w.heap[j]?) := by
      refine ⟨hr, (HB.out.mono hB).trans (hy.1.mono hgB), fun j hj hne => ?_⟩
      rcases hne g rfl with h | h
      · omega
      · exact (hy.2.2 j h).trans (HB.out.block j hj)
    clear hr hy
    go_wp2
    go_ret
    exact ⟨rfl, HR.out.1, HR.out.2.1, HR.out.2.2⟩
end Go.Proofs.Ythhkmfgccbkkhaa

/- MsgOf of the program: numbers read, bytes held against each other. -/
namespace Go.Proofs.Ythhkmfgccbkkhaa
open Go.ChangeShapes Go.WideShapes Go.ChangeAt Go.RowKit
set_option linter.unusedVariables false
set_option linter.unusedSimpArgs false

theorem geti_any (ao : Option Addr) (n cap : Nat) (p : Int) (f : Nat → Int) (w : World) (hn : n ≤ 1048576) (hp0 : -9223372036854775808 ≤ p) (hp : p ≤ 9223372036854775807) (hs : SL .u8 w ao n f) (hf : ∀ i, i < n → 0 ≤ f i ∧ f i ≤ 255) :
    Calls Try.prog 51 #[.slice ao n cap, .int .i64 p] w fun e w' => e = .returned (gres (rdI n f p)) ∧ w' = w := by
  by_cases h : p < 0
  · have e : rdI n f p = none := by unfold rdI; rw [if_pos h]
    rw [e]
    exact get_impl_of ao n cap p none w (read_neg ao n cap p w h hp0)
  · obtain ⟨a, rfl⟩ := Int.eq_ofNat_of_zero_le (Int.not_lt.1 h)
    have e : rdI n f (a : Int) = gr n f a 5 0 := by unfold rdI; rw [if_neg h]; simp
    rw [e]
    exact get_impl_of ao n cap a _ w (read_any ao n cap a f w hn hp hs hf)

/-- The numbers that are read from p on. -/
def rdl (n : Nat) (f : Nat → Int) (p : Int) (c : Nat) : List Int := (List.range c).map (fun j => rdv n f (sts n f (some p) j))
theorem rdl_succ (n : Nat) (f : Nat → Int) (p : Int) (c : Nat) : rdl n f p (c + 1) = rdl n f p c ++ [rdv n f (sts n f (some p) c)] := by simp [rdl, List.range_succ]
theorem rdl_len (n : Nat) (f : Nat → Int) (p : Int) (c : Nat) : (rdl n f p c).length = c := by simp [rdl]
theorem sts_bd (n : Nat) (f : Nat → Int) (p : Int) (c : Nat) (q : Int) (h : sts n f (some p) c = some q) : q = p ∨ (0 ≤ q ∧ q ≤ n) := by
  cases c with
  | zero => simp [sts] at h; omega
  | succ c =>
    rw [sts] at h
    cases hs : sts n f (some p) c with
    | none => rw [hs] at h; cases h
    | some r =>
      rw [hs] at h
      simp only [nx, Option.map_eq_some_iff] at h
      obtain ⟨⟨x, y⟩, h1, h2⟩ := h
      have := rdI_pos h1
      simp at h2
      omega
theorem sts_none_le (n : Nat) (f : Nat → Int) (st : Option Int) (c d : Nat) (h : sts n f st c = none) (hd : c ≤ d) : sts n f st d = none := by
  induction d with
  | zero => obtain rfl : c = 0 := by omega
            exact h
  | succ d ih =>
    by_cases e : c = d + 1
    · subst e; exact h
    · rw [sts, ih (by omega)]; rfl

/-- What getNums hands back. -/
def GnOut (w w' : World) (n : Nat) (f : Nat → Int) (p : Int) (c : Nat) (e : Ending) : Prop :=
  ((∃ q v, sts n f (some p) c = some q ∧ e = .returned (.tuple #[v, .int .i64 q, .bool true]) ∧ w'.ownsRow w.heap.size 3 1 v c ((rdl n f p c).map (.int .i64))) ∨
   (sts n f (some p) c = none ∧ e = .returned (.tuple #[.slice none 0 0, .int .i64 0, .bool false]))) ∧ Below w.heap.size w w'

set_option maxHeartbeats 1000000 in
set_option maxRecDepth 100000 in
theorem getnums_impl (ao : Option Addr) (n cap : Nat) (p : Int) (c : Nat) (f : Nat → Int) (w : World) (hn : n ≤ 1048576) (hc : c ≤ 100) (hp0 : -9223372036854775808 ≤ p) (hp : p ≤ 9223372036854775807) (hs : SL .u8 w ao n f) (hf : ∀ i, i < n → 0 ≤ f i ∧ f i ≤ 255) :
    Calls Try.prog 89 #[.slice ao n cap, .int .i64 p, .int .i64 (c : Int)] w fun e w' => GnOut w w' n f p c e := by
  obtain ⟨i0, hi, hz0, hz1, hz2⟩ := info_parts Try.info3
  have HS := hide hs
  have HF := hide hf
  clear hs hf
  go_enter Try.func89, Try.ntmps89
  go_wp2
  go_loopw [1, 9, 10, 11, 12, 14] (fun y v _ _ _ i wr => ∃ (k : Nat) (q : Int), k ≤ c ∧ i = .int .i64 k ∧ y = .int .i64 q ∧ Hid (sts n f (some p) k = some q) ∧ Hid (wr.ownsRow w.heap.size 3 1 v k ((rdl n f p k).map (.int .i64)) ∧ Below w.heap.size w wr)) (fun _ _ _ _ _ i _ => c - (intOf i).toNat)
  case atStart => exact ⟨0, p, by omega, rfl, rfl, rfl, gnil, Below.refl _ _⟩
  case round =>
    obtain ⟨k, q, hk, rfl, rfl, HQ, HI⟩ := hrel
    have hq := sts_bd n f p k q HQ.out
    by_cases hlt : k < c
    · have hcall := hide (geti_any ao n cap q f wr hn (by omega) (by omega) (HS.out.below HI.out.2) HF.out)
      have E0 : Hid (sts n f (some p) (k + 1) = nx n f (some q)) := (show _ = _ by rw [sts, HQ.out])
      have E1 : Hid (rdl n f p (k + 1) = rdl n f p k ++ [rdv n f (some q)]) := (show _ = _ by rw [rdl_succ, HQ.out])
      cases hr : rdI n f q with
      | none =>
        have HN : Hid (sts n f (some p) c = none) := sts_none_le n f (some p) (k + 1) c (by rw [E0.out]; simp [nx, hr]) (by omega)
        rw [hr] at hcall
        unfold gres at hcall
        have HB := hide HI.out.2
        clear hr E0 E1 HI HQ
        go_wp2_with fail
        refine hcall.out.mono ?_
        rintro e w3 ⟨rfl, hw⟩
        rw [hw]
        clear hw hcall
        go_wp2
        go_ret3
        exact ⟨.inr ⟨HN.out, rfl⟩, HB.out⟩
      | some xy =>
        obtain ⟨x, y⟩ := xy
        have hxy := rdI_pos hr
        have E0' : Hid (sts n f (some p) (k + 1) = some y) := (show _ = _ by rw [E0.out]; simp [nx, hr])
        have E1' : Hid (rdl n f p (k + 1) = rdl n f p k ++ [x]) := (show _ = _ by rw [E1.out]; simp [rdv, hr])
        rw [hr] at hcall
        unfold gres at hcall
        clear hr E0 E1
        have hL := rdl_len n f p k
        generalize rdl n f p k = L at *
        have HI2 : Hid (∀ o, (wr.alloc o).ownsRow w.heap.size 3 1 u9 L.length (L.map (.int .i64))) := fun o => by rw [hL]; exact HI.out.1.alloc o
        have HI3 : Hid (wr.ownsRow w.heap.size 3 1 u9 L.length (L.map (.int .i64))) := by rw [hL]; exact HI.out.1
        have HB2 : Hid (∀ o, Below w.heap.size w (wr.alloc o)) := fun o => HI.out.2.alloc HI.out.2.size o
        have HSR : Hid (Src .i64 (wr.alloc (.cells #[.int .i64 x] 3)) (.slice (some ⟨wr.heap.size, 0, none⟩) 1 1) [x]) := .inr ⟨⟨wr.heap.size, 0, none⟩, 1, rfl, gcells wr [.int .i64 x] 3⟩
        have hL2 : L.length ≤ 100 := by omega
        have HL := hide hL
        clear hL HI
        go_wp2_with fail
        refine hcall.out.mono ?_
        rintro e w3 ⟨rfl, hw⟩
        rw [hw]
        clear hw hcall
        go_wp2_with (first
          | (at_builtin; refine wpList_append_src rfl _ _ 24 rfl w.heap.size 3 i0 (.int .i64 0) 8 Try.underlying24 hi hz0 hz1 hz2 rfl .i64 _ L rfl (HI2.out _) _ [x] rfl HSR.out (glens (by simp; omega)) (by simp; omega) (HB2.out _).size ?_; intro v' w4 hown' hgrow))
        have R := hide (And.intro hown' (ggrown (HB2.out _) (HB2.out _).size HI3.out hgrow))
        clear hown' hgrow HI2 HB2 HSR HI3
        go_wp2
        go_roundw
        case rel =>
          refine ⟨k + 1, y, by omega, by go_num, rfl, E0'.out, ?_⟩
          rw [E1'.out]
          have := R.out
          rw [List.length_append, HL.out] at this
          exact this
        case measure => simp [intOf]; omega
    · obtain rfl : k = c := by omega
      go_wp2
      go_ret3
      exact ⟨.inl ⟨q, _, HQ.out, rfl, HI.out.1⟩, HI.out.2⟩
set_option maxRecDepth 100000 in
theorem bequal_any (ao bo : Option Addr) (ca cb : Nat) (L M : List Int) (w : World) (hL : ∀ z ∈ L, 0 ≤ z ∧ z ≤ 255) (hM : ∀ z ∈ M, 0 ≤ z ∧ z ≤ 255) (hA : SL .u8 w ao L.length (fun i => L.getD i 0)) (hB : SL .u8 w bo M.length (fun i => M.getD i 0)) (b : Bool) (hb : TellsB b (L = M)) :
    Calls Try.prog 60 #[.slice ao L.length ca, .slice bo M.length cb] w fun e w' => e = .returned (.bool b) ∧ w' = w := by
  have hcv1 : (convert 22 9 (.slice ao L.length ca)).run Try.prog w = .ok (.string (bstr L)) w := conv_str hA hL
  have hcv2 : (convert 22 9 (.slice bo M.length cb)).run Try.prog w = .ok (.string (bstr M)) w := conv_str hB hM
  have HT : Hid (TellsB b (bstr L = bstr M)) := ⟨fun h => by rw [hb.1 h], fun h => hb.2 (bstr_inj hL hM h)⟩
  clear hb hL hM hA hB
  generalize bstr L = sL at *
  generalize bstr M = sM at *
  by_cases h : sL = sM
  · obtain rfl : b = true := HT.out.2 h
    subst h
    clear HT
    go_enter Try.func60, Try.ntmps60
    go_wp2
    go_ret
    exact ⟨by simp, rfl⟩
  · obtain rfl : b = false := by
      cases b with
      | false => rfl
      | true => exact absurd (HT.out.1 rfl) h
    clear HT
    have h1 : (sL.toList == sM.toList) = false := by
      rw [beq_eq_false_iff_ne]
      intro e
      exact h (by rw [ByteArray.toList_eq, ByteArray.toList_eq] at e; exact WideShapes.bytes_inj e)
    go_enter Try.func60, Try.ntmps60
    go_wp2
    go_ret
    exact ⟨by simp [h1, h], rfl⟩
end Go.Proofs.Ythhkmfgccbkkhaa

/- MsgOf of the program: a message read. -/
namespace Go.Proofs.Ythhkmfgccbkkhaa
open Go.ChangeShapes Go.WideShapes Go.ChangeAt Go.RowKit
set_option linter.unusedVariables false
set_option linter.unusedSimpArgs false

set_option maxRecDepth 100000 in
theorem hasprefix_any (b off m c : Nat) (bo : Option Addr) (cb : Nat) (f : Nat → Int) (L : List Int) (w : World) (hmc : m ≤ c) (hm : m ≤ 1048576) (hA : SL .u8 w (some ⟨b, off, none⟩) m f) (hf : ∀ i, i < m → 0 ≤ f i ∧ f i ≤ 255) (hB : SL .u8 w bo L.length (fun i => L.getD i 0)) (hL : ∀ z ∈ L, 0 ≤ z ∧ z ≤ 255)
    (r : Bool) (hr : TellsB r (L.length ≤ m ∧ ∀ i, i < L.length → f i = L.getD i 0)) :
    Calls Try.prog 53 #[.slice (some ⟨b, off, none⟩) m c, .slice bo L.length cb] w fun e w' => e = .returned (.bool r) ∧ w' = w := by
  by_cases hle : L.length ≤ m
  · have hlen : ((List.range L.length).map f).length = L.length := by simp
    have hcall := bequal_any (some ⟨b, off, none⟩) bo c cb ((List.range L.length).map f) L w (by
      intro z hz
      simp at hz
      obtain ⟨i, hi, rfl⟩ := hz
      exact hf i (by omega)) hL (by
      intro i hi
      rw [hlen] at hi
      obtain ⟨b', off', e, hlt, hc⟩ := hA i (by omega)
      refine ⟨b', off', e, hlt, ?_⟩
      rw [hc]
      simp [List.getD, hi]) hB r ⟨fun h => by
        have := (hr.1 h).2
        refine List.ext_getElem? fun j => ?_
        by_cases hj : j < L.length
        · have := this j hj
          simp [hj, List.getD] at this ⊢
          exact this
        · rw [List.getElem?_eq_none (by simp; omega), List.getElem?_eq_none (by omega)], fun h => hr.2 ⟨hle, fun i hi => by
          have : ((List.range L.length).map f)[i]? = L[i]? := by rw [h]
          simp [hi] at this
          simp [List.getD, hi, this]⟩⟩
    rw [hlen] at hcall
    have HC := hide hcall
    have h1 : (L.length : Int) ≤ (m : Int) := by omega
    have h2 : (L.length : Int) ≤ (c : Int) := by omega
    have h3 : (0 : Int) ≤ (L.length : Int) := by omega
    have h4 : L.length ≤ c := by omega
    clear hlen hcall hA hf hB hL hr
    go_enter Try.func53, Try.ntmps53
    go_wp2_with fail
    refine HC.out.mono ?_
    rintro e w' ⟨rfl, hw⟩
    rw [hw]
    clear hw HC
    go_wp2
    go_ret
    exact ⟨rfl, rfl⟩
  · obtain rfl : r = false := by
      cases r with
      | false => rfl
      | true => exact absurd (hr.1 rfl).1 hle
    have h1 : ¬ (L.length : Int) ≤ (m : Int) := by omega
    clear hA hf hB hL hr
    go_enter Try.func53, Try.ntmps53
    go_wp2
    go_ret
    exact ⟨rfl, rfl⟩

/-- What the numbers from st on say. -/
def Reads (n : Nat) (f : Nat → Int) (p k c v d : Int) (G : List Int) : Prop :=
  rdl n f p 5 = [k, c, v, d, (G.length : Int)] ∧ ∃ q r, sts n f (some p) 5 = some q ∧ sts n f (some q) G.length = some r ∧ rdl n f q G.length = G

theorem rdl_ge (n : Nat) (f : Nat → Int) (p : Int) (c : Nat) : ∀ x ∈ rdl n f p c, 0 ≤ x ∧ x ≤ 2147483647 := by
  intro x hx
  simp [rdl] at hx
  obtain ⟨j, _, rfl⟩ := hx
  cases h : sts n f (some p) j with
  | none => simp [rdv]
  | some q =>
    cases h2 : rdI n f q with
    | none => simp [rdv, h2]
    | some xy =>
      obtain ⟨x, y⟩ := xy
      have := rdI_pos h2
      simp only [rdv, h2, Option.map_some, Option.getD_some]
      omega

theorem getnums_yes (ao : Option Addr) (n cap : Nat) (p : Int) (c : Nat) (f : Nat → Int) (w : World) (hn : n ≤ 1048576) (hc : c ≤ 100) (hp0 : -9223372036854775808 ≤ p) (hp : p ≤ 9223372036854775807) (hs : SL .u8 w ao n f) (hf : ∀ i, i < n → 0 ≤ f i ∧ f i ≤ 255) (q : Int) (h : sts n f (some p) c = some q) :
    Calls Try.prog 89 #[.slice ao n cap, .int .i64 p, .int .i64 (c : Int)] w fun e w' => ∃ v, e = .returned (.tuple #[v, .int .i64 q, .bool true]) ∧ w'.ownsRow w.heap.size 3 1 v c ((rdl n f p c).map (.int .i64)) ∧ Below w.heap.size w w' :=
  (getnums_impl ao n cap p c f w hn hc hp0 hp hs hf).mono fun e w' ⟨h1, h2⟩ => by
    rcases h1 with ⟨q', v, e1, e2, e3⟩ | ⟨e1, _⟩
    · rw [h] at e1; cases e1; exact ⟨v, e2, e3, h2⟩
    · rw [h] at e1; cases e1
theorem getnums_no (ao : Option Addr) (n cap : Nat) (p : Int) (c : Nat) (f : Nat → Int) (w : World) (hn : n ≤ 1048576) (hc : c ≤ 100) (hp0 : -9223372036854775808 ≤ p) (hp : p ≤ 9223372036854775807) (hs : SL .u8 w ao n f) (hf : ∀ i, i < n → 0 ≤ f i ∧ f i ≤ 255) (h : sts n f (some p) c = none) :
    Calls Try.prog 89 #[.slice ao n cap, .int .i64 p, .int .i64 (c : Int)] w fun e w' => e = .returned (.tuple #[.slice none 0 0, .int .i64 0, .bool false]) ∧ Below w.heap.size w w' :=
  (getnums_impl ao n cap p c f w hn hc hp0 hp hs hf).mono fun e w' ⟨h1, h2⟩ => by
    rcases h1 with ⟨q', v, e1, e2, e3⟩ | ⟨e1, e2⟩
    · rw [h] at e1; cases e1
    · exact ⟨e2, h2⟩

/-- What readMsg hands back. -/
def RmOut (w w' : World) (n : Nat) (f : Nat → Int) (p : Int) (e : Ending) : Prop :=
  ((∃ k c v d G ro rc, Reads n f p k c v d G ∧ G.length ≤ 12 ∧ e = .returned (.tuple #[.agg #[.int .i64 k, .int .i64 c, .int .i64 v, .int .i64 d, .slice ro G.length rc], .bool true]) ∧ G.length ≤ rc ∧ Own w' w.heap.size 3 ro G.length (fun i => .int .i64 (G.getD i 0))) ∨
   ((¬ ∃ k c v d G, Reads n f p k c v d G ∧ G.length ≤ 12) ∧ ∃ k c v d, e = .returned (.tuple #[.agg #[.int .i64 k, .int .i64 c, .int .i64 v, .int .i64 d, .slice none 0 0], .bool false]))) ∧ Below w.heap.size w w'

theorem heap_far {w : World} {R g j : Nat} (h : ¬ g = R) (v : Value) : (w.setCell ⟨R, j, none⟩ v).heap[g]? = w.heap[g]? := by
  simp only [World.setCell, Array.getElem?_modify]
  rw [if_neg (fun e => h e.symm)]
theorem cell_heap {w w' : World} {g i : Nat} (h : w'.heap[g]? = w.heap[g]?) : w'.cell? ⟨g, i, none⟩ = w.cell? ⟨g, i, none⟩ := by simp only [World.cell?, h]
theorem heap_drew (w : World) (g : Nat) : w.drew.heap[g]? = w.heap[g]? := rfl
theorem cell_put5 {w : World} {R g i : Nat} (h : ¬ g = R) (a b c d e : Value) : (((((w.setCell ⟨R, 0, none⟩ a).setCell ⟨R, 1, none⟩ b).setCell ⟨R, 2, none⟩ c).setCell ⟨R, 3, none⟩ d).setCell ⟨R, 4, none⟩ e).drew.cell? ⟨g, i, none⟩ = w.cell? ⟨g, i, none⟩ :=
  cell_heap ((heap_drew _ g).trans ((heap_far h e).trans ((heap_far h d).trans ((heap_far h c).trans ((heap_far h b).trans (heap_far h a))))))
theorem list5i {l : List Int} (h : l.length = 5) : ∃ a b c d e, l = [a, b, c, d, e] := by
  match l, h with
  | [a, b, c, d, e], _ => exact ⟨a, b, c, d, e, rfl⟩
set_option maxHeartbeats 1000000 in
set_option maxRecDepth 100000 in
theorem readmsg_impl (ao : Option Addr) (n cap : Nat) (p : Int) (f : Nat → Int) (w : World) (hn : n ≤ 1048576) (hp0 : -9223372036854775808 ≤ p) (hp : p ≤ 9223372036854775807) (hs : SL .u8 w ao n f) (hf : ∀ i, i < n → 0 ≤ f i ∧ f i ≤ 255) :
    Calls Try.prog 52 #[.slice ao n cap, .int .i64 p] w fun e w' => RmOut w w' n f p e := by
  have HS := hide hs
  have HF := hide hf
  clear hs hf
  cases h5 : sts n f (some p) 5 with
  | none =>
    have HN : Hid (¬ ∃ k c v d G, Reads n f p k c v d G ∧ G.length ≤ 12) := fun ⟨k, c, v, d, G, ⟨_, q, r, e, _⟩, _⟩ => by rw [h5] at e; cases e
    have hcall : Hid (∀ o, Calls Try.prog 89 #[.slice ao n cap, .int .i64 p, .int .i64 5] (w.alloc o) fun e w' => e = .returned (.tuple #[.slice none 0 0, .int .i64 0, .bool false]) ∧ Below (w.alloc o).heap.size (w.alloc o) w') := fun o => getnums_no ao n cap p 5 f _ hn (by omega) hp0 hp (HS.out.below ((Below.refl _ _).alloc (Nat.le_refl _) o)) HF.out h5
    clear h5
    go_enter Try.func52, Try.ntmps52
    go_wp2_with fail
    refine (hcall.out _).mono ?_
    rintro e w1 ⟨rfl, b1⟩
    have M1 := (MB.new w 26 0 0 0 0 none 0 0).below b1 (by simp)
    have B1 := hide (((Below.refl _ _).alloc (Nat.le_refl _) _).trans (b1.mono (by simp)) : Below w.heap.size w w1)
    have z0 : ∀ i, w1.frozen? ⟨w.heap.size, i, none⟩ = false := fun i => by simp [World.frozen?, show w1.heap[w.heap.size]? = _ from M1]
    obtain ⟨r0, r1, r2, r3, r4⟩ := M1.cells
    clear b1 M1 hcall
    go_wp2_with fail
    refine bodyPost_ret (v := .tuple #[.agg #[.int .i64 0, .int .i64 0, .int .i64 0, .int .i64 0, .slice none 0 0], .bool false]) (by simp [results, Try.results52, go_sem, r0, r1, r2, r3, r4]) rfl ?_
    exact ⟨.inr ⟨HN.out, 0, 0, 0, 0, rfl⟩, below_put5 B1.out _ _ _ _ _⟩
  | some q =>
    have hl5 := rdl_len n f p 5
    have hge := rdl_ge n f p 5
    obtain ⟨k, c, v, d, m, hl⟩ := list5i hl5
    have hq := sts_bd n f p 5 q h5
    have hm := hge m (by rw [hl]; simp)
    obtain ⟨g, rfl⟩ := Int.eq_ofNat_of_zero_le hm.1
    have hcall : Hid (∀ o, Calls Try.prog 89 #[.slice ao n cap, .int .i64 p, .int .i64 5] (w.alloc o) fun e w' => ∃ x, e = .returned (.tuple #[x, .int .i64 q, .bool true]) ∧ w'.ownsRow (w.alloc o).heap.size 3 1 x 5 ([k, c, v, d, (g : Int)].map (.int .i64)) ∧ Below (w.alloc o).heap.size (w.alloc o) w') := fun o => by
      have := getnums_yes ao n cap p 5 f _ hn (by omega) hp0 hp (HS.out.below ((Below.refl _ _).alloc (Nat.le_refl _) o)) HF.out q h5
      rw [hl] at this
      exact this
    have HRD : Hid (∀ k' c' v' d' G, Reads n f p k' c' v' d' G → k = k' ∧ c = c' ∧ v = v' ∧ d = d' ∧ g = G.length ∧ ∃ r, sts n f (some q) G.length = some r ∧ rdl n f q G.length = G) := fun k' c' v' d' G ⟨e1, q', r, e2, e3, e4⟩ => by
      rw [h5] at e2
      cases e2
      rw [hl] at e1
      simp only [List.cons.injEq, and_true] at e1
      obtain ⟨f1, f2, f3, f4, f5⟩ := e1
      exact ⟨f1, f2, f3, f4, by omega, r, e3, e4⟩
    have HRR : Hid (∀ r, sts n f (some q) g = some r → Reads n f p k c v d (rdl n f q g)) := fun r hr => ⟨by rw [hl, rdl_len], q, r, h5, by rw [rdl_len]; exact hr, by rw [rdl_len]⟩
    clear hl hl5 hge h5
    by_cases h12 : g ≤ 12
    · have hg0 : (g : Int) ≤ 12 := by omega
      cases hg : sts n f (some q) g with
      | none =>
        have HN : Hid (¬ ∃ k c v d G, Reads n f p k c v d G ∧ G.length ≤ 12) := fun ⟨k', c', v', d', G, h, _⟩ => by
          obtain ⟨_, _, _, _, e, r, hr, _⟩ := HRD.out _ _ _ _ _ h
          rw [← e, hg] at hr; cases hr
        have hcall2 : Hid (∀ W, SL .u8 W ao n f → Calls Try.prog 89 #[.slice ao n cap, .int .i64 q, .int .i64 (g : Int)] W fun e w' => e = .returned (.tuple #[.slice none 0 0, .int .i64 0, .bool false]) ∧ Below W.heap.size W w') := fun W hW => getnums_no ao n cap q g f W hn (by omega) (by omega) (by omega) hW HF.out hg
        clear hg HRD HRR
        go_enter Try.func52, Try.ntmps52
        go_wp2_with fail
        refine (hcall.out _).mono ?_
        rintro e w1 ⟨x1, rfl, o1, b1⟩
        have M1 := (MB.new w 26 0 0 0 0 none 0 0).below b1 (by simp)
        have B1 := hide (((Below.refl _ _).alloc (Nat.le_refl _) _).trans (b1.mono (by simp)) : Below w.heap.size w w1)
        obtain ⟨g1, c1, rfl, hg1, hge1, hsrc⟩ := msrc (L := [k, c, v, d, (g : Int)]) o1 (by simp)
        have d0 : w1.cell? ⟨g1, 0, none⟩ = some (.int .i64 k) := hsrc 0 _ rfl
        have d1 : w1.cell? ⟨g1, 1, none⟩ = some (.int .i64 c) := hsrc 1 _ rfl
        have d2 : w1.cell? ⟨g1, 2, none⟩ = some (.int .i64 v) := hsrc 2 _ rfl
        have d3 : w1.cell? ⟨g1, 3, none⟩ = some (.int .i64 d) := hsrc 3 _ rfl
        have d4 : w1.cell? ⟨g1, 4, none⟩ = some (.int .i64 (g : Int)) := hsrc 4 _ rfl
        have HM1 := hide M1
        have HD := hide (And.intro d0 (And.intro d1 (And.intro d2 d3)))
        have hcl : Hid _ := hide (hcall2.out w1 (HS.out.below B1.out))
        simp only [List.length_cons, List.length_nil, Nat.zero_add, Nat.reduceAdd]
        clear b1 M1 hcall o1 hsrc hcall2 d0 d1 d2 d3
        go_wp2_with fail
        refine hcl.out.mono ?_
        rintro e w2 ⟨rfl, b2⟩
        have M2 := HM1.out.below b2 HM1.out.lt
        have B2 := hide (B1.out.trans (b2.mono B1.out.size))
        have z0 : ∀ i, w2.frozen? ⟨w.heap.size, i, none⟩ = false := fun i => by simp [World.frozen?, show w2.heap[w.heap.size]? = _ from M2]
        obtain ⟨r0, r1, r2, r3, r4⟩ := M2.cells
        have d0 := (b2.cell (p := ⟨g1, 0, none⟩) hg1).trans HD.out.1
        have d1 := (b2.cell (p := ⟨g1, 1, none⟩) hg1).trans HD.out.2.1
        have d2 := (b2.cell (p := ⟨g1, 2, none⟩) hg1).trans HD.out.2.2.1
        have d3 := (b2.cell (p := ⟨g1, 3, none⟩) hg1).trans HD.out.2.2.2
        clear b2 M2 HM1 HD B1 hcl
        go_wp2_with fail
        have hne : ¬ w.heap.size = g1 := by simp at hge1; omega
        have hne' : ¬ g1 = w.heap.size := fun e => hne e.symm
        clear d4
        have D : w2.drew.cell? ⟨g1, 0, none⟩ = some (.int .i64 k) ∧ w2.drew.cell? ⟨g1, 1, none⟩ = some (.int .i64 c) ∧ w2.drew.cell? ⟨g1, 2, none⟩ = some (.int .i64 v) ∧ w2.drew.cell? ⟨g1, 3, none⟩ = some (.int .i64 d) := ⟨d0, d1, d2, d3⟩
        have DD := hide (And.intro d0 (And.intro d1 (And.intro d2 d3)))
        clear d0 d1 d2 d3
        go_region_held3 (fun w' => w'.cell? ⟨g1, 0, none⟩ = some (.int .i64 k) ∧ w'.cell? ⟨g1, 1, none⟩ = some (.int .i64 c) ∧ w'.cell? ⟨g1, 2, none⟩ = some (.int .i64 v) ∧ w'.cell? ⟨g1, 3, none⟩ = some (.int .i64 d)) (first | with_reducible assumption | with_reducible exact ⟨(cell_put5 hne' _ _ _ _ _).trans DD.out.1, (cell_put5 hne' _ _ _ _ _).trans DD.out.2.1, (cell_put5 hne' _ _ _ _ _).trans DD.out.2.2.1, (cell_put5 hne' _ _ _ _ _).trans DD.out.2.2.2⟩) (fail)
        go_wp2_with fail
        refine bodyPost_ret (v := .tuple #[.agg #[.int .i64 k, .int .i64 c, .int .i64 v, .int .i64 d, .slice none 0 0], .bool false]) (by simp [results, Try.results52, go_sem, r0, r1, r2, r3, r4]) rfl ?_
        exact ⟨.inr ⟨HN.out, k, c, v, d, rfl⟩, Below.drawn (below_put5 B2.out _ _ _ _ _) 1⟩
      | some r =>
        have HY := hide (HRR.out r hg)
        have hGl := rdl_len n f q g
        have hcall2 : Hid (∀ W, SL .u8 W ao n f → Calls Try.prog 89 #[.slice ao n cap, .int .i64 q, .int .i64 (g : Int)] W fun e w' => ∃ v, e = .returned (.tuple #[v, .int .i64 r, .bool true]) ∧ w'.ownsRow W.heap.size 3 1 v g ((rdl n f q g).map (.int .i64)) ∧ Below W.heap.size W w') := fun W hW => getnums_yes ao n cap q g f W hn (by omega) (by omega) (by omega) hW HF.out r hg
        generalize rdl n f q g = G at *
        have HGL := hide hGl
        clear hg HRD HRR hGl
        go_enter Try.func52, Try.ntmps52
        go_wp2_with fail
        refine (hcall.out _).mono ?_
        rintro e w1 ⟨x1, rfl, o1, b1⟩
        have M1 := (MB.new w 26 0 0 0 0 none 0 0).below b1 (by simp)
        have B1 := hide (((Below.refl _ _).alloc (Nat.le_refl _) _).trans (b1.mono (by simp)) : Below w.heap.size w w1)
        obtain ⟨g1, c1, rfl, hg1, hge1, hsrc⟩ := msrc (L := [k, c, v, d, (g : Int)]) o1 (by simp)
        have d0 : w1.cell? ⟨g1, 0, none⟩ = some (.int .i64 k) := hsrc 0 _ rfl
        have d1 : w1.cell? ⟨g1, 1, none⟩ = some (.int .i64 c) := hsrc 1 _ rfl
        have d2 : w1.cell? ⟨g1, 2, none⟩ = some (.int .i64 v) := hsrc 2 _ rfl
        have d3 : w1.cell? ⟨g1, 3, none⟩ = some (.int .i64 d) := hsrc 3 _ rfl
        have d4 : w1.cell? ⟨g1, 4, none⟩ = some (.int .i64 (g : Int)) := hsrc 4 _ rfl
        have HM1 := hide M1
        have HD := hide (And.intro d0 (And.intro d1 (And.intro d2 d3)))
        have hcl : Hid _ := hide (hcall2.out w1 (HS.out.below B1.out))
        simp only [List.length_cons, List.length_nil, Nat.zero_add, Nat.reduceAdd]
        clear b1 M1 hcall o1 hsrc hcall2 d0 d1 d2 d3
        go_wp2_with fail
        refine hcl.out.mono ?_
        rintro e w2 ⟨x2, rfl, o2, b2⟩
        obtain ⟨ro, rc, rfl, hrc, ho2⟩ := Own.of_owns o2
        have M2 := HM1.out.below b2 HM1.out.lt
        have B2 := hide (B1.out.trans (b2.mono B1.out.size))
        have z0 : ∀ i, w2.frozen? ⟨w.heap.size, i, none⟩ = false := fun i => by simp [World.frozen?, show w2.heap[w.heap.size]? = _ from M2]
        obtain ⟨r0, r1, r2, r3, r4⟩ := M2.cells
        have d0 := (b2.cell (p := ⟨g1, 0, none⟩) hg1).trans HD.out.1
        have d1 := (b2.cell (p := ⟨g1, 1, none⟩) hg1).trans HD.out.2.1
        have d2 := (b2.cell (p := ⟨g1, 2, none⟩) hg1).trans HD.out.2.2.1
        have d3 := (b2.cell (p := ⟨g1, 3, none⟩) hg1).trans HD.out.2.2.2
        have HO2 := hide ho2
        have HRC := hide hrc.2.1
        have hsz1 : Hid (w.heap.size < w1.heap.size) := HM1.out.lt
        clear b2 M2 HM1 HD B1 hcl o2 ho2 hrc
        go_wp2_with fail
        have hne : ¬ w.heap.size = g1 := by simp at hge1; omega
        have hne' : ¬ g1 = w.heap.size := fun e => hne e.symm
        clear d4
        have D : w2.drew.cell? ⟨g1, 0, none⟩ = some (.int .i64 k) ∧ w2.drew.cell? ⟨g1, 1, none⟩ = some (.int .i64 c) ∧ w2.drew.cell? ⟨g1, 2, none⟩ = some (.int .i64 v) ∧ w2.drew.cell? ⟨g1, 3, none⟩ = some (.int .i64 d) := ⟨d0, d1, d2, d3⟩
        have DD := hide (And.intro d0 (And.intro d1 (And.intro d2 d3)))
        clear d0 d1 d2 d3
        go_region_held3 (fun w' => w'.cell? ⟨g1, 0, none⟩ = some (.int .i64 k) ∧ w'.cell? ⟨g1, 1, none⟩ = some (.int .i64 c) ∧ w'.cell? ⟨g1, 2, none⟩ = some (.int .i64 v) ∧ w'.cell? ⟨g1, 3, none⟩ = some (.int .i64 d)) (first | with_reducible assumption | with_reducible exact ⟨(cell_put5 hne' _ _ _ _ _).trans DD.out.1, (cell_put5 hne' _ _ _ _ _).trans DD.out.2.1, (cell_put5 hne' _ _ _ _ _).trans DD.out.2.2.1, (cell_put5 hne' _ _ _ _ _).trans DD.out.2.2.2⟩) (fail)
        go_wp2_with fail
        refine bodyPost_ret (v := .tuple #[.agg #[.int .i64 k, .int .i64 c, .int .i64 v, .int .i64 d, .slice ro g rc], .bool true]) (by simp [results, Try.results52, go_sem, r0, r1, r2, r3, r4]) rfl ?_
        refine ⟨.inl ⟨k, c, v, d, G, ro, rc, HY.out, by rw [HGL.out]; exact h12, by rw [HGL.out], by rw [HGL.out]; exact HRC.out, ?_⟩, Below.drawn (below_put5 B2.out _ _ _ _ _) 1⟩
        rw [HGL.out]
        exact (own_put5 HO2.out hsz1.out (Nat.le_of_lt hsz1.out) _ _ _ _ _).drawn 1
    · have hg0 : ¬ (g : Int) ≤ 12 := by omega
      have HN : Hid (¬ ∃ k c v d G, Reads n f p k c v d G ∧ G.length ≤ 12) := fun ⟨k', c', v', d', G, h, h'⟩ => by
        obtain ⟨_, _, _, _, e, _⟩ := HRD.out _ _ _ _ _ h
        omega
      clear HRD HRR
      go_enter Try.func52, Try.ntmps52
      go_wp2_with fail
      refine (hcall.out _).mono ?_
      rintro e w1 ⟨x1, rfl, o1, b1⟩
      have M1 := (MB.new w 26 0 0 0 0 none 0 0).below b1 (by simp)
      have B1 := hide (((Below.refl _ _).alloc (Nat.le_refl _) _).trans (b1.mono (by simp)) : Below w.heap.size w w1)
      obtain ⟨g1, c1, rfl, hg1, hge1, hsrc⟩ := msrc (L := [k, c, v, d, (g : Int)]) o1 (by simp)
      have d4 : w1.cell? ⟨g1, 4, none⟩ = some (.int .i64 (g : Int)) := hsrc 4 _ rfl
      have z0 : ∀ i, w1.frozen? ⟨w.heap.size, i, none⟩ = false := fun i => by simp [World.frozen?, show w1.heap[w.heap.size]? = _ from M1]
      obtain ⟨r0, r1, r2, r3, r4⟩ := M1.cells
      simp only [List.length_cons, List.length_nil, Nat.zero_add, Nat.reduceAdd]
      clear b1 M1 hcall o1 hsrc
      go_wp2_with fail
      refine bodyPost_ret (v := .tuple #[.agg #[.int .i64 0, .int .i64 0, .int .i64 0, .int .i64 0, .slice none 0 0], .bool false]) (by simp [results, Try.results52, go_sem, r0, r1, r2, r3, r4]) rfl ?_
      exact ⟨.inr ⟨HN.out, 0, 0, 0, 0, rfl⟩, below_put5 B1.out _ _ _ _ _⟩
end Go.Proofs.Ythhkmfgccbkkhaa

/- MsgOf of the program. -/
namespace Go.Proofs.Ythhkmfgccbkkhaa
open Go.ChangeShapes Go.WideShapes Go.ChangeAt Go.RowKit
set_option linter.unusedVariables false
set_option linter.unusedSimpArgs false

theorem reads_one {n : Nat} {f : Nat → Int} {p k c v d k' c' v' d' : Int} {G G' : List Int} (h : Reads n f p k c v d G) (h' : Reads n f p k' c' v' d' G') : k = k' ∧ c = c' ∧ v = v' ∧ d = d' ∧ G = G' := by
  obtain ⟨e1, q, r, e2, e3, e4⟩ := h
  obtain ⟨g1, q', r', g2, g3, g4⟩ := h'
  rw [e1] at g1
  simp only [List.cons.injEq, and_true] at g1
  obtain ⟨f1, f2, f3, f4, f5⟩ := g1
  rw [e2] at g2
  cases g2
  refine ⟨f1, f2, f3, f4, ?_⟩
  rw [← e4, ← g4, show G.length = G'.length by omega]
theorem sts_add (n : Nat) (f : Nat → Int) (st : Option Int) (a b : Nat) : sts n f (sts n f st a) b = sts n f st (a + b) := by
  induction b with
  | zero => rfl
  | succ b ih => rw [sts, ih]; rfl
theorem begins_reads {n : Nat} {f : Nat → Int} {p k c v d : Int} {G : List Int} (h : Begins n f p k c v d G) : ∃ x q, rdI n f p = some (x, q) ∧ Reads n f q k c v d G ∧ G.length ≤ 12 := by
  have h12 := (mok_bd h.2.1).1
  obtain ⟨⟨q, hq, _⟩, hs, e1, e2, e3, e4, e5, e6⟩ := begins_read h
  obtain ⟨x, hx⟩ : ∃ x, rdI n f p = some (x, q) := by
    have hq' : nx n f (some p) = some q := hq
    simp only [nx] at hq'
    cases hr : rdI n f p with
    | none => rw [hr] at hq'; cases hq'
    | some xy => rw [hr] at hq'; simp at hq'; exact ⟨xy.1, by rw [← hq']⟩
  have hsh : ∀ j, sts n f (some q) j = sts n f (some p) (1 + j) := fun j => by rw [← hq, sts_add]
  refine ⟨x, q, hx, ⟨?_, ?_⟩, h12⟩
  · simp only [rdl, List.range_succ, List.range_zero, List.map_append, List.map_nil, List.map_cons, List.nil_append, List.cons_append, hsh]
    rw [e1, e2, e3, e4, e5]
  · have h5 := hs 6 (by omega)
    have hG := hs (6 + G.length) (by omega)
    obtain ⟨q5, hq5⟩ := Option.isSome_iff_exists.1 h5
    obtain ⟨r, hr⟩ := Option.isSome_iff_exists.1 hG
    have hq5' : sts n f (some q) 5 = some q5 := by rw [hsh]; exact hq5
    have hsh2 : ∀ j, sts n f (some q5) j = sts n f (some p) (6 + j) := fun j => by rw [← hq5, sts_add]
    refine ⟨q5, r, hq5', by rw [hsh2]; exact hr, ?_⟩
    refine List.ext_getElem? fun j => ?_
    by_cases hj : j < G.length
    · have := e6 j hj
      simp [rdl, hj, hsh2, this, List.getD]
    · rw [List.getElem?_eq_none (by rw [rdl_len]; omega), List.getElem?_eq_none (by omega)]

theorem mb_pos {k c v h : Int} {f : Nat → Int} {n : Nat} (hok : MOk k c v h f n) : 0 < (mb k c v h f n).length := by
  unfold mb
  rw [if_pos hok]
  have h4 : (s4 (asum (mbody k c v h f n))).length = 4 := rfl
  unfold framed
  rw [List.length_append]
  omega
theorem mbi_byte {k c v h : Int} {f : Nat → Int} {n : Nat} (hok : MOk k c v h f n) : ∀ z ∈ mb k c v h f n, 0 ≤ z ∧ z ≤ 255 := by
  obtain ⟨hn12, hfb, hkb, hcb, hvb, hhb⟩ := mok_bd hok
  have hbl := mbody_len (k := k) (c := c) (v := v) (h := h) (f := f) hn12
  unfold mb
  rw [if_pos hok]
  intro z hz
  simp only [framed, List.mem_append] at hz
  rcases hz with (hz | hz) | hz
  · exact pb_byte _ (by omega) (by omega) z hz
  · refine nums_byte ([k, c, v, h, (n : Int)] ++ (List.range n).map f) ?_ z hz
    intro x hx
    simp at hx
    rcases hx with rfl | rfl | rfl | rfl | rfl | ⟨j, hj, rfl⟩
    · exact hkb
    · exact hcb
    · exact hvb
    · exact hhb
    · omega
    · exact hfb j hj
  · simp only [s4, List.mem_cons, List.not_mem_nil, or_false] at hz
    rcases hz with rfl | rfl | rfl | rfl <;> omega

set_option maxHeartbeats 1000000 in
set_option maxRecDepth 100000 in
theorem msgof_impl (ao : Option Addr) (n cap : Nat) (p : Int) (f : Nat → Int) (w : World) (hn : n ≤ 1048576) (hcap : n ≤ cap) (hp0 : -9223372036854775808 ≤ p) (hp : p ≤ 9223372036854775807) (hs : SL .u8 w ao n f) (hf : ∀ i, i < n → 0 ≤ f i ∧ f i ≤ 255) :
    Calls Try.prog 13 #[.slice ao n cap, .int .i64 p] w fun e w' => MsgOut w w' n f p e := by
  have HS := hide hs
  have HF := hide hf
  clear hs hf
  have hcall : Hid (∀ o, Calls Try.prog 51 #[.slice ao n cap, .int .i64 p] (w.alloc o) fun e w' => e = .returned (gres (rdI n f p)) ∧ w' = w.alloc o) := fun o => geti_any ao n cap p f _ hn hp0 hp (HS.out.below ((Below.refl _ _).alloc (Nat.le_refl _) o)) HF.out
  cases hr : rdI n f p with
  | none =>
    have HN : Hid (¬ ∃ k c v d G, Begins n f p k c v d G) := fun ⟨k, c, v, d, G, h⟩ => by
      obtain ⟨x, q, e, _⟩ := begins_reads h
      rw [hr] at e; cases e
    rw [hr] at hcall
    unfold gres at hcall
    clear hr
    go_enter Try.func13, Try.ntmps13
    go_wp2_with fail
    refine (hcall.out _).mono ?_
    rintro e w1 ⟨rfl, hw⟩
    have M1 := MB.new w 26 0 0 0 0 none 0 0
    rw [← hw] at M1
    have B1 : Hid (Below w.heap.size w w1) := by rw [hw]; exact (Below.refl _ _).alloc (Nat.le_refl _) _
    have z0 : ∀ i, w1.frozen? ⟨w.heap.size, i, none⟩ = false := fun i => by simp [World.frozen?, show w1.heap[w.heap.size]? = _ from M1]
    obtain ⟨r0, r1, r2, r3, r4⟩ := M1.cells
    clear M1 hcall hw
    go_wp2_with fail
    refine bodyPost_ret (v := .tuple #[.agg #[.int .i64 0, .int .i64 0, .int .i64 0, .int .i64 0, .slice none 0 0], .int .i64 0, .bool false]) (by simp [results, Try.results13, go_sem, r0, r1, r2, r3, r4]) rfl ?_
    exact ⟨.inr ⟨HN.out, rfl⟩, below_put5 B1.out _ _ _ _ _⟩
  | some xy =>
    obtain ⟨x, q⟩ := xy
    have hxq := rdI_pos hr
    rw [hr] at hcall
    unfold gres at hcall
    have hrm : Hid (∀ W, SL .u8 W ao n f → Calls Try.prog 52 #[.slice ao n cap, .int .i64 q] W fun e w' => RmOut W w' n f q e) := fun W hW => readmsg_impl ao n cap q f W hn (by omega) (by omega) hW HF.out
    have HRd : Hid (∀ k c v d G, Begins n f p k c v d G → Reads n f q k c v d G ∧ G.length ≤ 12) := fun k c v d G h => by
      obtain ⟨x', q', e, h1, h2⟩ := begins_reads h
      rw [hr] at e; cases e
      exact ⟨h1, h2⟩
    clear hr
    go_enter Try.func13, Try.ntmps13
    go_wp2_with fail
    refine (hcall.out _).mono ?_
    rintro e w1 ⟨rfl, hw⟩
    have M1 := MB.new w 26 0 0 0 0 none 0 0
    rw [← hw] at M1
    have B1 : Hid (Below w.heap.size w w1) := by rw [hw]; exact (Below.refl _ _).alloc (Nat.le_refl _) _
    have HM1 := hide M1
    have hcl := hide (hrm.out w1 (HS.out.below B1.out))
    clear M1 hcall hw hrm
    go_wp2_with fail
    refine hcl.out.mono ?_
    rintro e w2 ⟨h2, b2⟩
    have M2 := hide (HM1.out.below b2 HM1.out.lt)
    have hs12 : w.heap.size < w1.heap.size ∧ w1.heap.size ≤ w2.heap.size := ⟨HM1.out.lt, b2.size⟩
    have B2 := hide (B1.out.trans (b2.mono B1.out.size))
    clear hcl HM1 b2
    rcases h2 with ⟨k, c, v, d, G, ro, rc, hRd, h12, rfl, hrc, hO⟩ | ⟨hNo, k, c, v, d, rfl⟩
    · have HR := hide hRd
      have HO := hide hO
      have hsl : Hid (∀ o, SL .i64 (w2.alloc o) ro G.length (fun i => G.getD i 0)) := fun o => (hO.below ((Below.refl _ _).alloc (Nat.le_refl _) o)).sl
      have hmbc : Hid (∀ o, Calls Try.prog 11 #[.agg #[.int .i64 k, .int .i64 c, .int .i64 v, .int .i64 d, .slice ro G.length rc]] (w2.alloc o) fun e w' => ∃ x, e = .returned x ∧ w'.ownsRow (w2.alloc o).heap.size 5 1 x (mb k c v d (fun i => G.getD i 0) G.length).length ((mb k c v d (fun i => G.getD i 0) G.length).map (.int .u8)) ∧ Below (w2.alloc o).heap.size (w2.alloc o) w') := fun o => msgbytes_impl ro G.length rc (fun i => G.getD i 0) k c v d _ (by omega) hrc (hsl.out o)
      clear hRd hO hsl
      by_cases hok : MOk k c v d (fun i => G.getD i 0) G.length
      · have hLp : Hid (∀ z ∈ mb k c v d (fun i => G.getD i 0) G.length, 0 ≤ z ∧ z ≤ 255) := mbi_byte hok
        have hL0 : 0 < (mb k c v d (fun i => G.getD i 0) G.length).length := mb_pos hok
        have hLm := mb_len k c v d (fun i => G.getD i 0) G.length
        have HBg : Hid (∀ a : Nat, p = (a : Int) → Has n f a (mb k c v d (fun i => G.getD i 0) G.length) → Begins n f p k c v d G) := fun a e h => ⟨by omega, hok, by rw [e]; exact h⟩
        have HBn : Hid (∀ k' c' v' d' G', Begins n f p k' c' v' d' G' → ∃ a : Nat, p = (a : Int) ∧ Has n f a (mb k c v d (fun i => G.getD i 0) G.length)) := fun k' c' v' d' G' h => by
          obtain ⟨rfl, rfl, rfl, rfl, rfl⟩ := reads_one HR.out (HRd.out _ _ _ _ _ h).1
          exact ⟨p.toNat, by have := h.1; omega, h.2.2⟩
        have HE : Hid (mb k c v d (fun i => G.getD i 0) G.length = mb k c v d (fun i => G.getD i 0) G.length) := rfl
        generalize hLL : mb k c v d (fun i => G.getD i 0) G.length = L at *
        have HLL := hide hLL
        obtain ⟨a, rfl⟩ := Int.eq_ofNat_of_zero_le hxq.1
        have han : a < n := by omega
        obtain ⟨b, off, rfl, hb, hc0⟩ := HS.out a han
        have hd3 : ¬ L = [] := fun e => by rw [e] at hL0; simp at hL0
        have hd1 : decide ((L.length : Int) = 0) = false := by simp [hd3]
        have hd2 : ((L.length : Int) == 0) = false := by simp [hd3]
        have hd4 : (L.length == 0) = false := by simp [hd3]
        obtain ⟨r, hr⟩ := tellsB (L.length ≤ n - a ∧ ∀ i, i < L.length → f (a + i) = L.getD i 0)
        have HT : Hid (TellsB r (Has n f a L)) := ⟨fun e => ⟨by have := (hr.1 e).1; omega, (hr.1 e).2⟩, fun e => hr.2 ⟨by have := e.1; omega, e.2⟩⟩
        have HR' := hide hr
        have h1 : (0 : Int) ≤ (a : Int) := by omega
        have h2 : (a : Int) ≤ (n : Int) := by omega
        have h3 : a ≤ n := by omega
        have h4 : (a : Int) ≤ (cap : Int) := by omega
        have h5 : a ≤ cap := by omega
        have h6 : ¬ cap = a := by omega
        have h7 : IntKind.i64.wrap ((a : Int) + (L.length : Int)) = (a : Int) + (L.length : Int) := by rw [IntKind.wrap_i64]; omega
        clear hLL hr hc0 hok
        go_wp2_with fail
        refine (hmbc.out _).mono ?_
        rintro e w3 ⟨x3, rfl, o3, b3⟩
        obtain ⟨a3, c3, rfl⟩ := (Src.of_owns o3).form
        have X2 := MB.new w2 26 k c v d ro G.length rc
        have bX : Below w2.heap.size w2 (w2.alloc (.cells #[.int .i64 k, .int .i64 c, .int .i64 v, .int .i64 d, .slice ro G.length rc] 26)) := (Below.refl _ _).alloc (Nat.le_refl _) _
        have b23 := bX.trans (b3.mono bX.size)
        have HX3 := hide (X2.below b3 X2.lt)
        have M3 := hide (M2.out.below b23 M2.out.lt)
        have B3 := hide (B2.out.trans (b23.mono B2.out.size))
        have HO3 := hide (HO.out.below b23)
        have hSL3 := (Src.of_owns o3).slu
        have hpre := hide (hasprefix_any b (off + a) (n - a) (cap - a) a3 c3 (fun i => f (a + i)) L w3 (by omega) (by omega) (fun i hi => by
          obtain ⟨b', off', e, hlt, hc⟩ := (HS.out.below B3.out) (a + i) (by omega)
          simp only [Option.some.injEq, Addr.mk.injEq, and_true] at e
          obtain ⟨rfl, rfl⟩ := e
          exact ⟨b, off + a, rfl, hlt, by rw [Nat.add_assoc]; exact hc⟩) (fun i hi => HF.out (a + i) (by omega)) hSL3 hLp.out r HR'.out)
        have hlt12 : Hid (w.heap.size < w1.heap.size ∧ w1.heap.size ≤ w2.heap.size ∧ w2.heap.size < w3.heap.size) := ⟨hs12.1, hs12.2, HX3.out.lt⟩
        clear hmbc o3 b3 X2 bX b23 HO M2 B2 hSL3 HR'
        cases r with
        | true =>
          go_wp2_with fail
          refine hpre.out.mono ?_
          rintro e w4 ⟨rfl, hw⟩
          rw [hw]
          clear hw hpre
          have z0 : ∀ i, w3.frozen? ⟨w.heap.size, i, none⟩ = false := fun i => by simp [World.frozen?, show w3.heap[w.heap.size]? = _ from M3.out]
          obtain ⟨r0, r1, r2, r3, r4⟩ := M3.out.cells
          obtain ⟨y0, y1, y2, y3, y4⟩ := HX3.out.cells
          go_wp2_with fail
          refine bodyPost_ret (v := .tuple #[.agg #[.int .i64 k, .int .i64 c, .int .i64 v, .int .i64 d, .slice ro G.length rc], .int .i64 ((a : Int) + (L.length : Int)), .bool true]) (by simp [results, Try.results13, go_sem, r0, r1, r2, r3, r4]) rfl ?_
          refine ⟨.inl ⟨k, c, v, d, G, ro, rc, HBg.out a rfl (HT.out.1 rfl), by rw [HLL.out], hrc, ?_⟩, below_put5 B3.out _ _ _ _ _⟩
          exact own_put5 HO3.out hlt12.out.1 (Nat.le_of_lt hlt12.out.1) _ _ _ _ _
        | false =>
          go_wp2_with fail
          refine hpre.out.mono ?_
          rintro e w4 ⟨rfl, hw⟩
          rw [hw]
          clear hw hpre
          have z0 : ∀ i, w3.frozen? ⟨w.heap.size, i, none⟩ = false := fun i => by simp [World.frozen?, show w3.heap[w.heap.size]? = _ from M3.out]
          obtain ⟨r0, r1, r2, r3, r4⟩ := M3.out.cells
          go_wp2_with fail
          refine bodyPost_ret (v := .tuple #[.agg #[.int .i64 0, .int .i64 0, .int .i64 0, .int .i64 0, .slice none 0 0], .int .i64 0, .bool false]) (by simp [results, Try.results13, go_sem, r0, r1, r2, r3, r4]) rfl ?_
          refine ⟨.inr ⟨?_, rfl⟩, below_put5 B3.out _ _ _ _ _⟩
          rintro ⟨k', c', v', d', G', hB⟩
          obtain ⟨a', e, hh⟩ := HBn.out _ _ _ _ _ hB
          obtain rfl : a = a' := by omega
          exact absurd (HT.out.2 hh) (by simp)
      · have hmb0 : mb k c v d (fun i => G.getD i 0) G.length = [] := by unfold mb; rw [if_neg hok]
        have HN : Hid (¬ ∃ k c v d G, Begins n f p k c v d G) := fun ⟨k', c', v', d', G', h⟩ => by
          obtain ⟨rfl, rfl, rfl, rfl, rfl⟩ := reads_one HR.out (HRd.out _ _ _ _ _ h).1
          exact hok h.2.1
        rw [hmb0] at hmbc
        clear hmb0 hok
        go_wp2_with fail
        refine (hmbc.out _).mono ?_
        rintro e w3 ⟨x3, rfl, o3, b3⟩
        obtain ⟨a3, c3, rfl⟩ := (Src.of_owns o3).form
        have bX : Below w2.heap.size w2 (w2.alloc (.cells #[.int .i64 k, .int .i64 c, .int .i64 v, .int .i64 d, .slice ro G.length rc] 26)) := (Below.refl _ _).alloc (Nat.le_refl _) _
        have b23 := bX.trans (b3.mono bX.size)
        have M3 := M2.out.below b23 M2.out.lt
        have B3 := hide (B2.out.trans (b23.mono B2.out.size))
        have z0 : ∀ i, w3.frozen? ⟨w.heap.size, i, none⟩ = false := fun i => by simp [World.frozen?, show w3.heap[w.heap.size]? = _ from M3]
        obtain ⟨r0, r1, r2, r3, r4⟩ := M3.cells
        simp only [List.length_nil]
        clear hmbc o3 b3 bX b23 HO M2 B2 M3
        go_wp2_with fail
        refine bodyPost_ret (v := .tuple #[.agg #[.int .i64 0, .int .i64 0, .int .i64 0, .int .i64 0, .slice none 0 0], .int .i64 0, .bool false]) (by simp [results, Try.results13, go_sem, r0, r1, r2, r3, r4]) rfl ?_
        exact ⟨.inr ⟨HN.out, rfl⟩, below_put5 B3.out _ _ _ _ _⟩
    · have HN : Hid (¬ ∃ k c v d G, Begins n f p k c v d G) := fun ⟨k', c', v', d', G', h⟩ => hNo ⟨k', c', v', d', G', HRd.out _ _ _ _ _ h⟩
      have hmbc : Hid (∀ o, Calls Try.prog 11 #[.agg #[.int .i64 k, .int .i64 c, .int .i64 v, .int .i64 d, .slice none 0 0]] (w2.alloc o) fun e w' => ∃ x, e = .returned x ∧ w'.ownsRow (w2.alloc o).heap.size 5 1 x (mb k c v d (fun _ => 0) 0).length ((mb k c v d (fun _ => 0) 0).map (.int .u8)) ∧ Below (w2.alloc o).heap.size (w2.alloc o) w') := fun o => msgbytes_impl none 0 0 (fun _ => 0) k c v d _ (by omega) (by omega) (fun i hi => absurd hi (Nat.not_lt_zero _))
      clear hNo
      go_wp2_with fail
      refine (hmbc.out _).mono ?_
      rintro e w3 ⟨x3, rfl, o3, b3⟩
      have bX : Below w2.heap.size w2 (w2.alloc (.cells #[.int .i64 k, .int .i64 c, .int .i64 v, .int .i64 d, .slice none 0 0] 26)) := (Below.refl _ _).alloc (Nat.le_refl _) _
      have b23 := bX.trans (b3.mono bX.size)
      have M3 := M2.out.below b23 M2.out.lt
      have B3 := hide (B2.out.trans (b23.mono B2.out.size))
      have z0 : ∀ i, w3.frozen? ⟨w.heap.size, i, none⟩ = false := fun i => by simp [World.frozen?, show w3.heap[w.heap.size]? = _ from M3]
      obtain ⟨r0, r1, r2, r3, r4⟩ := M3.cells
      clear hmbc o3 b3 bX b23 M2 B2 M3
      go_wp2_with fail
      refine bodyPost_ret (v := .tuple #[.agg #[.int .i64 0, .int .i64 0, .int .i64 0, .int .i64 0, .slice none 0 0], .int .i64 0, .bool false]) (by simp [results, Try.results13, go_sem, r0, r1, r2, r3, r4]) rfl ?_
      exact ⟨.inr ⟨HN.out, rfl⟩, below_put5 B3.out _ _ _ _ _⟩
end Go.Proofs.Ythhkmfgccbkkhaa

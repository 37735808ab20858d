/- DrawSpread hands on some bytes. -/
import Derived.Test.YthnlcijmlcaepaaDrawLz
import Derived.Deep.RegionHeld3
namespace Go.Proofs.Ythnlcijmlcaepaa
open Go.ChangeShapes Go.WideShapes Go.ChangeAt Go.RowKit

theorem squeeze_byte (f : Nat → Int) (n : Nat) (hf : ∀ i, i < n → 0 ≤ f i ∧ f i ≤ 255) : ∀ z ∈ squeeze f n, 0 ≤ z ∧ z ≤ 255 := by
  unfold squeeze
  split
  · intro z hz; cases hz
  · exact sqz_byte f n n 0 hf

theorem below_grown {w w' : World} (h : Below w.heap.size w w') (row : Option Nat) : w.grownBy w' row := ⟨h.os, h.tape, h.output, h.size, fun k hk _ => h.block k hk⟩

theorem bld_new {w1 w2 w3 : World} {g n cap : Nat} {ao : Option Addr} {f : Nat → Int} {v v2 : Value} {L M : List Int} (h : Bld w1 w2 g ao n cap f v L) (ho : w3.ownsRow w2.heap.size 5 1 v2 M.length (M.map (.int .u8))) (hM : ∀ z ∈ M, 0 ≤ z ∧ z ≤ 255) (hb : Below w2.heap.size w2 w3) : Bld w1 w3 g ao n cap f v2 M :=
  ⟨gmono ho h.2.2.2.1.size, hM, h.2.2.1.grown (below_grown hb none) (fun k hk => by cases hk), grown_trans h.2.2.2.1 (below_grown hb _), h.2.2.2.2⟩

theorem drawn_take {w w' : World} {g m vc : Nat} {M : List Int} {x : Nat} (h : Drawn w w' (.slice (some ⟨g, 0, none⟩) m vc) M) (hm : m = M.length) (hx : x ≤ m) : Drawn w w' (.slice (some ⟨g, 0, none⟩) x vc) (M.take x) := by
  obtain ⟨⟨ao, cap, e, h1, h2, ho⟩, hb, hbel⟩ := h
  simp only [Value.slice.injEq] at e
  obtain ⟨rfl, rfl, rfl⟩ := e
  have el : (M.take x).length = x := by rw [List.length_take]; omega
  refine ⟨⟨_, _, by rw [el], by rw [el]; omega, h2, ?_⟩, fun z hz => hb z (List.mem_of_mem_take hz), hbel⟩
  rw [el]
  rcases ho with h | ⟨g', e, hB, c, hc, hs, hF⟩
  · exact .inl (by omega)
  · refine .inr ⟨g', e, hB, c, hc, by omega, fun i hi => ?_⟩
    rw [hF i (by omega)]
    simp [List.getD, hi]

/-- What stands beside the cursor while bytes are put together from block B on. -/
def St (w1 W : World) (B G : Nat) (ao : Option Addr) (n cap : Nat) (f : Nat → Int) (g m c3 : Nat) (M : List Int) : Prop :=
  Bld w1 W G ao n cap f (.slice (some ⟨g, 0, none⟩) m c3) M ∧ m = M.length ∧ B ≤ W.heap.size ∧ g < B ∧ w1.heap.size ≤ B

theorem St.grow {w1 W W' : World} {B G n cap g m c3 : Nat} {ao : Option Addr} {f : Nat → Int} {M : List Int} {row : Option Nat} (h : St w1 W B G ao n cap f g m c3 M) (hg : W.grownBy W' row) (hr : ∀ k, row = some k → B ≤ k) : St w1 W' B G ao n cap f g m c3 M := by
  obtain ⟨⟨h1, h2, h3, h4, h5⟩, hm, hB, hgB, hw⟩ := h
  refine ⟨⟨?_, h2, h3.grown hg (fun k hk => by have := hr k hk; omega), ⟨hg.os.trans h4.os, hg.tape.trans h4.tape, hg.output.trans h4.output, Nat.le_trans h4.size hg.size, fun i hi hn => (hg.block i (Nat.lt_of_lt_of_le hi h4.size) (fun e => by have := hr i e.symm; omega)).trans (h4.block i hi hn)⟩, h5⟩, hm, Nat.le_trans hB hg.size, hgB, hw⟩
  refine ⟨h1.1, ?_⟩
  rcases h1.2 with e | ⟨b, c, cur, e, hb, hh, r⟩
  · exact .inl e
  · refine .inr ⟨b, c, cur, e, hb, ?_, r⟩
    simp only [Value.slice.injEq, Option.some.injEq, Addr.mk.injEq] at e
    obtain ⟨⟨rfl, _⟩, _⟩ := e
    exact (hg.block g (Array.getElem?_eq_some_iff.1 hh).1 (fun e => by have := hr g e.symm; omega)).trans hh

theorem St.alloc {w1 W : World} {B G n cap g m c3 : Nat} {ao : Option Addr} {f : Nat → Int} {M : List Int} (h : St w1 W B G ao n cap f g m c3 M) (o : Obj) : St w1 (W.alloc o) B G ao n cap f g m c3 M :=
  h.grow (row := none) ⟨rfl, rfl, rfl, by simp, fun k hk _ => Below.heap_alloc W o k hk⟩ (fun k hk => by cases hk)

theorem St.cell {w1 W : World} {B G n cap g m c3 : Nat} {ao : Option Addr} {f : Nat → Int} {M : List Int} (h : St w1 W B G ao n cap f g m c3 M) {j : Nat} (hj : j < m) : W.cell? ⟨g, j, none⟩ = some (.int .u8 (M.getD j 0)) := by
  obtain ⟨⟨h1, _⟩, hm, _⟩ := h
  obtain ⟨ro, rc, e, _, hO⟩ := Own.of_owns h1
  simp only [Value.slice.injEq] at e
  obtain ⟨rfl, _, _⟩ := e
  obtain ⟨g', e', _, _, hc, _⟩ := hO.at (i := j) (by omega)
  simp only [Option.some.injEq, Addr.mk.injEq] at e'
  obtain ⟨rfl, _, _⟩ := e'
  exact hc

theorem St.take {w1 W : World} {B G n cap g m c3 : Nat} {ao : Option Addr} {f : Nat → Int} {M : List Int} (h : St w1 W B G ao n cap f g m c3 M) (x : Nat) : ∀ j u, ((M.take x).map (Value.int .u8))[j]? = some u → W.cell? ((⟨g, 0, none⟩ : Addr).add j) = some u := by
  intro j u hj
  have hm := h.2.1
  have hjx : j < x ∧ j < M.length := by
    by_cases hh : j < x ∧ j < M.length
    · exact hh
    · rw [List.getElem?_eq_none (by simp only [List.length_map, List.length_take]; omega)] at hj; cases hj
  rw [Addr.add_lit, Nat.zero_add, h.cell (by omega), ← hj]
  simp [hjx.1, hjx.2, List.getD]

theorem St.drop {w1 W : World} {B G n cap g m c3 : Nat} {ao : Option Addr} {f : Nat → Int} {M : List Int} (h : St w1 W B G ao n cap f g m c3 M) (x : Nat) : ∀ j u, ((M.drop x).map (Value.int .u8))[j]? = some u → W.cell? ((⟨g, x, none⟩ : Addr).add j) = some u := by
  intro j u hj
  have hm := h.2.1
  have hjx : x + j < M.length := by
    by_cases hh : x + j < M.length
    · exact hh
    · rw [List.getElem?_eq_none (by simp only [List.length_map, List.length_drop]; omega)] at hj; cases hj
  rw [Addr.add_lit, h.cell (by omega), ← hj]
  simp [List.getElem?_drop, hjx, List.getD]

/-- A row of the call's own is as it was where another block was written. -/
theorem gkeep {w w' : World} {B n : Nat} {t : TypeId} {v : Value} {xs : List Value} {row : Option Nat} (h : w.ownsRow B t 1 v n xs) (hg : w.grownBy w' row) (hr : ∀ k, row = some k → v.ownBlock ≠ some k) : w'.ownsRow B t 1 v n xs := by
  refine ⟨h.1, ?_⟩
  rcases h.2 with e | ⟨b, c, cur, e, hb, hh, r⟩
  · exact .inl e
  · exact .inr ⟨b, c, cur, e, hb, (hg.block b (Array.getElem?_eq_some_iff.1 hh).1 (fun he => hr b he.symm (by rw [e]; rfl))).trans hh, r⟩

theorem own_lt {w : World} {B n : Nat} {t : TypeId} {v : Value} {xs : List Value} (h : w.ownsRow B t 1 v n xs) : ∀ k, v.ownBlock = some k → B ≤ k ∧ k < w.heap.size := by
  intro k hk
  rcases h.2 with ⟨rfl, _⟩ | ⟨b, c, cur, rfl, hb, hh, _⟩
  · cases hk
  · simp [Value.ownBlock] at hk
    subst hk
    exact ⟨hb, (Array.getElem?_eq_some_iff.1 hh).1⟩

/-- A list of ints at block q. -/
def Lit6 (W : World) (q : Nat) (zs : List Int) : Prop := q < W.heap.size ∧ ∀ i, i < zs.length → W.cell? ⟨q, i, none⟩ = some (.int .i64 (zs.getD i 0))

theorem Lit6.new (W : World) (zs : List Int) : Lit6 (W.alloc (.cells (zs.map (Value.int .i64)).toArray 3)) W.heap.size zs := by
  refine ⟨by simp, fun i hi => ?_⟩
  have hb : (W.alloc (.cells (zs.map (Value.int .i64)).toArray 3)).heap[W.heap.size]? = some (.cells (zs.map (Value.int .i64)).toArray 3 (0, 0)) := Deep.blk_alloc_new _ _
  rw [cell_blk hb]
  simp [List.getD, hi]
theorem Lit6.grow {W W' : World} {q : Nat} {zs : List Int} {row : Option Nat} (h : Lit6 W q zs) (hg : W.grownBy W' row) (hr : row ≠ some q) : Lit6 W' q zs :=
  ⟨Nat.lt_of_lt_of_le h.1 hg.size, fun i hi => (World.cell?_of_block (w := W) (hg.block q h.1 (fun e => hr e.symm))).trans (h.2 i hi)⟩

theorem Lit6.alloc {W : World} {q : Nat} {zs : List Int} (h : Lit6 W q zs) (o : Obj) : Lit6 (W.alloc o) q zs :=
  h.grow (row := none) ⟨rfl, rfl, rfl, by simp, fun k hk _ => Below.heap_alloc W o k hk⟩ (by simp)
theorem Bld.drew {w1 W : World} {g n cap : Nat} {ao : Option Addr} {f : Nat → Int} {v : Value} {L : List Int} (h : Bld w1 W g ao n cap f v L) : Bld w1 W.drew g ao n cap f v L :=
  ⟨h.1, h.2.1, h.2.2.1, ⟨h.2.2.2.1.os, h.2.2.2.1.tape, h.2.2.2.1.output, h.2.2.2.1.size, h.2.2.2.1.block⟩, h.2.2.2.2⟩

theorem wanted_step {P : Program} {ops : Array Oper} {o : Oper} {a : Act} {w : World} {K : Act → World → Prop} {Q : Exit → Act → World → Prop} {E : Prop} (hg : o.guard = none) (h : Oper.wp P o a w K Q) :
    if Region.wanted o (yielded ops a.tmps) = true then Oper.wp P o a w K Q else E := by
  rw [if_pos (by simp [Region.wanted, hg])]
  exact h

theorem lit6_bd (i : Nat) (h : i < 6) : 0 ≤ ([0, 1, 131, 228, 229, 255] : List Int).getD i 0 ∧ ([0, 1, 131, 228, 229, 255] : List Int).getD i 0 ≤ 255 := by
  obtain rfl | rfl | rfl | rfl | rfl | rfl : i = 0 ∨ i = 1 ∨ i = 2 ∨ i = 3 ∨ i = 4 ∨ i = 5 := by omega
  all_goals decide

theorem fin8 {w w1 w9 W : World} {B G n cap g m c3 x k : Nat} {ao : Option Addr} {f : Nat → Int} {M : List Int} {z : Int} {v v39 : Value} (b1 : Below w.heap.size w w1) (hm : m = M.length) (hm8 : m ≤ 8000) (hmb : ∀ z ∈ M, 0 ≤ z ∧ z ≤ 255) (hx : x + k = m + 1) (hz0 : 0 ≤ z) (hz1 : z ≤ 255)
    (hst : St w1 W B G ao n cap f g m c3 M) (hO : W.ownsRow B 5 1 v x ((M.take x).map (.int .u8))) (h39 : w9.ownsRow B 5 1 v39 (x + k) ((M.take x).map (.int .u8) ++ (.int .u8 z :: (M.drop x).map (.int .u8)))) (hg : W.grownBy w9 v.ownBlock) (hG : G = w.heap.size := by rfl) :
    ∃ v L, Ending.returned v39 = .returned v ∧ L.length ≤ 20000 ∧ Drawn w w9 v L := by
  have hl : (M.take x ++ z :: M.drop x).length = x + k := by have := h39.1; simp at this ⊢; omega
  have ho : w9.ownsRow B 5 1 v39 (M.take x ++ z :: M.drop x).length ((M.take x ++ z :: M.drop x).map (.int .u8)) := by rw [hl]; simpa using h39
  obtain ⟨ro, rc, rfl, ⟨_, h1, h2⟩, hOO⟩ := Own.of_owns ho
  have hBw : w.heap.size ≤ B := Nat.le_trans b1.size hst.2.2.2.2
  have bW : Below w.heap.size w W := b1.grown hst.1.2.2.2.1 b1.size (fun k hk => by simp at hk; omega)
  refine ⟨_, M.take x ++ z :: M.drop x, rfl, by omega, ⟨ro, rc, rfl, h1, h2, hOO.mono hBw⟩, fun y hy => ?_, bW.grown hg (Nat.le_trans hBw hst.2.2.1) (fun k hk => by have := own_lt hO k hk; omega)⟩
  rcases List.mem_append.1 hy with h | h
  · exact hmb y (List.mem_of_mem_take h)
  · rcases List.mem_cons.1 h with h | h
    · omega
    · exact hmb y (List.mem_of_mem_drop h)

set_option maxHeartbeats 4000000 in
theorem draw_spread (ao : Option Addr) (n cap : Nat) (f : Nat → Int) (w : World) (hn : n ≤ 1048576) (hs : SL .u8 w ao n f) (hf : ∀ i, i < n → 0 ≤ f i ∧ f i ≤ 255) :
    Calls Try.prog 11 #[.slice ao n cap] w fun e w' => ∃ v L, e = .returned v ∧ L.length ≤ 20000 ∧ Drawn w w' v L := by
  obtain ⟨i0, hi, hz0, hz1, hz2⟩ := info_parts Try.info5
  have HS := hide hs
  have HF := hide hf
  clear hs hf
  go_enter Try.func11, Try.ntmps11
  go_wp2_with fail
  refine (new_any ao n cap f _ hn HS.out HF.out).mono ?_
  rintro e w1 ⟨rfl, hc, b1⟩
  have HB := hide b1
  have HC := hide hc
  clear b1 hc
  go_wp2_with fail
  refine (bytes_any w.heap.size n cap ao f _ HC.out).mono ?_
  rintro e w2 ⟨v, L, rfl, hL, hB⟩
  obtain ⟨vo, vc, rfl, hlr, hO⟩ := Own.of_owns hB.1
  have HBL := hide hB
  have HSL := hide hO.sl
  have HLb : Hid (∀ i, i < L.length → 0 ≤ L.getD i 0 ∧ L.getD i 0 ≤ 255) := fun i hi => hB.2.1 _ (by simp [List.getD, hi])
  clear hlr hB HC hO
  go_wp2_with fail
  refine (squeeze_spec vo L.length vc (fun i => L.getD i 0) _ (by omega) HSL.out HLb.out).mono ?_
  rintro e w3 ⟨v3, rfl, ho3, hn3, b3⟩
  have hml := squeeze_len (fun i => L.getD i 0) L.length
  have hmb := hide (squeeze_byte (fun i => L.getD i 0) L.length HLb.out)
  generalize squeeze (fun i => L.getD i 0) L.length = M at *
  have HB3 := hide (bld_new HBL.out ho3 hmb.out b3)
  obtain ⟨g, c3, rfl⟩ : ∃ g c3, v3 = .slice (some ⟨g, 0, none⟩) M.length c3 := by
    rcases ho3.2 with ⟨e, _⟩ | ⟨g, c3, _, e, _⟩
    · exact absurd e hn3
    · exact ⟨g, c3, e⟩
  have hm8 : M.length ≤ 8000 := by omega
  have hmc : M.length ≤ c3 ∧ c3 ≤ maxLen := by
    rcases ho3.2 with ⟨e, _⟩ | ⟨g', c', _, e, _, _, h1, h2, _⟩
    · cases e
    · simp only [Value.slice.injEq] at e; obtain ⟨_, _, rfl⟩ := e; exact ⟨h1, h2⟩
  obtain ⟨m, hm⟩ : ∃ m, m = M.length := ⟨_, rfl⟩
  rw [← hm] at hm8 hmc HB3 ⊢
  have HM := hide hm
  obtain ⟨hmc1, hmc2⟩ := hmc
  unfold maxLen at hmc2
  clear hm hml ho3 hn3 b3 HBL HSL HLb
  go_wp2_with fail
  refine (below_all w.heap.size n cap ((m : Int) + 1) ao f _ (by omega) (by omega) HB3.out.2.2.1).mono ?_
  rintro e w4 ⟨⟨y, rfl, hy0, hy1⟩, hc4, hg4⟩
  have HB4 := hide (HB3.out.step hc4 hg4)
  clear hc4 hg4 HB3
  obtain ⟨x, rfl⟩ := Int.eq_ofNat_of_zero_le hy0
  have hxm : x ≤ m := by omega
  clear hy0 hy1
  go_wp2_with fail
  refine (below_any w.heap.size n cap 4 ao f _ (by decide) (by decide) HB4.out.2.2.1).mono ?_
  rintro e w5 ⟨⟨s, rfl, hs0, hs1⟩, hc5, hg5⟩
  have HB5 := hide (HB4.out.step hc5 hg5)
  clear hc5 hg5 HB4
  have HD := hide (drawn_of HB.out HB5.out)
  by_cases s0 : s = 0
  · subst s0
    have hx0 : (0 : Int) ≤ (x : Int) := by omega
    have hx1 : (x : Int) ≤ (c3 : Int) := by omega
    go_wp2
    go_ret
    exact ⟨_, M.take x, rfl, by have := HM.out; rw [List.length_take]; omega, drawn_take HD.out HM.out hxm⟩
  · by_cases s1 : s = 1
    · subst s1
      have hx0 : (0 : Int) ≤ (x : Int) := by omega
      have hx1 : (x : Int) ≤ (c3 : Int) := by omega
      have hx2 : (x : Int) ≤ (m : Int) := by omega
      go_wp2_with fail
      have hg5 : g < w5.heap.size := by
        rcases HB5.out.1.2 with ⟨e, _⟩ | ⟨b, c, cur, e, _, hh, _⟩
        · cases e
        · simp only [Value.slice.injEq, Option.some.injEq, Addr.mk.injEq] at e
          obtain ⟨⟨rfl, _⟩, _⟩ := e
          exact (Array.getElem?_eq_some_iff.1 hh).1
      have HST : Hid (St w1 w5.drew w5.heap.size w.heap.size ao n cap f g m c3 M) := ⟨HB5.out.drew, HM.out, Nat.le_refl _, hg5, HB5.out.2.2.2.1.size⟩
      have hgc : Hid (((w5.drew.alloc (.cells #[.int .i64 0, .int .i64 1, .int .i64 131, .int .i64 228, .int .i64 229, .int .i64 255] 3)).alloc (.cells #[] 5)).ownsRow w5.heap.size 5 1 (.slice (some ⟨w5.heap.size + 1, 0, none⟩) 0 0) 0 (([] : List Int).map (.int .u8))) := by
        have h := gempty (B := w5.heap.size) (w := w5.drew.alloc (.cells #[.int .i64 0, .int .i64 1, .int .i64 131, .int .i64 228, .int .i64 229, .int .i64 255] 3)) (t := 5) (ik := .u8) (by simp)
        rw [show (w5.drew.alloc (.cells #[.int .i64 0, .int .i64 1, .int .i64 131, .int .i64 228, .int .i64 229, .int .i64 255] 3)).heap.size = w5.heap.size + 1 by simp] at h
        exact h
      have hone1 := hide (gones .u8 (M.take x))
      have hone3 := hide (gones .u8 (M.drop x))
      clear HB5 HD HS HF
      by_cases hcx : c3 = x
      · obtain rfl : x = m := by omega
        subst hcx
        have hl1 : Hid (((M.take c3).map (Value.int .u8)).length = c3 * 1) := (show _ = _ by have := HM.out; simp; omega)
        have hl3 : Hid (((M.drop c3).map (Value.int .u8)).length = 0 * 1) := (show _ = _ by have := HM.out; simp; omega)
        have hdn : Hid (M.drop c3 = []) := List.drop_of_length_le (by have := HM.out; omega)
        have hnd : Hid (∀ (W : World) (j : Nat) (u : Value), ((M.drop c3).map (Value.int .u8))[j]? = some u → W.cell? ((⟨g, 0, none⟩ : Addr).add j) = some u) := fun W j u h => by rw [hdn.out] at h; simp at h
        have hl4 : ∀ z : Int, Hid (([z].map (Value.int .u8) ++ (M.drop c3).map (Value.int .u8)).length = (1 + 0) * 1) := fun z => (show _ = _ by rw [hdn.out]; rfl)
        have hone4 : ∀ z : Int, Hid (∀ u ∈ [z].map (Value.int .u8) ++ (M.drop c3).map (Value.int .u8), u.oneCell' = true) := fun z u hu => (List.mem_append.1 hu).elim (gones .u8 [z] u) (gones .u8 (M.drop c3) u)
        refine wp_region_held_drew (S := fun _ => True) (by kernel_rfl) trivial (fun _ => ?_)
        refine wpAnyH_take (i := 1) (oi := { dst := some 26, op := Op.move (Operand.tmp 4), type := 22, pos := "l03_lz.go:130", after := #[], guard := none }) (v := ?_) rfl (by kernel_rfl) (by kernel_rfl) (by kernel_rfl) (fun _ _ _ h => h) (Or.inl ⟨by rfl, ?_⟩) trivial ?_
        rotate_left 1
        · (intro wq _; go_simp; try with_reducible rfl)
        try simp only [Act.put, List.setIfInBounds_toArray, List.set_cons_zero, List.set_cons_succ]
        refine wpAnyH_take (i := 2) (oi := { dst := some 27, op := Op.move (Operand.tmp 5), type := 3, pos := "l03_lz.go:130", after := #[], guard := none }) (v := ?_) rfl (by kernel_rfl) (by kernel_rfl) (by kernel_rfl) (fun _ _ _ h => h) (Or.inl ⟨by rfl, ?_⟩) trivial ?_
        rotate_left 1
        · (intro wq _; go_simp; try with_reducible rfl)
        try simp only [Act.put, List.setIfInBounds_toArray, List.set_cons_zero, List.set_cons_succ]
        refine wpAnyH_take (i := 3) (oi := { dst := some 28, op := Op.slice 22 (Operand.tmp 26) none (some (Operand.tmp 27)) none, type := 22, pos := "l03_lz.go:130", after := #[{ on := 1, ground := Ground.data }, { on := 2, ground := Ground.data }], guard := none }) (v := ?_) rfl (by kernel_rfl) (by kernel_rfl) (by kernel_rfl) (fun _ _ _ h => h) (Or.inl ⟨by rfl, ?_⟩) trivial ?_
        rotate_left 1
        · (intro wq _; go_simp; try with_reducible rfl)
        try simp only [Act.put, List.setIfInBounds_toArray, List.set_cons_zero, List.set_cons_succ]
        refine wpAnyH_take (i := 5) (oi := { dst := some 30, op := Op.move (Operand.tmp 3), type := 33, pos := "l03_lz.go:130", after := #[], guard := none }) (v := ?_) rfl (by kernel_rfl) (by kernel_rfl) (by kernel_rfl) (fun _ _ _ h => h) (Or.inl ⟨by rfl, ?_⟩) trivial ?_
        rotate_left 1
        · (intro wq _; go_simp; try with_reducible rfl)
        try simp only [Act.put, List.setIfInBounds_toArray, List.set_cons_zero, List.set_cons_succ]
        refine wpAnyH_take (i := 10) (oi := { dst := some 35, op := Op.move (Operand.tmp 4), type := 22, pos := "l03_lz.go:130", after := #[], guard := none }) (v := ?_) rfl (by kernel_rfl) (by kernel_rfl) (by kernel_rfl) (fun _ _ _ h => h) (Or.inl ⟨by rfl, ?_⟩) trivial ?_
        rotate_left 1
        · (intro wq _; go_simp; try with_reducible rfl)
        try simp only [Act.put, List.setIfInBounds_toArray, List.set_cons_zero, List.set_cons_succ]
        refine wpAnyH_take (i := 11) (oi := { dst := some 36, op := Op.move (Operand.tmp 5), type := 3, pos := "l03_lz.go:130", after := #[], guard := none }) (v := ?_) rfl (by kernel_rfl) (by kernel_rfl) (by kernel_rfl) (fun _ _ _ h => h) (Or.inl ⟨by rfl, ?_⟩) trivial ?_
        rotate_left 1
        · (intro wq _; go_simp; try with_reducible rfl)
        try simp only [Act.put, List.setIfInBounds_toArray, List.set_cons_zero, List.set_cons_succ]
        refine wpAnyH_take (i := 12) (oi := { dst := some 37, op := Op.slice 22 (Operand.tmp 35) (some (Operand.tmp 36)) none none, type := 22, pos := "l03_lz.go:130", after := #[{ on := 10, ground := Ground.data }, { on := 11, ground := Ground.data }], guard := none }) (v := ?_) rfl (by kernel_rfl) (by kernel_rfl) (by kernel_rfl) (fun _ _ _ h => h) (Or.inl ⟨by rfl, ?_⟩) trivial ?_
        rotate_left 1
        · (intro wq _; go_simp; try with_reducible rfl)
        try simp only [Act.put, List.setIfInBounds_toArray, List.set_cons_zero, List.set_cons_succ]
        refine wpAnyH_ready (rs := [0, 6]) (by kernel_rfl) (by simp) ?_
        refine AllReadyH.cons (o := { dst := some 25, op := Op.buildSlice 22 0 #[], type := 22, pos := "l03_lz.go:130", after := #[], guard := none }) rfl (fun K hK => ?_) ?_
        · go_simp
          have STa := hide (HST.out.alloc (.cells #[] 5))
          refine hK.out _ _ trivial (fun _ => ?_)
          clear hK K
          try simp only [Act.put, List.setIfInBounds_toArray, List.set_cons_zero, List.set_cons_succ]
          refine wpAnyH_ready (rs := [4, 6]) (by kernel_rfl) (by simp) ?_
          refine AllReadyH.cons (o := { dst := some 29, op := Op.call { callee := Callee.builtin Builtin.append, args := #[Operand.tmp 25, Operand.tmp 28], argTypes := #[22, 22] }, type := 22, pos := "l03_lz.go:130", after := #[{ on := 0, ground := Ground.data }, { on := 3, ground := Ground.data }], guard := none }) rfl (fun K hK => ?_) ?_
          · refine wanted_step rfl ?_
            refine wp_append_own _ _ _ 22 rfl w5.heap.size 5 i0 (.int .u8 0) 1 1 Try.underlying22 hi hz0 hz1 hz2 rfl (by decide) (.slice (some ⟨w5.heap.size, 0, none⟩) 0 0) 0 (([] : List Int).map (.int .u8)) rfl (gempty (ik := .u8) (Nat.le_refl _)) ⟨g, 0, none⟩ c3 c3 ((M.take c3).map (.int .u8)) rfl hl1.out (STa.out.take c3) hone1.out (glens (by omega)) (by omega) (by have := HST.out.2.2.1; first | exact this | (simp; done) | (simp; omega) | (have := ST.out.2.2.1; omega) | (have := ST8.out.2.2.1; exact this) | (have := ST9.out.2.2.1; exact this)) ?_
            intro v29 wA hown29 hgrow29 hnn29
            have STb := hide (STa.out.grow hgrow29 (fun k hk => by simp [Value.ownBlock] at hk; omega))
            have OWb : Hid (wA.ownsRow w5.heap.size 5 1 v29 c3 ((M.take c3).map (.int .u8))) := (show wA.ownsRow _ _ _ _ _ _ by simpa using hown29)
            clear hown29 hgrow29 hnn29
            refine hK.out _ _ trivial (fun _ => ?_)
            clear hK K
            try simp only [Act.put, List.setIfInBounds_toArray, List.set_cons_zero, List.set_cons_succ]
            refine wpAnyH_ready (rs := [6]) (by kernel_rfl) (by simp) ?_
            refine AllReadyH.cons (o := { dst := some 31, op := Op.buildSlice 42 6 #[(0, Operand.const (Value.int IntKind.i64 0)), (1, Operand.const (Value.int IntKind.i64 1)), (2, Operand.const (Value.int IntKind.i64 131)), (3, Operand.const (Value.int IntKind.i64 228)), (4, Operand.const (Value.int IntKind.i64 229)), (5, Operand.const (Value.int IntKind.i64 255))], type := 42, pos := "l03_lz.go:130", after := #[], guard := none }) rfl (fun K hK => ?_) AllReadyH.nil
            go_simp
            have ST := hide (STb.out.alloc (.cells #[.int .i64 0, .int .i64 1, .int .i64 131, .int .i64 228, .int .i64 229, .int .i64 255] 3))
            have OW := hide (OWb.out.alloc (.cells #[.int .i64 0, .int .i64 1, .int .i64 131, .int .i64 228, .int .i64 229, .int .i64 255] 3))
            have LT := hide (Lit6.new wA [0, 1, 131, 228, 229, 255])
            have HQ : Hid (w5.heap.size ≤ wA.heap.size) := STb.out.2.2.1
            refine hK.out _ _ trivial (fun _ => ?_)
            clear hK K
            try simp only [Act.put, List.setIfInBounds_toArray, List.set_cons_zero, List.set_cons_succ]
            refine wpAnyH_ready (rs := [7]) (by kernel_rfl) (by simp) ?_
            refine AllReadyH.cons (o := { dst := some 32, op := Op.call { callee := Callee.value (Operand.func 28), args := #[Operand.tmp 30, Operand.tmp 31], argTypes := #[33, 42] }, type := 3, pos := "l03_lz.go:130", after := #[{ on := 5, ground := Ground.data }, { on := 6, ground := Ground.data }, { on := 4, ground := Ground.chain }], guard := none }) rfl (fun K hK => ?_) AllReadyH.nil
            go_simp
            refine (pick_any w.heap.size n cap 6 6 ao (some ⟨wA.heap.size, 0, none⟩) f (fun i => [0, 1, 131, 228, 229, 255].getD i 0) _ (by decide) (by decide) ST.out.1.2.2.1 (fun i hi => ⟨wA.heap.size, 0, rfl, LT.out.1, by have := ST.out.1.2.2.2.2; have := ST.out.2.2.2.2; have := HQ.out; omega, by rw [Nat.zero_add]; exact LT.out.2 i hi⟩)).mono ?_
            rintro e w7 ⟨⟨i, hi6, rfl⟩, hc7, hg7⟩
            have ST7 : Hid (St w1 w7 w5.heap.size w.heap.size ao n cap f g c3 c3 M) := ⟨ST.out.1.step hc7 hg7, ST.out.2.1, Nat.le_trans ST.out.2.2.1 hg7.size, ST.out.2.2.2.1, ST.out.2.2.2.2⟩
            have OW7 := hide (gkeep OW.out hg7 (fun k hk e => by have := own_lt OW.out k e; have := ST.out.1.2.2.2.2; have := ST.out.2.2.2.2; simp at hk; omega))
            obtain ⟨hzz0, hzz1⟩ := lit6_bd i hi6
            generalize ([0, 1, 131, 228, 229, 255] : List Int).getD i 0 = z at *
            have hwz : IntKind.u8.wrap z = z := by rw [IntKind.wrap_u8]; omega
            clear hc7 hg7 LT
            go_wp2_with fail
            refine hK.out _ _ trivial (fun _ => ?_)
            clear hK K
            try simp only [Act.put, List.setIfInBounds_toArray, List.set_cons_zero, List.set_cons_succ]
            refine wpAnyH_take (i := 8) (oi := { dst := some 33, op := Op.convert 3 5 (Operand.tmp 32), type := 5, pos := "l03_lz.go:130", after := #[{ on := 7, ground := Ground.data }], guard := none }) (v := ?_) rfl (by kernel_rfl) (by kernel_rfl) (by kernel_rfl) (fun _ _ _ h => h) (Or.inl ⟨by rfl, ?_⟩) trivial ?_
            rotate_left 1
            · (intro wq _; go_simp; try with_reducible rfl)
            try simp only [Act.put, List.setIfInBounds_toArray, List.set_cons_zero, List.set_cons_succ]
            refine wpAnyH_ready (rs := [9]) (by kernel_rfl) (by simp) ?_
            refine AllReadyH.cons (o := { dst := some 34, op := Op.buildSlice 22 1 #[(0, Operand.tmp 33)], type := 22, pos := "l03_lz.go:130", after := #[{ on := 8, ground := Ground.data }], guard := none }) rfl (fun K hK => ?_) AllReadyH.nil
            go_simp
            have ST8 := hide (ST7.out.alloc (.cells #[.int .u8 z] 5))
            have OW8 := hide (OW7.out.alloc (.cells #[.int .u8 z] 5))
            have OP : Hid ((w7.alloc (.cells #[.int .u8 z] 5)).ownsRow w5.heap.size 5 1 (.slice (some ⟨w7.heap.size, 0, none⟩) 1 1) 1 ([z].map (.int .u8))) := ⟨rfl, .inr ⟨_, _, #[.int .u8 z], rfl, ST7.out.2.2.1, Deep.blk_alloc_new _ _, Nat.le_refl _, by simp [maxLen], rfl, rfl⟩⟩
            refine hK.out _ _ trivial (fun _ => ?_)
            clear hK K
            try simp only [Act.put, List.setIfInBounds_toArray, List.set_cons_zero, List.set_cons_succ]
            refine wpAnyH_ready (rs := [13]) (by kernel_rfl) (by simp) ?_
            refine AllReadyH.cons (o := { dst := some 38, op := Op.call { callee := Callee.builtin Builtin.append, args := #[Operand.tmp 34, Operand.tmp 37], argTypes := #[22, 22] }, type := 22, pos := "l03_lz.go:130", after := #[{ on := 9, ground := Ground.data }, { on := 12, ground := Ground.data }, { on := 7, ground := Ground.chain }], guard := none }) rfl (fun K hK => ?_) AllReadyH.nil
            refine wanted_step rfl ?_
            refine wp_append_own _ _ _ 22 rfl w5.heap.size 5 i0 (.int .u8 0) 1 1 Try.underlying22 hi hz0 hz1 hz2 rfl (by decide) (.slice (some ⟨w7.heap.size, 0, none⟩) 1 1) 1 ([z].map (.int .u8)) rfl OP.out ⟨g, 0, none⟩ 0 0 ((M.drop c3).map (.int .u8)) rfl hl3.out (hnd.out _) hone3.out (glens (by omega)) (by omega) (by have := HST.out.2.2.1; first | exact this | (simp; done) | (simp; omega) | (have := ST.out.2.2.1; omega) | (have := ST8.out.2.2.1; exact this) | (have := ST9.out.2.2.1; exact this)) ?_
            intro v38 w8 hown38 hgrow38 hnn38
            have ST9 := hide (ST8.out.grow hgrow38 (fun k hk => (own_lt OP.out k hk).1))
            have OW9 := hide (gkeep OW8.out hgrow38 (fun k hk e => by have h1 := own_lt OW7.out k e; simp [Value.ownBlock] at hk; omega))
            obtain ⟨p, c38, rfl⟩ : ∃ p c38, v38 = .slice (some ⟨p, 0, none⟩) (1 + 0) c38 := by
              rcases hown38.2 with ⟨_, h⟩ | ⟨p, c38, _, h, _⟩
              · omega
              · exact ⟨p, c38, h⟩
            have hn38 := hide (hown38.cells (g := p) rfl)
            clear hown38 hgrow38 hnn38 OP ST8 OW8
            refine hK.out _ _ trivial (fun _ => ?_)
            clear hK K
            try simp only [Act.put, List.setIfInBounds_toArray, List.set_cons_zero, List.set_cons_succ]
            refine wpAnyH_ready (rs := [14]) (by kernel_rfl) (by simp) ?_
            refine AllReadyH.cons (o := { dst := some 39, op := Op.call { callee := Callee.builtin Builtin.append, args := #[Operand.tmp 29, Operand.tmp 38], argTypes := #[22, 22] }, type := 22, pos := "l03_lz.go:130", after := #[{ on := 4, ground := Ground.data }, { on := 13, ground := Ground.data }, { on := 13, ground := Ground.chain }], guard := none }) rfl (fun K hK => ?_) AllReadyH.nil
            refine wanted_step rfl ?_
            refine wp_append_own _ _ _ 22 rfl w5.heap.size 5 i0 (.int .u8 0) 1 1 Try.underlying22 hi hz0 hz1 hz2 rfl (by decide) v29 c3 ((M.take c3).map (.int .u8)) rfl OW9.out ⟨p, 0, none⟩ (1 + 0) c38 ([z].map (.int .u8) ++ (M.drop c3).map (.int .u8)) rfl (hl4 z).out hn38.out (hone4 z).out (glens (by omega)) (by omega) (by have := HST.out.2.2.1; first | exact this | (simp; done) | (simp; omega) | (have := ST.out.2.2.1; omega) | (have := ST8.out.2.2.1; exact this) | (have := ST9.out.2.2.1; exact this)) ?_
            intro v39 w9 hown39 hgrow39 hnn39
            have HFIN : Hid (∃ v L, Ending.returned v39 = .returned v ∧ L.length ≤ 20000 ∧ Drawn w w9 v L) := fin8 (k := 1 + 0) HB.out HM.out hm8 hmb.out (by omega) hzz0 hzz1 ST9.out OW9.out (by simpa using hown39) hgrow39
            clear hown39 hgrow39 hnn39 hn38
            refine hK.out _ _ trivial (fun _ => ?_)
            clear hK K
            try simp only [Act.put, List.setIfInBounds_toArray, List.set_cons_zero, List.set_cons_succ]
            refine wpAnyH_take (i := 15) (oi := { dst := some 2, op := Op.assign (Operand.tmp 39), type := 22, pos := "l03_lz.go:130", after := #[{ on := 14, ground := Ground.data }, { on := 14, ground := Ground.chain }, { on := 0, ground := Ground.phase }, { on := 1, ground := Ground.phase }, { on := 2, ground := Ground.phase }, { on := 3, ground := Ground.phase }, { on := 4, ground := Ground.phase }, { on := 5, ground := Ground.phase }, { on := 6, ground := Ground.phase }, { on := 7, ground := Ground.phase }, { on := 8, ground := Ground.phase }, { on := 9, ground := Ground.phase }, { on := 10, ground := Ground.phase }, { on := 11, ground := Ground.phase }, { on := 12, ground := Ground.phase }, { on := 13, ground := Ground.phase }, { on := 14, ground := Ground.phase }], guard := none }) (v := ?_) rfl (by kernel_rfl) (by kernel_rfl) (by kernel_rfl) (fun _ _ _ h => h) (Or.inl ⟨by rfl, ?_⟩) trivial ?_
            rotate_left 1
            · (intro wq _; go_simp; try with_reducible rfl)
            try simp only [Act.put, List.setIfInBounds_toArray, List.set_cons_zero, List.set_cons_succ]
            refine wpAnyH_done (by kernel_rfl) ?_ _
            go_wp2_with fail
            go_ret
            exact HFIN.out
          refine AllReadyH.cons (o := { dst := some 31, op := Op.buildSlice 42 6 #[(0, Operand.const (Value.int IntKind.i64 0)), (1, Operand.const (Value.int IntKind.i64 1)), (2, Operand.const (Value.int IntKind.i64 131)), (3, Operand.const (Value.int IntKind.i64 228)), (4, Operand.const (Value.int IntKind.i64 229)), (5, Operand.const (Value.int IntKind.i64 255))], type := 42, pos := "l03_lz.go:130", after := #[], guard := none }) rfl (fun K hK => ?_) AllReadyH.nil
          · go_simp
            have STb := hide (STa.out.alloc (.cells #[.int .i64 0, .int .i64 1, .int .i64 131, .int .i64 228, .int .i64 229, .int .i64 255] 3))
            have LTb : Hid (Lit6 ((w5.drew.alloc (.cells #[] 5)).alloc (.cells #[.int .i64 0, .int .i64 1, .int .i64 131, .int .i64 228, .int .i64 229, .int .i64 255] 3)) (w5.heap.size + 1) [0, 1, 131, 228, 229, 255]) := (show Lit6 _ _ _ by have h := Lit6.new (w5.drew.alloc (.cells #[] 5)) [0, 1, 131, 228, 229, 255]; rw [show (w5.drew.alloc (.cells #[] 5)).heap.size = w5.heap.size + 1 by simp] at h; exact h)
            have HQ : Hid (w5.heap.size ≤ w5.heap.size + 1) := Nat.le_succ _
            refine hK.out _ _ trivial (fun _ => ?_)
            clear hK K
            try simp only [Act.put, List.setIfInBounds_toArray, List.set_cons_zero, List.set_cons_succ]
            refine wpAnyH_ready (rs := [4]) (by kernel_rfl) (by simp) ?_
            refine AllReadyH.cons (o := { dst := some 29, op := Op.call { callee := Callee.builtin Builtin.append, args := #[Operand.tmp 25, Operand.tmp 28], argTypes := #[22, 22] }, type := 22, pos := "l03_lz.go:130", after := #[{ on := 0, ground := Ground.data }, { on := 3, ground := Ground.data }], guard := none }) rfl (fun K hK => ?_) AllReadyH.nil
            refine wanted_step rfl ?_
            refine wp_append_own _ _ _ 22 rfl w5.heap.size 5 i0 (.int .u8 0) 1 1 Try.underlying22 hi hz0 hz1 hz2 rfl (by decide) (.slice (some ⟨w5.heap.size, 0, none⟩) 0 0) 0 (([] : List Int).map (.int .u8)) rfl ((gempty (w := w5.drew) (ik := .u8) (Nat.le_refl _)).alloc _) ⟨g, 0, none⟩ c3 c3 ((M.take c3).map (.int .u8)) rfl hl1.out (STb.out.take c3) hone1.out (glens (by omega)) (by omega) (by have := HST.out.2.2.1; first | exact this | (simp; done) | (simp; omega) | (have := ST.out.2.2.1; omega) | (have := ST8.out.2.2.1; exact this) | (have := ST9.out.2.2.1; exact this)) ?_
            intro v29 wA hown29 hgrow29 hnn29
            have ST := hide (STb.out.grow hgrow29 (fun k hk => by simp [Value.ownBlock] at hk; omega))
            have OW : Hid (wA.ownsRow w5.heap.size 5 1 v29 c3 ((M.take c3).map (.int .u8))) := (show wA.ownsRow _ _ _ _ _ _ by simpa using hown29)
            have LT := hide (LTb.out.grow hgrow29 (by simp [Value.ownBlock]))
            clear hown29 hgrow29 hnn29
            refine hK.out _ _ trivial (fun _ => ?_)
            clear hK K
            try simp only [Act.put, List.setIfInBounds_toArray, List.set_cons_zero, List.set_cons_succ]
            refine wpAnyH_ready (rs := [7]) (by kernel_rfl) (by simp) ?_
            refine AllReadyH.cons (o := { dst := some 32, op := Op.call { callee := Callee.value (Operand.func 28), args := #[Operand.tmp 30, Operand.tmp 31], argTypes := #[33, 42] }, type := 3, pos := "l03_lz.go:130", after := #[{ on := 5, ground := Ground.data }, { on := 6, ground := Ground.data }, { on := 4, ground := Ground.chain }], guard := none }) rfl (fun K hK => ?_) AllReadyH.nil
            go_simp
            refine (pick_any w.heap.size n cap 6 6 ao (some ⟨(w5.heap.size + 1), 0, none⟩) f (fun i => [0, 1, 131, 228, 229, 255].getD i 0) _ (by decide) (by decide) ST.out.1.2.2.1 (fun i hi => ⟨(w5.heap.size + 1), 0, rfl, LT.out.1, by have := ST.out.1.2.2.2.2; have := ST.out.2.2.2.2; have := HQ.out; omega, by rw [Nat.zero_add]; exact LT.out.2 i hi⟩)).mono ?_
            rintro e w7 ⟨⟨i, hi6, rfl⟩, hc7, hg7⟩
            have ST7 : Hid (St w1 w7 w5.heap.size w.heap.size ao n cap f g c3 c3 M) := ⟨ST.out.1.step hc7 hg7, ST.out.2.1, Nat.le_trans ST.out.2.2.1 hg7.size, ST.out.2.2.2.1, ST.out.2.2.2.2⟩
            have OW7 := hide (gkeep OW.out hg7 (fun k hk e => by have := own_lt OW.out k e; have := ST.out.1.2.2.2.2; have := ST.out.2.2.2.2; simp at hk; omega))
            obtain ⟨hzz0, hzz1⟩ := lit6_bd i hi6
            generalize ([0, 1, 131, 228, 229, 255] : List Int).getD i 0 = z at *
            have hwz : IntKind.u8.wrap z = z := by rw [IntKind.wrap_u8]; omega
            clear hc7 hg7 LT
            go_wp2_with fail
            refine hK.out _ _ trivial (fun _ => ?_)
            clear hK K
            try simp only [Act.put, List.setIfInBounds_toArray, List.set_cons_zero, List.set_cons_succ]
            refine wpAnyH_take (i := 8) (oi := { dst := some 33, op := Op.convert 3 5 (Operand.tmp 32), type := 5, pos := "l03_lz.go:130", after := #[{ on := 7, ground := Ground.data }], guard := none }) (v := ?_) rfl (by kernel_rfl) (by kernel_rfl) (by kernel_rfl) (fun _ _ _ h => h) (Or.inl ⟨by rfl, ?_⟩) trivial ?_
            rotate_left 1
            · (intro wq _; go_simp; try with_reducible rfl)
            try simp only [Act.put, List.setIfInBounds_toArray, List.set_cons_zero, List.set_cons_succ]
            refine wpAnyH_ready (rs := [9]) (by kernel_rfl) (by simp) ?_
            refine AllReadyH.cons (o := { dst := some 34, op := Op.buildSlice 22 1 #[(0, Operand.tmp 33)], type := 22, pos := "l03_lz.go:130", after := #[{ on := 8, ground := Ground.data }], guard := none }) rfl (fun K hK => ?_) AllReadyH.nil
            go_simp
            have ST8 := hide (ST7.out.alloc (.cells #[.int .u8 z] 5))
            have OW8 := hide (OW7.out.alloc (.cells #[.int .u8 z] 5))
            have OP : Hid ((w7.alloc (.cells #[.int .u8 z] 5)).ownsRow w5.heap.size 5 1 (.slice (some ⟨w7.heap.size, 0, none⟩) 1 1) 1 ([z].map (.int .u8))) := ⟨rfl, .inr ⟨_, _, #[.int .u8 z], rfl, ST7.out.2.2.1, Deep.blk_alloc_new _ _, Nat.le_refl _, by simp [maxLen], rfl, rfl⟩⟩
            refine hK.out _ _ trivial (fun _ => ?_)
            clear hK K
            try simp only [Act.put, List.setIfInBounds_toArray, List.set_cons_zero, List.set_cons_succ]
            refine wpAnyH_ready (rs := [13]) (by kernel_rfl) (by simp) ?_
            refine AllReadyH.cons (o := { dst := some 38, op := Op.call { callee := Callee.builtin Builtin.append, args := #[Operand.tmp 34, Operand.tmp 37], argTypes := #[22, 22] }, type := 22, pos := "l03_lz.go:130", after := #[{ on := 9, ground := Ground.data }, { on := 12, ground := Ground.data }, { on := 7, ground := Ground.chain }], guard := none }) rfl (fun K hK => ?_) AllReadyH.nil
            refine wanted_step rfl ?_
            refine wp_append_own _ _ _ 22 rfl w5.heap.size 5 i0 (.int .u8 0) 1 1 Try.underlying22 hi hz0 hz1 hz2 rfl (by decide) (.slice (some ⟨w7.heap.size, 0, none⟩) 1 1) 1 ([z].map (.int .u8)) rfl OP.out ⟨g, 0, none⟩ 0 0 ((M.drop c3).map (.int .u8)) rfl hl3.out (hnd.out _) hone3.out (glens (by omega)) (by omega) (by have := HST.out.2.2.1; first | exact this | (simp; done) | (simp; omega) | (have := ST.out.2.2.1; omega) | (have := ST8.out.2.2.1; exact this) | (have := ST9.out.2.2.1; exact this)) ?_
            intro v38 w8 hown38 hgrow38 hnn38
            have ST9 := hide (ST8.out.grow hgrow38 (fun k hk => (own_lt OP.out k hk).1))
            have OW9 := hide (gkeep OW8.out hgrow38 (fun k hk e => by have h1 := own_lt OW7.out k e; simp [Value.ownBlock] at hk; omega))
            obtain ⟨p, c38, rfl⟩ : ∃ p c38, v38 = .slice (some ⟨p, 0, none⟩) (1 + 0) c38 := by
              rcases hown38.2 with ⟨_, h⟩ | ⟨p, c38, _, h, _⟩
              · omega
              · exact ⟨p, c38, h⟩
            have hn38 := hide (hown38.cells (g := p) rfl)
            clear hown38 hgrow38 hnn38 OP ST8 OW8
            refine hK.out _ _ trivial (fun _ => ?_)
            clear hK K
            try simp only [Act.put, List.setIfInBounds_toArray, List.set_cons_zero, List.set_cons_succ]
            refine wpAnyH_ready (rs := [14]) (by kernel_rfl) (by simp) ?_
            refine AllReadyH.cons (o := { dst := some 39, op := Op.call { callee := Callee.builtin Builtin.append, args := #[Operand.tmp 29, Operand.tmp 38], argTypes := #[22, 22] }, type := 22, pos := "l03_lz.go:130", after := #[{ on := 4, ground := Ground.data }, { on := 13, ground := Ground.data }, { on := 13, ground := Ground.chain }], guard := none }) rfl (fun K hK => ?_) AllReadyH.nil
            refine wanted_step rfl ?_
            refine wp_append_own _ _ _ 22 rfl w5.heap.size 5 i0 (.int .u8 0) 1 1 Try.underlying22 hi hz0 hz1 hz2 rfl (by decide) v29 c3 ((M.take c3).map (.int .u8)) rfl OW9.out ⟨p, 0, none⟩ (1 + 0) c38 ([z].map (.int .u8) ++ (M.drop c3).map (.int .u8)) rfl (hl4 z).out hn38.out (hone4 z).out (glens (by omega)) (by omega) (by have := HST.out.2.2.1; first | exact this | (simp; done) | (simp; omega) | (have := ST.out.2.2.1; omega) | (have := ST8.out.2.2.1; exact this) | (have := ST9.out.2.2.1; exact this)) ?_
            intro v39 w9 hown39 hgrow39 hnn39
            have HFIN : Hid (∃ v L, Ending.returned v39 = .returned v ∧ L.length ≤ 20000 ∧ Drawn w w9 v L) := fin8 (k := 1 + 0) HB.out HM.out hm8 hmb.out (by omega) hzz0 hzz1 ST9.out OW9.out (by simpa using hown39) hgrow39
            clear hown39 hgrow39 hnn39 hn38
            refine hK.out _ _ trivial (fun _ => ?_)
            clear hK K
            try simp only [Act.put, List.setIfInBounds_toArray, List.set_cons_zero, List.set_cons_succ]
            refine wpAnyH_take (i := 15) (oi := { dst := some 2, op := Op.assign (Operand.tmp 39), type := 22, pos := "l03_lz.go:130", after := #[{ on := 14, ground := Ground.data }, { on := 14, ground := Ground.chain }, { on := 0, ground := Ground.phase }, { on := 1, ground := Ground.phase }, { on := 2, ground := Ground.phase }, { on := 3, ground := Ground.phase }, { on := 4, ground := Ground.phase }, { on := 5, ground := Ground.phase }, { on := 6, ground := Ground.phase }, { on := 7, ground := Ground.phase }, { on := 8, ground := Ground.phase }, { on := 9, ground := Ground.phase }, { on := 10, ground := Ground.phase }, { on := 11, ground := Ground.phase }, { on := 12, ground := Ground.phase }, { on := 13, ground := Ground.phase }, { on := 14, ground := Ground.phase }], guard := none }) (v := ?_) rfl (by kernel_rfl) (by kernel_rfl) (by kernel_rfl) (fun _ _ _ h => h) (Or.inl ⟨by rfl, ?_⟩) trivial ?_
            rotate_left 1
            · (intro wq _; go_simp; try with_reducible rfl)
            try simp only [Act.put, List.setIfInBounds_toArray, List.set_cons_zero, List.set_cons_succ]
            refine wpAnyH_done (by kernel_rfl) ?_ _
            go_wp2_with fail
            go_ret
            exact HFIN.out
        refine AllReadyH.cons (o := { dst := some 31, op := Op.buildSlice 42 6 #[(0, Operand.const (Value.int IntKind.i64 0)), (1, Operand.const (Value.int IntKind.i64 1)), (2, Operand.const (Value.int IntKind.i64 131)), (3, Operand.const (Value.int IntKind.i64 228)), (4, Operand.const (Value.int IntKind.i64 229)), (5, Operand.const (Value.int IntKind.i64 255))], type := 42, pos := "l03_lz.go:130", after := #[], guard := none }) rfl (fun K hK => ?_) AllReadyH.nil
        · go_simp
          have STa := hide (HST.out.alloc (.cells #[.int .i64 0, .int .i64 1, .int .i64 131, .int .i64 228, .int .i64 229, .int .i64 255] 3))
          have LTa := hide (Lit6.new w5.drew [0, 1, 131, 228, 229, 255])
          have HQ : Hid (w5.heap.size ≤ w5.heap.size) := Nat.le_refl _
          refine hK.out _ _ trivial (fun _ => ?_)
          clear hK K
          try simp only [Act.put, List.setIfInBounds_toArray, List.set_cons_zero, List.set_cons_succ]
          refine wpAnyH_ready (rs := [0]) (by kernel_rfl) (by simp) ?_
          refine AllReadyH.cons (o := { dst := some 25, op := Op.buildSlice 22 0 #[], type := 22, pos := "l03_lz.go:130", after := #[], guard := none }) rfl (fun K hK => ?_) AllReadyH.nil
          go_simp
          have STb := hide (STa.out.alloc (.cells #[] 5))
          have LTb := hide (LTa.out.alloc (.cells #[] 5))
          refine hK.out _ _ trivial (fun _ => ?_)
          clear hK K
          try simp only [Act.put, List.setIfInBounds_toArray, List.set_cons_zero, List.set_cons_succ]
          refine wpAnyH_ready (rs := [4]) (by kernel_rfl) (by simp) ?_
          refine AllReadyH.cons (o := { dst := some 29, op := Op.call { callee := Callee.builtin Builtin.append, args := #[Operand.tmp 25, Operand.tmp 28], argTypes := #[22, 22] }, type := 22, pos := "l03_lz.go:130", after := #[{ on := 0, ground := Ground.data }, { on := 3, ground := Ground.data }], guard := none }) rfl (fun K hK => ?_) AllReadyH.nil
          refine wanted_step rfl ?_
          refine wp_append_own _ _ _ 22 rfl w5.heap.size 5 i0 (.int .u8 0) 1 1 Try.underlying22 hi hz0 hz1 hz2 rfl (by decide) (.slice (some ⟨(w5.heap.size + 1), 0, none⟩) 0 0) 0 (([] : List Int).map (.int .u8)) rfl hgc.out ⟨g, 0, none⟩ c3 c3 ((M.take c3).map (.int .u8)) rfl hl1.out (STb.out.take c3) hone1.out (glens (by omega)) (by omega) (by have := HST.out.2.2.1; first | exact this | (simp; done) | (simp; omega) | (have := ST.out.2.2.1; omega) | (have := ST8.out.2.2.1; exact this) | (have := ST9.out.2.2.1; exact this)) ?_
          intro v29 wA hown29 hgrow29 hnn29
          have ST := hide (STb.out.grow hgrow29 (fun k hk => by simp [Value.ownBlock] at hk; omega))
          have OW : Hid (wA.ownsRow w5.heap.size 5 1 v29 c3 ((M.take c3).map (.int .u8))) := (show wA.ownsRow _ _ _ _ _ _ by simpa using hown29)
          have LT := hide (LTb.out.grow hgrow29 (by simp [Value.ownBlock]))
          clear hown29 hgrow29 hnn29
          refine hK.out _ _ trivial (fun _ => ?_)
          clear hK K
          try simp only [Act.put, List.setIfInBounds_toArray, List.set_cons_zero, List.set_cons_succ]
          refine wpAnyH_ready (rs := [7]) (by kernel_rfl) (by simp) ?_
          refine AllReadyH.cons (o := { dst := some 32, op := Op.call { callee := Callee.value (Operand.func 28), args := #[Operand.tmp 30, Operand.tmp 31], argTypes := #[33, 42] }, type := 3, pos := "l03_lz.go:130", after := #[{ on := 5, ground := Ground.data }, { on := 6, ground := Ground.data }, { on := 4, ground := Ground.chain }], guard := none }) rfl (fun K hK => ?_) AllReadyH.nil
          go_simp
          refine (pick_any w.heap.size n cap 6 6 ao (some ⟨w5.heap.size, 0, none⟩) f (fun i => [0, 1, 131, 228, 229, 255].getD i 0) _ (by decide) (by decide) ST.out.1.2.2.1 (fun i hi => ⟨w5.heap.size, 0, rfl, LT.out.1, by have := ST.out.1.2.2.2.2; have := ST.out.2.2.2.2; have := HQ.out; omega, by rw [Nat.zero_add]; exact LT.out.2 i hi⟩)).mono ?_
          rintro e w7 ⟨⟨i, hi6, rfl⟩, hc7, hg7⟩
          have ST7 : Hid (St w1 w7 w5.heap.size w.heap.size ao n cap f g c3 c3 M) := ⟨ST.out.1.step hc7 hg7, ST.out.2.1, Nat.le_trans ST.out.2.2.1 hg7.size, ST.out.2.2.2.1, ST.out.2.2.2.2⟩
          have OW7 := hide (gkeep OW.out hg7 (fun k hk e => by have := own_lt OW.out k e; have := ST.out.1.2.2.2.2; have := ST.out.2.2.2.2; simp at hk; omega))
          obtain ⟨hzz0, hzz1⟩ := lit6_bd i hi6
          generalize ([0, 1, 131, 228, 229, 255] : List Int).getD i 0 = z at *
          have hwz : IntKind.u8.wrap z = z := by rw [IntKind.wrap_u8]; omega
          clear hc7 hg7 LT
          go_wp2_with fail
          refine hK.out _ _ trivial (fun _ => ?_)
          clear hK K
          try simp only [Act.put, List.setIfInBounds_toArray, List.set_cons_zero, List.set_cons_succ]
          refine wpAnyH_take (i := 8) (oi := { dst := some 33, op := Op.convert 3 5 (Operand.tmp 32), type := 5, pos := "l03_lz.go:130", after := #[{ on := 7, ground := Ground.data }], guard := none }) (v := ?_) rfl (by kernel_rfl) (by kernel_rfl) (by kernel_rfl) (fun _ _ _ h => h) (Or.inl ⟨by rfl, ?_⟩) trivial ?_
          rotate_left 1
          · (intro wq _; go_simp; try with_reducible rfl)
          try simp only [Act.put, List.setIfInBounds_toArray, List.set_cons_zero, List.set_cons_succ]
          refine wpAnyH_ready (rs := [9]) (by kernel_rfl) (by simp) ?_
          refine AllReadyH.cons (o := { dst := some 34, op := Op.buildSlice 22 1 #[(0, Operand.tmp 33)], type := 22, pos := "l03_lz.go:130", after := #[{ on := 8, ground := Ground.data }], guard := none }) rfl (fun K hK => ?_) AllReadyH.nil
          go_simp
          have ST8 := hide (ST7.out.alloc (.cells #[.int .u8 z] 5))
          have OW8 := hide (OW7.out.alloc (.cells #[.int .u8 z] 5))
          have OP : Hid ((w7.alloc (.cells #[.int .u8 z] 5)).ownsRow w5.heap.size 5 1 (.slice (some ⟨w7.heap.size, 0, none⟩) 1 1) 1 ([z].map (.int .u8))) := ⟨rfl, .inr ⟨_, _, #[.int .u8 z], rfl, ST7.out.2.2.1, Deep.blk_alloc_new _ _, Nat.le_refl _, by simp [maxLen], rfl, rfl⟩⟩
          refine hK.out _ _ trivial (fun _ => ?_)
          clear hK K
          try simp only [Act.put, List.setIfInBounds_toArray, List.set_cons_zero, List.set_cons_succ]
          refine wpAnyH_ready (rs := [13]) (by kernel_rfl) (by simp) ?_
          refine AllReadyH.cons (o := { dst := some 38, op := Op.call { callee := Callee.builtin Builtin.append, args := #[Operand.tmp 34, Operand.tmp 37], argTypes := #[22, 22] }, type := 22, pos := "l03_lz.go:130", after := #[{ on := 9, ground := Ground.data }, { on := 12, ground := Ground.data }, { on := 7, ground := Ground.chain }], guard := none }) rfl (fun K hK => ?_) AllReadyH.nil
          refine wanted_step rfl ?_
          refine wp_append_own _ _ _ 22 rfl w5.heap.size 5 i0 (.int .u8 0) 1 1 Try.underlying22 hi hz0 hz1 hz2 rfl (by decide) (.slice (some ⟨w7.heap.size, 0, none⟩) 1 1) 1 ([z].map (.int .u8)) rfl OP.out ⟨g, 0, none⟩ 0 0 ((M.drop c3).map (.int .u8)) rfl hl3.out (hnd.out _) hone3.out (glens (by omega)) (by omega) (by have := HST.out.2.2.1; first | exact this | (simp; done) | (simp; omega) | (have := ST.out.2.2.1; omega) | (have := ST8.out.2.2.1; exact this) | (have := ST9.out.2.2.1; exact this)) ?_
          intro v38 w8 hown38 hgrow38 hnn38
          have ST9 := hide (ST8.out.grow hgrow38 (fun k hk => (own_lt OP.out k hk).1))
          have OW9 := hide (gkeep OW8.out hgrow38 (fun k hk e => by have h1 := own_lt OW7.out k e; simp [Value.ownBlock] at hk; omega))
          obtain ⟨p, c38, rfl⟩ : ∃ p c38, v38 = .slice (some ⟨p, 0, none⟩) (1 + 0) c38 := by
            rcases hown38.2 with ⟨_, h⟩ | ⟨p, c38, _, h, _⟩
            · omega
            · exact ⟨p, c38, h⟩
          have hn38 := hide (hown38.cells (g := p) rfl)
          clear hown38 hgrow38 hnn38 OP ST8 OW8
          refine hK.out _ _ trivial (fun _ => ?_)
          clear hK K
          try simp only [Act.put, List.setIfInBounds_toArray, List.set_cons_zero, List.set_cons_succ]
          refine wpAnyH_ready (rs := [14]) (by kernel_rfl) (by simp) ?_
          refine AllReadyH.cons (o := { dst := some 39, op := Op.call { callee := Callee.builtin Builtin.append, args := #[Operand.tmp 29, Operand.tmp 38], argTypes := #[22, 22] }, type := 22, pos := "l03_lz.go:130", after := #[{ on := 4, ground := Ground.data }, { on := 13, ground := Ground.data }, { on := 13, ground := Ground.chain }], guard := none }) rfl (fun K hK => ?_) AllReadyH.nil
          refine wanted_step rfl ?_
          refine wp_append_own _ _ _ 22 rfl w5.heap.size 5 i0 (.int .u8 0) 1 1 Try.underlying22 hi hz0 hz1 hz2 rfl (by decide) v29 c3 ((M.take c3).map (.int .u8)) rfl OW9.out ⟨p, 0, none⟩ (1 + 0) c38 ([z].map (.int .u8) ++ (M.drop c3).map (.int .u8)) rfl (hl4 z).out hn38.out (hone4 z).out (glens (by omega)) (by omega) (by have := HST.out.2.2.1; first | exact this | (simp; done) | (simp; omega) | (have := ST.out.2.2.1; omega) | (have := ST8.out.2.2.1; exact this) | (have := ST9.out.2.2.1; exact this)) ?_
          intro v39 w9 hown39 hgrow39 hnn39
          have HFIN : Hid (∃ v L, Ending.returned v39 = .returned v ∧ L.length ≤ 20000 ∧ Drawn w w9 v L) := fin8 (k := 1 + 0) HB.out HM.out hm8 hmb.out (by omega) hzz0 hzz1 ST9.out OW9.out (by simpa using hown39) hgrow39
          clear hown39 hgrow39 hnn39 hn38
          refine hK.out _ _ trivial (fun _ => ?_)
          clear hK K
          try simp only [Act.put, List.setIfInBounds_toArray, List.set_cons_zero, List.set_cons_succ]
          refine wpAnyH_take (i := 15) (oi := { dst := some 2, op := Op.assign (Operand.tmp 39), type := 22, pos := "l03_lz.go:130", after := #[{ on := 14, ground := Ground.data }, { on := 14, ground := Ground.chain }, { on := 0, ground := Ground.phase }, { on := 1, ground := Ground.phase }, { on := 2, ground := Ground.phase }, { on := 3, ground := Ground.phase }, { on := 4, ground := Ground.phase }, { on := 5, ground := Ground.phase }, { on := 6, ground := Ground.phase }, { on := 7, ground := Ground.phase }, { on := 8, ground := Ground.phase }, { on := 9, ground := Ground.phase }, { on := 10, ground := Ground.phase }, { on := 11, ground := Ground.phase }, { on := 12, ground := Ground.phase }, { on := 13, ground := Ground.phase }, { on := 14, ground := Ground.phase }], guard := none }) (v := ?_) rfl (by kernel_rfl) (by kernel_rfl) (by kernel_rfl) (fun _ _ _ h => h) (Or.inl ⟨by rfl, ?_⟩) trivial ?_
          rotate_left 1
          · (intro wq _; go_simp; try with_reducible rfl)
          try simp only [Act.put, List.setIfInBounds_toArray, List.set_cons_zero, List.set_cons_succ]
          refine wpAnyH_done (by kernel_rfl) ?_ _
          go_wp2_with fail
          go_ret
          exact HFIN.out
      · have hl1 : Hid (((M.take x).map (Value.int .u8)).length = x * 1) := (show _ = _ by have := HM.out; simp; omega)
        have hl3 : Hid (((M.drop x).map (Value.int .u8)).length = (m - x) * 1) := (show _ = _ by have := HM.out; simp; omega)
        have hl4 : ∀ z : Int, Hid (([z].map (Value.int .u8) ++ (M.drop x).map (Value.int .u8)).length = (1 + (m - x)) * 1) := fun z => (show _ = _ by have := HM.out; simp; omega)
        have hone4 : ∀ z : Int, Hid (∀ u ∈ [z].map (Value.int .u8) ++ (M.drop x).map (Value.int .u8), u.oneCell' = true) := fun z u hu => (List.mem_append.1 hu).elim (gones .u8 [z] u) (gones .u8 (M.drop x) u)
        refine wp_region_held_drew (S := fun _ => True) (by kernel_rfl) trivial (fun _ => ?_)
        refine wpAnyH_take (i := 1) (oi := { dst := some 26, op := Op.move (Operand.tmp 4), type := 22, pos := "l03_lz.go:130", after := #[], guard := none }) (v := ?_) rfl (by kernel_rfl) (by kernel_rfl) (by kernel_rfl) (fun _ _ _ h => h) (Or.inl ⟨by rfl, ?_⟩) trivial ?_
        rotate_left 1
        · (intro wq _; go_simp; try with_reducible rfl)
        try simp only [Act.put, List.setIfInBounds_toArray, List.set_cons_zero, List.set_cons_succ]
        refine wpAnyH_take (i := 2) (oi := { dst := some 27, op := Op.move (Operand.tmp 5), type := 3, pos := "l03_lz.go:130", after := #[], guard := none }) (v := ?_) rfl (by kernel_rfl) (by kernel_rfl) (by kernel_rfl) (fun _ _ _ h => h) (Or.inl ⟨by rfl, ?_⟩) trivial ?_
        rotate_left 1
        · (intro wq _; go_simp; try with_reducible rfl)
        try simp only [Act.put, List.setIfInBounds_toArray, List.set_cons_zero, List.set_cons_succ]
        refine wpAnyH_take (i := 3) (oi := { dst := some 28, op := Op.slice 22 (Operand.tmp 26) none (some (Operand.tmp 27)) none, type := 22, pos := "l03_lz.go:130", after := #[{ on := 1, ground := Ground.data }, { on := 2, ground := Ground.data }], guard := none }) (v := ?_) rfl (by kernel_rfl) (by kernel_rfl) (by kernel_rfl) (fun _ _ _ h => h) (Or.inl ⟨by rfl, ?_⟩) trivial ?_
        rotate_left 1
        · (intro wq _; go_simp; try with_reducible rfl)
        try simp only [Act.put, List.setIfInBounds_toArray, List.set_cons_zero, List.set_cons_succ]
        refine wpAnyH_take (i := 5) (oi := { dst := some 30, op := Op.move (Operand.tmp 3), type := 33, pos := "l03_lz.go:130", after := #[], guard := none }) (v := ?_) rfl (by kernel_rfl) (by kernel_rfl) (by kernel_rfl) (fun _ _ _ h => h) (Or.inl ⟨by rfl, ?_⟩) trivial ?_
        rotate_left 1
        · (intro wq _; go_simp; try with_reducible rfl)
        try simp only [Act.put, List.setIfInBounds_toArray, List.set_cons_zero, List.set_cons_succ]
        refine wpAnyH_take (i := 10) (oi := { dst := some 35, op := Op.move (Operand.tmp 4), type := 22, pos := "l03_lz.go:130", after := #[], guard := none }) (v := ?_) rfl (by kernel_rfl) (by kernel_rfl) (by kernel_rfl) (fun _ _ _ h => h) (Or.inl ⟨by rfl, ?_⟩) trivial ?_
        rotate_left 1
        · (intro wq _; go_simp; try with_reducible rfl)
        try simp only [Act.put, List.setIfInBounds_toArray, List.set_cons_zero, List.set_cons_succ]
        refine wpAnyH_take (i := 11) (oi := { dst := some 36, op := Op.move (Operand.tmp 5), type := 3, pos := "l03_lz.go:130", after := #[], guard := none }) (v := ?_) rfl (by kernel_rfl) (by kernel_rfl) (by kernel_rfl) (fun _ _ _ h => h) (Or.inl ⟨by rfl, ?_⟩) trivial ?_
        rotate_left 1
        · (intro wq _; go_simp; try with_reducible rfl)
        try simp only [Act.put, List.setIfInBounds_toArray, List.set_cons_zero, List.set_cons_succ]
        refine wpAnyH_take (i := 12) (oi := { dst := some 37, op := Op.slice 22 (Operand.tmp 35) (some (Operand.tmp 36)) none none, type := 22, pos := "l03_lz.go:130", after := #[{ on := 10, ground := Ground.data }, { on := 11, ground := Ground.data }], guard := none }) (v := ?_) rfl (by kernel_rfl) (by kernel_rfl) (by kernel_rfl) (fun _ _ _ h => h) (Or.inl ⟨by rfl, ?_⟩) trivial ?_
        rotate_left 1
        · (intro wq _; go_simp; try with_reducible rfl)
        try simp only [Act.put, List.setIfInBounds_toArray, List.set_cons_zero, List.set_cons_succ]
        refine wpAnyH_ready (rs := [0, 6]) (by kernel_rfl) (by simp) ?_
        refine AllReadyH.cons (o := { dst := some 25, op := Op.buildSlice 22 0 #[], type := 22, pos := "l03_lz.go:130", after := #[], guard := none }) rfl (fun K hK => ?_) ?_
        · go_simp
          have STa := hide (HST.out.alloc (.cells #[] 5))
          refine hK.out _ _ trivial (fun _ => ?_)
          clear hK K
          try simp only [Act.put, List.setIfInBounds_toArray, List.set_cons_zero, List.set_cons_succ]
          refine wpAnyH_ready (rs := [4, 6]) (by kernel_rfl) (by simp) ?_
          refine AllReadyH.cons (o := { dst := some 29, op := Op.call { callee := Callee.builtin Builtin.append, args := #[Operand.tmp 25, Operand.tmp 28], argTypes := #[22, 22] }, type := 22, pos := "l03_lz.go:130", after := #[{ on := 0, ground := Ground.data }, { on := 3, ground := Ground.data }], guard := none }) rfl (fun K hK => ?_) ?_
          · refine wanted_step rfl ?_
            refine wp_append_own _ _ _ 22 rfl w5.heap.size 5 i0 (.int .u8 0) 1 1 Try.underlying22 hi hz0 hz1 hz2 rfl (by decide) (.slice (some ⟨w5.heap.size, 0, none⟩) 0 0) 0 (([] : List Int).map (.int .u8)) rfl (gempty (ik := .u8) (Nat.le_refl _)) ⟨g, 0, none⟩ x c3 ((M.take x).map (.int .u8)) rfl hl1.out (STa.out.take x) hone1.out (glens (by omega)) (by omega) (by have := HST.out.2.2.1; first | exact this | (simp; done) | (simp; omega) | (have := ST.out.2.2.1; omega) | (have := ST8.out.2.2.1; exact this) | (have := ST9.out.2.2.1; exact this)) ?_
            intro v29 wA hown29 hgrow29 hnn29
            have STb := hide (STa.out.grow hgrow29 (fun k hk => by simp [Value.ownBlock] at hk; omega))
            have OWb : Hid (wA.ownsRow w5.heap.size 5 1 v29 x ((M.take x).map (.int .u8))) := (show wA.ownsRow _ _ _ _ _ _ by simpa using hown29)
            clear hown29 hgrow29 hnn29
            refine hK.out _ _ trivial (fun _ => ?_)
            clear hK K
            try simp only [Act.put, List.setIfInBounds_toArray, List.set_cons_zero, List.set_cons_succ]
            refine wpAnyH_ready (rs := [6]) (by kernel_rfl) (by simp) ?_
            refine AllReadyH.cons (o := { dst := some 31, op := Op.buildSlice 42 6 #[(0, Operand.const (Value.int IntKind.i64 0)), (1, Operand.const (Value.int IntKind.i64 1)), (2, Operand.const (Value.int IntKind.i64 131)), (3, Operand.const (Value.int IntKind.i64 228)), (4, Operand.const (Value.int IntKind.i64 229)), (5, Operand.const (Value.int IntKind.i64 255))], type := 42, pos := "l03_lz.go:130", after := #[], guard := none }) rfl (fun K hK => ?_) AllReadyH.nil
            go_simp
            have ST := hide (STb.out.alloc (.cells #[.int .i64 0, .int .i64 1, .int .i64 131, .int .i64 228, .int .i64 229, .int .i64 255] 3))
            have OW := hide (OWb.out.alloc (.cells #[.int .i64 0, .int .i64 1, .int .i64 131, .int .i64 228, .int .i64 229, .int .i64 255] 3))
            have LT := hide (Lit6.new wA [0, 1, 131, 228, 229, 255])
            have HQ : Hid (w5.heap.size ≤ wA.heap.size) := STb.out.2.2.1
            refine hK.out _ _ trivial (fun _ => ?_)
            clear hK K
            try simp only [Act.put, List.setIfInBounds_toArray, List.set_cons_zero, List.set_cons_succ]
            refine wpAnyH_ready (rs := [7]) (by kernel_rfl) (by simp) ?_
            refine AllReadyH.cons (o := { dst := some 32, op := Op.call { callee := Callee.value (Operand.func 28), args := #[Operand.tmp 30, Operand.tmp 31], argTypes := #[33, 42] }, type := 3, pos := "l03_lz.go:130", after := #[{ on := 5, ground := Ground.data }, { on := 6, ground := Ground.data }, { on := 4, ground := Ground.chain }], guard := none }) rfl (fun K hK => ?_) AllReadyH.nil
            go_simp
            refine (pick_any w.heap.size n cap 6 6 ao (some ⟨wA.heap.size, 0, none⟩) f (fun i => [0, 1, 131, 228, 229, 255].getD i 0) _ (by decide) (by decide) ST.out.1.2.2.1 (fun i hi => ⟨wA.heap.size, 0, rfl, LT.out.1, by have := ST.out.1.2.2.2.2; have := ST.out.2.2.2.2; have := HQ.out; omega, by rw [Nat.zero_add]; exact LT.out.2 i hi⟩)).mono ?_
            rintro e w7 ⟨⟨i, hi6, rfl⟩, hc7, hg7⟩
            have ST7 : Hid (St w1 w7 w5.heap.size w.heap.size ao n cap f g m c3 M) := ⟨ST.out.1.step hc7 hg7, ST.out.2.1, Nat.le_trans ST.out.2.2.1 hg7.size, ST.out.2.2.2.1, ST.out.2.2.2.2⟩
            have OW7 := hide (gkeep OW.out hg7 (fun k hk e => by have := own_lt OW.out k e; have := ST.out.1.2.2.2.2; have := ST.out.2.2.2.2; simp at hk; omega))
            obtain ⟨hzz0, hzz1⟩ := lit6_bd i hi6
            generalize ([0, 1, 131, 228, 229, 255] : List Int).getD i 0 = z at *
            have hwz : IntKind.u8.wrap z = z := by rw [IntKind.wrap_u8]; omega
            clear hc7 hg7 LT
            go_wp2_with fail
            refine hK.out _ _ trivial (fun _ => ?_)
            clear hK K
            try simp only [Act.put, List.setIfInBounds_toArray, List.set_cons_zero, List.set_cons_succ]
            refine wpAnyH_take (i := 8) (oi := { dst := some 33, op := Op.convert 3 5 (Operand.tmp 32), type := 5, pos := "l03_lz.go:130", after := #[{ on := 7, ground := Ground.data }], guard := none }) (v := ?_) rfl (by kernel_rfl) (by kernel_rfl) (by kernel_rfl) (fun _ _ _ h => h) (Or.inl ⟨by rfl, ?_⟩) trivial ?_
            rotate_left 1
            · (intro wq _; go_simp; try with_reducible rfl)
            try simp only [Act.put, List.setIfInBounds_toArray, List.set_cons_zero, List.set_cons_succ]
            refine wpAnyH_ready (rs := [9]) (by kernel_rfl) (by simp) ?_
            refine AllReadyH.cons (o := { dst := some 34, op := Op.buildSlice 22 1 #[(0, Operand.tmp 33)], type := 22, pos := "l03_lz.go:130", after := #[{ on := 8, ground := Ground.data }], guard := none }) rfl (fun K hK => ?_) AllReadyH.nil
            go_simp
            have ST8 := hide (ST7.out.alloc (.cells #[.int .u8 z] 5))
            have OW8 := hide (OW7.out.alloc (.cells #[.int .u8 z] 5))
            have OP : Hid ((w7.alloc (.cells #[.int .u8 z] 5)).ownsRow w5.heap.size 5 1 (.slice (some ⟨w7.heap.size, 0, none⟩) 1 1) 1 ([z].map (.int .u8))) := ⟨rfl, .inr ⟨_, _, #[.int .u8 z], rfl, ST7.out.2.2.1, Deep.blk_alloc_new _ _, Nat.le_refl _, by simp [maxLen], rfl, rfl⟩⟩
            refine hK.out _ _ trivial (fun _ => ?_)
            clear hK K
            try simp only [Act.put, List.setIfInBounds_toArray, List.set_cons_zero, List.set_cons_succ]
            refine wpAnyH_ready (rs := [13]) (by kernel_rfl) (by simp) ?_
            refine AllReadyH.cons (o := { dst := some 38, op := Op.call { callee := Callee.builtin Builtin.append, args := #[Operand.tmp 34, Operand.tmp 37], argTypes := #[22, 22] }, type := 22, pos := "l03_lz.go:130", after := #[{ on := 9, ground := Ground.data }, { on := 12, ground := Ground.data }, { on := 7, ground := Ground.chain }], guard := none }) rfl (fun K hK => ?_) AllReadyH.nil
            refine wanted_step rfl ?_
            refine wp_append_own _ _ _ 22 rfl w5.heap.size 5 i0 (.int .u8 0) 1 1 Try.underlying22 hi hz0 hz1 hz2 rfl (by decide) (.slice (some ⟨w7.heap.size, 0, none⟩) 1 1) 1 ([z].map (.int .u8)) rfl OP.out ⟨g, x, none⟩ (m - x) (c3 - x) ((M.drop x).map (.int .u8)) rfl hl3.out (ST8.out.drop x) hone3.out (glens (by omega)) (by omega) (by have := HST.out.2.2.1; first | exact this | (simp; done) | (simp; omega) | (have := ST.out.2.2.1; omega) | (have := ST8.out.2.2.1; exact this) | (have := ST9.out.2.2.1; exact this)) ?_
            intro v38 w8 hown38 hgrow38 hnn38
            have ST9 := hide (ST8.out.grow hgrow38 (fun k hk => (own_lt OP.out k hk).1))
            have OW9 := hide (gkeep OW8.out hgrow38 (fun k hk e => by have h1 := own_lt OW7.out k e; simp [Value.ownBlock] at hk; omega))
            obtain ⟨p, c38, rfl⟩ : ∃ p c38, v38 = .slice (some ⟨p, 0, none⟩) (1 + (m - x)) c38 := by
              rcases hown38.2 with ⟨_, h⟩ | ⟨p, c38, _, h, _⟩
              · omega
              · exact ⟨p, c38, h⟩
            have hn38 := hide (hown38.cells (g := p) rfl)
            clear hown38 hgrow38 hnn38 OP ST8 OW8
            refine hK.out _ _ trivial (fun _ => ?_)
            clear hK K
            try simp only [Act.put, List.setIfInBounds_toArray, List.set_cons_zero, List.set_cons_succ]
            refine wpAnyH_ready (rs := [14]) (by kernel_rfl) (by simp) ?_
            refine AllReadyH.cons (o := { dst := some 39, op := Op.call { callee := Callee.builtin Builtin.append, args := #[Operand.tmp 29, Operand.tmp 38], argTypes := #[22, 22] }, type := 22, pos := "l03_lz.go:130", after := #[{ on := 4, ground := Ground.data }, { on := 13, ground := Ground.data }, { on := 13, ground := Ground.chain }], guard := none }) rfl (fun K hK => ?_) AllReadyH.nil
            refine wanted_step rfl ?_
            refine wp_append_own _ _ _ 22 rfl w5.heap.size 5 i0 (.int .u8 0) 1 1 Try.underlying22 hi hz0 hz1 hz2 rfl (by decide) v29 x ((M.take x).map (.int .u8)) rfl OW9.out ⟨p, 0, none⟩ (1 + (m - x)) c38 ([z].map (.int .u8) ++ (M.drop x).map (.int .u8)) rfl (hl4 z).out hn38.out (hone4 z).out (glens (by omega)) (by omega) (by have := HST.out.2.2.1; first | exact this | (simp; done) | (simp; omega) | (have := ST.out.2.2.1; omega) | (have := ST8.out.2.2.1; exact this) | (have := ST9.out.2.2.1; exact this)) ?_
            intro v39 w9 hown39 hgrow39 hnn39
            have HFIN : Hid (∃ v L, Ending.returned v39 = .returned v ∧ L.length ≤ 20000 ∧ Drawn w w9 v L) := fin8 (k := 1 + (m - x)) HB.out HM.out hm8 hmb.out (by omega) hzz0 hzz1 ST9.out OW9.out (by simpa using hown39) hgrow39
            clear hown39 hgrow39 hnn39 hn38
            refine hK.out _ _ trivial (fun _ => ?_)
            clear hK K
            try simp only [Act.put, List.setIfInBounds_toArray, List.set_cons_zero, List.set_cons_succ]
            refine wpAnyH_take (i := 15) (oi := { dst := some 2, op := Op.assign (Operand.tmp 39), type := 22, pos := "l03_lz.go:130", after := #[{ on := 14, ground := Ground.data }, { on := 14, ground := Ground.chain }, { on := 0, ground := Ground.phase }, { on := 1, ground := Ground.phase }, { on := 2, ground := Ground.phase }, { on := 3, ground := Ground.phase }, { on := 4, ground := Ground.phase }, { on := 5, ground := Ground.phase }, { on := 6, ground := Ground.phase }, { on := 7, ground := Ground.phase }, { on := 8, ground := Ground.phase }, { on := 9, ground := Ground.phase }, { on := 10, ground := Ground.phase }, { on := 11, ground := Ground.phase }, { on := 12, ground := Ground.phase }, { on := 13, ground := Ground.phase }, { on := 14, ground := Ground.phase }], guard := none }) (v := ?_) rfl (by kernel_rfl) (by kernel_rfl) (by kernel_rfl) (fun _ _ _ h => h) (Or.inl ⟨by rfl, ?_⟩) trivial ?_
            rotate_left 1
            · (intro wq _; go_simp; try with_reducible rfl)
            try simp only [Act.put, List.setIfInBounds_toArray, List.set_cons_zero, List.set_cons_succ]
            refine wpAnyH_done (by kernel_rfl) ?_ _
            go_wp2_with fail
            go_ret
            exact HFIN.out
          refine AllReadyH.cons (o := { dst := some 31, op := Op.buildSlice 42 6 #[(0, Operand.const (Value.int IntKind.i64 0)), (1, Operand.const (Value.int IntKind.i64 1)), (2, Operand.const (Value.int IntKind.i64 131)), (3, Operand.const (Value.int IntKind.i64 228)), (4, Operand.const (Value.int IntKind.i64 229)), (5, Operand.const (Value.int IntKind.i64 255))], type := 42, pos := "l03_lz.go:130", after := #[], guard := none }) rfl (fun K hK => ?_) AllReadyH.nil
          · go_simp
            have STb := hide (STa.out.alloc (.cells #[.int .i64 0, .int .i64 1, .int .i64 131, .int .i64 228, .int .i64 229, .int .i64 255] 3))
            have LTb : Hid (Lit6 ((w5.drew.alloc (.cells #[] 5)).alloc (.cells #[.int .i64 0, .int .i64 1, .int .i64 131, .int .i64 228, .int .i64 229, .int .i64 255] 3)) (w5.heap.size + 1) [0, 1, 131, 228, 229, 255]) := (show Lit6 _ _ _ by have h := Lit6.new (w5.drew.alloc (.cells #[] 5)) [0, 1, 131, 228, 229, 255]; rw [show (w5.drew.alloc (.cells #[] 5)).heap.size = w5.heap.size + 1 by simp] at h; exact h)
            have HQ : Hid (w5.heap.size ≤ w5.heap.size + 1) := Nat.le_succ _
            refine hK.out _ _ trivial (fun _ => ?_)
            clear hK K
            try simp only [Act.put, List.setIfInBounds_toArray, List.set_cons_zero, List.set_cons_succ]
            refine wpAnyH_ready (rs := [4]) (by kernel_rfl) (by simp) ?_
            refine AllReadyH.cons (o := { dst := some 29, op := Op.call { callee := Callee.builtin Builtin.append, args := #[Operand.tmp 25, Operand.tmp 28], argTypes := #[22, 22] }, type := 22, pos := "l03_lz.go:130", after := #[{ on := 0, ground := Ground.data }, { on := 3, ground := Ground.data }], guard := none }) rfl (fun K hK => ?_) AllReadyH.nil
            refine wanted_step rfl ?_
            refine wp_append_own _ _ _ 22 rfl w5.heap.size 5 i0 (.int .u8 0) 1 1 Try.underlying22 hi hz0 hz1 hz2 rfl (by decide) (.slice (some ⟨w5.heap.size, 0, none⟩) 0 0) 0 (([] : List Int).map (.int .u8)) rfl ((gempty (w := w5.drew) (ik := .u8) (Nat.le_refl _)).alloc _) ⟨g, 0, none⟩ x c3 ((M.take x).map (.int .u8)) rfl hl1.out (STb.out.take x) hone1.out (glens (by omega)) (by omega) (by have := HST.out.2.2.1; first | exact this | (simp; done) | (simp; omega) | (have := ST.out.2.2.1; omega) | (have := ST8.out.2.2.1; exact this) | (have := ST9.out.2.2.1; exact this)) ?_
            intro v29 wA hown29 hgrow29 hnn29
            have ST := hide (STb.out.grow hgrow29 (fun k hk => by simp [Value.ownBlock] at hk; omega))
            have OW : Hid (wA.ownsRow w5.heap.size 5 1 v29 x ((M.take x).map (.int .u8))) := (show wA.ownsRow _ _ _ _ _ _ by simpa using hown29)
            have LT := hide (LTb.out.grow hgrow29 (by simp [Value.ownBlock]))
            clear hown29 hgrow29 hnn29
            refine hK.out _ _ trivial (fun _ => ?_)
            clear hK K
            try simp only [Act.put, List.setIfInBounds_toArray, List.set_cons_zero, List.set_cons_succ]
            refine wpAnyH_ready (rs := [7]) (by kernel_rfl) (by simp) ?_
            refine AllReadyH.cons (o := { dst := some 32, op := Op.call { callee := Callee.value (Operand.func 28), args := #[Operand.tmp 30, Operand.tmp 31], argTypes := #[33, 42] }, type := 3, pos := "l03_lz.go:130", after := #[{ on := 5, ground := Ground.data }, { on := 6, ground := Ground.data }, { on := 4, ground := Ground.chain }], guard := none }) rfl (fun K hK => ?_) AllReadyH.nil
            go_simp
            refine (pick_any w.heap.size n cap 6 6 ao (some ⟨(w5.heap.size + 1), 0, none⟩) f (fun i => [0, 1, 131, 228, 229, 255].getD i 0) _ (by decide) (by decide) ST.out.1.2.2.1 (fun i hi => ⟨(w5.heap.size + 1), 0, rfl, LT.out.1, by have := ST.out.1.2.2.2.2; have := ST.out.2.2.2.2; have := HQ.out; omega, by rw [Nat.zero_add]; exact LT.out.2 i hi⟩)).mono ?_
            rintro e w7 ⟨⟨i, hi6, rfl⟩, hc7, hg7⟩
            have ST7 : Hid (St w1 w7 w5.heap.size w.heap.size ao n cap f g m c3 M) := ⟨ST.out.1.step hc7 hg7, ST.out.2.1, Nat.le_trans ST.out.2.2.1 hg7.size, ST.out.2.2.2.1, ST.out.2.2.2.2⟩
            have OW7 := hide (gkeep OW.out hg7 (fun k hk e => by have := own_lt OW.out k e; have := ST.out.1.2.2.2.2; have := ST.out.2.2.2.2; simp at hk; omega))
            obtain ⟨hzz0, hzz1⟩ := lit6_bd i hi6
            generalize ([0, 1, 131, 228, 229, 255] : List Int).getD i 0 = z at *
            have hwz : IntKind.u8.wrap z = z := by rw [IntKind.wrap_u8]; omega
            clear hc7 hg7 LT
            go_wp2_with fail
            refine hK.out _ _ trivial (fun _ => ?_)
            clear hK K
            try simp only [Act.put, List.setIfInBounds_toArray, List.set_cons_zero, List.set_cons_succ]
            refine wpAnyH_take (i := 8) (oi := { dst := some 33, op := Op.convert 3 5 (Operand.tmp 32), type := 5, pos := "l03_lz.go:130", after := #[{ on := 7, ground := Ground.data }], guard := none }) (v := ?_) rfl (by kernel_rfl) (by kernel_rfl) (by kernel_rfl) (fun _ _ _ h => h) (Or.inl ⟨by rfl, ?_⟩) trivial ?_
            rotate_left 1
            · (intro wq _; go_simp; try with_reducible rfl)
            try simp only [Act.put, List.setIfInBounds_toArray, List.set_cons_zero, List.set_cons_succ]
            refine wpAnyH_ready (rs := [9]) (by kernel_rfl) (by simp) ?_
            refine AllReadyH.cons (o := { dst := some 34, op := Op.buildSlice 22 1 #[(0, Operand.tmp 33)], type := 22, pos := "l03_lz.go:130", after := #[{ on := 8, ground := Ground.data }], guard := none }) rfl (fun K hK => ?_) AllReadyH.nil
            go_simp
            have ST8 := hide (ST7.out.alloc (.cells #[.int .u8 z] 5))
            have OW8 := hide (OW7.out.alloc (.cells #[.int .u8 z] 5))
            have OP : Hid ((w7.alloc (.cells #[.int .u8 z] 5)).ownsRow w5.heap.size 5 1 (.slice (some ⟨w7.heap.size, 0, none⟩) 1 1) 1 ([z].map (.int .u8))) := ⟨rfl, .inr ⟨_, _, #[.int .u8 z], rfl, ST7.out.2.2.1, Deep.blk_alloc_new _ _, Nat.le_refl _, by simp [maxLen], rfl, rfl⟩⟩
            refine hK.out _ _ trivial (fun _ => ?_)
            clear hK K
            try simp only [Act.put, List.setIfInBounds_toArray, List.set_cons_zero, List.set_cons_succ]
            refine wpAnyH_ready (rs := [13]) (by kernel_rfl) (by simp) ?_
            refine AllReadyH.cons (o := { dst := some 38, op := Op.call { callee := Callee.builtin Builtin.append, args := #[Operand.tmp 34, Operand.tmp 37], argTypes := #[22, 22] }, type := 22, pos := "l03_lz.go:130", after := #[{ on := 9, ground := Ground.data }, { on := 12, ground := Ground.data }, { on := 7, ground := Ground.chain }], guard := none }) rfl (fun K hK => ?_) AllReadyH.nil
            refine wanted_step rfl ?_
            refine wp_append_own _ _ _ 22 rfl w5.heap.size 5 i0 (.int .u8 0) 1 1 Try.underlying22 hi hz0 hz1 hz2 rfl (by decide) (.slice (some ⟨w7.heap.size, 0, none⟩) 1 1) 1 ([z].map (.int .u8)) rfl OP.out ⟨g, x, none⟩ (m - x) (c3 - x) ((M.drop x).map (.int .u8)) rfl hl3.out (ST8.out.drop x) hone3.out (glens (by omega)) (by omega) (by have := HST.out.2.2.1; first | exact this | (simp; done) | (simp; omega) | (have := ST.out.2.2.1; omega) | (have := ST8.out.2.2.1; exact this) | (have := ST9.out.2.2.1; exact this)) ?_
            intro v38 w8 hown38 hgrow38 hnn38
            have ST9 := hide (ST8.out.grow hgrow38 (fun k hk => (own_lt OP.out k hk).1))
            have OW9 := hide (gkeep OW8.out hgrow38 (fun k hk e => by have h1 := own_lt OW7.out k e; simp [Value.ownBlock] at hk; omega))
            obtain ⟨p, c38, rfl⟩ : ∃ p c38, v38 = .slice (some ⟨p, 0, none⟩) (1 + (m - x)) c38 := by
              rcases hown38.2 with ⟨_, h⟩ | ⟨p, c38, _, h, _⟩
              · omega
              · exact ⟨p, c38, h⟩
            have hn38 := hide (hown38.cells (g := p) rfl)
            clear hown38 hgrow38 hnn38 OP ST8 OW8
            refine hK.out _ _ trivial (fun _ => ?_)
            clear hK K
            try simp only [Act.put, List.setIfInBounds_toArray, List.set_cons_zero, List.set_cons_succ]
            refine wpAnyH_ready (rs := [14]) (by kernel_rfl) (by simp) ?_
            refine AllReadyH.cons (o := { dst := some 39, op := Op.call { callee := Callee.builtin Builtin.append, args := #[Operand.tmp 29, Operand.tmp 38], argTypes := #[22, 22] }, type := 22, pos := "l03_lz.go:130", after := #[{ on := 4, ground := Ground.data }, { on := 13, ground := Ground.data }, { on := 13, ground := Ground.chain }], guard := none }) rfl (fun K hK => ?_) AllReadyH.nil
            refine wanted_step rfl ?_
            refine wp_append_own _ _ _ 22 rfl w5.heap.size 5 i0 (.int .u8 0) 1 1 Try.underlying22 hi hz0 hz1 hz2 rfl (by decide) v29 x ((M.take x).map (.int .u8)) rfl OW9.out ⟨p, 0, none⟩ (1 + (m - x)) c38 ([z].map (.int .u8) ++ (M.drop x).map (.int .u8)) rfl (hl4 z).out hn38.out (hone4 z).out (glens (by omega)) (by omega) (by have := HST.out.2.2.1; first | exact this | (simp; done) | (simp; omega) | (have := ST.out.2.2.1; omega) | (have := ST8.out.2.2.1; exact this) | (have := ST9.out.2.2.1; exact this)) ?_
            intro v39 w9 hown39 hgrow39 hnn39
            have HFIN : Hid (∃ v L, Ending.returned v39 = .returned v ∧ L.length ≤ 20000 ∧ Drawn w w9 v L) := fin8 (k := 1 + (m - x)) HB.out HM.out hm8 hmb.out (by omega) hzz0 hzz1 ST9.out OW9.out (by simpa using hown39) hgrow39
            clear hown39 hgrow39 hnn39 hn38
            refine hK.out _ _ trivial (fun _ => ?_)
            clear hK K
            try simp only [Act.put, List.setIfInBounds_toArray, List.set_cons_zero, List.set_cons_succ]
            refine wpAnyH_take (i := 15) (oi := { dst := some 2, op := Op.assign (Operand.tmp 39), type := 22, pos := "l03_lz.go:130", after := #[{ on := 14, ground := Ground.data }, { on := 14, ground := Ground.chain }, { on := 0, ground := Ground.phase }, { on := 1, ground := Ground.phase }, { on := 2, ground := Ground.phase }, { on := 3, ground := Ground.phase }, { on := 4, ground := Ground.phase }, { on := 5, ground := Ground.phase }, { on := 6, ground := Ground.phase }, { on := 7, ground := Ground.phase }, { on := 8, ground := Ground.phase }, { on := 9, ground := Ground.phase }, { on := 10, ground := Ground.phase }, { on := 11, ground := Ground.phase }, { on := 12, ground := Ground.phase }, { on := 13, ground := Ground.phase }, { on := 14, ground := Ground.phase }], guard := none }) (v := ?_) rfl (by kernel_rfl) (by kernel_rfl) (by kernel_rfl) (fun _ _ _ h => h) (Or.inl ⟨by rfl, ?_⟩) trivial ?_
            rotate_left 1
            · (intro wq _; go_simp; try with_reducible rfl)
            try simp only [Act.put, List.setIfInBounds_toArray, List.set_cons_zero, List.set_cons_succ]
            refine wpAnyH_done (by kernel_rfl) ?_ _
            go_wp2_with fail
            go_ret
            exact HFIN.out
        refine AllReadyH.cons (o := { dst := some 31, op := Op.buildSlice 42 6 #[(0, Operand.const (Value.int IntKind.i64 0)), (1, Operand.const (Value.int IntKind.i64 1)), (2, Operand.const (Value.int IntKind.i64 131)), (3, Operand.const (Value.int IntKind.i64 228)), (4, Operand.const (Value.int IntKind.i64 229)), (5, Operand.const (Value.int IntKind.i64 255))], type := 42, pos := "l03_lz.go:130", after := #[], guard := none }) rfl (fun K hK => ?_) AllReadyH.nil
        · go_simp
          have STa := hide (HST.out.alloc (.cells #[.int .i64 0, .int .i64 1, .int .i64 131, .int .i64 228, .int .i64 229, .int .i64 255] 3))
          have LTa := hide (Lit6.new w5.drew [0, 1, 131, 228, 229, 255])
          have HQ : Hid (w5.heap.size ≤ w5.heap.size) := Nat.le_refl _
          refine hK.out _ _ trivial (fun _ => ?_)
          clear hK K
          try simp only [Act.put, List.setIfInBounds_toArray, List.set_cons_zero, List.set_cons_succ]
          refine wpAnyH_ready (rs := [0]) (by kernel_rfl) (by simp) ?_
          refine AllReadyH.cons (o := { dst := some 25, op := Op.buildSlice 22 0 #[], type := 22, pos := "l03_lz.go:130", after := #[], guard := none }) rfl (fun K hK => ?_) AllReadyH.nil
          go_simp
          have STb := hide (STa.out.alloc (.cells #[] 5))
          have LTb := hide (LTa.out.alloc (.cells #[] 5))
          refine hK.out _ _ trivial (fun _ => ?_)
          clear hK K
          try simp only [Act.put, List.setIfInBounds_toArray, List.set_cons_zero, List.set_cons_succ]
          refine wpAnyH_ready (rs := [4]) (by kernel_rfl) (by simp) ?_
          refine AllReadyH.cons (o := { dst := some 29, op := Op.call { callee := Callee.builtin Builtin.append, args := #[Operand.tmp 25, Operand.tmp 28], argTypes := #[22, 22] }, type := 22, pos := "l03_lz.go:130", after := #[{ on := 0, ground := Ground.data }, { on := 3, ground := Ground.data }], guard := none }) rfl (fun K hK => ?_) AllReadyH.nil
          refine wanted_step rfl ?_
          refine wp_append_own _ _ _ 22 rfl w5.heap.size 5 i0 (.int .u8 0) 1 1 Try.underlying22 hi hz0 hz1 hz2 rfl (by decide) (.slice (some ⟨(w5.heap.size + 1), 0, none⟩) 0 0) 0 (([] : List Int).map (.int .u8)) rfl hgc.out ⟨g, 0, none⟩ x c3 ((M.take x).map (.int .u8)) rfl hl1.out (STb.out.take x) hone1.out (glens (by omega)) (by omega) (by have := HST.out.2.2.1; first | exact this | (simp; done) | (simp; omega) | (have := ST.out.2.2.1; omega) | (have := ST8.out.2.2.1; exact this) | (have := ST9.out.2.2.1; exact this)) ?_
          intro v29 wA hown29 hgrow29 hnn29
          have ST := hide (STb.out.grow hgrow29 (fun k hk => by simp [Value.ownBlock] at hk; omega))
          have OW : Hid (wA.ownsRow w5.heap.size 5 1 v29 x ((M.take x).map (.int .u8))) := (show wA.ownsRow _ _ _ _ _ _ by simpa using hown29)
          have LT := hide (LTb.out.grow hgrow29 (by simp [Value.ownBlock]))
          clear hown29 hgrow29 hnn29
          refine hK.out _ _ trivial (fun _ => ?_)
          clear hK K
          try simp only [Act.put, List.setIfInBounds_toArray, List.set_cons_zero, List.set_cons_succ]
          refine wpAnyH_ready (rs := [7]) (by kernel_rfl) (by simp) ?_
          refine AllReadyH.cons (o := { dst := some 32, op := Op.call { callee := Callee.value (Operand.func 28), args := #[Operand.tmp 30, Operand.tmp 31], argTypes := #[33, 42] }, type := 3, pos := "l03_lz.go:130", after := #[{ on := 5, ground := Ground.data }, { on := 6, ground := Ground.data }, { on := 4, ground := Ground.chain }], guard := none }) rfl (fun K hK => ?_) AllReadyH.nil
          go_simp
          refine (pick_any w.heap.size n cap 6 6 ao (some ⟨w5.heap.size, 0, none⟩) f (fun i => [0, 1, 131, 228, 229, 255].getD i 0) _ (by decide) (by decide) ST.out.1.2.2.1 (fun i hi => ⟨w5.heap.size, 0, rfl, LT.out.1, by have := ST.out.1.2.2.2.2; have := ST.out.2.2.2.2; have := HQ.out; omega, by rw [Nat.zero_add]; exact LT.out.2 i hi⟩)).mono ?_
          rintro e w7 ⟨⟨i, hi6, rfl⟩, hc7, hg7⟩
          have ST7 : Hid (St w1 w7 w5.heap.size w.heap.size ao n cap f g m c3 M) := ⟨ST.out.1.step hc7 hg7, ST.out.2.1, Nat.le_trans ST.out.2.2.1 hg7.size, ST.out.2.2.2.1, ST.out.2.2.2.2⟩
          have OW7 := hide (gkeep OW.out hg7 (fun k hk e => by have := own_lt OW.out k e; have := ST.out.1.2.2.2.2; have := ST.out.2.2.2.2; simp at hk; omega))
          obtain ⟨hzz0, hzz1⟩ := lit6_bd i hi6
          generalize ([0, 1, 131, 228, 229, 255] : List Int).getD i 0 = z at *
          have hwz : IntKind.u8.wrap z = z := by rw [IntKind.wrap_u8]; omega
          clear hc7 hg7 LT
          go_wp2_with fail
          refine hK.out _ _ trivial (fun _ => ?_)
          clear hK K
          try simp only [Act.put, List.setIfInBounds_toArray, List.set_cons_zero, List.set_cons_succ]
          refine wpAnyH_take (i := 8) (oi := { dst := some 33, op := Op.convert 3 5 (Operand.tmp 32), type := 5, pos := "l03_lz.go:130", after := #[{ on := 7, ground := Ground.data }], guard := none }) (v := ?_) rfl (by kernel_rfl) (by kernel_rfl) (by kernel_rfl) (fun _ _ _ h => h) (Or.inl ⟨by rfl, ?_⟩) trivial ?_
          rotate_left 1
          · (intro wq _; go_simp; try with_reducible rfl)
          try simp only [Act.put, List.setIfInBounds_toArray, List.set_cons_zero, List.set_cons_succ]
          refine wpAnyH_ready (rs := [9]) (by kernel_rfl) (by simp) ?_
          refine AllReadyH.cons (o := { dst := some 34, op := Op.buildSlice 22 1 #[(0, Operand.tmp 33)], type := 22, pos := "l03_lz.go:130", after := #[{ on := 8, ground := Ground.data }], guard := none }) rfl (fun K hK => ?_) AllReadyH.nil
          go_simp
          have ST8 := hide (ST7.out.alloc (.cells #[.int .u8 z] 5))
          have OW8 := hide (OW7.out.alloc (.cells #[.int .u8 z] 5))
          have OP : Hid ((w7.alloc (.cells #[.int .u8 z] 5)).ownsRow w5.heap.size 5 1 (.slice (some ⟨w7.heap.size, 0, none⟩) 1 1) 1 ([z].map (.int .u8))) := ⟨rfl, .inr ⟨_, _, #[.int .u8 z], rfl, ST7.out.2.2.1, Deep.blk_alloc_new _ _, Nat.le_refl _, by simp [maxLen], rfl, rfl⟩⟩
          refine hK.out _ _ trivial (fun _ => ?_)
          clear hK K
          try simp only [Act.put, List.setIfInBounds_toArray, List.set_cons_zero, List.set_cons_succ]
          refine wpAnyH_ready (rs := [13]) (by kernel_rfl) (by simp) ?_
          refine AllReadyH.cons (o := { dst := some 38, op := Op.call { callee := Callee.builtin Builtin.append, args := #[Operand.tmp 34, Operand.tmp 37], argTypes := #[22, 22] }, type := 22, pos := "l03_lz.go:130", after := #[{ on := 9, ground := Ground.data }, { on := 12, ground := Ground.data }, { on := 7, ground := Ground.chain }], guard := none }) rfl (fun K hK => ?_) AllReadyH.nil
          refine wanted_step rfl ?_
          refine wp_append_own _ _ _ 22 rfl w5.heap.size 5 i0 (.int .u8 0) 1 1 Try.underlying22 hi hz0 hz1 hz2 rfl (by decide) (.slice (some ⟨w7.heap.size, 0, none⟩) 1 1) 1 ([z].map (.int .u8)) rfl OP.out ⟨g, x, none⟩ (m - x) (c3 - x) ((M.drop x).map (.int .u8)) rfl hl3.out (ST8.out.drop x) hone3.out (glens (by omega)) (by omega) (by have := HST.out.2.2.1; first | exact this | (simp; done) | (simp; omega) | (have := ST.out.2.2.1; omega) | (have := ST8.out.2.2.1; exact this) | (have := ST9.out.2.2.1; exact this)) ?_
          intro v38 w8 hown38 hgrow38 hnn38
          have ST9 := hide (ST8.out.grow hgrow38 (fun k hk => (own_lt OP.out k hk).1))
          have OW9 := hide (gkeep OW8.out hgrow38 (fun k hk e => by have h1 := own_lt OW7.out k e; simp [Value.ownBlock] at hk; omega))
          obtain ⟨p, c38, rfl⟩ : ∃ p c38, v38 = .slice (some ⟨p, 0, none⟩) (1 + (m - x)) c38 := by
            rcases hown38.2 with ⟨_, h⟩ | ⟨p, c38, _, h, _⟩
            · omega
            · exact ⟨p, c38, h⟩
          have hn38 := hide (hown38.cells (g := p) rfl)
          clear hown38 hgrow38 hnn38 OP ST8 OW8
          refine hK.out _ _ trivial (fun _ => ?_)
          clear hK K
          try simp only [Act.put, List.setIfInBounds_toArray, List.set_cons_zero, List.set_cons_succ]
          refine wpAnyH_ready (rs := [14]) (by kernel_rfl) (by simp) ?_
          refine AllReadyH.cons (o := { dst := some 39, op := Op.call { callee := Callee.builtin Builtin.append, args := #[Operand.tmp 29, Operand.tmp 38], argTypes := #[22, 22] }, type := 22, pos := "l03_lz.go:130", after := #[{ on := 4, ground := Ground.data }, { on := 13, ground := Ground.data }, { on := 13, ground := Ground.chain }], guard := none }) rfl (fun K hK => ?_) AllReadyH.nil
          refine wanted_step rfl ?_
          refine wp_append_own _ _ _ 22 rfl w5.heap.size 5 i0 (.int .u8 0) 1 1 Try.underlying22 hi hz0 hz1 hz2 rfl (by decide) v29 x ((M.take x).map (.int .u8)) rfl OW9.out ⟨p, 0, none⟩ (1 + (m - x)) c38 ([z].map (.int .u8) ++ (M.drop x).map (.int .u8)) rfl (hl4 z).out hn38.out (hone4 z).out (glens (by omega)) (by omega) (by have := HST.out.2.2.1; first | exact this | (simp; done) | (simp; omega) | (have := ST.out.2.2.1; omega) | (have := ST8.out.2.2.1; exact this) | (have := ST9.out.2.2.1; exact this)) ?_
          intro v39 w9 hown39 hgrow39 hnn39
          have HFIN : Hid (∃ v L, Ending.returned v39 = .returned v ∧ L.length ≤ 20000 ∧ Drawn w w9 v L) := fin8 (k := 1 + (m - x)) HB.out HM.out hm8 hmb.out (by omega) hzz0 hzz1 ST9.out OW9.out (by simpa using hown39) hgrow39
          clear hown39 hgrow39 hnn39 hn38
          refine hK.out _ _ trivial (fun _ => ?_)
          clear hK K
          try simp only [Act.put, List.setIfInBounds_toArray, List.set_cons_zero, List.set_cons_succ]
          refine wpAnyH_take (i := 15) (oi := { dst := some 2, op := Op.assign (Operand.tmp 39), type := 22, pos := "l03_lz.go:130", after := #[{ on := 14, ground := Ground.data }, { on := 14, ground := Ground.chain }, { on := 0, ground := Ground.phase }, { on := 1, ground := Ground.phase }, { on := 2, ground := Ground.phase }, { on := 3, ground := Ground.phase }, { on := 4, ground := Ground.phase }, { on := 5, ground := Ground.phase }, { on := 6, ground := Ground.phase }, { on := 7, ground := Ground.phase }, { on := 8, ground := Ground.phase }, { on := 9, ground := Ground.phase }, { on := 10, ground := Ground.phase }, { on := 11, ground := Ground.phase }, { on := 12, ground := Ground.phase }, { on := 13, ground := Ground.phase }, { on := 14, ground := Ground.phase }], guard := none }) (v := ?_) rfl (by kernel_rfl) (by kernel_rfl) (by kernel_rfl) (fun _ _ _ h => h) (Or.inl ⟨by rfl, ?_⟩) trivial ?_
          rotate_left 1
          · (intro wq _; go_simp; try with_reducible rfl)
          try simp only [Act.put, List.setIfInBounds_toArray, List.set_cons_zero, List.set_cons_succ]
          refine wpAnyH_done (by kernel_rfl) ?_ _
          go_wp2_with fail
          go_ret
          exact HFIN.out
    · have d0 : decide (s = 0) = false := by simpa using s0
      have d1 : decide (s = 1) = false := by simpa using s1
      go_wp2
      go_ret
      exact ⟨_, M, rfl, by have := HM.out; omega, HM.out ▸ HD.out⟩
end Go.Proofs.Ythnlcijmlcaepaa

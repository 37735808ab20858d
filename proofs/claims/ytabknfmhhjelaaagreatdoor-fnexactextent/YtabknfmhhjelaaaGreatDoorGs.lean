/- append of the cells of any slice, also of none. -/
import Derived.Test.YtabknfmhhjelaaaGreatDoorNdCZ
import Derived.Test.YtabknfmhhjelaaaGreatDoorGh
import Derived.Test.YtabknfmhhjelaaaGreatDoorGa
import Derived.Test.YtabknfmhhjelaaaGreatDoorGr

namespace Go.Proofs.YtabknfmhhjelaaaGreatDoor
open Go.ChangeShapes Go.WideShapes Go.ChangeAt Go.RowKit
set_option linter.unusedVariables false
set_option linter.unusedSimpArgs false
set_option maxRecDepth 100000
theorem wpList_append_cs {P : Program} {w : World} {ops : Array Oper} {rest : List Oper} {o : Oper} {a : Act} {Q : Exit → Act → World → Prop} (hgd : o.guard = none) (s x : Operand) (t : TypeId)
    (ho : o.op = .call { callee := .builtin .append, args := #[s, x], argTypes := #[t, t] })
    (base : Nat) (e : TypeId) (i : TypeInfo) (z : Value) (bytes : Nat) (ht : P.underlying t = some (.slice e)) (hi : P.info? e = some i) (hz : i.zero = some z)
    (hsize : i.size = 1) (hby : i.bytes = bytes) (hzs : z.cells.size = 1)
    (v : Value) (M : List Value) (hs : a.eval s = v) (hown : w.ownsRow base e 1 v M.length M)
    (p : Option Addr) (n c : Nat) (cs : List Value) (hn : cs.length = n) (hx : a.eval x = .slice p n c) (hsrc : Cs w p cs)
    (h63 : M.length + n ≤ maxLen) (hbytes : (M.length + n) * bytes ≤ 140737488355328) (hbase : base ≤ w.heap.size)
    (h : ∀ v' w', w'.ownsRow base e 1 v' (M.length + n) (M ++ cs) → w.grownBy w' v.ownBlock → wpList P ops Q rest (a.put o.dst v') w') : wpList P ops Q (o :: rest) a w := by
  subst hn
  cases p with
  | none =>
    have hc := hsrc.nil
    subst hc
    refine wpList_plain hgd fun K hK => ?_
    have hrun : (Builtin.append_ #[t, t] o.type #[v, .slice none 0 c]).run P w = .ok v w := run_append_owned_none (P := P) (w := w) base t o.type e i 1 ht hi v M.length M hown
    have hfin := hK _ _ (h v w (by simpa using hown) (grownBy_refl _ _))
    have hx' : a.eval x = .slice none 0 c := hx
    unfold Oper.wp
    simp [execOp, ho, resolve, invoke, builtin, hs, hx', hrun, Result.andThen]
    exact hfin
  | some ad =>
    refine wpList_append_own w hgd s x t ho base e i z 1 bytes ht hi hz hsize hby hzs (by decide) v M.length M hs hown ad cs.length c cs hx (by simp) ?_ hsrc.2 h63 hbytes hbase ?_
    · intro j u hj
      have hlt : j < cs.length := (List.getElem?_eq_some_iff.1 hj).1
      obtain ⟨b, off, e', _, hc⟩ := hsrc.1 j hlt
      cases e'
      rw [Addr.add_lit, hc, hj]
    · intro v' w' h1 h2 _
      exact h v' w' h1 h2
/-- What append built, as a row. -/
theorem rs_owns {w : World} {B : Nat} {t : TypeId} {v : Value} {cs : List Value} (h : w.ownsRow B t 1 v cs.length cs) : ∃ p c, v = .slice p cs.length c ∧ RS w B w.heap.size [⟨t, p, c, cs⟩] := by
  obtain ⟨hl, h⟩ := h
  rcases h with ⟨rfl, h0⟩ | ⟨g, cap, cur, rfl, hB, hc, hn, hm, hs, ht⟩
  · have e : cs = [] := List.length_eq_zero_iff.1 h0
    subst e
    exact ⟨none, 0, rfl, RS.one ⟨Nat.le_refl _, .inl rfl⟩⟩
  · refine ⟨_, cap, rfl, RS.one ⟨hn, .inr ⟨g, rfl, ⟨hB, (Array.getElem?_eq_some_iff.1 hc).1⟩, cur, hc, ?_, fun i hi => ?_⟩⟩⟩
    · show cs.length ≤ cur.size
      have := congrArg List.length ht
      simp at this
      omega
    · have hi' : i < cs.length := hi
      have e : (cur.toList.take (cs.length * 1))[i]? = cs[i]? := by rw [ht]
      rw [List.getElem?_take, if_pos (by omega)] at e
      simpa using e
set_option maxRecDepth 100000 in
theorem igrow_any (n : Nat) (w : World) (hn : n ≤ 4194304) :
    Calls Tryz.prog 67 #[.slice none 0 0, .int .i64 (n : Int)] w fun e w' => ∃ v, e = .returned v ∧ w'.ownsRow w.heap.size 3 1 v 0 (([] : List Int).map (.int .i64)) ∧ Below w.heap.size w w' := by
  obtain ⟨i0, hi0, hz0, hz1, hz2⟩ := info_parts Tryz.info3
  by_cases h0 : n = 0
  · subst h0
    go_enter Tryz.func67, Tryz.ntmps67
    go_wp2
    go_ret
    exact ⟨_, rfl, gnil, Below.refl _ _⟩
  · have hrz : ∀ ty, (Builtin.append_ #[22, 3] ty #[.slice none 0 0, .int .i64 (n : Int)]).run Tryz.prog w =
        .ok (.slice (some ⟨w.heap.size, 0, none⟩) n (grownCap w n 0 3)) (w.drew.alloc (.cells (Builtin.zeroCells (Value.int .i64 0).cells n ++ Builtin.zeroCells (Value.int .i64 0).cells (grownCap w n 0 3 - n)) 3)) := fun ty =>
      Lib.run_append_nil_zeros w 22 3 ty 3 i0 _ .i64 .i64 Tryz.underlying22 Tryz.underlying3 hi0 hz0 n (by omega) (by omega) (by omega) (by rw [hz2]; omega)
    have hGn : n ≤ grownCap w n 0 3 := grownCap_ge w _ _ _
    have hGm : grownCap w n 0 3 ≤ maxLen := grownCap_le_maxLen w n 0 3 (by unfold maxLen; omega)
    generalize grownCap w n 0 3 = G at *
    obtain ⟨ROW, hROW⟩ : ∃ ROW : Array Value, ROW = Builtin.zeroCells (Value.int .i64 0).cells n ++ Builtin.zeroCells (Value.int .i64 0).cells (G - n) := ⟨_, rfl⟩
    have hRs : ROW.size = G := by rw [hROW]; simp [Builtin.zeroCells, Value.cells]; omega
    rw [← hROW] at hrz
    have hfin : (w.drew.alloc (.cells ROW 3)).ownsRow w.heap.size 3 1 (.slice (some ⟨w.heap.size, 0, none⟩) 0 G) 0 (([] : List Int).map (.int .i64)) :=
      ⟨rfl, .inr ⟨_, G, ROW, rfl, Nat.le_refl _, Deep.blk_alloc_new w.drew _, by omega, hGm, by omega, by simp⟩⟩
    have hB : Below w.heap.size w (w.drew.alloc (.cells ROW 3)) := (Below.drawn (Below.refl _ w) 1).alloc (Nat.le_refl _) _
    obtain ⟨W1, hW⟩ : ∃ W1, W1 = w.drew.alloc (.cells ROW 3) := ⟨_, rfl⟩
    rw [← hW] at hrz hfin hB
    have R := hide (And.intro hfin hB)
    clear hfin hB hW hROW hRs
    unfold maxLen at hGm
    have hpos : (0 : Int) < (n : Int) := by omega
    go_enter Tryz.func67, Tryz.ntmps67
    go_wp2_with (first
      | (at_builtin; refine Lib.wpList_append_run _ rfl _ _ _ _ rfl _ _ rfl rfl _ _ (hrz _) ?_))
    go_wp2
    go_ret
    exact ⟨_, rfl, R.out⟩

/-- A list as numbers by their places. -/
abbrev lg (l : List Int) (i : Nat) : Int := l.getD i 0
theorem mrow {w : World} {B : Nat} {v : Value} {C : List Int} (h : w.ownsRow B 3 1 v C.length (C.map (.int .i64))) : w.ownsRow B 3 1 v (C.map (Value.int .i64)).length (C.map (.int .i64)) := by
  rw [List.length_map]; exact h
theorem mrow2 {w : World} {B : Nat} {v : Value} {C M : List Int} (h : w.ownsRow B 3 1 v ((C.map (Value.int .i64)).length + M.length) (C.map (.int .i64) ++ ir M)) : w.ownsRow B 3 1 v (C ++ M).length ((C ++ M).map (.int .i64)) := by
  have e : (C ++ M).map (Value.int .i64) = C.map (.int .i64) ++ ir M := by simp [ir]
  rw [e, List.length_append]
  simpa using h
set_option maxHeartbeats 2000000 in
theorem oconcat_any (vb N : Nat) (ao : Nat → Option Addr) (c : Nat → Nat) (L : Nat → List Int) (w : World) (hN : N ≤ 16) (hlen : (catk L N).length ≤ 2097152) (hvlt : vb < w.heap.size)
    (hv : ∀ k, k < N → w.cell? ⟨vb, k, none⟩ = some (.slice (ao k) (L k).length (c k))) (hs : ∀ k, k < N → Cs w (ao k) (ir (L k))) :
    Calls Tryz.prog 50 #[.slice (some ⟨vb, 0, none⟩) N N] w fun e w' => ∃ v, e = .returned v ∧ w'.ownsRow w.heap.size 3 1 v (catk L N).length ((catk L N).map (.int .i64)) ∧ Below w.heap.size w w' := by
  obtain ⟨i0, hi, hz0, hz1, hz2⟩ := info_parts Tryz.info3
  have HV := hide hv
  have HS := hide hs
  clear hv hs
  go_enter Tryz.func50, Tryz.ntmps50
  go_wp2
  go_loop [3, 5, 11] (fun s _ i => ∃ k : Nat, k ≤ N ∧ i = .int .i64 k ∧ s = .int .i64 ((catk L k).length : Nat)) (fun _ _ i => N - (intOf i).toNat)
  case atStart => exact ⟨0, by omega, rfl, rfl⟩
  case round =>
    obtain ⟨k, hk, rfl, rfl⟩ := hrel
    by_cases hlt : k < N
    · have c0 := HV.out k hlt
      have hk1 := catk_le L (k + 1) N (by omega)
      have hk2 := catk_len L k
      generalize hx : (catk L k).length = x at *
      generalize hy : (L k).length = y at *
      have hle : (0 : Int) ≤ (x : Int) + (y : Int) := by omega
      go_wp2
      go_round
      case rel => exact ⟨k + 1, by omega, by go_num, by rw [hk2]; go_num⟩
      case measure => simp [intOf]; omega
    · obtain rfl : k = N := by omega
      go_wp2_with fail
      refine (igrow_any (catk L k).length _ (by omega)).mono ?_
      rintro e w1 ⟨v1, rfl, ho1, b1⟩
      have HO1 := hide ho1
      have HB1 := hide b1
      clear ho1 b1
      go_wp2_with fail
      go_loopw [6, 8, 27] (fun v _ i wr => ∃ j : Nat, j ≤ k ∧ i = .int .i64 j ∧ Hid (wr.ownsRow w.heap.size 3 1 v (catk L j).length ((catk L j).map (.int .i64)) ∧ Below w.heap.size w wr)) (fun _ _ i _ => k - (intOf i).toNat)
      case atStart => exact ⟨0, by omega, rfl, HO1.out, HB1.out⟩
      case round =>
        obtain ⟨j, hj, rfl, HI⟩ := hrel
        clear HO1 HB1
        by_cases hlt : j < k
        · have d0 := (HI.out.2.cell (p := ⟨vb, j, none⟩) hvlt).trans (HV.out j hlt)
          have hsrc := hide ((HS.out j hlt).below HI.out.2)
          have hsz := HI.out.2.size
          have hk1 := catk_le L (j + 1) k (by omega)
          have hk2 := catk_len L j
          have hLj : Hid (catk L (j + 1) = catk L j ++ L j) := rfl
          have HOW := hide (mrow HI.out.1)
          generalize L j = M at *
          generalize catk L j = C at *
          generalize ao j = q at *
          generalize c j = qc at *
          go_wp2_with (first
            | (at_builtin; refine wpList_append_cs rfl _ _ 22 rfl w.heap.size 3 i0 (.int .i64 0) 8 Tryz.underlying22 hi hz0 hz1 hz2 rfl _ (C.map (.int .i64)) rfl HOW.out q M.length qc (ir M) (ir_len _) rfl hsrc.out (by unfold maxLen; simp; omega) (by simp; omega) hsz ?_; intro v' w2 hown' hgrow))
          have R := hide (And.intro (mrow2 hown') (ggrown HI.out.2 hsz HI.out.1 hgrow))
          clear hown' hgrow
          go_wp2
          go_roundw
          case rel => exact ⟨j + 1, by omega, by go_num, by rw [hLj.out]; exact R.out⟩
          case measure => simp [intOf]; omega
        · obtain rfl : j = k := by omega
          go_wp2
          go_ret
          exact ⟨_, rfl, HI.out⟩

/-- The two, one behind the other. -/
def pick2 {α : Type} (x y : α) (k : Nat) : α := if k = 0 then x else y
/-- What Union answers. -/
def uni (l m : List Int) : List Int := un (lg (l ++ m)) (l.length + m.length)
theorem uni_asc (l m : List Int) : Asc (uni l m) := un_asc _ _
theorem lg_left (l m : List Int) (i : Nat) (h : i < l.length) : lg (l ++ m) i = lg l i := by simp [lg, List.getD, List.getElem?_append_left h]
theorem lg_right (l m : List Int) (i : Nat) : lg (l ++ m) (l.length + i) = lg m i := by simp [lg, List.getD, List.getElem?_append_right]

set_option maxHeartbeats 2000000 in
theorem ounion_impl (p q : Option Addr) (cp cq : Nat) (l m : List Int) (w : World) (hl : l.length ≤ 1048576) (hm : m.length ≤ 1048576) (hA : SL .i64 w p l.length (lg l)) (hB : SL .i64 w q m.length (lg m)) :
    Calls Tryz.prog 26 #[.slice p l.length cp, .slice q m.length cq] w fun e w' => ∃ v, e = .returned v ∧ w'.ownsRow w.heap.size 3 1 v (uni l m).length ((uni l m).map (.int .i64)) ∧ Below w.heap.size w w' := by
  have hb := (Below.refl w.heap.size w).alloc (Nat.le_refl _) (.cells #[.slice p l.length cp, .slice q m.length cq] 22)
  have hnew := Deep.blk_alloc_new w (.cells #[.slice p l.length cp, .slice q m.length cq] 22)
  have hcl : (catk (pick2 l m) 2) = l ++ m := by simp [catk, pick2]
  have hcc := hide (oconcat_any w.heap.size 2 (pick2 p q) (pick2 cp cq) (pick2 l m) _ (by omega) (by rw [hcl, List.length_append]; omega) (Array.getElem?_eq_some_iff.1 hnew).1
    (fun k hk => by obtain rfl | rfl : k = 0 ∨ k = 1 := by omega
                    · exact mblk hnew rfl
                    · exact mblk hnew rfl)
    (fun k hk => by obtain rfl | rfl : k = 0 ∨ k = 1 := by omega
                    · exact (Cs.ints hA).below hb
                    · exact (Cs.ints hB).below hb))
  rw [hcl] at hcc
  have HB0 := hide hb
  unfold uni
  have hlen : Hid ((l ++ m).length = l.length + m.length) := List.length_append
  have hlm : (l ++ m).length ≤ 2097152 := by rw [List.length_append]; omega
  rw [show l.length + m.length = (l ++ m).length from hlen.out.symm]
  clear hA hB hb hcl hnew hl hm
  generalize l ++ m = lm at *
  go_enter Tryz.func26, Tryz.ntmps26
  go_wp2_with fail
  refine hcc.out.mono ?_
  rintro e w1 ⟨v1, rfl, ho1, b1⟩
  obtain ⟨ro, rc, rfl, _, hO⟩ := Own.of_owns ho1
  have HS : Hid (SL .i64 w1 ro lm.length (lg lm)) := hO.sl
  have HB1 := hide (HB0.out.trans (b1.mono HB0.out.size))
  clear hO ho1 b1 hcc HB0 hlen
  go_wp2_with fail
  go_loopw [5, 7, 13] (fun v _ i wr => ∃ k : Nat, k ≤ lm.length ∧ i = .int .i64 k ∧ Hid (wr.ownsRow w.heap.size 3 1 v (un (lg lm) k).length ((un (lg lm) k).map (.int .i64)) ∧ Below w1.heap.size w1 wr)) (fun _ _ i _ => lm.length - (intOf i).toNat)
  case atStart => exact ⟨0, by omega, rfl, gnil, Below.refl _ _⟩
  case round =>
    obtain ⟨k, hk, rfl, HI⟩ := hrel
    by_cases hlt : k < lm.length
    · obtain ⟨b, off, rfl, hb, hc0⟩ := HS.out k hlt
      have hc := (HI.out.2.cell (p := ⟨b, off + k, none⟩) hb).trans hc0
      clear hc0
      generalize hy : lg lm k = y at hc
      have HY := hide hy
      clear hy
      go_wp2_with fail
      refine (mark_impl w.heap.size (un (lg lm) k).length _ (un (lg lm) k) y _ HI.out.1 (un_asc _ _)).mono ?_
      rintro e w2 ⟨v2, rfl, ho2, b2⟩
      have R : Hid (w2.ownsRow w.heap.size 3 1 v2 (un (lg lm) (k + 1)).length ((un (lg lm) (k + 1)).map (.int .i64)) ∧ Below w1.heap.size w1 w2) := by
        rw [un, HY.out]
        exact ⟨owns_mono ho2 (Nat.le_trans HB1.out.size HI.out.2.size), HI.out.2.trans (b2.mono HI.out.2.size)⟩
      clear ho2 b2
      go_wp2
      go_roundw
      case rel => exact ⟨k + 1, by omega, by go_num, R⟩
      case measure => simp [intOf]; omega
    · obtain rfl : k = lm.length := by omega
      go_wp2
      go_ret
      exact ⟨_, rfl, HI.out.1, HB1.out.trans (HI.out.2.mono HB1.out.size)⟩

set_option maxHeartbeats 2000000 in
theorem ounion_spec (p q : Option Addr) (cp cq : Nat) (l m : List Int) (w : World) (hl : l.length ≤ 1048576) (hm : m.length ≤ 1048576) (hA : SL .i64 w p l.length (lg l)) (hB : SL .i64 w q m.length (lg m)) :
    Calls Tryz.prog 19 #[.slice p l.length cp, .slice q m.length cq] w fun e w' => ∃ v, e = .returned v ∧ w'.ownsRow w.heap.size 3 1 v (uni l m).length ((uni l m).map (.int .i64)) ∧ Below w.heap.size w w' := by
  have h1 := hide (lg_left l m)
  have h2 := hide (lg_right l m)
  have HA := hide hA
  have HB := hide hB
  unfold uni
  clear hA hB
  generalize lg (l ++ m) = H at *
  generalize hn : l.length = n at *
  generalize hmm : m.length = mm at *
  clear hn hmm
  suffices hz : Calls Tryz.prog 19 #[.slice p n cp, .slice q mm cq] w fun e w' => ∃ v, e = .returned v ∧ Fresh w w' v (un H (n + mm)) from hz.mono fun e w' ⟨v, e1, h⟩ => ⟨v, e1, h.1, h.2.2⟩
  go_enter Tryz.func19, Tryz.ntmps19
  go_wp2
  go_loopw [5, 6] (fun v i wr => ∃ (k gb c r : Nat), k ≤ n ∧ i = .int .i64 k ∧ v = .slice (some ⟨gb, 0, none⟩) r c ∧ Hid (r = (un H k).length ∧ Fresh w wr (.slice (some ⟨gb, 0, none⟩) r c) (un H k))) (fun _ i _ => n - (intOf i).toNat)
  case atStart => exact ⟨0, _, _, 0, by omega, rfl, rfl, rfl, owns_empty (Nat.le_refl _), ⟨_, _, rfl⟩, (Below.refl _ _).alloc (Nat.le_refl _) _⟩
  case round =>
    obtain ⟨k, gb, c, r, hk, rfl, rfl, HI⟩ := hrel
    by_cases hlt : k < n
    · obtain ⟨b, off, rfl, hb, hc0⟩ := HA.out k hlt
      have hc := (HI.out.2.2.2.cell (p := ⟨b, off + k, none⟩) hb).trans hc0
      clear hc0
      generalize hy : lg l k = y at hc
      have HY := hide hy
      clear hy
      go_wp2_with fail
      refine (mark_spec w.heap.size gb c r (un H k) y _ HI.out.1 (by rw [HI.out.1]; exact HI.out.1 ▸ HI.out.2.1) (un_asc _ _)).mono ?_
      rintro e w2 ⟨v2, rfl, hf2⟩
      obtain ⟨g2, c2, rfl⟩ := hf2.2.1
      have R : Hid ((mkr (un H k) y).length = (un H (k + 1)).length ∧ Fresh w w2 (.slice (some ⟨g2, 0, none⟩) (mkr (un H k) y).length c2) (un H (k + 1))) := by
        rw [un, h1.out k hlt, HY.out]
        exact ⟨rfl, HI.out.2.on hf2⟩
      clear hf2
      go_wp2
      go_roundw
      case rel => exact ⟨k + 1, g2, c2, _, by omega, by go_num, rfl, R⟩
      case measure => simp [intOf]; omega
    · obtain rfl : k = n := by omega
      go_wp2
      go_loopw [5, 7] (fun v i wr' => ∃ (j gb c r : Nat), j ≤ mm ∧ i = .int .i64 j ∧ v = .slice (some ⟨gb, 0, none⟩) r c ∧ Hid (r = (un H (k + j)).length ∧ Fresh w wr' (.slice (some ⟨gb, 0, none⟩) r c) (un H (k + j)))) (fun _ i _ => mm - (intOf i).toNat)
      case atStart => exact ⟨0, gb, c, r, by omega, rfl, rfl, HI⟩
      case round =>
        obtain ⟨j, gb, c, r, hj, rfl, rfl, HI2⟩ := hrel
        clear HI
        by_cases hlt : j < mm
        · obtain ⟨b, off, rfl, hb, hc0⟩ := HB.out j hlt
          have hc := (HI2.out.2.2.2.cell (p := ⟨b, off + j, none⟩) hb).trans hc0
          clear hc0
          generalize hy : lg m j = y at hc
          have HY := hide hy
          clear hy
          go_wp2_with fail
          refine (mark_spec w.heap.size gb c r (un H (k + j)) y _ HI2.out.1 (by rw [HI2.out.1]; exact HI2.out.1 ▸ HI2.out.2.1) (un_asc _ _)).mono ?_
          rintro e w2 ⟨v2, rfl, hf2⟩
          obtain ⟨g2, c2, rfl⟩ := hf2.2.1
          have R : Hid ((mkr (un H (k + j)) y).length = (un H (k + (j + 1))).length ∧ Fresh w w2 (.slice (some ⟨g2, 0, none⟩) (mkr (un H (k + j)) y).length c2) (un H (k + (j + 1)))) := by
            rw [show k + (j + 1) = (k + j) + 1 by omega, un, h2.out j, HY.out]
            exact ⟨rfl, HI2.out.2.on hf2⟩
          clear hf2
          go_wp2
          go_roundw
          case rel => exact ⟨j + 1, g2, c2, _, by omega, by go_num, rfl, R⟩
          case measure => simp [intOf]; omega
        · obtain rfl : j = mm := by omega
          go_wp2
          go_ret
          exact ⟨_, rfl, HI2.out.2⟩
end Go.Proofs.YtabknfmhhjelaaaGreatDoor

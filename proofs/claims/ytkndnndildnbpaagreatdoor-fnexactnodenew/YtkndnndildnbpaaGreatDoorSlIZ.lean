/- A slot's bytes, of the program. -/
import Derived.Test.YtkndnndildnbpaaGreatDoorSlSZ
import Derived.Test.YtkndnndildnbpaaGreatDoorMtOI4Z
import Derived.Laws.CopyOwn

namespace Go.Proofs.YtkndnndildnbpaaGreatDoor
open Go.ChangeShapes Go.WideShapes Go.ChangeAt Go.RowKit
set_option linter.unusedVariables false
set_option linter.unusedSimpArgs false
set_option maxRecDepth 100000

theorem fblk {w : World} {g : Nat} {cs : Array Value} {t : TypeId} (h : w.heap[g]? = some (.cells cs t (0, 0))) (i : Nat) : w.frozen? ⟨g, i, none⟩ = false := by simp [World.frozen?, h]
theorem fromlow_impl (ao : Option Addr) (cap : Nat) (f : Nat → Int) (w : World) (hs : SL .u8 w ao 4 f) (hf : ∀ i, i < 4 → 0 ≤ f i ∧ f i ≤ 255) :
    Calls Tryz.prog 258 #[.slice ao 4 cap] w fun e w' => e = .returned (.int .i64 (rd4 f)) ∧ w' = w := by
  obtain ⟨b, off, rfl, _, c0⟩ := hs 0 (by omega)
  obtain ⟨b1, off1, e1, _, c1⟩ := hs 1 (by omega)
  cases e1
  obtain ⟨b2, off2, e2, _, c2⟩ := hs 2 (by omega)
  cases e2
  obtain ⟨b3, off3, e3, _, c3⟩ := hs 3 (by omega)
  cases e3
  rw [Nat.add_zero] at c0
  have y0 := hf 0 (by omega)
  have y1 := hf 1 (by omega)
  have y2 := hf 2 (by omega)
  have y3 := hf 3 (by omega)
  have hrd : Hid (rd4 f = f 0 + f 1 * 256 + f 2 * 65536 + f 3 * 16777216) := rfl
  generalize f 0 = x0 at *
  generalize f 1 = x1 at *
  generalize f 2 = x2 at *
  generalize f 3 = x3 at *
  clear hs hf
  go_enter Tryz.func258, Tryz.ntmps258
  go_wp2
  refine wp_loop_rounds 5 ?_
  iterate 5
    rw [rounds_succ]
    go_wp2
  go_ret
  exact ⟨by rw [hrd.out]; rfl, rfl⟩

/-- The bytes that are laid one upon the other. -/
theorem splice_slot (Q M : List Value) (l z : Value) (hQ : Q.length = 4) (hM : M.length ≤ 151) :
    splice (splice (splice ((List.replicate 160 z).set 4 l) 0 Q) 5 M) 156 Q = Q ++ (l :: (M ++ (List.replicate (151 - M.length) z ++ Q))) := by
  obtain ⟨a, Q, rfl⟩ := List.exists_cons_of_length_eq_add_one (n := 3) hQ
  obtain ⟨b, Q, rfl⟩ := List.exists_cons_of_length_eq_add_one (n := 2) (by simpa using hQ)
  obtain ⟨c, Q, rfl⟩ := List.exists_cons_of_length_eq_add_one (n := 1) (by simpa using hQ)
  obtain ⟨d, Q, rfl⟩ := List.exists_cons_of_length_eq_add_one (n := 0) (by simpa using hQ)
  obtain rfl : Q = [] := by simpa using hQ
  have e1 : (List.replicate 160 z).set 4 l = z :: z :: z :: z :: l :: List.replicate 155 z := rfl
  have e2 : splice ((List.replicate 160 z).set 4 l) 0 [a, b, c, d] = a :: b :: c :: d :: l :: List.replicate 155 z := by
    rw [e1]; simp [splice]
  have e3 : splice (a :: b :: c :: d :: l :: List.replicate 155 z) 5 M = a :: b :: c :: d :: l :: (M ++ List.replicate (155 - M.length) z) := by
    have h5 : 5 + M.length = M.length + 5 := by omega
    simp only [splice, h5, List.take_succ_cons, List.take_zero, List.drop_succ_cons, List.cons_append, List.nil_append, List.drop_replicate]
  have e4 : List.replicate (155 - M.length) z = List.replicate (151 - M.length) z ++ [z, z, z, z] := by
    rw [show 155 - M.length = (151 - M.length) + 4 by omega, ← List.replicate_append_replicate]; rfl
  rw [e2, e3, e4]
  have e5 : a :: b :: c :: d :: l :: (M ++ (List.replicate (151 - M.length) z ++ [z, z, z, z])) = (a :: b :: c :: d :: l :: (M ++ List.replicate (151 - M.length) z)) ++ [z, z, z, z] := by simp
  have hl : (a :: b :: c :: d :: l :: (M ++ List.replicate (151 - M.length) z)).length = 156 := by simp; omega
  rw [e5, splice, List.take_append_of_le_length (by omega), List.take_of_length_le (by omega), List.drop_of_length_le (by simp; omega)]
  simp

theorem copy_ex (W0 W : World) (B g off dLen dCap : Nat) (ad : Addr) (sLen sCap : Nat) (cur cs : List Value) (hg : W.heap[g]? = some (.cells cur.toArray 5 (0, 0))) (hn : cs.length = Nat.min sLen dLen)
    (hsrc : ∀ j v, cs[j]? = some v → W.cell? (ad.add j) = some v) (hfit : off + cs.length ≤ cur.length) (h1 : ∀ v ∈ cs, v.oneCell' = true) (hb : Below B W0 W) (hBg : B ≤ g) :
    ∃ W', (∀ ty, (Builtin.copy_ #[26, 26] ty #[.slice (some ⟨g, off, none⟩) dLen dCap, .slice (some ad) sLen sCap]).run Tryz.prog W = .ok (goInt cs.length) W') ∧ W'.heap[g]? = some (.cells (splice cur off cs).toArray 5 (0, 0)) ∧ Below B W0 W' := by
  obtain ⟨i0, hi, hz0, hz1, hz2⟩ := info_parts Tryz.info5
  refine ⟨W.setRow g (splice cur off cs).toArray, fun ty => ?_, setRow_heap W g _ _ 5 _ hg, below_setRow hb hBg _⟩
  have := run_copy_row (P := Tryz.prog) W 26 26 ty 5 g off dLen dCap ad sLen sCap cur.toArray 5 cs Tryz.underlying26 (by rw [hi]; simp [hz1]) hg hn hsrc (by simpa using hfit) h1
  rw [this]
  simp [splice]

set_option maxHeartbeats 1000000 in
theorem slotbytes_impl (go bo : Option Addr) (gc bc : Nat) (g : List Int) (n : Nat) (L : Nat → List Int) (fi ol he : Bool) (la q : Int) (w : World) (hd : Bd g n L) (hv : MV w go gc bo bc g n L) (h0 : 0 ≤ q) (h1 : q < 4294967296) :
    Calls Tryz.prog 206 #[.agg #[.slice go g.length gc, .slice bo n bc, .bool fi, .bool ol, .bool he, .int .i64 la], .int .i64 q] w fun e w' => ∃ x, e = .returned x ∧ w'.ownsRow w.heap.size 5 1 x ((slm Classical.propDecidable) g n L fi ol he la q).length (((slm Classical.propDecidable) g n L fi ol he la q).map (.int .u8)) ∧ Below w.heap.size w w' := by
  have hx := bal1 w (.cells #[.slice go g.length gc, .slice bo n bc, .bool fi, .bool ol, .bool he, .int .i64 la] 25)
  have hcall := hide (mtbytes_impl go bo gc bc g n L fi ol he la _ hd (hv.below hx))
  have HX := hide hx
  clear hd hv hx
  by_cases hok : MtOk g n L ol he la
  case neg =>
    rw [slm_no (fun h => hok h.1)]
    rw [mtb_no hok] at hcall
    go_enter Tryz.func206, Tryz.ntmps206
    go_wp2_with fail
    refine hcall.out.mono ?_
    rintro e w1 ⟨v1, rfl, ho1, hb1⟩
    obtain ⟨a1, c1, rfl⟩ := (Src.of_owns ho1).form
    have B1 := hide (HX.out.trans (hb1.mono HX.out.size))
    clear ho1 hb1 hcall HX
    go_wp2
    go_ret
    exact ⟨_, rfl, gnil, B1.out⟩
  rw [mtb_yes hok] at hcall
  have hml := mt_len (fi := fi) hok
  have hp : 0 < (nums (mseq g L fi ol he la)).length := List.length_pos_iff.2 (mseq_ne _ _ _ _ _ _)
  by_cases hq : 1 ≤ q ∧ q ≤ 1000000
  case neg =>
    rw [slm_no (fun h => hq h.2)]
    generalize nums (mseq g L fi ol he la) = M at *
    have hM0 : ((M.length : Int) == 0) = false := beq_eq_false_iff_ne.2 (by omega)
    go_enter Tryz.func206, Tryz.ntmps206
    go_wp2_with fail
    refine hcall.out.mono ?_
    rintro e w1 ⟨v1, rfl, ho1, hb1⟩
    obtain ⟨a1, c1, rfl⟩ := (Src.of_owns ho1).form
    have B1 := hide (HX.out.trans (hb1.mono HX.out.size))
    clear ho1 hb1 hcall HX
    by_cases hq1 : q < 1
    · go_wp2_with (first | (go_at_call 238; go_in))
      go_ret
      exact ⟨_, rfl, gnil, B1.out⟩
    · have hq2 : 1000000 < q := by omega
      go_wp2_with (first | (go_at_call 238; go_in))
      go_ret
      exact ⟨_, rfl, gnil, B1.out⟩
  rw [slm_yes hok hq]
  obtain ⟨i0, hi, hz0, hz1, hz2⟩ := info_parts Tryz.info5
  generalize nums (mseq g L fi ol he la) = M at *
  have hM0 : ((M.length : Int) == 0) = false := beq_eq_false_iff_ne.2 (by omega)
  have hmk := run_make_row' (P := Tryz.prog) 26 5 (.int .u8 0) 1 Tryz.underlying26 Tryz.info5 rfl .i64 .i64 160 (by omega) (by omega)
  rw [show ((160 : Nat) : Int) = 160 from rfl] at hmk
  have hq1 : ¬ q < 1 := by omega
  have hq2 : ¬ 1000000 < q := by omega
  have hm : (M.length : Int) % 256 = M.length := by omega
  go_enter Tryz.func206, Tryz.ntmps206
  go_wp2_with fail
  refine hcall.out.mono ?_
  rintro e w1 ⟨v1, rfl, ho1, hb1⟩
  obtain ⟨g1, c1, rfl, hg1, _, hs1⟩ := msrc ho1 hp
  have S1 := hide hs1
  have B1 := hide (HX.out.trans (hb1.mono HX.out.size))
  clear ho1 hb1 hcall HX hs1
  go_wp2_with (first | (go_at_call 238; go_in))
  refine (low4_impl q _ h0 h1).mono ?_
  rintro e w2 ⟨v2, rfl, ho2, hb2⟩
  have h4 : (s4 q).length = 4 := rfl
  have E4 : Hid ((slb M q).map (Value.int .u8) = (s4 q).map (.int .u8) ++ ((.int .u8 (M.length : Int)) :: (M.map (.int .u8) ++ (List.replicate (151 - M.length) (.int .u8 0) ++ (s4 q).map (.int .u8)))) ∧ (slb M q).length = 160) := ⟨by simp [slb], slb_len (by omega)⟩
  generalize s4 q = Q at *
  obtain ⟨g2, c2, rfl, hg2, hg2', hs2⟩ := msrc ho2 (by omega)
  have S2 := hide hs2
  have B2 := hide (B1.out.trans (hb2.mono B1.out.size))
  have S1' : Hid (∀ j u, (M.map (Value.int .u8))[j]? = some u → w2.cell? ((⟨g1, 0, none⟩ : Addr).add j) = some u) := fun j u hu => by
    have := S1.out j u hu
    rw [Addr.add_lit] at this ⊢
    exact (hb2.cell (p := ⟨g1, 0 + j, none⟩) hg1).trans this
  have hg1' : g1 < w2.heap.size := Nat.lt_of_lt_of_le hg1 hb2.size
  clear ho2 hb2 hs2 S1
  have hblk : (w2.alloc (.cells (madeCells #[.int .u8 0] 160) 5)).heap[w2.heap.size]? = some (.cells (List.replicate 160 (Value.int .u8 0)).toArray 5 (0, 0)) := by
    rw [Deep.blk_alloc_new]
    have : madeCells #[Value.int .u8 0] 160 = (List.replicate 160 (Value.int .u8 0)).toArray := by
      apply Array.ext'
      rw [toList_madeCells_one]
    rw [this]
  have hc4 : (w2.alloc (.cells (madeCells #[.int .u8 0] 160) 5)).cell? ⟨w2.heap.size, 4, none⟩ = some (.int .u8 0) := mblk hblk rfl
  have hf4 : (w2.alloc (.cells (madeCells #[.int .u8 0] 160) 5)).frozen? ⟨w2.heap.size, 4, none⟩ = false := fblk hblk 4
  obtain ⟨W3, hW3⟩ : ∃ W3, W3 = w2.alloc (.cells ((madeCells #[.int .u8 0] 160).setIfInBounds 4 (.int .u8 (M.length : Int))) 5) := ⟨_, rfl⟩
  obtain ⟨cur, hcur⟩ : ∃ cur, cur = (List.replicate 160 (Value.int .u8 0)).set 4 (.int .u8 (M.length : Int)) := ⟨_, rfl⟩
  obtain ⟨XQ, hXQ⟩ : ∃ XQ, XQ = Q.map (Value.int .u8) := ⟨_, rfl⟩
  obtain ⟨XM, hXM⟩ : ∃ XM, XM = M.map (Value.int .u8) := ⟨_, rfl⟩
  have hG3 : W3.heap[w2.heap.size]? = some (.cells cur.toArray 5 (0, 0)) := by
    rw [hW3, hcur, Deep.blk_alloc_new]
    have : madeCells #[Value.int .u8 0] 160 = (List.replicate 160 (Value.int .u8 0)).toArray := by
      apply Array.ext'
      rw [toList_madeCells_one]
    rw [this]
    simp
  have hB23 : Below w2.heap.size w2 W3 := by rw [hW3]; exact bal1 _ _
  have B3 := hide (B2.out.trans (hB23.mono B2.out.size))
  have hlc : cur.length = 160 := by rw [hcur]; simp
  have hlQ : XQ.length = 4 := by rw [hXQ]; simp [h4]
  have hlM : XM.length = M.length := by rw [hXM]; simp
  have o1 : Hid (∀ v ∈ XQ, v.oneCell' = true) := by rw [hXQ]; exact gones _ _
  have o2 : Hid (∀ v ∈ XM, v.oneCell' = true) := by rw [hXM]; exact gones _ _
  have hsz : Hid ((Tryz.prog.info? 5).map (·.size) = some 1) := (show _ = _ by rw [hi]; simp [hz1])
  have SQ : Hid (∀ W, Below w2.heap.size w2 W → ∀ j v, XQ[j]? = some v → W.cell? ((⟨g2, 0, none⟩ : Addr).add j) = some v) := fun W hb j v hv => by
    rw [hXQ] at hv
    have := S2.out j v hv
    rw [Addr.add_lit] at this ⊢
    exact (hb.cell (p := ⟨g2, 0 + j, none⟩) hg2).trans this
  have SM : Hid (∀ W, Below w2.heap.size w2 W → ∀ j v, XM[j]? = some v → W.cell? ((⟨g1, 0, none⟩ : Addr).add j) = some v) := fun W hb j v hv => by
    rw [hXM] at hv
    have := S1'.out j v hv
    rw [Addr.add_lit] at this ⊢
    exact (hb.cell (p := ⟨g1, 0 + j, none⟩) hg1').trans this
  have E5 : Hid (splice (splice (splice cur 0 XQ) 5 XM) 156 XQ = (slb M q).map (.int .u8)) := (show _ = _ by
    rw [hcur, splice_slot XQ XM _ _ hlQ (by omega), E4.out.1, hXQ, hXM, List.length_map])
  have HG3 := hide hG3
  have HB23 := hide hB23
  rw [hW3] at HG3 HB23
  clear hcur hXQ hXM S2 S1' hblk hG3 hB23
  have hl1 : (splice cur 0 XQ).length = 160 := by rw [length_splice _ _ _ (by omega), hlc]
  have hl2 : (splice (splice cur 0 XQ) 5 XM).length = 160 := by rw [length_splice _ _ _ (by omega), hl1]
  have hl3 : (splice (splice (splice cur 0 XQ) 5 XM) 156 XQ).length = 160 := by rw [length_splice _ _ _ (by omega), hl2]
  obtain ⟨w4, hcp1, hG4, hB4⟩ := copy_ex w2 _ w2.heap.size w2.heap.size 0 160 160 ⟨g2, 0, none⟩ 4 c2 cur XQ HG3.out (by rw [hlQ]; rfl) (SQ.out _ HB23.out) (by omega) o1.out HB23.out (Nat.le_refl _)
  obtain ⟨w5, hcp2, hG5, hB5⟩ := copy_ex w2 _ w2.heap.size w2.heap.size 5 155 155 ⟨g1, 0, none⟩ M.length c1 (splice cur 0 XQ) XM hG4 (by rw [hlM]; simp only [Nat.min_def]; split <;> omega) (SM.out _ hB4) (by omega) o2.out hB4 (Nat.le_refl _)
  obtain ⟨w6, hcp3, hG6, hB6⟩ := copy_ex w2 _ w2.heap.size w2.heap.size 156 4 4 ⟨g2, 0, none⟩ 4 c2 (splice (splice cur 0 XQ) 5 XM) XQ hG5 (by rw [hlQ]; rfl) (SQ.out _ hB5) (by omega) o1.out hB5 (Nat.le_refl _)
  have HG6 := hide hG6
  have HB6 := hide hB6
  clear hG4 hB4 hG5 hB5 hG6 hB6 HG3 HB23
  go_wp2
  go_ret
  refine ⟨_, rfl, ?_, B2.out.trans (HB6.out.mono B2.out.size)⟩
  have hz := HG6.out
  rw [E5.out] at hz
  rw [E4.out.2]
  refine ⟨by simp [E4.out.2], .inr ⟨w2.heap.size, 160, _, rfl, B2.out.size, hz, by omega, by unfold maxLen; omega, by simp [E4.out.2], ?_⟩⟩
  rw [List.take_of_length_le (by simp [E4.out.2])]
end Go.Proofs.YtkndnndildnbpaaGreatDoor

/- MsgBytes of the program. -/
import Derived.Test.YtkeojhnifnkpiaaMbyI2Z

namespace Go.Proofs.Ytkeojhnifnkpiaa
open Go.ChangeShapes Go.WideShapes Go.ChangeAt Go.RowKit
set_option linter.unusedVariables false
set_option linter.unusedSimpArgs false

theorem msgoki_yes (ao : Option Addr) (n cap : Nat) (f : Nat → Int) (k c v h : Int) (w : World) (hn : n ≤ 1048576) (hcap : n ≤ cap) (hs : SL .i64 w ao n f) (hok : MOk k c v h f n) :
    Calls Try.prog 37 #[.agg #[.int .i64 k, .int .i64 c, .int .i64 v, .int .i64 h, .slice ao n cap]] w fun e w' => e = .returned (.bool true) ∧ Below w.heap.size w w' :=
  (msgok_impl ao n cap f k c v h w hn hcap hs).mono fun _ _ ⟨h1, h2⟩ => ⟨h1.elim (·.2) (fun x => absurd hok x.1), h2⟩
theorem msgoki_no (ao : Option Addr) (n cap : Nat) (f : Nat → Int) (k c v h : Int) (w : World) (hn : n ≤ 1048576) (hcap : n ≤ cap) (hs : SL .i64 w ao n f) (hok : ¬ MOk k c v h f n) :
    Calls Try.prog 37 #[.agg #[.int .i64 k, .int .i64 c, .int .i64 v, .int .i64 h, .slice ao n cap]] w fun e w' => e = .returned (.bool false) ∧ Below w.heap.size w w' :=
  (msgok_impl ao n cap f k c v h w hn hcap hs).mono fun _ _ ⟨h1, h2⟩ => ⟨h1.elim (fun x => absurd x.1 hok) (·.2), h2⟩
theorem Src.slu {w : World} {ao : Option Addr} {c : Nat} {L : List Int} {k : IntKind} (h : Src k w (.slice ao L.length c) L) : SL k w ao L.length (fun i => L.getD i 0) := by
  intro i hi
  rcases h with ⟨_, rfl⟩ | ⟨ad, c', e, hc⟩
  · simp at hi
  · cases e
    have h1 := hc i (.int k (L.getD i 0)) (by simp [List.getD, hi])
    obtain ⟨b, off, spot⟩ := ad
    have h2 := hc 0 (.int k (L.getD 0 0)) (by simp [List.getD, show 0 < L.length by omega])
    have hspot : spot = none := by simpa [Addr.add] using World.cell?_spot h2
    subst hspot
    rw [Addr.add_lit] at h1
    exact ⟨b, off, rfl, lt_of_cell h1, h1⟩

set_option maxHeartbeats 1000000 in
set_option maxRecDepth 100000 in
theorem msgbytes_impl (ao : Option Addr) (n cap : Nat) (f : Nat → Int) (k c v h : Int) (w : World) (hn : n ≤ 1048576) (hcap : n ≤ cap) (hs : SL .i64 w ao n f) :
    Calls Try.prog 26 #[.agg #[.int .i64 k, .int .i64 c, .int .i64 v, .int .i64 h, .slice ao n cap]] w fun e w' => ∃ x, e = .returned x ∧ w'.ownsRow w.heap.size 5 1 x (mb k c v h f n).length ((mb k c v h f n).map (.int .u8)) ∧ Below w.heap.size w w' := by
  have HS := hide hs
  clear hs
  by_cases hok : MOk k c v h f n
  · obtain ⟨hn12, hfb, hkb, hcb, hvb, hhb⟩ := mok_bd hok
    have hmb : mb k c v h f n = framed (mbody k c v h f n) := by unfold mb; rw [if_pos hok]
    rw [hmb]
    have hbl := mbody_len (k := k) (c := c) (v := v) (h := h) (f := f) hn12
    have hbb : Hid (∀ i, i < (mbody k c v h f n).length → 0 ≤ (mbody k c v h f n).getD i 0 ∧ (mbody k c v h f n).getD i 0 ≤ 255) := fun i hi => by
      refine nums_byte ([k, c, v, h, (n : Int)] ++ (List.range n).map f) ?_ _ (getD_mem _ i hi)
      intro x hx
      simp at hx
      rcases hx with rfl | rfl | rfl | rfl | rfl | ⟨j, hj, rfl⟩
      · exact hkb
      · exact hcb
      · exact hvb
      · exact hhb
      · omega
      · exact hfb j hj
    have hcallA : Hid (∀ W, SL .i64 W ao n f → Calls Try.prog 80 #[.agg #[.int .i64 k, .int .i64 c, .int .i64 v, .int .i64 h, .slice ao n cap]] W fun e w' => ∃ x, e = .returned x ∧ w'.ownsRow W.heap.size 5 1 x (mbody k c v h f n).length ((mbody k c v h f n).map (.int .u8)) ∧ Below W.heap.size W w') := fun W hW => body_impl ao n cap f k c v h W hn12 hW hfb hkb hcb hvb hhb
    generalize mbody k c v h f n = B at *
    have HR : Hid (framed B = pb 4 (B.length : Int) ++ B ++ s4 (asum B)) := rfl
    have hP : Hid (∀ W, Calls Try.prog 54 #[.int .i64 (B.length : Int)] W fun e w' => ∃ x, e = .returned x ∧ w'.ownsRow W.heap.size 5 1 x (pb 4 (B.length : Int)).length ((pb 4 (B.length : Int)).map (.int .u8)) ∧ Below W.heap.size W w') := fun W => put_impl (B.length : Int) W (by omega) (by omega)
    have hQ : Hid (∀ W, Calls Try.prog 81 #[.int .i64 (asum B), .int .i64 4] W fun e w' => ∃ x, e = .returned x ∧ w'.ownsRow W.heap.size 5 1 x (s4 (asum B)).length ((s4 (asum B)).map (.int .u8)) ∧ Below W.heap.size W w') := fun W => low4_impl (asum B) W (asum_bd B).1 (asum_bd B).2
    have hSm : Hid (∀ W ao c, Src .u8 W (.slice ao B.length c) B → Calls Try.prog 82 #[.slice ao B.length c] W fun e w' => e = .returned (.int .i64 (asum B)) ∧ w' = W) := fun W ao c hs => sum_impl ao B.length c (fun i => B.getD i 0) W (by omega) hs.slu hbb.out
    have l1 := pb_len 4 (B.length : Int)
    have l2 : (s4 (asum B)).length ≤ 4 := Nat.le_refl _
    rw [HR.out]
    generalize pb 4 (B.length : Int) = L1 at *
    generalize s4 (asum B) = L2 at *
    generalize asum B = sm at *
    clear HR hmb hfb hkb hcb hvb hhb hbb
    go_enter Try.func26, Try.ntmps26
    go_wp2_with fail
    refine (msgoki_yes ao n cap f k c v h _ hn hcap (HS.out.below ((Below.refl _ _).alloc (Nat.le_refl _) _)) hok).mono ?_
    rintro e w1 ⟨rfl, b1⟩
    have hblk : w1.heap[w.heap.size]? = some (.cells #[.int .i64 k, .int .i64 c, .int .i64 v, .int .i64 h, .slice ao n cap] 40 (0, 0)) := (b1.block w.heap.size (by simp)).trans (Deep.blk_alloc_new _ _)
    have B1 := hide (((Below.refl _ _).alloc (Nat.le_refl _) _).trans (b1.mono (by simp)) : Below w.heap.size w w1)
    clear b1
    have hc0 := blk_cell (i := 0) hblk rfl
    have hc1 := blk_cell (i := 1) hblk rfl
    have hc2 := blk_cell (i := 2) hblk rfl
    have hc3 := blk_cell (i := 3) hblk rfl
    have hc4 := blk_cell (i := 4) hblk rfl
    have hcall := hide (hcallA.out w1 (HS.out.below B1.out))
    clear hblk HS hcallA
    go_wp2_with fail
    refine hcall.out.mono ?_
    rintro e w2 ⟨v2, rfl, ho2, hb2⟩
    clear hcall hc0 hc1 hc2 hc3 hc4
    obtain ⟨a2, c2, rfl⟩ := (Src.of_owns ho2).form
    have H2 : Hid (Below w.heap.size w w2 ∧ Src .u8 w2 (.slice a2 B.length c2) B) := ⟨B1.out.trans (hb2.mono B1.out.size), Src.of_owns ho2⟩
    clear ho2 hb2 B1
    go_wp2_with fail
    refine (hP.out _).mono ?_
    rintro e w3 ⟨v3, rfl, ho3, hb3⟩
    obtain ⟨a3, c3, rfl⟩ := (Src.of_owns ho3).form
    have H3 : Hid (Below w.heap.size w w3 ∧ Src .u8 w3 (.slice a2 B.length c2) B ∧ Src .u8 w3 (.slice a3 L1.length c3) L1) := ⟨H2.out.1.trans (hb3.mono H2.out.1.size), H2.out.2.below hb3, Src.of_owns ho3⟩
    clear ho3 hb3 H2
    go_wp2_with fail
    refine (hSm.out _ _ _ H3.out.2.1).mono ?_
    rintro e w3' ⟨rfl, hw⟩
    rw [hw]
    clear hw hSm
    go_wp2_with fail
    refine (hQ.out _).mono ?_
    rintro e w4 ⟨v4, rfl, ho4, hb4⟩
    obtain ⟨a4, c4, rfl⟩ := (Src.of_owns ho4).form
    have H4 : Hid (Below w.heap.size w w4 ∧ Src .u8 w4 (.slice a2 B.length c2) B ∧ Src .u8 w4 (.slice a3 L1.length c3) L1 ∧ Src .u8 w4 (.slice a4 L2.length c4) L2) := ⟨H3.out.1.trans (hb4.mono H3.out.1.size), H3.out.2.1.below hb4, H3.out.2.2.below hb4, Src.of_owns ho4⟩
    clear ho4 hb4 H3
    go_wp2_with fail
    have H5 : Hid (Below w4.heap.size w4 (w4.alloc (.cells #[.slice a3 L1.length c3, .slice a2 B.length c2, .slice a4 L2.length c4] 22))) := (Below.refl _ _).alloc (Nat.le_refl _) _
    refine (bconcat3 w4.heap.size a3 a2 a4 c3 c2 c4 L1 B L2 _ (by omega) (Deep.blk_alloc_new _ _) (H4.out.2.2.1.below H5.out) (H4.out.2.1.below H5.out) (H4.out.2.2.2.below H5.out)).mono ?_
    rintro e w9 ⟨v9, rfl, o9, b9⟩
    have H9 : Hid (w9.ownsRow w.heap.size 5 1 v9 (L1 ++ B ++ L2).length ((L1 ++ B ++ L2).map (.int .u8)) ∧ Below w.heap.size w w9) := ⟨gmono o9 (Nat.le_trans H4.out.1.size H5.out.size), (H4.out.1.trans (H5.out.mono H4.out.1.size)).trans (b9.mono (Nat.le_trans H4.out.1.size H5.out.size))⟩
    clear o9 b9
    go_wp2
    go_ret
    exact ⟨_, rfl, H9.out⟩
  · have hmb : mb k c v h f n = [] := by unfold mb; rw [if_neg hok]
    rw [hmb]
    clear hmb
    go_enter Try.func26, Try.ntmps26
    go_wp2_with fail
    refine (msgoki_no ao n cap f k c v h _ hn hcap (HS.out.below ((Below.refl _ _).alloc (Nat.le_refl _) _)) hok).mono ?_
    rintro e w1 ⟨rfl, b1⟩
    have B1 := hide (((Below.refl _ _).alloc (Nat.le_refl _) _).trans (b1.mono (by simp)) : Below w.heap.size w w1)
    clear b1 HS
    go_wp2
    go_ret
    exact ⟨_, rfl, gnil, B1.out⟩
end Go.Proofs.Ytkeojhnifnkpiaa

/- MsgBytes of the program. -/
import Derived.Test.YtkeojhnifnkpiaaMbyIZ

namespace Go.Proofs.Ytkeojhnifnkpiaa
open Go.ChangeShapes Go.WideShapes Go.ChangeAt Go.RowKit
set_option linter.unusedVariables false
set_option linter.unusedSimpArgs false

set_option maxHeartbeats 1000000 in
set_option maxRecDepth 100000 in
theorem body_impl (ao : Option Addr) (n cap : Nat) (f : Nat → Int) (k c v h : Int) (w : World) (hn : n ≤ 12) (hs : SL .i64 w ao n f) (hf : ∀ i, i < n → 0 ≤ f i ∧ f i ≤ 2147483647)
    (hk : 0 ≤ k ∧ k ≤ 2147483647) (hc : 0 ≤ c ∧ c ≤ 2147483647) (hv : 0 ≤ v ∧ v ≤ 2147483647) (hh : 0 ≤ h ∧ h ≤ 2147483647) :
    Calls Try.prog 80 #[.agg #[.int .i64 k, .int .i64 c, .int .i64 v, .int .i64 h, .slice ao n cap]] w fun e w' => ∃ x, e = .returned x ∧ w'.ownsRow w.heap.size 5 1 x (mbody k c v h f n).length ((mbody k c v h f n).map (.int .u8)) ∧ Below w.heap.size w w' := by
  have HMB : Hid (mbody k c v h f n = nums [k, c, v, h] ++ pb 4 (n : Int) ++ nums ((List.range n).map f)) := (show _ = _ by
    unfold mbody
    rw [show [k, c, v, h, (n : Int)] ++ (List.range n).map f = [k, c, v, h] ++ ([(n : Int)] ++ (List.range n).map f) from rfl, nums_app, nums_app, nums_one, List.append_assoc])
  have hA : Hid (∀ W ad, SL .i64 W (some ad) 4 (fun i => [k, c, v, h].getD i 0) → Calls Try.prog 113 #[.slice (some ad) 4 4] W fun e w' => ∃ x, e = .returned x ∧ w'.ownsRow W.heap.size 5 1 x (nums [k, c, v, h]).length ((nums [k, c, v, h]).map (.int .u8)) ∧ Below W.heap.size W w') := fun W ad hW => by
    have := putnums_impl (some ad) 4 4 (fun i => [k, c, v, h].getD i 0) W (by omega) hW (fun i hi => by
      obtain rfl | rfl | rfl | rfl : i = 0 ∨ i = 1 ∨ i = 2 ∨ i = 3 := by omega
      · exact hk
      · exact hc
      · exact hv
      · exact hh)
    exact this
  have hG : Hid (∀ W, SL .i64 W ao n f → Calls Try.prog 113 #[.slice ao n cap] W fun e w' => ∃ x, e = .returned x ∧ w'.ownsRow W.heap.size 5 1 x (nums ((List.range n).map f)).length ((nums ((List.range n).map f)).map (.int .u8)) ∧ Below W.heap.size W w') := fun W hW => putnums_impl ao n cap f W (by omega) hW hf
  have hP : Hid (∀ W, Calls Try.prog 54 #[.int .i64 (n : Int)] W fun e w' => ∃ x, e = .returned x ∧ w'.ownsRow W.heap.size 5 1 x (pb 4 (n : Int)).length ((pb 4 (n : Int)).map (.int .u8)) ∧ Below W.heap.size W w') := fun W => put_impl (n : Int) W (by omega) (by omega)
  have l0 := nums_len [k, c, v, h]
  have l1 := pb_len 4 (n : Int)
  have l2 := nums_len ((List.range n).map f)
  simp only [List.length_cons, List.length_nil, List.length_map, List.length_range] at l0 l2
  rw [HMB.out]
  generalize nums [k, c, v, h] = L0 at *
  generalize pb 4 (n : Int) = L1 at *
  generalize nums ((List.range n).map f) = L2 at *
  obtain ⟨W, hW⟩ : ∃ W, W = w.alloc (.cells #[.int .i64 k, .int .i64 c, .int .i64 v, .int .i64 h, .slice ao n cap] 40) := ⟨_, rfl⟩
  have M1 : MB W w.heap.size 40 k c v h ao n cap := by rw [hW]; exact MB.new w _ _ c v h ao n cap
  have hb : Below w.heap.size w W := by rw [hW]; exact (Below.refl _ _).alloc (Nat.le_refl _) _
  have HA := hide (hs.below hb)
  have HB0 := hide hb
  clear hs hb hf hk hc hv hh HMB
  go_enter Try.func80, Try.ntmps80
  go_wp2_with fail
  rw [← hW]
  refine (headof ao n cap k c v h _).mono ?_
  rintro e w1 ⟨rfl, b1⟩
  have H1 : Hid (MB w1 w.heap.size 40 k c v h ao n cap ∧ SL .i64 w1 ao n f ∧ Below w.heap.size w w1) := ⟨M1.below b1 M1.lt, HA.out.below b1, HB0.out.trans (b1.mono HB0.out.size)⟩
  clear hW M1 HA HB0 b1
  go_wp2_with fail
  obtain ⟨W, hW⟩ : ∃ W, W = w1.alloc (.cells #[.int .i64 k, .int .i64 c, .int .i64 v, .int .i64 h] 124) := ⟨_, rfl⟩
  rw [← hW]
  have bW : Below w1.heap.size w1 W := by rw [hW]; exact (Below.refl _ _).alloc (Nat.le_refl _) _
  have H5 : Hid (MB W.drew w.heap.size 40 k c v h ao n cap ∧ SL .i64 W.drew ao n f ∧ Below w.heap.size w W.drew ∧ SL .i64 W.drew (some ⟨w1.heap.size, 0, none⟩) 4 (fun i => [k, c, v, h].getD i 0)) := by
    have bD := Below.drawn bW 1
    refine ⟨H1.out.1.below bD H1.out.1.lt, H1.out.2.1.below bD, H1.out.2.2.trans (bD.mono H1.out.2.2.size), fun i hi => ⟨w1.heap.size, 0, rfl, ?_, ?_⟩⟩
    · show w1.heap.size < W.heap.size
      rw [hW]; simp
    · have hblk : W.heap[w1.heap.size]? = some (.cells #[.int .i64 k, .int .i64 c, .int .i64 v, .int .i64 h] 124 (0, 0)) := by rw [hW]; exact Deep.blk_alloc_new _ _
      show W.cell? _ = _
      obtain rfl | rfl | rfl | rfl : i = 0 ∨ i = 1 ∨ i = 2 ∨ i = 3 := by omega
      · exact blk_cell hblk rfl
      · exact blk_cell hblk rfl
      · exact blk_cell hblk rfl
      · exact blk_cell hblk rfl
  have m4 := (show MB W w.heap.size 40 k c v h ao n cap from H5.out.1).cells.2.2.2.2
  generalize w1.heap.size = hb at *
  clear hW bW H1
  go_region_held3 (fun w' => w'.cell? ⟨w.heap.size, 4, none⟩ = some (.slice ao n cap)) (first | assumption | exact m4 | exact H8'.out) (first
    | (go_at_call 53; refine (bconcat3 w8.heap.size a6 a7 a8 c6 c7 c8 L0 L1 L2 _ (by omega) (Deep.blk_alloc_new _ _) (H8.out.2.2.1.below H8a.out) (H8.out.2.2.2.1.below H8a.out) (H8.out.2.2.2.2.below H8a.out)).mono ?_; rintro e w9 ⟨v9, rfl, o9, b9⟩; have H9 : Hid (w9.ownsRow w.heap.size 5 1 v9 (L0 ++ L1 ++ L2).length ((L0 ++ L1 ++ L2).map (.int .u8)) ∧ Below w.heap.size w w9) := ⟨gmono o9 (Nat.le_trans H8.out.2.1.size H8a.out.size), (H8.out.2.1.trans (H8a.out.mono H8.out.2.1.size)).trans (b9.mono (Nat.le_trans H8.out.2.1.size H8a.out.size))⟩; have hk9 := (((H8.out.1.below H8a.out H8.out.1.lt)).below b9 (Nat.lt_of_lt_of_le H8.out.1.lt H8a.out.size)).cells.2.2.2.2; clear o9 b9)
    | (go_at_call 113; refine (hG.out w7 H7.out.2.1).mono ?_; rintro e w8 ⟨v8, rfl, o8, b8⟩; obtain ⟨a8, c8, rfl⟩ := (Src.of_owns o8).form; have H8 : Hid (MB w8 w.heap.size 40 k c v h ao n cap ∧ Below w.heap.size w w8 ∧ Src .u8 w8 (.slice a6 L0.length c6) L0 ∧ Src .u8 w8 (.slice a7 L1.length c7) L1 ∧ Src .u8 w8 (.slice a8 L2.length c8) L2) := ⟨H7.out.1.below b8 H7.out.1.lt, H7.out.2.2.1.trans (b8.mono H7.out.2.2.1.size), H7.out.2.2.2.1.below b8, H7.out.2.2.2.2.below b8, Src.of_owns o8⟩; have hk8 := H8.out.1.cells.2.2.2.2; have H8a : Hid (Below w8.heap.size w8 (w8.alloc (.cells #[.slice a6 L0.length c6, .slice a7 L1.length c7, .slice a8 L2.length c8] 22))) := (Below.refl _ _).alloc (Nat.le_refl _) _; have H8' := hide ((H8.out.1.below H8a.out H8.out.1.lt).cells.2.2.2.2); clear o8 b8)
    | (go_at_call 54; refine (hP.out w6).mono ?_; rintro e w7 ⟨v7, rfl, o7, b7⟩; obtain ⟨a7, c7, rfl⟩ := (Src.of_owns o7).form; have H7 : Hid (MB w7 w.heap.size 40 k c v h ao n cap ∧ SL .i64 w7 ao n f ∧ Below w.heap.size w w7 ∧ Src .u8 w7 (.slice a6 L0.length c6) L0 ∧ Src .u8 w7 (.slice a7 L1.length c7) L1) := ⟨H6.out.1.below b7 H6.out.1.lt, H6.out.2.1.below b7, H6.out.2.2.1.trans (b7.mono H6.out.2.2.1.size), H6.out.2.2.2.below b7, Src.of_owns o7⟩; have hk7 := H7.out.1.cells.2.2.2.2; clear o7 b7)
    | (go_at_call 113; refine (hA.out W.drew _ H5.out.2.2.2).mono ?_; rintro e w6 ⟨v6, rfl, o6, b6⟩; obtain ⟨a6, c6, rfl⟩ := (Src.of_owns o6).form; have H6 : Hid (MB w6 w.heap.size 40 k c v h ao n cap ∧ SL .i64 w6 ao n f ∧ Below w.heap.size w w6 ∧ Src .u8 w6 (.slice a6 L0.length c6) L0) := ⟨H5.out.1.below b6 H5.out.1.lt, H5.out.2.1.below b6, H5.out.2.2.1.trans (b6.mono H5.out.2.2.1.size), Src.of_owns o6⟩; have hk6 := H6.out.1.cells.2.2.2.2; clear o6 b6))
  go_wp2
  go_ret
  exact ⟨_, rfl, H9.out⟩
end Go.Proofs.Ytkeojhnifnkpiaa

/- At every row of bytes and every place MsgOf of the program answers what MsgOf of the model does, writes into no argument, and its answer owns its memory; there is no condition. -/
import Derived.Test.YthhkmfgccbkkhaaRows
import Derived.WalkKit
import Derived.ProofKit
import Derived.OpenShut
import Derived.ShutString
import Derived.Test.YthhkmfgccbkkhaaMofI3
import Derived.Test.YthhkmfgccbkkhaaMofS
import Derived.Test.YthhkmfgccbkkhaaMofL
import Derived.Test.YthhkmfgccbkkhaaByt
import Derived.Test.YthhkmfgccbkkhaaMarkB
import Derived.ChangeOld
import Derived.Below
namespace Go.Proofs.Ythhkmfgccbkkhaa.fnExactMsgOf
open Go.ChangeShapes Go.WideShapes Go.ChangeAt Go.RowKit
open Go.ChangeMaps (open_string shut_string)
set_option linter.unusedVariables false

theorem own : ownKnob Try.prog.godebug = none := by kernel_rfl
theorem laidOut : laidOutB Try.prog = true := by kernel_rfl

/-- WHAT THE WALK IS TOLD OF A SLICE OF INTEGERS THAT CAME IN: it is nil; or it leads to a row of 'cap' cells, the numbers 'zs' (the first 'len' are its elements, the rest its spare room), each fitting its kind. -/
def IsRow (k : IntKind) (w : World) (a : Option Addr) (len cap : Nat) (zs : List Int) : Prop :=
  (a = none ∧ len = 0 ∧ cap = 0 ∧ zs = []) ∨
  ∃ x, a = some x ∧ len ≤ cap ∧ cap ≤ maxLen ∧ zs.length = cap ∧ (∀ i, i < zs.length → w.cell? (x.add i) = some (.int k (zs.getD i 0))) ∧ ∀ n ∈ zs, (Lit.int k n).wf = true

/-- A message and a place, whatever is asked: both functions answer the same, each in memory of its own. -/
theorem both (f : Nat → Int) (n : Nat) (p : Int) (hn : n ≤ 1048576) (hp0 : -9223372036854775808 ≤ p) (hp : p ≤ 9223372036854775807) (hf : ∀ i, i < n → 0 ≤ f i ∧ f i ≤ 255) : ∃ (k c v d x : Int) (b : Bool) (m : Nat) (g : Nat → Int), m ≤ 1048576 ∧
    (∀ w ao cap, n ≤ cap → SL .u8 w ao n f → Calls Try.prog 14 #[.slice ao n cap, .int .i64 p] w fun e w' => ∃ ro rc, e = .returned (.tuple #[.agg #[.int .i64 k, .int .i64 c, .int .i64 v, .int .i64 d, .slice ro m rc], .int .i64 x, .bool b]) ∧ Own w' w.heap.size 3 ro m (fun i => .int .i64 (g i)) ∧ Below w.heap.size w w') ∧
    (∀ w ao cap, n ≤ cap → SL .u8 w ao n f → Calls Try.prog 13 #[.slice ao n cap, .int .i64 p] w fun e w' => ∃ ro rc, e = .returned (.tuple #[.agg #[.int .i64 k, .int .i64 c, .int .i64 v, .int .i64 d, .slice ro m rc], .int .i64 x, .bool b]) ∧ Own w' w.heap.size 3 ro m (fun i => .int .i64 (g i)) ∧ Below w.heap.size w w') := by
  by_cases hB : ∃ k c v d G, Begins n f p k c v d G
  · obtain ⟨k, c, v, d, G, hB⟩ := hB
    have hG := (mok_bd hB.2.1).1
    refine ⟨k, c, v, d, p + (mb k c v d (fun i => G.getD i 0) G.length).length, true, G.length, fun i => G.getD i 0, by omega, fun w ao cap hc hs => (msgof_spec ao n cap p f w hn hc hp0 hp hs hf).mono ?_, fun w ao cap hc hs => (msgof_impl ao n cap p f w hn hc hp0 hp hs hf).mono ?_⟩
    all_goals
      rintro e w' ⟨h, hb⟩
      rcases h with ⟨k', c', v', d', G', ro, rc, hB', rfl, _, ho⟩ | ⟨hno, _⟩
      · obtain ⟨rfl, rfl, rfl, rfl, rfl⟩ := begins_one hB hB'
        exact ⟨ro, rc, rfl, ho, hb⟩
      · exact absurd ⟨k, c, v, d, G, hB⟩ hno
  · refine ⟨0, 0, 0, 0, 0, false, 0, fun _ => 0, by omega, fun w ao cap hc hs => (msgof_spec ao n cap p f w hn hc hp0 hp hs hf).mono ?_, fun w ao cap hc hs => (msgof_impl ao n cap p f w hn hc hp0 hp hs hf).mono ?_⟩
    all_goals
      rintro e w' ⟨h, hb⟩
      rcases h with ⟨k', c', v', d', G', ro, rc, hB', _⟩ | ⟨_, rfl⟩
      · exact absurd ⟨k', c', v', d', G', hB'⟩ hB
      · exact ⟨none, 0, rfl, .inl rfl, hb⟩

set_option maxHeartbeats 1000000 in
set_option maxRecDepth 100000 in
theorem walk (a0 : Option Addr) (len0 cap0 : Nat) (z0 : List Int) (a1 : Int) (w : World) (w0 : IsRow .u8 w a0 len0 cap0 z0) (w1 : (Lit.int .i64 a1).wf = true) :
    Calls Try.prog 6 #[.slice a0 len0 cap0, .int .i64 a1] w fun e w' => e = .returned (.bool true) ∧ Below w.heap.size w w' := by
  obtain ⟨f, hs, hf0⟩ := view w0
  have hf := view_u8 hf0
  have hp : -9223372036854775808 ≤ a1 ∧ a1 ≤ 9223372036854775807 := bounds_i64 w1
  clear w0 w1 hf0
  by_cases hn : len0 ≤ 1048576
  · obtain ⟨k, c, v, d, x, b, m, g, hm', hspec0, himpl0⟩ := both f len0 a1 hn hp.1 hp.2 hf
    generalize hF : (fun i => Value.int .i64 (g i)) = F at hspec0 himpl0
    have HF := hide hF
    have hspec := hide hspec0
    have himpl := hide himpl0
    have HS := hide hs
    clear hs hF hspec0 himpl0 hf
    go_enter Try.func6, Try.ntmps6
    go_wp2_with fail
    refine (to_any a0 len0 cap0 f _ hn HS.out).mono ?_
    rintro e w1 ⟨rfl, r1, b1⟩
    have R1 := hide r1
    have B1 := hide b1
    clear r1 b1
    go_wp2_with fail
    refine (hspec.out _ _ _ (Nat.le_refl _) (SL.row R1.out)).mono ?_
    rintro e w2 ⟨ao, rc0, rfl, o2, b2⟩
    have H2 : Hid (Below w.heap.size w (w2.alloc (.cells #[.int .i64 k, .int .i64 c, .int .i64 v, .int .i64 d, .slice ao m rc0] 26)) ∧ MB (w2.alloc (.cells #[.int .i64 k, .int .i64 c, .int .i64 v, .int .i64 d, .slice ao m rc0] 26)) w2.heap.size 26 k c v d ao m rc0 ∧ Own (w2.alloc (.cells #[.int .i64 k, .int .i64 c, .int .i64 v, .int .i64 d, .slice ao m rc0] 26)) w1.heap.size 3 ao m F ∧ (∀ g', ao = some ⟨g', 0, none⟩ → m = 0 ∨ g' < w2.heap.size)) := by
      have ba : Below w2.heap.size w2 (w2.alloc (.cells #[.int .i64 k, .int .i64 c, .int .i64 v, .int .i64 d, .slice ao m rc0] 26)) := (Below.refl _ _).alloc (Nat.le_refl _) _
      refine ⟨(B1.out.trans (b2.mono B1.out.size)).trans (ba.mono (Nat.le_trans B1.out.size b2.size)), MB.new _ _ _ _ _ _ _ _ _, o2.below ba, fun g' hg => ?_⟩
      rcases o2 with o | ⟨g2, e, _, c, hc, _⟩
      · exact .inl o
      · rw [e] at hg; simp at hg; subst hg; exact .inr (Array.getElem?_eq_some_iff.1 hc).1
    have HW : Hid (w.heap.size < w2.heap.size ∧ w1.heap.size ≤ w2.heap.size) := ⟨Nat.lt_of_lt_of_le R1.out.lt b2.size, b2.size⟩
    clear o2 b2 R1 B1
    go_wp2_with fail
    refine (to_any a0 len0 cap0 f _ hn (HS.out.below H2.out.1)).mono ?_
    rintro e w3 ⟨rfl, r3, b3⟩
    have H3 : Hid (Below w.heap.size w w3 ∧ MB w3 w2.heap.size 26 k c v d ao m rc0 ∧ Own w3 w1.heap.size 3 ao m F ∧ w3.rowIs (w2.heap.size + 1) 5 len0 (fun i => .int .u8 (f i)) ∧ w2.heap.size + 1 < w3.heap.size) := by
      rw [show (w2.alloc (.cells #[.int .i64 k, .int .i64 c, .int .i64 v, .int .i64 d, .slice ao m rc0] 26)).heap.size = w2.heap.size + 1 by simp] at r3
      exact ⟨H2.out.1.trans (b3.mono H2.out.1.size), H2.out.2.1.below b3 H2.out.2.1.lt, H2.out.2.2.1.below b3, r3, r3.lt⟩
    have L2 := hide H2.out.2.2.2
    clear r3 b3 H2
    go_wp2_with fail
    refine (himpl.out _ _ _ (Nat.le_refl _) (SL.row H3.out.2.2.2.1)).mono ?_
    rintro e w4 ⟨bo, rc1, rfl, o4, b4⟩
    obtain ⟨A0, hA0⟩ : ∃ A0, A0 = w2.heap.size := ⟨_, rfl⟩
    obtain ⟨A1, hA1⟩ : ∃ A1, A1 = w4.heap.size := ⟨_, rfl⟩
    obtain ⟨B3, hB3⟩ : ∃ B3, B3 = w3.heap.size := ⟨_, rfl⟩
    have hL4 : ∀ g', bo = some ⟨g', 0, none⟩ → m = 0 ∨ (g' < A1 ∧ B3 ≤ g') := fun g' hg => by
      rcases o4 with o | ⟨g2, e, hB, c, hc, _⟩
      · exact .inl o
      · rw [e] at hg; simp at hg; subst hg; exact .inr ⟨by rw [hA1]; exact (Array.getElem?_eq_some_iff.1 hc).1, by rw [hB3]; exact hB⟩
    have H4 : Hid ((Below w.heap.size w (w4.alloc (.cells #[.int .i64 k, .int .i64 c, .int .i64 v, .int .i64 d, .slice bo m rc1] 26)) ∧ MB (w4.alloc (.cells #[.int .i64 k, .int .i64 c, .int .i64 v, .int .i64 d, .slice bo m rc1] 26)) A0 26 k c v d ao m rc0 ∧ MB (w4.alloc (.cells #[.int .i64 k, .int .i64 c, .int .i64 v, .int .i64 d, .slice bo m rc1] 26)) A1 26 k c v d bo m rc1 ∧ Own (w4.alloc (.cells #[.int .i64 k, .int .i64 c, .int .i64 v, .int .i64 d, .slice bo m rc1] 26)) w1.heap.size 3 ao m F ∧ Own (w4.alloc (.cells #[.int .i64 k, .int .i64 c, .int .i64 v, .int .i64 d, .slice bo m rc1] 26)) B3 3 bo m F) ∧ (w4.alloc (.cells #[.int .i64 k, .int .i64 c, .int .i64 v, .int .i64 d, .slice bo m rc1] 26)).rowIs (A0 + 1) 5 len0 (fun i => .int .u8 (f i))) := by
      have ba : Below w4.heap.size w4 (w4.alloc (.cells #[.int .i64 k, .int .i64 c, .int .i64 v, .int .i64 d, .slice bo m rc1] 26)) := (Below.refl _ _).alloc (Nat.le_refl _) _
      have bb : Below w3.heap.size w3 (w4.alloc (.cells #[.int .i64 k, .int .i64 c, .int .i64 v, .int .i64 d, .slice bo m rc1] 26)) := b4.trans (ba.mono b4.size)
      rw [hA0, hA1, hB3]
      exact ⟨⟨H3.out.1.trans (bb.mono H3.out.1.size), H3.out.2.1.below bb H3.out.2.1.lt, MB.new _ _ _ _ _ _ _ _ _, H3.out.2.2.1.below bb, o4.below ba⟩, row_below H3.out.2.2.2.1 bb H3.out.2.2.2.1.lt⟩
    have HN : Hid (A0 + 1 < B3 ∧ B3 ≤ A1 ∧ w.heap.size < A0 ∧ w1.heap.size ≤ A0) := by
      rw [hA0, hA1, hB3]
      exact ⟨H3.out.2.2.2.2, b4.size, HW.out.1, HW.out.2⟩
    have L0 : Hid (∀ g', ao = some ⟨g', 0, none⟩ → m = 0 ∨ g' < A0) := fun g' hg => by rw [hA0]; exact L2.out g' hg
    have L4 := hide hL4
    obtain ⟨p0, p1, p2, p3, p4⟩ := (H3.out.2.1.below b4 H3.out.2.1.lt).cells
    have plt : w2.heap.size < w4.heap.size := Nat.lt_of_lt_of_le H3.out.2.1.lt b4.size
    have pne : ¬ w2.heap.size = w4.heap.size := by omega
    go_wp2_with fail
    clear p0 p1 p2 p3 p4 plt pne
    rw [← hA0, ← hA1]
    clear hA0 hA1 hB3 hL4 o4 b4 H3 L2
    refine (eq_msg bo ao m rc1 rc0 g g k c v d _ hm' (Own.sl (HF.out ▸ H4.out.1.2.2.2.2)) (Own.sl (HF.out ▸ H4.out.1.2.2.2.1)) (fun _ _ => rfl)).mono ?_
    rintro e w5 ⟨rfl, b5⟩
    have H5 : Hid ((Below w.heap.size w w5 ∧ MB w5 A0 26 k c v d ao m rc0 ∧ MB w5 A1 26 k c v d bo m rc1 ∧ Own w5 w1.heap.size 3 ao m F ∧ Own w5 B3 3 bo m F) ∧ w5.rowIs (A0 + 1) 5 len0 (fun i => .int .u8 (f i))) := ⟨⟨H4.out.1.1.trans (b5.mono H4.out.1.1.size), H4.out.1.2.1.below b5 H4.out.1.2.1.lt, H4.out.1.2.2.1.below b5 H4.out.1.2.2.1.lt, H4.out.1.2.2.2.1.below b5, H4.out.1.2.2.2.2.below b5⟩, row_below H4.out.2 b5 H4.out.2.lt⟩
    clear b5 H4
    go_wp2_with fail
    refine (to_any a0 len0 cap0 f _ hn (HS.out.below H5.out.1.1)).mono ?_
    rintro e w6 ⟨rfl, r6, b6⟩
    have H6 : Hid ((Below w.heap.size w w6 ∧ MB w6 A0 26 k c v d ao m rc0 ∧ MB w6 A1 26 k c v d bo m rc1 ∧ Own w6 w1.heap.size 3 ao m F ∧ Own w6 B3 3 bo m F) ∧ w6.rowIs (A0 + 1) 5 len0 (fun i => .int .u8 (f i)) ∧ w6.rowIs w5.heap.size 5 len0 (fun i => .int .u8 (f i))) := ⟨⟨H5.out.1.1.trans (b6.mono H5.out.1.1.size), H5.out.1.2.1.below b6 H5.out.1.2.1.lt, H5.out.1.2.2.1.below b6 H5.out.1.2.2.1.lt, H5.out.1.2.2.2.1.below b6, H5.out.1.2.2.2.2.below b6⟩, row_below H5.out.2 b6 H5.out.2.lt, r6⟩
    clear b6 r6 H5
    go_wp2_with fail
    refine (eq_yes _ _ _ _ _ f f _ hn (SL.row H6.out.2.1) (SL.row H6.out.2.2) (fun _ _ => rfl)).mono ?_
    rintro e w6' ⟨rfl, q6, hw6⟩
    rw [hw6]
    clear hw6
    go_wp2_with fail
    refine (mark_row (A0 + 1) len0 _ 1 _ _ hn (by decide) (by decide) (show (w6.drewN q6).rowIs (A0 + 1) 5 len0 (fun i => .int .u8 (f i)) from H6.out.2.1)).mono ?_
    rintro e w7 ⟨rfl, _, y7⟩
    have H7 : Hid (Below w.heap.size w w7 ∧ MB w7 A0 26 k c v d ao m rc0 ∧ MB w7 A1 26 k c v d bo m rc1 ∧ Own w7 w1.heap.size 3 ao m F ∧ Own w7 B3 3 bo m F) := by
      have hN := HN.out
      refine ⟨(Below.drawn H6.out.1.1 q6).trans (y7.1.mono (by omega)), (y7.2.2 A0 (by omega)).trans H6.out.1.2.1, (y7.2.2 A1 (by omega)).trans H6.out.1.2.2.1, ?_, y7.own (H6.out.1.2.2.2.2.drawn q6) (by omega)⟩
      rcases (Nat.eq_zero_or_pos m) with h0 | h0
      · exact .inl h0
      · exact y7.own' (H6.out.1.2.2.2.1.drawn q6) (fun g' hg => by rcases L0.out g' hg with h | h; omega; omega)
    clear y7 H6
    obtain ⟨m0, m1, m2, m3, m4⟩ := H7.out.2.1.cells
    obtain ⟨n0, n1, n2, n3, n4⟩ := H7.out.2.2.1.cells
    go_wp2_with fail
    refine (eq_msg bo ao m rc1 rc0 g g k c v d _ hm' (Own.sl (HF.out ▸ H7.out.2.2.2.2)) (Own.sl (HF.out ▸ H7.out.2.2.2.1)) (fun _ _ => rfl)).mono ?_
    rintro e w8 ⟨rfl, b8⟩
    have H8 : Hid (Below w.heap.size w w8 ∧ MB w8 A0 26 k c v d ao m rc0 ∧ MB w8 A1 26 k c v d bo m rc1 ∧ Own w8 w1.heap.size 3 ao m F ∧ Own w8 B3 3 bo m F) := ⟨H7.out.1.trans (b8.mono H7.out.1.size), H7.out.2.1.below b8 H7.out.2.1.lt, H7.out.2.2.1.below b8 H7.out.2.2.1.lt, H7.out.2.2.2.1.below b8, H7.out.2.2.2.2.below b8⟩
    have HB8 : Hid (B3 ≤ w8.heap.size) := Nat.le_trans (Nat.le_trans HN.out.2.1 (Nat.le_of_lt H7.out.2.2.1.lt)) b8.size
    clear b8 H7
    clear m0 m1 m2 m3 m4 n0 n1 n2 n3 n4
    obtain ⟨m0, m1, m2, m3, m4⟩ := H8.out.2.1.cells
    obtain ⟨n0, n1, n2, n3, n4⟩ := H8.out.2.2.1.cells
    go_wp2_with fail
    refine (mark_msg_own bo m rc1 B3 k c v d 1 F _ hm' (by decide) (by decide) HB8.out H8.out.2.2.2.2).mono ?_
    rintro e w9 ⟨rfl, o9, b9, k9⟩
    have H9 : Hid (Below w.heap.size w w9 ∧ MB w9 A0 26 k c v d ao m rc0 ∧ MB w9 A1 26 k c v d bo m rc1 ∧ Own w9 w1.heap.size 3 ao m F ∧ Own w9 B3 3 bo m (fun j => .int .i64 (1 + (j : Int)))) := by
      have hN := HN.out
      refine ⟨H8.out.1.trans (b9.mono (by omega)), H8.out.2.1.below b9 (by omega), (k9 A1 H8.out.2.2.1.lt (fun g' hg => by rcases L4.out g' hg with h | h; exact .inl h; right; omega)).trans H8.out.2.2.1, ?_, o9⟩
      rcases H8.out.2.2.2.1 with h0 | ⟨g', ea, hB', cc, hc, hs', hF'⟩
      · exact .inl h0
      · rcases L0.out g' ea with h | h
        · exact .inl h
        · exact .inr ⟨g', ea, hB', cc, (b9.block g' (by omega)).trans hc, hs', hF'⟩
    clear o9 b9 k9 H8 HB8
    clear m0 m1 m2 m3 m4 n0 n1 n2 n3 n4
    obtain ⟨m0, m1, m2, m3, m4⟩ := H9.out.2.1.cells
    obtain ⟨n0, n1, n2, n3, n4⟩ := H9.out.2.2.1.cells
    go_wp2_with fail
    refine (held_msg bo m rc1 k c v d 1 _ hm' (by decide) (by decide) H9.out.2.2.2.2.sl).mono ?_
    rintro e w10 ⟨rfl, b10⟩
    have H10 : Hid (Below w.heap.size w w10 ∧ MB w10 A0 26 k c v d ao m rc0 ∧ MB w10 A1 26 k c v d bo m rc1 ∧ Own w10 w1.heap.size 3 ao m F ∧ Own w10 B3 3 bo m (fun j => .int .i64 (1 + (j : Int)))) := ⟨H9.out.1.trans (b10.mono H9.out.1.size), H9.out.2.1.below b10 H9.out.2.1.lt, H9.out.2.2.1.below b10 H9.out.2.2.1.lt, H9.out.2.2.2.1.below b10, H9.out.2.2.2.2.below b10⟩
    clear b10 H9
    clear m0 m1 m2 m3 m4 n0 n1 n2 n3 n4
    go_wp2_with fail
    refine (to_any a0 len0 cap0 f _ hn (HS.out.below H10.out.1)).mono ?_
    rintro e w11 ⟨rfl, r11, b11⟩
    have H11 : Hid ((Below w.heap.size w w11 ∧ MB w11 A0 26 k c v d ao m rc0 ∧ MB w11 A1 26 k c v d bo m rc1 ∧ Own w11 w1.heap.size 3 ao m F ∧ Own w11 B3 3 bo m (fun j => .int .i64 (1 + (j : Int)))) ∧ w11.rowIs w10.heap.size 5 len0 (fun i => .int .u8 (f i))) := ⟨⟨H10.out.1.trans (b11.mono H10.out.1.size), H10.out.2.1.below b11 H10.out.2.1.lt, H10.out.2.2.1.below b11 H10.out.2.2.1.lt, H10.out.2.2.2.1.below b11, H10.out.2.2.2.2.below b11⟩, r11⟩
    clear r11 b11 H10
    go_wp2_with fail
    refine (himpl.out _ _ _ (Nat.le_refl _) (SL.row H11.out.2)).mono ?_
    rintro e w12 ⟨co, rc2, rfl, o12, b12⟩
    obtain ⟨A2, hA2⟩ : ∃ A2, A2 = w12.heap.size := ⟨_, rfl⟩
    have H12 : Hid ((Below w.heap.size w (w12.alloc (.cells #[.int .i64 k, .int .i64 c, .int .i64 v, .int .i64 d, .slice co m rc2] 26)) ∧ MB (w12.alloc (.cells #[.int .i64 k, .int .i64 c, .int .i64 v, .int .i64 d, .slice co m rc2] 26)) A0 26 k c v d ao m rc0 ∧ MB (w12.alloc (.cells #[.int .i64 k, .int .i64 c, .int .i64 v, .int .i64 d, .slice co m rc2] 26)) A1 26 k c v d bo m rc1 ∧ Own (w12.alloc (.cells #[.int .i64 k, .int .i64 c, .int .i64 v, .int .i64 d, .slice co m rc2] 26)) w1.heap.size 3 ao m F ∧ Own (w12.alloc (.cells #[.int .i64 k, .int .i64 c, .int .i64 v, .int .i64 d, .slice co m rc2] 26)) B3 3 bo m (fun j => .int .i64 (1 + (j : Int)))) ∧ MB (w12.alloc (.cells #[.int .i64 k, .int .i64 c, .int .i64 v, .int .i64 d, .slice co m rc2] 26)) A2 26 k c v d co m rc2 ∧ Own (w12.alloc (.cells #[.int .i64 k, .int .i64 c, .int .i64 v, .int .i64 d, .slice co m rc2] 26)) w11.heap.size 3 co m F) := by
      have ba : Below w12.heap.size w12 (w12.alloc (.cells #[.int .i64 k, .int .i64 c, .int .i64 v, .int .i64 d, .slice co m rc2] 26)) := (Below.refl _ _).alloc (Nat.le_refl _) _
      have bb : Below w11.heap.size w11 (w12.alloc (.cells #[.int .i64 k, .int .i64 c, .int .i64 v, .int .i64 d, .slice co m rc2] 26)) := b12.trans (ba.mono b12.size)
      rw [hA2]
      exact ⟨⟨H11.out.1.1.trans (bb.mono H11.out.1.1.size), H11.out.1.2.1.below bb H11.out.1.2.1.lt, H11.out.1.2.2.1.below bb H11.out.1.2.2.1.lt, H11.out.1.2.2.2.1.below bb, H11.out.1.2.2.2.2.below bb⟩, MB.new _ _ _ _ _ _ _ _ _, o12.below ba⟩
    obtain ⟨p0, p1, p2, p3, p4⟩ := (H11.out.1.2.1.below b12 H11.out.1.2.1.lt).cells
    have plt : A0 < w12.heap.size := Nat.lt_of_lt_of_le H11.out.1.2.1.lt b12.size
    have pne : ¬ A0 = w12.heap.size := by omega
    go_wp2_with fail
    clear p0 p1 p2 p3 p4 plt pne
    rw [← hA2]
    clear hA2 o12 b12 H11 himpl
    refine (eq_msg co ao m rc2 rc0 g g k c v d _ hm' (Own.sl (HF.out ▸ H12.out.2.2)) (Own.sl (HF.out ▸ H12.out.1.2.2.2.1)) (fun _ _ => rfl)).mono ?_
    rintro e w13 ⟨rfl, b13⟩
    have H13 : Hid (Below w.heap.size w w13 ∧ MB w13 A0 26 k c v d ao m rc0 ∧ MB w13 A1 26 k c v d bo m rc1 ∧ Own w13 w1.heap.size 3 ao m F ∧ Own w13 B3 3 bo m (fun j => .int .i64 (1 + (j : Int)))) := ⟨H12.out.1.1.trans (b13.mono H12.out.1.1.size), H12.out.1.2.1.below b13 H12.out.1.2.1.lt, H12.out.1.2.2.1.below b13 H12.out.1.2.2.1.lt, H12.out.1.2.2.2.1.below b13, H12.out.1.2.2.2.2.below b13⟩
    clear b13 H12
    obtain ⟨m0, m1, m2, m3, m4⟩ := H13.out.2.1.cells
    obtain ⟨n0, n1, n2, n3, n4⟩ := H13.out.2.2.1.cells
    go_wp2_with fail
    refine (held_msg bo m rc1 k c v d 1 _ hm' (by decide) (by decide) H13.out.2.2.2.2.sl).mono ?_
    rintro e w14 ⟨rfl, b14⟩
    have H14 := hide (H13.out.1.trans (b14.mono H13.out.1.size))
    clear b14 H13
    go_wp2
    go_ret
    exact ⟨rfl, H14.out⟩
  · go_enter Try.func6, Try.ntmps6
    go_wp2
    go_ret
    exact ⟨rfl, Below.refl _ _⟩

set_option maxRecDepth 100000 in
theorem lifted (os : Os) (started : os.Started) (H : Type) (enc : TypeId × Value → H) :
    ReturnsInHanded {} Try.checked os 6 .any (Rows.fnExactMsgOfSpec.pre6 enc Try.prog Try.f6 Rows.fnExactMsgOfRow.domain false) (Rows.fnExactMsgOfSpec.post enc Try.prog Try.f6 false true false false) := by
  refine returnsInHanded_of_change (C := Try.checked) own started (by kernel_rfl) Try.func6
    (ChangeSpec.witness6 (enc := enc) (C := Try.checked) false ⟨#[], #[.slice none 0 0, .int .i64 0], []⟩ 8 (by kernel_rfl) (by kernel_rfl) (by kernel_rfl) (by kernel_rfl)) ?_
  intro W base args ds gs before hval0 hW hcnd _
  have hval : ∀ (j : Nat) t v, Try.f6.params[j]? = some t → args[j]? = some v → Value.okWide Try.prog W .any base t v := hval0
  have hW' := hW
  obtain ⟨p, q, hA0, hV, rfl, hfz, hnd⟩ := hW
  have hA : DataW.TrodAll enc Try.prog W 0 (fun _ => true) true Try.f6.params.toList args.toList ds p := hA0
  rw [Try.params6] at hA hval
  obtain ⟨v0, vs0, d0, ds0, p0, q0, hargs, rfl, rfl, h0, r0⟩ := trodAll_cons hA
  obtain ⟨v1, vs1, d1, ds1, p1, q1, rfl, rfl, rfl, h1, r1⟩ := trodAll_cons r0
  obtain ⟨rfl, rfl, rfl⟩ := trodAll_nil r1
  obtain rfl : args = #[v0, v1] := by cases args; simp_all
  obtain ⟨rfl, rfl⟩ := trodVars_none hV
  obtain ⟨a0, len0, cap0, rfl⟩ := okWide_slice Try.underlying22 (hval 0 22 v0 rfl rfl)
  have k0 := h0
  have lt0 : ∀ x ∈ p0, x.block < W.heap.size := by obtain ⟨m, hm⟩ := k0; exact DataW.trod_lt m _ _ _ hm
  obtain ⟨z0, w0⟩ : ∃ zs, IsRow .u8 W a0 len0 cap0 zs := by
    obtain ⟨fuel, hf⟩ := h0
    rcases open_ints Try.underlying22 Try.underlying5 (by kernel_rfl) hf with ⟨hcs, _⟩ | ⟨x, l, c, zs, hcs, _, hl, hm, hz, _, hcell, hwz⟩
    · simp [Value.cells] at hcs
      obtain ⟨rfl, rfl, rfl⟩ := hcs
      exact ⟨[], .inl ⟨rfl, rfl, rfl, rfl⟩⟩
    · simp [Value.cells] at hcs
      obtain ⟨rfl, rfl, rfl⟩ := hcs
      exact ⟨zs, .inr ⟨_, rfl, hl, hm, by simpa using hz, hcell, hwz⟩⟩
  obtain ⟨a1, rfl, rfl, rfl, w1⟩ := open_int Try.underlying3 (hval 1 3 v1 rfl rfl) h1
  clear hA0 hval0
  refine (walk a0 len0 cap0 z0 a1 W w0 w1).mono fun e W' ⟨he, bel⟩ => ?_
  subst he
  exact ⟨_, rfl, _, _, _, [], _, [], hW', trodAll_mk1 (shut_bool Try.underlying4 _), (trodAll_cons_mk (Below.trod laidOut (by kernel_rfl) (of_decide_eq_true (by kernel_rfl)) k0 bel lt0) (trodAll_cons_mk (shut_int Try.underlying3 w1) trodAll_mk0)), rfl, bel.frame _, fun h => by cases h⟩

theorem over : Rows.fnExactMsgOfRow.holds Try.pinned (OpenSpec.ofChange Rows.fnExactMsgOfSpec) :=
  OpenClaim.holds_of_wide 6 Try.f6 rfl rfl rfl rfl rfl rfl rfl ⟨rfl, rfl, rfl, rfl, rfl⟩ rfl rfl rfl rfl rfl (by kernel_rfl) Try.func6 (by kernel_rfl)
    (of_decide_eq_true (by kernel_rfl)) (by unfold Func.isWrapper; first | (rw [if_pos (by decide +kernel)]; kernel_rfl) | (rw [if_neg (by decide +kernel)]; exact ⟨rfl, rfl⟩))
    (fun os started H enc _ => lifted os started H enc)

theorem proved : Rows.FnExactMsgOfSaid := over
end Go.Proofs.Ythhkmfgccbkkhaa.fnExactMsgOf
namespace Go.Proofs.Ythhkmfgccbkkhaa
theorem fnExactMsgOf_holds : Rows.FnExactMsgOfSaid := fnExactMsgOf.proved
end Go.Proofs.Ythhkmfgccbkkhaa

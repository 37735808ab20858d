/- Messages as the laws hand them on: szMsg, toMsg, eqMsg, markMsg, heldMsg. -/
import Derived.Test.YthhkmfgccbkkhaaIntM
import Derived.Test.YthhkmfgccbkkhaaMarkM
import Derived.Test.YthhkmfgccbkkhaaBodS
namespace Go.Proofs.Ythhkmfgccbkkhaa
open Go.ChangeShapes Go.WideShapes Go.ChangeAt Go.RowKit
set_option linter.unusedVariables false
set_option linter.unusedSimpArgs false

theorem szi_yes (ao : Option Addr) (n cap : Nat) (x : Int) (w : World) (h0 : (n : Int) ≤ x) (h1 : x ≤ 1048576) :
    Calls Try.prog 74 #[.slice ao n cap, .int .i64 x] w fun e w' => e = .returned (.int .i64 (x - n)) ∧ w' = w := by
  have hd : ¬ x - (n : Int) < 0 := by omega
  go_enter Try.func74, Try.ntmps74
  go_wp2
  go_ret
  exact ⟨rfl, rfl⟩
theorem szi_no (ao : Option Addr) (n cap : Nat) (x : Int) (w : World) (h0 : x < (n : Int)) (h1 : 0 ≤ x) (h2 : n ≤ cap) (h3 : cap ≤ maxLen) :
    Calls Try.prog 74 #[.slice ao n cap, .int .i64 x] w fun e w' => e = .returned (.int .i64 (-1)) ∧ w' = w := by
  have hm : cap ≤ 9223372036854775807 := by unfold maxLen at h3; omega
  have hd : x - (n : Int) < 0 := by omega
  go_enter Try.func74, Try.ntmps74
  go_wp2
  go_ret
  exact ⟨rfl, rfl⟩

theorem sz_yes (ao : Option Addr) (n cap : Nat) (k c v h x : Int) (w : World) (h0 : (n : Int) ≤ x) (h1 : x ≤ 1048576) :
    Calls Try.prog 26 #[.agg #[.int .i64 k, .int .i64 c, .int .i64 v, .int .i64 h, .slice ao n cap], .int .i64 x] w fun e w' => e = .returned (.int .i64 (x - n)) ∧ Below w.heap.size w w' := by
  have hd : ¬ x - (n : Int) < 0 := by omega
  go_enter Try.func26, Try.ntmps26
  go_wp2_with (first
    | (go_at_call 74; refine (szi_yes _ _ _ _ _ h0 h1).mono ?_; rintro e9 w9 ⟨rfl, hw9⟩; rw [hw9]; clear hw9))
  go_ret
  exact ⟨rfl, (Below.refl _ _).alloc (Nat.le_refl _) _⟩
theorem sz_no (ao : Option Addr) (n cap : Nat) (k c v h x : Int) (w : World) (h0 : x < (n : Int)) (h1 : 0 ≤ x) (h2 : n ≤ cap) (h3 : cap ≤ maxLen) :
    Calls Try.prog 26 #[.agg #[.int .i64 k, .int .i64 c, .int .i64 v, .int .i64 h, .slice ao n cap], .int .i64 x] w fun e w' => e = .returned (.int .i64 (-1)) ∧ Below w.heap.size w w' := by
  go_enter Try.func26, Try.ntmps26
  go_wp2_with (first
    | (go_at_call 74; refine (szi_no _ _ _ _ _ h0 h1 h2 h3).mono ?_; rintro e9 w9 ⟨rfl, hw9⟩; rw [hw9]; clear hw9))
  go_ret
  exact ⟨rfl, (Below.refl _ _).alloc (Nat.le_refl _) _⟩

theorem row_set {w : World} {g n : Nat} {t : TypeId} {F : Nat → Value} (h : w.rowIs g t n F) (p : Addr) (hp : p.block ≠ g) (v : Value) : (w.setCell p v).rowIs g t n F :=
  h.of_block (by simp only [World.setCell, Array.getElem?_modify]; rw [if_neg hp])

/-- A message whose generations lie in a row of their own at g. -/
theorem to_msg (ao : Option Addr) (n cap : Nat) (f : Nat → Int) (k c v h : Int) (w : World) (hn : n ≤ 1048576) (hs : SL .i64 w ao n f) :
    Calls Try.prog 27 #[.agg #[.int .i64 k, .int .i64 c, .int .i64 v, .int .i64 h, .slice ao n cap]] w fun e w' => ∃ g, e = .returned (.agg #[.int .i64 k, .int .i64 c, .int .i64 v, .int .i64 h, .slice (some ⟨g, 0, none⟩) n n]) ∧ w.heap.size ≤ g ∧ w'.rowIs g 3 n (fun i => .int .i64 (f i)) ∧ Below w.heap.size w w' := by
  have HS := hide hs
  clear hs
  go_enter Try.func27, Try.ntmps27
  go_wp2_with fail
  obtain ⟨b1, b2, b3, b4⟩ := al3 w (.cells #[.int .i64 k, .int .i64 c, .int .i64 v, .int .i64 h, .slice ao n cap] 41) (.cells #[.int .i64 0, .int .i64 0, .int .i64 0, .int .i64 0, .slice none 0 0] 26) (.cells #[.int .i64 k, .int .i64 c, .int .i64 v, .int .i64 h, .slice none 0 0] 26)
  have hB := ((((Below.refl w.heap.size w).alloc (Nat.le_refl _) (.cells #[.int .i64 k, .int .i64 c, .int .i64 v, .int .i64 h, .slice ao n cap] 41)).alloc (by simp) (.cells #[.int .i64 0, .int .i64 0, .int .i64 0, .int .i64 0, .slice none 0 0] 26)).alloc (by simp; omega) (.cells #[.int .i64 k, .int .i64 c, .int .i64 v, .int .i64 h, .slice none 0 0] 26))
  generalize (((w.alloc (.cells #[.int .i64 k, .int .i64 c, .int .i64 v, .int .i64 h, .slice ao n cap] 41)).alloc (.cells #[.int .i64 0, .int .i64 0, .int .i64 0, .int .i64 0, .slice none 0 0] 26)).alloc (.cells #[.int .i64 k, .int .i64 c, .int .i64 v, .int .i64 h, .slice none 0 0] 26)) = W at *
  refine (ito_any ao n cap f W hn (HS.out.below hB)).mono ?_
  rintro e w1 ⟨rfl, hrow, hb⟩
  have f2 := (hb.block (w.heap.size + 1) (by omega)).trans b2
  have f3 := (hb.block (w.heap.size + 1 + 1) (by omega)).trans b3
  have HB1 := hide (hB.trans (hb.mono hB.size))
  have HR := hide hrow
  clear b1 b2 b3 hB hb hrow HS
  have c20 := blk_cell (i := 0) f2 rfl
  have c21 := blk_cell (i := 1) f2 rfl
  have c22 := blk_cell (i := 2) f2 rfl
  have c23 := blk_cell (i := 3) f2 rfl
  have c24 := blk_cell (i := 4) f2 rfl
  have c30 := blk_cell (i := 0) f3 rfl
  have c31 := blk_cell (i := 1) f3 rfl
  have c32 := blk_cell (i := 2) f3 rfl
  have c33 := blk_cell (i := 3) f3 rfl
  have c34 := blk_cell (i := 4) f3 rfl
  have z2 : ∀ i, w1.frozen? ⟨w.heap.size + 1, i, none⟩ = false := fun i => by simp [World.frozen?, f2]
  have z3 : ∀ i, w1.frozen? ⟨w.heap.size + 1 + 1, i, none⟩ = false := fun i => by simp [World.frozen?, f3]
  go_wp2
  refine bodyPost_ret (v := .agg #[.int .i64 k, .int .i64 c, .int .i64 v, .int .i64 h, .slice (some ⟨w.heap.size + 1 + 1 + 1, 0, none⟩) n n]) (by simp [results, Try.results27, go_sem, c20, c21, c22, c23, c24]) rfl ⟨w.heap.size + 1 + 1 + 1, rfl, by omega, ?_, ?_⟩
  · have r := HR.out
    rw [b4] at r
    exact row_set (row_set (row_set (row_set (row_set (row_set r _ (by simp) _) _ (by simp) _) _ (by simp) _) _ (by simp) _) _ (by simp) _) _ (by simp) _
  · exact ((((((HB1.out.setCell (p := ⟨w.heap.size + 1 + 1, 4, none⟩) (by simp; omega) _).setCell (p := ⟨w.heap.size + 1, 0, none⟩) (by simp) _).setCell (p := ⟨w.heap.size + 1, 1, none⟩) (by simp) _).setCell (p := ⟨w.heap.size + 1, 2, none⟩) (by simp) _).setCell (p := ⟨w.heap.size + 1, 3, none⟩) (by simp) _).setCell (p := ⟨w.heap.size + 1, 4, none⟩) (by simp) _)

theorem eq_msg (ao bo : Option Addr) (n ca cb : Nat) (f g : Nat → Int) (k c v h : Int) (w : World) (hn : n ≤ 1048576) (hA : SL .i64 w ao n f) (hB : SL .i64 w bo n g) (he : ∀ i, i < n → f i = g i) :
    Calls Try.prog 28 #[.agg #[.int .i64 k, .int .i64 c, .int .i64 v, .int .i64 h, .slice ao n ca], .agg #[.int .i64 k, .int .i64 c, .int .i64 v, .int .i64 h, .slice bo n cb]] w fun e w' => e = .returned (.bool true) ∧ Below w.heap.size w w' := by
  have HA := hide hA
  have HB := hide hB
  have HE := hide he
  clear hA hB he
  go_enter Try.func28, Try.ntmps28
  go_wp2_with fail
  have hb : Below w.heap.size w ((w.alloc (.cells #[.int .i64 k, .int .i64 c, .int .i64 v, .int .i64 h, .slice ao n ca] 26)).alloc (.cells #[.int .i64 k, .int .i64 c, .int .i64 v, .int .i64 h, .slice bo n cb] 26)) := ((Below.refl _ _).alloc (Nat.le_refl _) _).alloc (by simp) _
  refine (ieq_yes ao bo n ca cb f g _ hn (HA.out.below hb) (HB.out.below hb) HE.out).mono ?_
  rintro e w1 ⟨rfl, q, hw⟩
  rw [hw]
  have HBq := hide (Below.drawn hb q)
  clear hw hb
  go_wp2
  go_ret
  exact ⟨rfl, HBq.out⟩

/-- Of what was there block g alone was written. -/
def OnlyG (g : Nat) (w w' : World) : Prop := Below g w w' ∧ ∀ j, j < w.heap.size → j ≠ g → w'.heap[j]? = w.heap[j]?
theorem OnlyG.own {g n B : Nat} {w w' : World} {t : TypeId} {ao : Option Addr} {F : Nat → Value} (h : OnlyG g w w') (r : Own w B t ao n F) (hB : g < B) : Own w' B t ao n F := by
  rcases r with r | ⟨g', ea, hB', c, hc, hs, hF⟩
  · exact .inl r
  · exact .inr ⟨g', ea, hB', c, (h.2 g' (Array.getElem?_eq_some_iff.1 hc).1 (by omega)).trans hc, hs, hF⟩
theorem OnlyG.own' {g n B : Nat} {w w' : World} {t : TypeId} {ao : Option Addr} {F : Nat → Value} (h : OnlyG g w w') (r : Own w B t ao n F) (hB : ∀ g', ao = some ⟨g', 0, none⟩ → g' ≠ g) : Own w' B t ao n F := by
  rcases r with r | ⟨g', ea, hB', c, hc, hs, hF⟩
  · exact .inl r
  · exact .inr ⟨g', ea, hB', c, (h.2 g' (Array.getElem?_eq_some_iff.1 hc).1 (hB g' ea)).trans hc, hs, hF⟩

theorem mark_msg_row (g n cap : Nat) (k c v h k0 : Int) (F : Nat → Value) (w : World) (hn : n ≤ 1048576) (h0 : 0 ≤ k0) (h1 : k0 ≤ 1099511627776) (ho : w.rowIs g 3 n F) :
    Calls Try.prog 30 #[.agg #[.int .i64 k, .int .i64 c, .int .i64 v, .int .i64 h, .slice (some ⟨g, 0, none⟩) n cap], .int .i64 k0] w fun e w' => e = .returned (.int .i64 (k0 + n)) ∧ w'.rowIs g 3 n (fun j => .int .i64 (k0 + j)) ∧ OnlyG g w w' := by
  have HO := hide ho
  clear ho
  go_enter Try.func30, Try.ntmps30
  go_wp2_with fail
  have hb : Below w.heap.size w (w.alloc (.cells #[.int .i64 k, .int .i64 c, .int .i64 v, .int .i64 h, .slice (some ⟨g, 0, none⟩) n cap] 26)) := (Below.refl _ _).alloc (Nat.le_refl _) _
  refine (imark_row g n cap k0 F _ hn h0 h1 (row_below HO.out hb HO.out.lt)).mono ?_
  rintro e w1 ⟨rfl, hr, hy⟩
  have HR : Hid (w1.rowIs g 3 n (fun j => .int .i64 (k0 + j)) ∧ OnlyG g w w1) := ⟨hr, (hb.mono (Nat.le_of_lt HO.out.lt)).trans hy.1, fun j hj hne => (hy.2.2 j hne).trans (hb.block j hj)⟩
  clear hb hr hy
  go_wp2
  go_ret
  exact ⟨rfl, HR.out⟩

theorem mark_msg_any (ao : Option Addr) (n cap B : Nat) (k c v h k0 : Int) (F : Nat → Value) (w : World) (hn : n ≤ 1048576) (h0 : 0 ≤ k0) (h1 : k0 ≤ 1099511627776) (hB : B ≤ w.heap.size) (ho : Own w B 3 ao n F) :
    Calls Try.prog 30 #[.agg #[.int .i64 k, .int .i64 c, .int .i64 v, .int .i64 h, .slice ao n cap], .int .i64 k0] w fun e w' => e = .returned (.int .i64 (k0 + n)) ∧ Own w' B 3 ao n (fun j => .int .i64 (k0 + j)) ∧ Below B w w' := by
  have HO := hide ho
  clear ho
  go_enter Try.func30, Try.ntmps30
  go_wp2_with fail
  have hb : Below w.heap.size w (w.alloc (.cells #[.int .i64 k, .int .i64 c, .int .i64 v, .int .i64 h, .slice ao n cap] 26)) := (Below.refl _ _).alloc (Nat.le_refl _) _
  refine (imark_any ao n cap B k0 F _ hn h0 h1 (HO.out.below hb)).mono ?_
  rintro e w1 ⟨rfl, hr, hy⟩
  have HR := hide (And.intro hr ((hb.mono hB).trans hy))
  clear hb hr hy
  go_wp2
  go_ret
  exact ⟨rfl, HR.out⟩

theorem held_msg (ao : Option Addr) (n cap : Nat) (k c v h k0 : Int) (w : World) (hn : n ≤ 1048576) (h0 : 0 ≤ k0) (h1 : k0 ≤ 1099511627776) (hs : SL .i64 w ao n (fun j => k0 + j)) :
    Calls Try.prog 34 #[.agg #[.int .i64 k, .int .i64 c, .int .i64 v, .int .i64 h, .slice ao n cap], .int .i64 k0] w fun e w' => e = .returned (.int .i64 (k0 + n)) ∧ Below w.heap.size w w' := by
  have HS := hide hs
  have hd : ¬ k0 + (n : Int) < 0 := by omega
  clear hs
  go_enter Try.func34, Try.ntmps34
  go_wp2_with fail
  have hb : Below w.heap.size w (w.alloc (.cells #[.int .i64 k, .int .i64 c, .int .i64 v, .int .i64 h, .slice ao n cap] 26)) := (Below.refl _ _).alloc (Nat.le_refl _) _
  refine (iheld_any ao n cap k0 _ hn h0 h1 (HS.out.below hb)).mono ?_
  rintro e w1 ⟨rfl, hw⟩
  rw [hw]
  have HBq := hide hb
  clear hw hb
  go_wp2
  go_ret
  exact ⟨rfl, HBq.out⟩
end Go.Proofs.Ythhkmfgccbkkhaa

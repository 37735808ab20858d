/- The draws of metas, as the laws call them. -/
import Derived.Test.YtjbhgedbkajmdaaDrawT6Z
import Derived.Test.YtjbhgedbkajmdaaMtBSZ

namespace Go.Proofs.Ytjbhgedbkajmdaa
open Go.ChangeShapes Go.WideShapes Go.ChangeAt Go.RowKit
set_option linter.unusedVariables false
set_option linter.unusedSimpArgs false
set_option maxRecDepth 100000

theorem tb_of {w w1 w2 : World} {g : Nat} (b1 : Below w.heap.size w w1) (hg : w1.grownBy w2 (some g)) (h : w.heap.size ≤ g) : Below w.heap.size w w2 :=
  b1.grown hg b1.size (fun k hk => by cases hk; exact h)
/-- A drawn meta at a law. -/
def DrV (w w' : World) (e : Ending) : Prop := ∃ (go bo : Option Addr) (gc bc : Nat) (G : List Int) (k : Nat) (L : Nat → List Int) (fi ol he : Bool) (la : Int), e = .returned (.agg #[.slice go G.length gc, .slice bo k bc, .bool fi, .bool ol, .bool he, .int .i64 la]) ∧ (G.length ≤ 8 ∧ k ≤ 3 ∧ ∀ i, i < k → (L i).length ≤ 8) ∧ MV w' go gc bo bc G k L ∧ Below w.heap.size w w'
/-- Six cells of the result's block. -/
theorem six_kp {B X : Nat} {w : World} {v0 v1 v2 v3 v4 v5 : Value} (h : X < B) : Kp B w ((((((w.setCell ⟨X, 0, none⟩ v0).setCell ⟨X, 1, none⟩ v1).setCell ⟨X, 2, none⟩ v2).setCell ⟨X, 3, none⟩ v3).setCell ⟨X, 4, none⟩ v4).setCell ⟨X, 5, none⟩ v5) :=
  (((((Kp.set h).trans (Kp.set h)).trans (Kp.set h)).trans (Kp.set h)).trans (Kp.set h)).trans (Kp.set h)
theorem six_below {X : Nat} {w wr : World} {v0 v1 v2 v3 v4 v5 : Value} (hb : Below w.heap.size w wr) (h : w.heap.size ≤ X) : Below w.heap.size w ((((((wr.setCell ⟨X, 0, none⟩ v0).setCell ⟨X, 1, none⟩ v1).setCell ⟨X, 2, none⟩ v2).setCell ⟨X, 3, none⟩ v3).setCell ⟨X, 4, none⟩ v4).setCell ⟨X, 5, none⟩ v5) := by
  repeat (refine Below.setCell ?_ (by exact h) _)
  exact hb

theorem draw_mtok (ao : Option Addr) (n cap : Nat) (f : Nat → Int) (w : World) (hn : n ≤ 1048576) (hs : SL .u8 w ao n f) (hf : ∀ i, i < n → 0 ≤ f i ∧ f i ≤ 255) :
    Calls Try.prog 13 #[.slice ao n cap] w fun e w' => DrV w w' e := by
  have hb0 := bal1 w (.cells #[.slice none 0 0, .slice none 0 0, .bool false, .bool false, .bool false, .int .i64 0] 27)
  have s0 := alsz w (.cells #[.slice none 0 0, .slice none 0 0, .bool false, .bool false, .bool false, .int .i64 0] 27)
  have hK := KB.new w 27 none 0 0 none 0 0 false false false 0
  have hnew := hide (new_any ao n cap f _ hn (hs.below hb0) hf)
  rw [s0] at hnew
  clear hs hf
  go_enter Try.func13, Try.ntmps13
  go_wp2_with fail
  refine hnew.out.mono ?_
  rintro e w1 ⟨rfl, hc, b1⟩
  have B1 : Below w.heap.size w w1 := hb0.trans (b1.mono (by omega))
  have K1 := hK.below b1 (by omega)
  have hlt := hc.lt
  have HC := hide hc
  clear hc b1 hnew hK hb0 s0
  go_wp2_with fail
  refine (draw5 (w.heap.size + 1) n cap ao f _ HC.out).mono ?_
  rintro e w2 ⟨⟨go, bo, gc, bc, G, k, L, fi, ol, he, la, rfl, hbd, hmv⟩, hcw⟩
  have K2 := hcw.2.1.block w.heap.size K1.lt (by simp)
  have K3 : KB w2 w.heap.size 27 none 0 0 none 0 0 false false false 0 := K2.trans K1
  obtain ⟨r0, r1, r2, r3, r4, r5⟩ := K3.cells
  have z0 := K3.froz
  have HM := hide hmv
  have B2 := hide (tb_of B1 hcw.2.1 (Nat.le_succ _))
  clear hmv hcw K1 K2 K3 B1
  go_wp2_with fail
  exact bodyPost_ret (v := .agg #[.slice go G.length gc, .slice bo k bc, .bool fi, .bool ol, .bool he, .int .i64 la]) (by simp [results, Try.results13, go_sem, r0, r1, r2, r3, r4, r5]) rfl
    ⟨go, bo, gc, bc, G, k, L, fi, ol, he, la, rfl, hbd, (HM.out _ (six_kp (by omega))).1, six_below B2.out (Nat.le_refl _)⟩

theorem draw_mtby (ao : Option Addr) (n cap : Nat) (f : Nat → Int) (w : World) (hn : n ≤ 1048576) (hs : SL .u8 w ao n f) (hf : ∀ i, i < n → 0 ≤ f i ∧ f i ≤ 255) :
    Calls Try.prog 8 #[.slice ao n cap] w fun e w' => DrV w w' e := by
  have hb0 := bal1 w (.cells #[.slice none 0 0, .slice none 0 0, .bool false, .bool false, .bool false, .int .i64 0] 27)
  have s0 := alsz w (.cells #[.slice none 0 0, .slice none 0 0, .bool false, .bool false, .bool false, .int .i64 0] 27)
  have hK := KB.new w 27 none 0 0 none 0 0 false false false 0
  have hnew := hide (new_any ao n cap f _ hn (hs.below hb0) hf)
  rw [s0] at hnew
  clear hs hf
  go_enter Try.func8, Try.ntmps8
  go_wp2_with fail
  refine hnew.out.mono ?_
  rintro e w1 ⟨rfl, hc, b1⟩
  have B1 : Below w.heap.size w w1 := hb0.trans (b1.mono (by omega))
  have K1 := hK.below b1 (by omega)
  have hlt := hc.lt
  have HC := hide hc
  clear hc b1 hnew hK hb0 s0
  go_wp2_with fail
  refine (draw5 (w.heap.size + 1) n cap ao f _ HC.out).mono ?_
  rintro e w2 ⟨⟨go, bo, gc, bc, G, k, L, fi, ol, he, la, rfl, hbd, hmv⟩, hcw⟩
  have K2 := hcw.2.1.block w.heap.size K1.lt (by simp)
  have K3 : KB w2 w.heap.size 27 none 0 0 none 0 0 false false false 0 := K2.trans K1
  obtain ⟨r0, r1, r2, r3, r4, r5⟩ := K3.cells
  have z0 := K3.froz
  have HM := hide hmv
  have B2 := hide (tb_of B1 hcw.2.1 (Nat.le_succ _))
  clear hmv hcw K1 K2 K3 B1
  go_wp2_with fail
  exact bodyPost_ret (v := .agg #[.slice go G.length gc, .slice bo k bc, .bool fi, .bool ol, .bool he, .int .i64 la]) (by simp [results, Try.results8, go_sem, r0, r1, r2, r3, r4, r5]) rfl
    ⟨go, bo, gc, bc, G, k, L, fi, ol, he, la, rfl, hbd, (HM.out _ (six_kp (by omega))).1, six_below B2.out (Nat.le_refl _)⟩

theorem draw_mtnew (ao : Option Addr) (n cap : Nat) (f : Nat → Int) (w : World) (hn : n ≤ 1048576) (hs : SL .u8 w ao n f) (hf : ∀ i, i < n → 0 ≤ f i ∧ f i ≤ 255) :
    Calls Try.prog 14 #[.slice ao n cap] w fun e w' => (∃ x : Int, e = .returned (.int .i64 x)) ∧ Below w.heap.size w w' := by
  have HS := hide hs
  have HF := hide hf
  clear hs hf
  go_enter Try.func14, Try.ntmps14
  go_wp2_with fail
  refine (new_any ao n cap f _ hn HS.out HF.out).mono ?_
  rintro e w1 ⟨rfl, hc, b1⟩
  have HC := hide (And.intro (hc.alloc (.cells #[.int .i64 1, .int .i64 5, .int .i64 0, .int .i64 (-1), .int .i64 100000, .int .i64 100001] 3)) (b1.alloc b1.size (.cells #[.int .i64 1, .int .i64 5, .int .i64 0, .int .i64 (-1), .int .i64 100000, .int .i64 100001] 3)))
  have HL := hide (lit_cells w1 [1, 5, 0, -1, 100000, 100001] 3 w.heap.size hc.lt)
  clear hc b1
  go_wp2_with fail
  refine (pick_any w.heap.size n cap 6 6 ao (some ⟨w1.heap.size, 0, none⟩) f (fun i => [1, 5, 0, -1, 100000, 100001].getD i 0) _ (by decide) (by decide) HC.out.1 HL.out).mono ?_
  rintro e w3 ⟨⟨i, hi, rfl⟩, hcur, hgr⟩
  generalize ([1, 5, 0, -1, 100000, 100001] : List Int).getD i 0 = x at *
  have R := hide (tb_of HC.out.2 hgr (Nat.le_refl _))
  clear hcur hgr HC HL
  go_wp2
  go_ret
  exact ⟨⟨_, rfl⟩, R.out⟩
end Go.Proofs.Ytjbhgedbkajmdaa

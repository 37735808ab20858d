/- DrawGensOk, DrawGenPush, DrawNewer. -/
import Derived.Test.YtjbhgedbkajmdaaDrawG
namespace Go.Proofs.Ytjbhgedbkajmdaa
open Go.ChangeShapes Go.WideShapes Go.ChangeAt Go.RowKit
set_option linter.unusedVariables false
set_option linter.unusedSimpArgs false
set_option maxRecDepth 100000

theorem b_of {w w1 w2 : World} {g : Nat} (b1 : Below w.heap.size w w1) (hg : w1.grownBy w2 (some g)) (h : w.heap.size ≤ g) : Below w.heap.size w w2 :=
  b1.grown hg b1.size (fun k hk => by cases hk; exact h)

theorem draw_gensok (ao : Option Addr) (n cap : Nat) (f : Nat → Int) (w : World) (hn : n ≤ 1048576) (hs : SL .u8 w ao n f) (hf : ∀ i, i < n → 0 ≤ f i ∧ f i ≤ 255) :
    Calls Try.prog 27 #[.slice ao n cap] w fun e w' => ∃ (v : Value) (L : List Int), e = .returned v ∧ GDr L ∧ VI w' v L ∧ Below w.heap.size w w' := by
  have HS := hide hs
  have HF := hide hf
  clear hs hf
  go_enter Try.func27, Try.ntmps27
  go_wp2_with fail
  refine (new_any ao n cap f _ hn HS.out HF.out).mono ?_
  rintro e w1 ⟨rfl, hc, b1⟩
  have HC := hide hc
  have HB := hide b1
  clear hc b1
  go_wp2_with fail
  refine (draw7d w.heap.size n cap ao f _ HC.out).mono ?_
  rintro e w2 ⟨v, L, rfl, hL, ho, hc⟩
  have R := hide (And.intro hL (And.intro (VI.of ho) (b_of HB.out hc.2.1 (Nat.le_refl _))))
  clear hL ho hc
  go_wp2
  go_ret
  exact ⟨v, L, rfl, R.out⟩

theorem pick5 {i : Nat} (h : i < 5) : ([1, 9, 50, 0, 100001] : List Int).getD i 0 ∈ ([1, 9, 50, 0, 100001] : List Int) := by
  obtain rfl | rfl | rfl | rfl | rfl : i = 0 ∨ i = 1 ∨ i = 2 ∨ i = 3 ∨ i = 4 := by omega
  all_goals simp

theorem draw_genpush (ao : Option Addr) (n cap : Nat) (f : Nat → Int) (w : World) (hn : n ≤ 1048576) (hs : SL .u8 w ao n f) (hf : ∀ i, i < n → 0 ≤ f i ∧ f i ≤ 255) :
    Calls Try.prog 23 #[.slice ao n cap] w fun e w' => ∃ (v : Value) (L : List Int) (x : Int), e = .returned (.tuple #[v, .int .i64 x]) ∧ GDr L ∧ x ∈ [1, 9, 50, 0, 100001] ∧ VI w' v L ∧ Below w.heap.size w w' := by
  have HS := hide hs
  have HF := hide hf
  clear hs hf
  go_enter Try.func23, Try.ntmps23
  go_wp2_with fail
  refine (new_any ao n cap f _ hn HS.out HF.out).mono ?_
  rintro e w1 ⟨rfl, hc, b1⟩
  have HC := hide hc
  have HB := hide b1
  clear hc b1
  go_wp2_with fail
  refine (draw7d w.heap.size n cap ao f _ HC.out).mono ?_
  rintro e w2 ⟨v, L, rfl, hL, ho, hc⟩
  have hlt1 := HC.out.lt
  have R := hide (And.intro hL (And.intro (ho.alloc (.cells #[.int .i64 1, .int .i64 9, .int .i64 50, .int .i64 0, .int .i64 100001] 3)) (And.intro (hc.alloc (.cells #[.int .i64 1, .int .i64 9, .int .i64 50, .int .i64 0, .int .i64 100001] 3)) (b_of HB.out (hc.alloc (.cells #[.int .i64 1, .int .i64 9, .int .i64 50, .int .i64 0, .int .i64 100001] 3)).2.1 (Nat.le_refl _)))))
  have HL := hide (lit_cells w2 [1, 9, 50, 0, 100001] 3 w.heap.size hc.1.lt)
  clear hL ho hc HC HB
  go_wp2_with fail
  refine (pick_any w.heap.size n cap 5 5 ao (some ⟨w2.heap.size, 0, none⟩) f (fun i => [1, 9, 50, 0, 100001].getD i 0) _ (by decide) (by decide) R.out.2.2.1.1 HL.out).mono ?_
  rintro e w3 ⟨⟨i, hi, rfl⟩, hcur, hgr⟩
  have hx := pick5 hi
  generalize ([1, 9, 50, 0, 100001] : List Int).getD i 0 = x at *
  have R3 := hide (And.intro R.out.1 (And.intro hx (And.intro (VI.of (owns_cur R.out.2.1 hgr hlt1)) (b_of R.out.2.2.2 hgr (Nat.le_refl _)))))
  clear hcur hgr hx R HL
  go_wp2
  go_ret2
  exact ⟨v, L, x, rfl, R3.out⟩

theorem draw_newer (ao : Option Addr) (n cap : Nat) (f : Nat → Int) (w : World) (hn : n ≤ 1048576) (hs : SL .u8 w ao n f) (hf : ∀ i, i < n → 0 ≤ f i ∧ f i ≤ 255) :
    Calls Try.prog 25 #[.slice ao n cap] w fun e w' => ∃ (v u : Value) (L M : List Int), e = .returned (.tuple #[v, u]) ∧ (L.length ≤ 20 ∧ M.length ≤ 20) ∧ VI w' v L ∧ VI w' u M ∧ Below w.heap.size w w' := by
  have HS := hide hs
  have HF := hide hf
  clear hs hf
  go_enter Try.func25, Try.ntmps25
  go_wp2_with fail
  refine (new_any ao n cap f _ hn HS.out HF.out).mono ?_
  rintro e w1 ⟨rfl, hc, b1⟩
  have HC := hide hc
  have HB := hide b1
  clear hc b1
  go_wp2_with fail
  refine (draw7d w.heap.size n cap ao f _ HC.out).mono ?_
  rintro e w2 ⟨v, L, rfl, hL, ho, hc⟩
  have hlt1 := HC.out.lt
  have hl : L.length ≤ 12 := hL.2.1
  have R := hide (And.intro ho (And.intro hc.1 (b_of HB.out hc.2.1 (Nat.le_refl _))))
  clear hL ho hc HC HB
  go_wp2_with fail
  refine (once_any w.heap.size n cap 3 ao f _ (by decide) (by decide) R.out.2.1).mono ?_
  rintro e w3 ⟨⟨x, rfl⟩, hcur, hgr⟩
  have R3 := hide (And.intro (owns_cur R.out.1 hgr hlt1) (And.intro hcur (b_of R.out.2.2 hgr (Nat.le_refl _))))
  clear hcur hgr R
  cases x with
  | true =>
    go_wp2_with fail
    refine (pushS v L 77 _ _ (by omega) R3.out.1).mono ?_
    rintro e w4 ⟨u, M, rfl, hM, ho4, b4⟩
    have hm : M.length ≤ 13 := by have := gpl_len1 (D := Classical.propDecidable) 77 L; rw [← hM] at this; omega
    have R4 := hide (And.intro ((VI.of R3.out.1).below b4) (And.intro (VI.of ho4) (R3.out.2.2.trans (b4.mono R3.out.2.2.size))))
    clear ho4 b4 hM R3
    go_wp2
    go_ret2
    exact ⟨v, u, L, M, rfl, ⟨by omega, by omega⟩, R4.out⟩
  | false =>
    go_wp2_with fail
    refine (draw7d w.heap.size n cap ao f _ R3.out.2.1).mono ?_
    rintro e w4 ⟨u, M, rfl, hM, ho4, hc4⟩
    have hm : M.length ≤ 12 := hM.2.1
    have R4 := hide (And.intro (VI.of (owns_cur R3.out.1 hc4.2.1 hlt1)) (And.intro (VI.of ho4) (b_of R3.out.2.2 hc4.2.1 (Nat.le_refl _))))
    clear ho4 hc4 hM R3
    go_wp2
    go_ret2
    exact ⟨v, u, L, M, rfl, ⟨by omega, by omega⟩, R4.out⟩
end Go.Proofs.Ytjbhgedbkajmdaa

/- Squeeze of the program: a label, and a jump back to it from within its loop. -/
import Derived.Test.YtkeojhnifnkpiaaRunIZ
import Derived.Test.YtkeojhnifnkpiaaSqzSZ
import Derived.ScopeJumps
import Derived.WalkMore

namespace Go.Proofs.Ytkeojhnifnkpiaa
open Go.ChangeShapes Go.WideShapes Go.ChangeAt Go.RowKit
set_option linter.unusedVariables false
set_option linter.unusedSimpArgs false
set_option maxRecDepth 100000

theorem wp_scope_back {P : Program} {a : Act} {w : World} {Q : Exit → Act → World → Prop} {c X : Code} (l : Nat) (J : Act → World → Prop) (m : Act → World → Nat) (hf : findLabel c l = some (Code.seq .skip X))
    (pass : ∀ a w k, J a w → m a w = k → X.wp P (Exit.jump l (fun a' w' => J a' w' ∧ m a' w' < k) Q) a w)
    (first : (∀ a w, J a w → X.wp P (Exit.jump l J Q) a w) → c.wp P (Exit.jump l J Q) a w) : (Code.scope c).wp P Q a w := by
  refine wp_scope_jumps l J m hf (first fun a w h => wp_mono (pass a w _ h rfl) ?_) (fun a w h => wp_seq (wp_skip (pass a w _ h rfl)))
  intro e a' w' hq
  cases e with
  | goto l' => exact ⟨hq.1, hq.2.1⟩
  | normal => exact hq
  | exit id => exact hq
  | ret => exact hq
  | panic ch => exact hq
  | outgrown => exact hq

theorem act_lit (a' : Act) (hd : a'.defers = []) : a' = { tmps := ((List.range a'.tmps.size).map fun i => a'.tmps.getD i undef).toArray, defers := [] } := by
  obtain ⟨t, d⟩ := a'
  simp only at hd
  subst hd
  congr 1
  apply Array.ext
  · simp
  · intro i h1 h2
    simp [Array.getD, h1]
theorem lit52 (a' : Act) (h : a'.tmps.size = 52) (hd : a'.defers = []) : ∃ u : Nat → Value, a' = { tmps := #[u 0, u 1, u 2, u 3, u 4, u 5, u 6, u 7, u 8, u 9, u 10, u 11, u 12, u 13, u 14, u 15, u 16, u 17, u 18, u 19, u 20, u 21, u 22, u 23, u 24, u 25, u 26, u 27, u 28, u 29, u 30, u 31, u 32, u 33, u 34, u 35, u 36, u 37, u 38, u 39, u 40, u 41, u 42, u 43, u 44, u 45, u 46, u 47, u 48, u 49, u 50, u 51], defers := [] } := by
  refine ⟨fun i => a'.tmps.getD i undef, ?_⟩
  have e := act_lit a' hd
  rw [h] at e
  exact e

theorem stands_yes (y : Int) (w : World) (h : 1 ≤ y ∧ y ≤ 127) : Calls Try.prog 132 #[.int .u8 y] w fun e w' => e = .returned (.bool true) ∧ w' = w := by
  have d1 : (y != 0) = true := by simp; omega
  have d2 : decide (y < 128) = true := by simp; omega
  go_enter Try.func132, Try.ntmps132
  go_wp2
  go_ret
  exact ⟨rfl, rfl⟩
theorem stands_no (y : Int) (w : World) (h : y = 0 ∨ 127 < y) : Calls Try.prog 132 #[.int .u8 y] w fun e w' => e = .returned (.bool false) ∧ w' = w := by
  by_cases h0 : y = 0
  · subst h0
    go_enter Try.func132, Try.ntmps132
    go_wp2
    go_ret
    exact ⟨rfl, rfl⟩
  · have d1 : decide (y = 0) = false := by simpa using h0
    have d2 : decide (y < 128) = false := by simp; omega
    go_enter Try.func132, Try.ntmps132
    go_wp2
    go_ret
    exact ⟨rfl, rfl⟩

/-- What holds at the label. -/
def SqJ (ao : Option Addr) (n cap : Nat) (f : Nat → Int) (w : World) (a' : Act) (wr : World) : Prop :=
  a'.tmps.size = 52 ∧ a'.defers = [] ∧ a'.tmps[0]? = some (.slice ao n cap) ∧
  ∃ (a r : Nat) (L : List Int) (v : Value), a'.tmps[3]? = some v ∧ a'.tmps[4]? = some (.int .i64 (a : Int)) ∧ a ≤ n ∧ r ≤ 2 * a ∧ (L ++ sqz f n n a = sqz f n n 0 ∧ L.length = r) ∧ wr.ownsRow w.heap.size 5 1 v r (L.map (.int .u8)) ∧ Below w.heap.size w wr

theorem squeeze_impl (ao : Option Addr) (n cap : Nat) (f : Nat → Int) (w : World) (hn : n ≤ 1073741824) (hs : SL .u8 w ao n f) (hf : ∀ i, i < n → 0 ≤ f i ∧ f i ≤ 255) :
    Calls Try.prog 89 #[.slice ao n cap] w fun e w' => ∃ v, e = .returned v ∧ w'.ownsRow w.heap.size 5 1 v (squeeze f n).length ((squeeze f n).map (.int .u8)) ∧ Below w.heap.size w w' := by
  obtain ⟨i0, hi, hz0, hz1, hz2⟩ := info_parts Try.info5
  by_cases h3 : 3000 < n
  · have hq : squeeze f n = [] := by unfold squeeze; rw [if_pos h3]
    rw [hq]
    clear hs hf hq
    go_enter Try.func89, Try.ntmps89
    go_wp2
    go_step3
    go_wp2
    rw [Exit.noGoto_ret]
    go_ret
    exact ⟨_, rfl, gnil, Below.refl _ _⟩
  · have hq : squeeze f n = sqz f n n 0 := by unfold squeeze; rw [if_neg h3]
    rw [hq]
    have HS := hide hs
    have HF := hide hf
    clear hs hf hq
    go_enter Try.func89, Try.ntmps89
    go_wp2
    refine wp_scope_back 0 (SqJ ao n cap f w) (fun a' _ => n - (intOf (a'.tmps.getD 4 undef)).toNat) rfl ?pass ?first
    case first =>
      intro hp
      have HP := hide hp
      clear hp
      go_wp2
      go_step3
      rename_i hK
      apply hK
      exact HP.out _ _ ⟨rfl, rfl, rfl, 0, 0, [], _, rfl, rfl, by omega, by omega, ⟨rfl, rfl⟩, gnil, Below.refl _ _⟩
    case pass =>
      rintro a' wp0 k0 ⟨hsz, hdf, h0, a0, r0, L0, v0, h3', h4', ha0, hr0, hL0, hown0, hbel0⟩ hk0
      obtain ⟨u, rfl⟩ := lit52 a' hsz hdf
      have e0 : u 0 = _ := Option.some.inj h0
      have e3 : u 3 = _ := Option.some.inj h3'
      have e4 : u 4 = _ := Option.some.inj h4'
      clear hsz hdf h0 h3' h4'
      have HL0 := hide hL0
      clear hL0
      have hk : n - a0 = k0 := by rw [← hk0]; show _ = n - (intOf (u 4)).toNat; rw [e4]; simp [intOf]
      rw [e0, e3, e4]
      clear e0 e3 e4 hk0
      go_wp2
      go_loopw [3, 4, 5, 6] (fun v i _ _ wr => ∃ (a r : Nat) (L : List Int), a0 ≤ a ∧ a ≤ n ∧ r ≤ 2 * a ∧ i = .int .i64 a ∧ Hid (L ++ sqz f n n a = sqz f n n 0 ∧ L.length = r) ∧ wr.ownsRow w.heap.size 5 1 v r (L.map (.int .u8)) ∧ Below w.heap.size w wr) (fun _ i _ _ _ => n - (intOf i).toNat)
      case atStart => exact ⟨a0, r0, L0, by omega, ha0, hr0, rfl, HL0, hown0, hbel0⟩
      case round =>
        clear hown0 hbel0 HL0 hr0
        obtain ⟨a, r, L, hga, han, hra, rfl, hL, hown, hbel⟩ := hrel
        by_cases hlt : a < n
        · obtain ⟨b, off, rfl, hb, hc0⟩ := HS.out a hlt
          have hy := HF.out a hlt
          obtain ⟨hp1, hp2, hp3⟩ := bst_bd f n a (min a 255) (by omega)
          have hstep := hide (sqz_step f n a hlt)
          have hbest := hide (best_impl (some ⟨b, off, none⟩) n cap a f wr (by omega) hlt (HS.out.below hbel))
          have hc1 : ∀ q, (wr.drewN q).cell? ⟨b, off + a, none⟩ = some (.int .u8 (f a)) := fun q => (hbel.cell (p := ⟨b, off + a, none⟩) hb).trans hc0
          generalize hbp : bst f n a (min a 255) = p at *
          obtain ⟨bk, l⟩ := p
          simp only at hp1 hp2 hp3 hstep hbest
          generalize hfa : f a = y at *
          have HOW := hide (And.intro hown hbel)
          have HC := hide hc1
          clear hbp hfa hown hbel hc1
          go_wp2_with fail
          refine hbest.out.mono ?_
          rintro e w2 ⟨rfl, q, hw2⟩
          rw [hw2]
          clear hw2 hbest
          have hown := gdrawn HOW.out.1 q
          have hbel := Below.drawn HOW.out.2 q
          have hc := HC.out q
          clear HOW HC
          generalize wr.drewN q = wq at *
          by_cases hl3 : 3 ≤ l
          · have hw1 : IntKind.u8.wrap (128 + (l : Int)) = 128 + (l : Int) := by rw [IntKind.wrap_u8]; omega
            have hw2 : IntKind.u8.wrap (bk : Int) = (bk : Int) := by rw [IntKind.wrap_u8]; omega
            go_wp2_with (first
              | (at_builtin; refine wpList_append_own _ rfl _ _ 22 rfl w.heap.size 5 i0 (.int .u8 0) 1 1 Try.underlying22 hi hz0 hz1 hz2 rfl (by decide) _ _ _ rfl (hown.alloc _) ⟨wq.heap.size, 0, none⟩ 2 2 ([128 + (l : Int), (bk : Int)].map (.int .u8)) rfl rfl (gcells _ _ _) (gones _ _) (glens (by omega)) (by omega) (by have := hbel.size; simp; omega) ?_; intro v' w3 hown' hgrow hnn))
            have R := hide (gpush (M := [128 + (l : Int), (bk : Int)]) hbel hbel.size hown hown' hgrow)
            clear hown' hgrow hnn hown hbel
            go_wp2
            go_step3
            have hal : (a : Int) + (l : Int) = ((a + l : Nat) : Int) := by omega
            rw [hal]
            refine ⟨rfl, ⟨rfl, rfl, rfl, a + l, r + 2, L ++ [128 + (l : Int), (bk : Int)], v', rfl, rfl, hp3 hl3, by omega, ⟨by rw [← hL.out.1, hstep.out, if_pos hl3]; simp, by simp [hL.out.2]⟩, R.out.1, R.out.2⟩, ?_⟩
            have := hp3 hl3
            simp [intOf]
            omega
          · have hl3' : ¬ (3 : Int) ≤ (l : Int) := by omega
            by_cases hor : y = 0 ∨ 127 < y
            · go_upto_region 12 with (first
                | (go_at_call 132; refine (stands_no _ _ hor).mono ?_; rintro e9 w9 ⟨rfl, hw9⟩; rw [hw9]; clear hw9)
                | (at_builtin; refine wpList_append_own _ rfl _ _ 22 rfl w.heap.size 5 i0 (.int .u8 0) 1 1 Try.underlying22 hi hz0 hz1 hz2 rfl (by decide) _ _ _ rfl (hown.alloc _) ⟨wq.heap.size, 0, none⟩ 1 1 ([(0 : Int)].map (.int .u8)) rfl rfl (gcells _ _ _) (gones _ _) (glens (by omega)) (by omega) (by have := hbel.size; simp; omega) ?_; intro v1 w3 hown1 hgrow1 hnn1))
              obtain ⟨hown3, hbel3⟩ := gpush (M := [(0 : Int)]) hbel hbel.size hown hown1 hgrow1
              have hc3 : w3.cell? ⟨b, off + a, none⟩ = some (.int .u8 y) := (hbel3.cell (p := ⟨b, off + a, none⟩) hb).trans hc0
              clear hown1 hgrow1 hnn1 hown hbel hc
              go_wp2_with (first
                | (at_builtin; refine wpList_append_own _ rfl _ _ 22 rfl w.heap.size 5 i0 (.int .u8 0) 1 1 Try.underlying22 hi hz0 hz1 hz2 rfl (by decide) _ _ _ rfl (hown3.alloc _) ⟨w3.heap.size, 0, none⟩ 1 1 ([y].map (.int .u8)) rfl rfl (gcells _ _ _) (gones _ _) (glens (by omega)) (by omega) (by have := hbel3.size; simp; omega) ?_; intro v2 w4 hown2 hgrow2 hnn2))
              have R := hide (gpush (M := [y]) hbel3 hbel3.size hown3 hown2 hgrow2)
              clear hown2 hgrow2 hnn2 hown3 hbel3
              go_wp2
              go_roundw
              case rel => exact ⟨a + 1, r + 1 + 1, L ++ [0] ++ [y], by omega, by omega, by omega, by go_num, ⟨by rw [← hL.out.1, hstep.out, if_neg hl3, if_pos hor]; simp, by simp [hL.out.2]⟩, R.out.1, R.out.2⟩
              case measure => simp [intOf]; omega
            · go_wp2_with (first
                | (go_at_call 132; refine (stands_yes _ _ (by omega)).mono ?_; rintro e9 w9 ⟨rfl, hw9⟩; rw [hw9]; clear hw9)
                | (at_builtin; refine wpList_append_own _ rfl _ _ 22 rfl w.heap.size 5 i0 (.int .u8 0) 1 1 Try.underlying22 hi hz0 hz1 hz2 rfl (by decide) _ _ _ rfl (hown.alloc _) ⟨wq.heap.size, 0, none⟩ 1 1 ([y].map (.int .u8)) rfl rfl (gcells _ _ _) (gones _ _) (glens (by omega)) (by omega) (by have := hbel.size; simp; omega) ?_; intro v2 w4 hown2 hgrow2 hnn2))
              have R := hide (gpush (M := [y]) hbel hbel.size hown hown2 hgrow2)
              clear hown2 hgrow2 hnn2 hown hbel
              go_wp2
              go_roundw
              case rel => exact ⟨a + 1, r + 1, L ++ [y], by omega, by omega, by omega, by go_num, ⟨by rw [← hL.out.1, hstep.out, if_neg hl3, if_neg hor]; simp, by simp [hL.out.2]⟩, R.out.1, R.out.2⟩
              case measure => simp [intOf]; omega
        · obtain rfl : a = n := by omega
          go_wp2
          simp only [Exit.jump]
          go_ret
          refine ⟨_, rfl, ?_, hbel⟩
          have e := hL.out.1
          rw [sqz_end, List.append_nil] at e
          rw [← e, hL.out.2]
          exact hown
end Go.Proofs.Ytkeojhnifnkpiaa

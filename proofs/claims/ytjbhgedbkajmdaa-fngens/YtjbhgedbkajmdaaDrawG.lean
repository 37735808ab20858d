/- The draws of generations. -/
import Derived.Test.YtjbhgedbkajmdaaGnV
namespace Go.Proofs.Ytjbhgedbkajmdaa
open Go.ChangeShapes Go.WideShapes Go.ChangeAt Go.RowKit
set_option linter.unusedVariables false
set_option linter.unusedSimpArgs false
set_option maxRecDepth 100000

theorem wf_small {y : Int} (h0 : -9000000000 ≤ y) (h1 : y ≤ 9000000000) : (Lit.int .i64 y).wf = true := by
  simp [Lit.wf, IntKind.min, IntKind.max, IntKind.signed, IntKind.bits]; omega

theorem pushS (v : Value) (L : List Int) (x : Int) (w : World) (B : Nat) (hl : L.length ≤ 20) (h : w.ownsRow B 3 1 v L.length (L.map (.int .i64))) :
    Calls Try.prog 29 #[v, .int .i64 x] w fun e w' => ∃ (v' : Value) (M : List Int), e = .returned v' ∧ M = gpl Classical.propDecidable x L ∧ w'.ownsRow w.heap.size 3 1 v' M.length (M.map (.int .i64)) ∧ Below w.heap.size w w' := by
  refine (genpush_x Classical.propDecidable v L x w (by omega) (Src.of_owns h)).mono ?_
  rintro e w' ⟨v', rfl, ho, hb⟩
  exact ⟨v', _, rfl, rfl, ho, hb⟩

theorem draw7x (g n cap : Nat) (ao : Option Addr) (f : Nat → Int) (w : World) (hc : Cur w g ao n cap f) :
    Calls Try.prog 89 #[.pointer (some ⟨g, 0, none⟩)] w fun e w' => ∃ (v : Value) (L : List Int), e = .returned v ∧ L.length ≤ 3 ∧ (LGo L ∧ ∀ y ∈ L, 1 ≤ y ∧ y ≤ 6) ∧ w'.ownsRow w.heap.size 3 1 v L.length (L.map (.int .i64)) ∧ CurW w w' g ao n cap f := by
  have HC := hide hc
  clear hc
  go_enter Try.func89, Try.ntmps89
  go_wp2
  go_loopw [3, 4] (fun v i wr => ∃ (k : Nat) (L : List Int), k ≤ 3 ∧ i = .int .i64 k ∧ L.length ≤ k ∧ Hid ((LGo L ∧ ∀ y ∈ L, 1 ≤ y ∧ y ≤ 6) ∧ wr.ownsRow w.heap.size 3 1 v L.length (L.map (.int .i64)) ∧ CurW w wr g ao n cap f)) (fun _ i _ => 4 - (intOf i).toNat)
  case atStart => exact ⟨0, [], by omega, rfl, by simp, ⟨by rw [lgo_iff]; simp, by simp⟩, gempty (Nat.le_refl _), (CurW.refl HC.out).alloc _⟩
  case round =>
    obtain ⟨k, L, hk, rfl, hL, HI⟩ := hrel
    go_wp2_with fail
    refine (below_any g n cap 4 ao f _ (by decide) (by decide) HI.out.2.2.1).mono ?_
    rintro e w1 ⟨⟨x, rfl, hx0, hx1⟩, hcur, hgr⟩
    have H1 : Hid ((LGo L ∧ ∀ y ∈ L, 1 ≤ y ∧ y ≤ 6) ∧ w1.ownsRow w.heap.size 3 1 u3 L.length (L.map (.int .i64)) ∧ CurW w w1 g ao n cap f) := ⟨HI.out.1, owns_cur HI.out.2.1 hgr HI.out.2.2.2.2, HI.out.2.2.step hcur hgr⟩
    clear hcur hgr HI
    by_cases hlt : (k : Int) < x
    · go_wp2_with fail
      refine (below_any g n cap 6 ao f _ (by decide) (by decide) H1.out.2.2.1).mono ?_
      rintro e w2 ⟨⟨y, rfl, hy0, hy1⟩, hcur, hgr⟩
      have H2 : Hid ((LGo L ∧ ∀ y ∈ L, 1 ≤ y ∧ y ≤ 6) ∧ w2.ownsRow w.heap.size 3 1 u3 L.length (L.map (.int .i64)) ∧ CurW w w2 g ao n cap f) := ⟨H1.out.1, owns_cur H1.out.2.1 hgr H1.out.2.2.2.2, H1.out.2.2.step hcur hgr⟩
      clear hcur hgr H1
      go_wp2_with fail
      refine (pushS u3 L (1 + y) _ _ (by omega) H2.out.2.1).mono ?_
      rintro e w3 ⟨v3, L3, rfl, hL3, ho3, b3⟩
      have H3 : Hid ((LGo L3 ∧ ∀ z ∈ L3, 1 ≤ z ∧ z ≤ 6) ∧ w3.ownsRow w.heap.size 3 1 v3 L3.length (L3.map (.int .i64)) ∧ CurW w w3 g ao n cap f) := by
        refine ⟨⟨by rw [hL3]; exact gpl_go H2.out.1.1, fun z hz => ?_⟩, gmono ho3 H2.out.2.2.2.1.size, H2.out.2.2.below b3⟩
        rw [hL3] at hz
        rcases gpl_mem hz with rfl | hz
        · omega
        · exact H2.out.1.2 z hz
      have hl3 : L3.length ≤ k + 1 := by have := gpl_len1 (D := Classical.propDecidable) (1 + y) L; rw [← hL3] at this; omega
      clear ho3 b3 H2 hL3
      go_wp2
      go_roundw
      case rel => exact ⟨k + 1, L3, by omega, by go_num, by omega, H3.out⟩
      case measure => simp [intOf]; omega
    · go_wp2
      go_ret
      exact ⟨_, L, rfl, by omega, H1.out⟩

theorem own_ge {w : World} {B : Nat} {v : Value} {k : Nat} {e : TypeId} {xs : List Value} (ho : w.ownsRow B e 1 v k xs) : ∀ b, v.ownBlock = some b → B ≤ b := by
  intro g hgv
  rcases ho.2 with ⟨rfl, _⟩ | ⟨g', cap, cur, rfl, hge, _⟩
  · simp [Value.ownBlock] at hgv
  · simp [Value.ownBlock] at hgv; omega
theorem lit_one (w : World) (z : Int) : (w.alloc (.cells #[.int .i64 z] 3)).ownsRow w.heap.size 3 1 (.slice (some ⟨w.heap.size, 0, none⟩) 1 1) [z].length ([z].map (.int .i64)) :=
  ⟨rfl, .inr ⟨_, _, #[.int .i64 z], rfl, Nat.le_refl _, Deep.blk_alloc_new _ _, by simp, by simp [maxLen], by simp, by simp⟩⟩

set_option maxHeartbeats 1000000 in
theorem draw7d (g n cap : Nat) (ao : Option Addr) (f : Nat → Int) (w : World) (hc : Cur w g ao n cap f) :
    Calls Try.prog 65 #[.pointer (some ⟨g, 0, none⟩)] w fun e w' => ∃ (v : Value) (L : List Int), e = .returned v ∧ GDr L ∧ w'.ownsRow w.heap.size 3 1 v L.length (L.map (.int .i64)) ∧ CurW w w' g ao n cap f := by
  obtain ⟨i0, hi, hz0, hz1, hz2⟩ := info_parts Try.info3
  have HC := hide hc
  clear hc
  go_enter Try.func65, Try.ntmps65
  go_wp2_with fail
  refine (draw7x g n cap ao f w HC.out).mono ?_
  rintro e w1 ⟨v1, L, rfl, hL, hg1, ho1, hc1⟩
  have H1 := hide (And.intro hg1 (And.intro ho1 hc1))
  clear hg1 ho1 hc1
  go_wp2_with fail
  refine (below_any g n cap 8 ao f _ (by decide) (by decide) H1.out.2.2.1).mono ?_
  rintro e w2 ⟨⟨s, rfl, hs0, hs1⟩, hcur, hgr⟩
  have H2 : Hid ((LGo L ∧ ∀ y ∈ L, 1 ≤ y ∧ y ≤ 6) ∧ w2.ownsRow w.heap.size 3 1 v1 L.length (L.map (.int .i64)) ∧ CurW w w2 g ao n cap f) := ⟨H1.out.1, owns_cur H1.out.2.1 hgr H1.out.2.2.2.2, H1.out.2.2.step hcur hgr⟩
  clear hcur hgr H1
  by_cases s0 : s = 0
  · subst s0
    go_wp2_with fail
    refine (pick_any g n cap 4 4 ao (some ⟨w2.heap.size, 0, none⟩) f (fun i => [0, 1, -1, 100001].getD i 0) _ (by decide) (by decide) (H2.out.2.2.alloc _).1 (lit_cells w2 [0, 1, -1, 100001] 3 g H2.out.2.2.1.lt)).mono ?_
    rintro e w3 ⟨⟨i, hi3, rfl⟩, hcur, hgr⟩
    have hzz : -1 ≤ ([0, 1, -1, 100001] : List Int).getD i 0 ∧ ([0, 1, -1, 100001] : List Int).getD i 0 ≤ 100001 := by
      obtain rfl | rfl | rfl | rfl : i = 0 ∨ i = 1 ∨ i = 2 ∨ i = 3 := by omega
      all_goals simp
    have HZ := hide hzz
    clear hzz
    generalize ([0, 1, -1, 100001] : List Int).getD i 0 = z at *
    have H3 : Hid ((LGo L ∧ ∀ y ∈ L, 1 ≤ y ∧ y ≤ 6) ∧ w3.ownsRow w.heap.size 3 1 v1 L.length (L.map (.int .i64)) ∧ CurW w w3 g ao n cap f) := ⟨H2.out.1, owns_cur (H2.out.2.1.alloc _) hgr H2.out.2.2.2.2, (H2.out.2.2.alloc _).step hcur hgr⟩
    clear hcur hgr H2
    have HO4 := hide (H3.out.2.1.alloc (.cells #[.int .i64 z] 3))
    have HS4 := hide (Src.of_owns (lit_one w3 z))
    have hsz0 : w.heap.size ≤ (w3.alloc (.cells #[.int .i64 z] 3)).heap.size := by have := H3.out.2.2.2.1.size; simp; omega
    have hsz := hide hsz0
    clear hsz0
    go_wp2_with (first
      | (at_builtin; refine wpList_append_src rfl _ _ 24 rfl w.heap.size 3 i0 (.int .i64 0) 8 Try.underlying24 hi hz0 hz1 hz2 rfl .i64 _ L rfl HO4.out _ [z] rfl HS4.out (by unfold maxLen; simp; omega) (by simp; omega) hsz.out ?_; intro v5 w5 ho5 hg5; generalize hM : L ++ [z] = M at ho5; have HM := hide hM; clear hM; have R := hide (And.intro ho5 hg5); clear ho5 hg5))
    go_ret
    refine ⟨_, M, rfl, ?_, R.out.1, ?_⟩
    · rw [← HM.out]
      refine ⟨.inl (by simp; omega), by simp; omega, fun y hy => ?_⟩
      rcases List.mem_append.1 hy with h | h
      · have := H3.out.1.2 y h; omega
      · simp at h; rw [h]; exact HZ.out
    · exact (H3.out.2.2.alloc _).app R.out.2 (own_ge H3.out.2.1)
  · by_cases s1 : s = 1
    · subst s1
      go_wp2_with fail
      go_loopw [3, 4] (fun v i wr => ∃ (k : Nat) (M : List Int), k ≤ 12 ∧ i = .int .i64 k ∧ M.length ≤ 12 ∧ Hid (GJ k M ∧ wr.ownsRow w.heap.size 3 1 v M.length (M.map (.int .i64)) ∧ CurW w wr g ao n cap f)) (fun _ i _ => 12 - (intOf i).toNat)
      case atStart => exact ⟨0, L, by omega, rfl, by omega, ⟨H2.out.1.1, fun y hy => (by have := H2.out.1.2 y hy; omega), fun j hj => absurd hj (Nat.not_lt_zero _)⟩, H2.out.2⟩
      case round =>
        obtain ⟨k, M, hk, rfl, hM, HI⟩ := hrel
        clear H2
        by_cases hlt : k < 12
        · have hd : (k : Int) < 12 := by omega
          go_wp2_with fail
          refine (pushS u3 M (20 + k) _ _ (by omega) HI.out.2.1).mono ?_
          rintro e w3 ⟨v3, L3, rfl, hL3, ho3, b3⟩
          have hj : GJ (k + 1) L3 := by rw [hL3]; exact HI.out.1.step hlt
          have hl3 : L3.length ≤ 12 := ((lgo_iff _).1 hj.1).1
          have H3 : Hid (GJ (k + 1) L3 ∧ w3.ownsRow w.heap.size 3 1 v3 L3.length (L3.map (.int .i64)) ∧ CurW w w3 g ao n cap f) := ⟨hj, gmono ho3 HI.out.2.2.2.1.size, HI.out.2.2.below b3⟩
          clear ho3 b3 HI hL3 hj
          go_wp2
          go_roundw
          case rel => exact ⟨k + 1, L3, by omega, by go_num, hl3, H3.out⟩
          case measure => simp [intOf]; omega
        · obtain rfl : k = 12 := by omega
          go_wp2
          go_ret
          exact ⟨_, M, rfl, HI.out.1.end, HI.out.2⟩
    · have d0 : decide (s = 0) = false := by simpa using s0
      have d1 : decide (s = 1) = false := by simpa using s1
      go_wp2
      go_ret
      exact ⟨_, L, rfl, ⟨.inl (by omega), by omega, fun y hy => (by have := H2.out.1.2 y hy; omega)⟩, H2.out.2⟩
end Go.Proofs.Ytjbhgedbkajmdaa

/- Differ of the program. -/
import Derived.Test.YthbegalohfbibaaCellsOf
namespace Go.Proofs.Ythbegalohfbibaa
open Go.ChangeShapes Go.WideShapes Go.ChangeAt Go.RowKit

theorem cA_at {W : World} {b n : Nat} {t : TypeId} {f : Nat → Int} (h : W.heap[b]? = some (.cells (cA f n) t)) {k : Nat} (hk : k < 8) :
    W.cell? ⟨b, k * 2, none⟩ = some (.bool (decide (k < n))) ∧ W.cell? ⟨b, k * 2 + 1, none⟩ = some (.int .i64 (if k < n then f k else 0)) := by
  obtain rfl | rfl | rfl | rfl | rfl | rfl | rfl | rfl : k = 0 ∨ k = 1 ∨ k = 2 ∨ k = 3 ∨ k = 4 ∨ k = 5 ∨ k = 6 ∨ k = 7 := by omega
  all_goals (simp [World.cell?, h, cA])

theorem two_blocks (w : World) (o1 o2 : Obj) : ((w.alloc o1).alloc o2).heap[w.heap.size]? = some o1 ∧ ((w.alloc o1).alloc o2).heap[w.heap.size + 1]? = some o2 ∧ ((w.alloc o1).alloc o2).heap.size = w.heap.size + 2 := by
  have h1 : (w.alloc o1).heap.size = w.heap.size + 1 := by simp
  have e2 := Deep.blk_alloc_new (w.alloc o1) o2
  rw [h1] at e2
  exact ⟨(((Below.refl _ (w.alloc o1)).alloc (Nat.le_refl _) o2).block w.heap.size (by omega)).trans (Deep.blk_alloc_new w o1), e2, by simp⟩

theorem differ_impl (ao bo : Option Addr) (n m ca cb : Nat) (f g : Nat → Int) (w : World) (hn : n ≤ 2097152) (hm : m ≤ 2097152) (hA : SL .i64 w ao n f) (hB : SL .i64 w bo m g) :
    Calls Try.prog 9 #[.slice ao n ca, .slice bo m cb] w fun e w' => ∃ v, e = .returned v ∧ w'.ownsRow w.heap.size 3 1 v (dif (alike f g (min n 8) (min m 8)) 8).length ((dif (alike f g (min n 8) (min m 8)) 8).map (.int .i64)) ∧ Below w.heap.size w w' := by
  obtain ⟨i0, hi, hz0, hz1, hz2⟩ := info_parts Try.info3
  have c1 := cells_any ao n ca f w hn hA
  have c2 : ∀ W, Below w.heap.size w W → Hid (Calls Try.prog 25 #[.slice bo m cb] W fun e w' => e = .returned (.agg (cA g (min m 8))) ∧ Below W.heap.size W w') := fun W hW => hide (cells_any bo m cb g W hm (hB.below hW))
  have e1 : ∀ W, (Op.equalIn 10000 43 (.agg (cA f (min n 8))) (.agg (cA g (min m 8)))).run Try.prog W = _ := fun W => eq_row f g (min n 8) (min m 8) W
  clear hA hB
  go_enter Try.func9, Try.ntmps9
  go_wp2_with fail
  refine c1.mono ?_
  rintro e w1 ⟨rfl, b1⟩
  go_wp2_with fail
  refine (c2 _ b1).out.mono ?_
  rintro e w2 ⟨rfl, b2⟩
  clear c1 c2
  have B2 : Below w.heap.size w w2 := b1.trans (b2.mono b1.size)
  clear b1 b2
  generalize hn' : min n 8 = n' at *
  generalize hm' : min m 8 = m' at *
  have F1 : ∀ (W : World) (b : Nat), W.heap[b]? = some (.cells (cA f n') 43) → ∀ k, k < 8 → W.cell? ⟨b, k * 2, none⟩ = some (.bool (decide (k < n'))) ∧ W.cell? ⟨b, k * 2 + 1, none⟩ = some (.int .i64 (if k < n' then f k else 0)) := fun W b h k hk => cA_at h hk
  have F2 : ∀ (W : World) (b : Nat), W.heap[b]? = some (.cells (cA g m') 43) → ∀ k, k < 8 → W.cell? ⟨b, k * 2, none⟩ = some (.bool (decide (k < m'))) ∧ W.cell? ⟨b, k * 2 + 1, none⟩ = some (.int .i64 (if k < m' then g k else 0)) := fun W b h k hk => cA_at h hk
  have N := fun i W => eq_at f g n' m' i W
  generalize hs : alike f g n' m' = s at *
  generalize hS : (s 0 && (s 1 && (s 2 && (s 3 && (s 4 && (s 5 && (s 6 && s 7))))))) = S at *
  obtain ⟨a0, b0, a1, b1, a2, b2, a3, b3, a4, b4, a5, b5, a6, b6, a7, b7, hcA⟩ : ∃ a0 b0 a1 b1 a2 b2 a3 b3 a4 b4 a5 b5 a6 b6 a7 b7, cA f n' = #[.bool a0, .int .i64 b0, .bool a1, .int .i64 b1, .bool a2, .int .i64 b2, .bool a3, .int .i64 b3, .bool a4, .int .i64 b4, .bool a5, .int .i64 b5, .bool a6, .int .i64 b6, .bool a7, .int .i64 b7] := ⟨_, _, _, _, _, _, _, _, _, _, _, _, _, _, _, _, rfl⟩
  obtain ⟨c0, d0, c1, d1, c2, d2, c3, d3, c4, d4, c5, d5, c6, d6, c7, d7, hcG⟩ : ∃ c0 d0 c1 d1 c2 d2 c3 d3 c4 d4 c5 d5 c6 d6 c7 d7, cA g m' = #[.bool c0, .int .i64 d0, .bool c1, .int .i64 d1, .bool c2, .int .i64 d2, .bool c3, .int .i64 d3, .bool c4, .int .i64 d4, .bool c5, .int .i64 d5, .bool c6, .int .i64 d6, .bool c7, .int .i64 d7] := ⟨_, _, _, _, _, _, _, _, _, _, _, _, _, _, _, _, rfl⟩
  simp only [hcA] at e1 F1 ⊢
  simp only [hcG] at e1 F2 ⊢
  have HH : Hid (alike f g (min n 8) (min m 8) = s) := (show _ = _ by rw [hn', hm']; exact hs)
  clear hcA hcG hn' hm' hs
  have HS : Hid ((s 0 && (s 1 && (s 2 && (s 3 && (s 4 && (s 5 && (s 6 && s 7))))))) = S) := hS
  clear hS
  have F1' := hide F1
  have F2' := hide F2
  have N' := hide N
  clear F1 F2 N
  cases S with
  | true =>
    go_wp2
    go_ret
    have hall : ∀ i, i < 8 → s i = true := by
      have h := HS.out
      simp only [Bool.and_eq_true] at h
      intro i hi
      obtain rfl | rfl | rfl | rfl | rfl | rfl | rfl | rfl : i = 0 ∨ i = 1 ∨ i = 2 ∨ i = 3 ∨ i = 4 ∨ i = 5 ∨ i = 6 ∨ i = 7 := by omega
      all_goals (first | exact h.1 | exact h.2.1 | exact h.2.2.1 | exact h.2.2.2.1 | exact h.2.2.2.2.1 | exact h.2.2.2.2.2.1 | exact h.2.2.2.2.2.2.1 | exact h.2.2.2.2.2.2.2)
    refine ⟨_, rfl, ?_, (B2.alloc B2.size _).alloc (by have := B2.size; simp; omega) _⟩
    rw [HH.out, dif_nil hall]
    exact owns_nil
  | false =>
    go_wp2
    obtain ⟨W3, hW3⟩ : ∃ W3, W3 = (w2.alloc (.cells #[.bool a0, .int .i64 b0, .bool a1, .int .i64 b1, .bool a2, .int .i64 b2, .bool a3, .int .i64 b3, .bool a4, .int .i64 b4, .bool a5, .int .i64 b5, .bool a6, .int .i64 b6, .bool a7, .int .i64 b7] 43)).alloc (.cells #[.bool c0, .int .i64 d0, .bool c1, .int .i64 d1, .bool c2, .int .i64 d2, .bool c3, .int .i64 d3, .bool c4, .int .i64 d4, .bool c5, .int .i64 d5, .bool c6, .int .i64 d6, .bool c7, .int .i64 d7] 43) := ⟨_, rfl⟩
    rw [← hW3]
    obtain ⟨t1, t2, t3⟩ := two_blocks w2 (.cells #[.bool a0, .int .i64 b0, .bool a1, .int .i64 b1, .bool a2, .int .i64 b2, .bool a3, .int .i64 b3, .bool a4, .int .i64 b4, .bool a5, .int .i64 b5, .bool a6, .int .i64 b6, .bool a7, .int .i64 b7] 43) (.cells #[.bool c0, .int .i64 d0, .bool c1, .int .i64 d1, .bool c2, .int .i64 d2, .bool c3, .int .i64 d3, .bool c4, .int .i64 d4, .bool c5, .int .i64 d5, .bool c6, .int .i64 d6, .bool c7, .int .i64 d7] 43)
    rw [← hW3] at t1 t2 t3
    have P1 := hide (F1'.out W3 w2.heap.size t1)
    have P2 := hide (F2'.out W3 (w2.heap.size + 1) t2)
    have B3 : Below w.heap.size w W3 := by rw [hW3]; exact (B2.alloc B2.size _).alloc (by have := B2.size; simp; omega) _
    clear hW3 F1' F2' e1 t1 t2 B2
    go_loopw [7, 8, 16] (fun v _ i wr => ∃ (k r : Nat) (L : List Int), k ≤ 8 ∧ i = .int .i64 k ∧ r ≤ k ∧ Hid (L = dif s k ∧ L.length = r) ∧ wr.ownsRow W3.heap.size 3 1 v r (L.map (.int .i64)) ∧ Below W3.heap.size W3 wr) (fun _ _ i _ => 8 - (intOf i).toNat)
    case atStart => exact ⟨0, 0, [], by omega, rfl, by omega, ⟨rfl, rfl⟩, owns_nil, Below.refl _ _⟩
    case round =>
      obtain ⟨k, r, L, hk, rfl, hr, hL, hown, hbel⟩ := hrel
      by_cases hlt : k < 8
      · obtain ⟨p1, p2⟩ := P1.out k hlt
        obtain ⟨p3, p4⟩ := P2.out k hlt
        have q1 := (hbel.cell (p := ⟨w2.heap.size, k * 2, none⟩) (by show w2.heap.size < _; omega)).trans p1
        have q2 := (hbel.cell (p := ⟨w2.heap.size, k * 2 + 1, none⟩) (by show w2.heap.size < _; omega)).trans p2
        have q3 := (hbel.cell (p := ⟨w2.heap.size + 1, k * 2, none⟩) (by show w2.heap.size + 1 < _; omega)).trans p3
        have q4 := (hbel.cell (p := ⟨w2.heap.size + 1, k * 2 + 1, none⟩) (by show w2.heap.size + 1 < _; omega)).trans p4
        have E := N'.out k
        clear p1 p2 p3 p4 P1 P2 N'
        generalize decide (k < n') = x1 at *
        generalize (if k < n' then f k else 0) = y1 at *
        generalize decide (k < m') = x2 at *
        generalize (if k < m' then g k else 0) = y2 at *
        generalize hsk0 : s k = sk at *
        have hsk : Hid (s k = sk) := hsk0
        clear hsk0
        cases sk with
        | true =>
          go_wp2
          go_quiet (fail)
          go_wp2
          go_roundw
          case rel => exact ⟨k + 1, r, L, by omega, by go_num, by omega, ⟨by rw [hL.out.1, dif, if_pos hsk.out], hL.out.2⟩, owns_drawn hown _, Below.drawn hbel _⟩
          case measure => simp [intOf]; omega
        | false =>
          have hownq := fun q => hide (owns_drawn hown q)
          have hbelq := fun q => hide (Below.drawn hbel q)
          clear hown
          go_wp2
          go_quiet (fail)
          have hown2 := (hownq nq).out
          have hbel2 := (hbelq nq).out
          clear hownq hbelq
          generalize wr.drewN nq = wq at *
          go_wp2_with (first
            | (at_builtin; refine wpList_append_own _ rfl _ _ 24 rfl W3.heap.size 3 i0 (.int .i64 0) 1 8 Try.underlying24 hi hz0 hz1 hz2 rfl (by decide) _ _ _ rfl (hown2.alloc _) ⟨wq.heap.size, 0, none⟩ 1 1 [.int .i64 (k : Int)] rfl rfl (app_cell _ _ _) (app_one _ _) (app_len (by omega)) (by omega) (by have := hbel2.size; simp; omega) ?_; intro v' w1 hown' hgrow hnn))
          have R := push hbel2 hbel2.size hown2 hown' hgrow
          clear hown' hgrow hown2 hnn
          go_wp2
          go_roundw
          case rel => exact ⟨k + 1, r + 1, L ++ [(k : Int)], by omega, by go_num, by omega, ⟨by rw [dif, if_neg (by rw [hsk.out]; simp), hL.out.1], by simp [hL.out.2]⟩, R.1, R.2⟩
          case measure => simp [intOf]; omega
      · have hkn : k = 8 := by omega
        subst hkn
        go_wp2
        go_ret
        refine ⟨_, rfl, ?_, B3.trans (hbel.mono B3.size)⟩
        rw [HH.out]
        obtain ⟨rfl, rfl⟩ := hL.out
        exact owns_mono hown B3.size
end Go.Proofs.Ythbegalohfbibaa

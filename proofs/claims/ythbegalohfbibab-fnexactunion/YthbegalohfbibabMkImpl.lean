/- Mark of the program, over ascending marks. -/
import Derived.Test.YthbegalohfbibabIns3
import Derived.Test.YthbegalohfbibabMkL
import Derived.Test.YthbegalohfbibabMarksOk
import Derived.Test.YthbegalohfbibabClone
namespace Go.Proofs.Ythbegalohfbibab
open Go.ChangeShapes Go.WideShapes Go.ChangeAt Go.RowKit

theorem idx_asc (g : Nat) (lb : Array Value) (p : Int → Bool) (ao : Option Addr) (n cap : Nat) (f : Nat → Int) (w : World)
    (eg : ∀ args w, (callFunc g args).run Try.prog w = .ok (.enter g args) w)
    (hp : ∀ x, Calls Try.prog g (#[.int .i64 x] ++ lb) w fun e w' => e = .returned (.bool (p x)) ∧ w' = w)
    (hn : n ≤ 1048576) (hs : SL .i64 w ao n f) :
    Calls Try.prog 33 #[.slice ao n cap, .func (.func g) #[] lb] w fun e w' => (∃ r : Int, e = .returned (.int .i64 r) ∧ IsFirst (fun i => p (f i)) n r) ∧ w' = w := by
  go_enter Try.func33, Try.ntmps33
  go_wp2
  go_loop [5, 8] (fun _ i => ∃ k : Nat, k ≤ n ∧ i = .int .i64 k ∧ Hid (∀ j, j < k → p (f j) = false)) (fun _ i => n - (intOf i).toNat)
  case atStart => exact ⟨0, Nat.zero_le _, rfl, fun j hj => absurd hj (Nat.not_lt_zero _)⟩
  case round =>
    obtain ⟨k, hk, rfl, A⟩ := hrel
    by_cases hlt : k < n
    · obtain ⟨b, off, rfl, hb, hc⟩ := hs k hlt
      have hcall := hp (f k)
      clear hs hp
      generalize hy : f k = y at *
      have B : Hid (f k = y) := hy
      clear hy
      cases hq : p y with
      | true =>
        rw [hq] at hcall
        go_wp2_with (go_at_fn g; refine hcall.mono ?_; rintro e w' ⟨rfl, rfl⟩)
        go_ret
        exact ⟨⟨_, rfl, .inr ⟨k, rfl, hlt, by show p (f k) = true; rw [B.out]; exact hq, A.out⟩⟩, rfl⟩
      | false =>
        rw [hq] at hcall
        go_wp2_with (go_at_fn g; refine hcall.mono ?_; rintro e w' ⟨rfl, rfl⟩)
        go_round
        case rel =>
          refine ⟨k + 1, by omega, by go_num, fun j hj => ?_⟩
          by_cases e : j = k
          · subst e; rw [B.out]; exact hq
          · exact A.out j (by omega)
        case measure => simp [intOf]; omega
    · have hkn : k = n := by omega
      subst hkn
      go_wp2
      go_ret
      exact ⟨⟨_, rfl, .inl ⟨rfl, A.out⟩⟩, rfl⟩

theorem gt_any (b : Nat) (x y : Int) (w : World) (hc : w.cell? ⟨b, 0, none⟩ = some (.int .i64 x)) :
    Calls Try.prog 34 (#[.int .i64 y] ++ #[.pointer (some ⟨b, 0, none⟩)]) w fun e w' => e = .returned (.bool (decide (x < y))) ∧ w' = w := by
  go_enter Try.func34, Try.ntmps34
  go_wp2
  go_ret
  exact ⟨rfl, rfl⟩

theorem ins_any (B n i vb : Nat) (v : Value) (L : List Int) (x : Int) (w : World) (hB : B ≤ w.heap.size) (ho : w.ownsRow B 3 1 v n (L.map (.int .i64))) (hn : n ≤ 1000) (hi : i ≤ n)
    (hv : w.heap[vb]? = some (.cells #[.int .i64 x] 3 (0, 0))) (hne : ∀ g cap, v = .slice (some ⟨g, 0, none⟩) n cap → vb ≠ g) :
    Calls Try.prog 35 #[v, .int .i64 (i : Int), .slice (some ⟨vb, 0, none⟩) 1 1] w fun e w' => ∃ v', e = .returned v' ∧ w'.ownsRow B 3 1 v' (n + 1) ((ins L i x).map (.int .i64)) ∧ Below B w w' := by
  by_cases h : i = n
  · subst h
    exact ins_end B i vb v L x w hB ho hn hv
  · rcases ho.2 with ⟨_, rfl⟩ | ⟨g, cap, cur, rfl, _, _, _⟩
    · omega
    · by_cases hr : n + 1 ≤ cap
      · exact ins_room B g n cap i vb L x w ho hn (by omega) hr hv (hne g cap rfl)
      · exact ins_grow B g n cap i vb L x w hB ho hn (by omega) (by omega) hv

/-- Where x comes in K. -/
def Place (K : List Int) (x : Int) (p : Nat) : Prop := p ≤ K.length ∧ (∀ i, i < p → ¬ x < K.getD i 0) ∧ (p < K.length → x < K.getD p 0)

theorem with_any (ao : Option Addr) (n cap : Nat) (f : Nat → Int) (x : Int) (w : World) (hn : n ≤ 999) (hs : SL .i64 w ao n f) :
    Calls Try.prog 32 #[.slice ao n cap, .int .i64 x] w fun e w' => ∃ v p, e = .returned v ∧ Place (kept f x n) x p ∧ w'.ownsRow w.heap.size 3 1 v ((kept f x n).length + 1) ((ins (kept f x n) p x).map (.int .i64)) ∧ Below w.heap.size w w' := by
  have hKn := kept_len f x n
  have b0 := (Below.refl w.heap.size w).alloc (Nat.le_refl _) (.cells #[.int .i64 x] 3)
  have hwo := hide (without_any ao n cap f x (w.alloc (.cells #[.int .i64 x] 3)) (by omega) (hs.below b0))
  have HB0 := hide b0
  clear hs b0
  generalize hK : kept f x n = K at *
  obtain ⟨k, hk⟩ : ∃ k, k = K.length := ⟨_, rfl⟩
  rw [← hk] at hKn hwo ⊢
  have HK := hide hk.symm
  clear hK hk
  go_enter Try.func32, Try.ntmps32
  go_wp2_with fail
  refine hwo.out.mono ?_
  rintro e w2 ⟨v, rfl, ho, b2⟩
  obtain ⟨ro, rc, rfl, hlen, hO⟩ := Own.of_owns ho
  clear hlen
  have hbox : w2.cell? ⟨w.heap.size, 0, none⟩ = some (.int .i64 x) := (b2.cell (p := ⟨w.heap.size, 0, none⟩) (by simp)).trans (by simp)
  have HO := hide ho
  have HSL := hide hO.sl
  have hsz0 : (w.alloc (.cells #[.int .i64 x] 3)).heap.size = w.heap.size + 1 := by simp
  have hsz : w.heap.size + 1 ≤ w2.heap.size := by have := b2.size; omega
  have HB2 := hide (HB0.out.trans (b2.mono HB0.out.size))
  clear ho hO b2 hwo
  go_wp2_with fail
  refine (idx_asc 34 #[.pointer (some ⟨w.heap.size, 0, none⟩)] (fun y => decide (x < y)) ro k rc (fun i => K.getD i 0) _ (enters_of Try.func34 (by kernel_rfl) rfl) (fun y => gt_any _ x y _ hbox) (by omega) HSL.out).mono ?_
  rintro e w3 ⟨⟨r, rfl, hr⟩, rfl⟩
  have hP : ∃ p : Nat, p ≤ k ∧ Hid (Place K x p) ∧ (r = -1 ∧ p = k ∨ r = (p : Int)) := by
    have hkk := HK.out
    rcases hr with ⟨rfl, h⟩ | ⟨q, rfl, hq, h1, h2⟩
    · exact ⟨k, Nat.le_refl _, ⟨by omega, fun i hi => by simpa using h i hi, fun hlt => by omega⟩, .inl ⟨rfl, rfl⟩⟩
    · exact ⟨q, by omega, ⟨by omega, fun i hi => by simpa using h2 i hi, fun _ => by simpa using h1⟩, .inr rfl⟩
  clear hr
  obtain ⟨p, hpk, HP, hrp⟩ := hP
  have hin : Hid (Calls Try.prog 35 #[.slice ro k rc, .int .i64 (p : Int), .slice (some ⟨w3.heap.size, 0, none⟩) 1 1] (w3.alloc (.cells #[.int .i64 x] 3)) fun e w' => ∃ v', e = .returned v' ∧ w'.ownsRow (w.heap.size + 1) 3 1 v' (k + 1) ((ins K p x).map (.int .i64)) ∧ Below (w.heap.size + 1) (w3.alloc (.cells #[.int .i64 x] 3)) w') :=
    ins_any (w.heap.size + 1) k p w3.heap.size (.slice ro k rc) K x (w3.alloc (.cells #[.int .i64 x] 3)) (by simp; omega) (by rw [← hsz0]; exact HO.out.alloc _) (by omega) hpk (Deep.blk_alloc_new _ _) (fun g c e => by
      rcases HO.out.2 with ⟨e2, _⟩ | ⟨g2, c2, cur, e2, _, hc2, _⟩
      · rw [e] at e2; simp at e2
      · rw [e] at e2
        simp only [Value.slice.injEq, Option.some.injEq, Addr.mk.injEq] at e2
        obtain ⟨⟨rfl, _, _⟩, _, _⟩ := e2
        have := (Array.getElem?_eq_some_iff.1 hc2).1
        omega)
  have hBn : Hid (Below w.heap.size w (w3.alloc (.cells #[.int .i64 x] 3))) := HB2.out.alloc (by omega) _
  clear HO HSL
  rcases hrp with ⟨rfl, rfl⟩ | rfl
  · go_wp2_with fail
    refine hin.out.mono ?_
    rintro e w4 ⟨v', rfl, ho4, b4⟩
    have R := hide (And.intro (owns_mono ho4 (Nat.le_succ _)) (hBn.out.trans (b4.mono (Nat.le_succ _))))
    clear ho4 b4
    go_wp2
    go_ret
    exact ⟨_, _, rfl, HP.out, R.out⟩
  · go_wp2_with fail
    refine hin.out.mono ?_
    rintro e w4 ⟨v', rfl, ho4, b4⟩
    have R := hide (And.intro (owns_mono ho4 (Nat.le_succ _)) (hBn.out.trans (b4.mono (Nat.le_succ _))))
    clear ho4 b4
    go_wp2
    go_ret
    exact ⟨_, _, rfl, HP.out, R.out⟩
end Go.Proofs.Ythbegalohfbibab

/- Mark of the program, over ascending marks. -/
import Derived.Test.YtabknfmhhjelaaaGreatDoorGq
import Derived.Test.YtabknfmhhjelaaaGreatDoorGa
import Derived.Lib.AppendZeros
import Derived.Deep.Cut

namespace Go.Proofs.YtabknfmhhjelaaaGreatDoor
open Go.ChangeShapes Go.WideShapes Go.ChangeAt Go.RowKit
set_option linter.unusedVariables false
set_option linter.unusedSimpArgs false
set_option maxRecDepth 100000

theorem idx_asc (g : Nat) (lb : Array Value) (p : Int → Bool) (ao : Option Addr) (n cap : Nat) (f : Nat → Int) (w : World)
    (eg : ∀ args w, (callFunc g args).run Tryz.prog w = .ok (.enter g args) w)
    (hp : ∀ x, Calls Tryz.prog g (#[.int .i64 x] ++ lb) w fun e w' => e = .returned (.bool (p x)) ∧ w' = w)
    (hn : n ≤ 1048576) (hs : SL .i64 w ao n f) :
    Calls Tryz.prog 82 #[.slice ao n cap, .func (.func g) #[] lb] w fun e w' => (∃ r : Int, e = .returned (.int .i64 r) ∧ IsFirst (fun i => p (f i)) n r) ∧ w' = w := by
  go_enter Tryz.func82, Tryz.ntmps82
  go_wp2
  go_loop [5, 8] (fun _ i => ∃ k : Nat, k ≤ n ∧ i = .int .i64 k ∧ Hid (∀ j, j < k → p (f j) = false)) (fun _ i => n - (intOf i).toNat)
  case atStart => exact ⟨0, Nat.zero_le _, rfl, fun j hj => absurd hj (Nat.not_lt_zero _)⟩
  case round =>
    obtain ⟨k, hk, rfl, A⟩ := hrel
    by_cases hlt : k < n
    · obtain ⟨b, off, rfl, hb, hc⟩ := hs k hlt
      have hcall := hp (f k)
      clear hs hp
      generalize hy : f k = y at *
      have B : Hid (f k = y) := hy
      clear hy
      cases hq : p y with
      | true =>
        rw [hq] at hcall
        go_wp2_with (go_at_fn g; refine hcall.mono ?_; rintro e w' ⟨rfl, rfl⟩)
        go_ret
        exact ⟨⟨_, rfl, .inr ⟨k, rfl, hlt, by show p (f k) = true; rw [B.out]; exact hq, A.out⟩⟩, rfl⟩
      | false =>
        rw [hq] at hcall
        go_wp2_with (go_at_fn g; refine hcall.mono ?_; rintro e w' ⟨rfl, rfl⟩)
        go_round
        case rel =>
          refine ⟨k + 1, by omega, by go_num, fun j hj => ?_⟩
          by_cases e : j = k
          · subst e; rw [B.out]; exact hq
          · exact A.out j (by omega)
        case measure => simp [intOf]; omega
    · have hkn : k = n := by omega
      subst hkn
      go_wp2
      go_ret
      exact ⟨⟨_, rfl, .inl ⟨rfl, A.out⟩⟩, rfl⟩

theorem gt_any (b : Nat) (x y : Int) (w : World) (hc : w.cell? ⟨b, 0, none⟩ = some (.int .i64 x)) :
    Calls Tryz.prog 83 (#[.int .i64 y] ++ #[.pointer (some ⟨b, 0, none⟩)]) w fun e w' => e = .returned (.bool (decide (x < y))) ∧ w' = w := by
  go_enter Tryz.func83, Tryz.ntmps83
  go_wp2
  go_ret
  exact ⟨rfl, rfl⟩

theorem ins_any (B n i vb : Nat) (v : Value) (L : List Int) (x : Int) (w : World) (hB : B ≤ w.heap.size) (ho : w.ownsRow B 3 1 v n (L.map (.int .i64))) (hn : n ≤ 1000) (hi : i ≤ n)
    (hv : w.heap[vb]? = some (.cells #[.int .i64 x] 3 (0, 0))) (hne : ∀ g cap, v = .slice (some ⟨g, 0, none⟩) n cap → vb ≠ g) :
    Calls Tryz.prog 84 #[v, .int .i64 (i : Int), .slice (some ⟨vb, 0, none⟩) 1 1] w fun e w' => ∃ v', e = .returned v' ∧ w'.ownsRow B 3 1 v' (n + 1) ((ins L i x).map (.int .i64)) ∧ Below B w w' := by
  by_cases h : i = n
  · subst h
    exact ins_end B i vb v L x w hB ho hn hv
  · rcases ho.2 with ⟨_, rfl⟩ | ⟨g, cap, cur, rfl, _, _, _⟩
    · omega
    · by_cases hr : n + 1 ≤ cap
      · exact ins_room B g n cap i vb L x w ho hn (by omega) hr hv (hne g cap rfl)
      · exact ins_grow B g n cap i vb L x w hB ho hn (by omega) (by omega) hv

/-- Where x comes in K. -/
def Place (K : List Int) (x : Int) (p : Nat) : Prop := p ≤ K.length ∧ (∀ i, i < p → ¬ x < K.getD i 0) ∧ (p < K.length → x < K.getD p 0)

theorem with_any (ao : Option Addr) (n cap : Nat) (f : Nat → Int) (x : Int) (w : World) (hn : n ≤ 999) (hs : SL .i64 w ao n f) :
    Calls Tryz.prog 70 #[.slice ao n cap, .int .i64 x] w fun e w' => ∃ v p, e = .returned v ∧ Place (kept f x n) x p ∧ w'.ownsRow w.heap.size 3 1 v ((kept f x n).length + 1) ((ins (kept f x n) p x).map (.int .i64)) ∧ Below w.heap.size w w' := by
  have hKn := kept_len f x n
  have b0 := (Below.refl w.heap.size w).alloc (Nat.le_refl _) (.cells #[.int .i64 x] 3)
  have hwo := hide (without_any ao n cap f x (w.alloc (.cells #[.int .i64 x] 3)) (by omega) (hs.below b0))
  have HB0 := hide b0
  clear hs b0
  generalize hK : kept f x n = K at *
  obtain ⟨k, hk⟩ : ∃ k, k = K.length := ⟨_, rfl⟩
  rw [← hk] at hKn hwo ⊢
  have HK := hide hk.symm
  clear hK hk
  go_enter Tryz.func70, Tryz.ntmps70
  go_wp2_with fail
  refine hwo.out.mono ?_
  rintro e w2 ⟨v, rfl, ho, b2⟩
  obtain ⟨ro, rc, rfl, hlen, hO⟩ := Own.of_owns ho
  clear hlen
  have hbox : w2.cell? ⟨w.heap.size, 0, none⟩ = some (.int .i64 x) := (b2.cell (p := ⟨w.heap.size, 0, none⟩) (by simp)).trans (by simp)
  have HO := hide ho
  have HSL := hide hO.sl
  have hsz0 : (w.alloc (.cells #[.int .i64 x] 3)).heap.size = w.heap.size + 1 := by simp
  have hsz : w.heap.size + 1 ≤ w2.heap.size := by have := b2.size; omega
  have HB2 := hide (HB0.out.trans (b2.mono HB0.out.size))
  clear ho hO b2 hwo
  go_wp2_with fail
  refine (idx_asc 83 #[.pointer (some ⟨w.heap.size, 0, none⟩)] (fun y => decide (x < y)) ro k rc (fun i => K.getD i 0) _ (enters_of Tryz.func83 (by kernel_rfl) rfl) (fun y => gt_any _ x y _ hbox) (by omega) HSL.out).mono ?_
  rintro e w3 ⟨⟨r, rfl, hr⟩, rfl⟩
  have hP : ∃ p : Nat, p ≤ k ∧ Hid (Place K x p) ∧ (r = -1 ∧ p = k ∨ r = (p : Int)) := by
    have hkk := HK.out
    rcases hr with ⟨rfl, h⟩ | ⟨q, rfl, hq, h1, h2⟩
    · exact ⟨k, Nat.le_refl _, ⟨by omega, fun i hi => by simpa using h i hi, fun hlt => by omega⟩, .inl ⟨rfl, rfl⟩⟩
    · exact ⟨q, by omega, ⟨by omega, fun i hi => by simpa using h2 i hi, fun _ => by simpa using h1⟩, .inr rfl⟩
  clear hr
  obtain ⟨p, hpk, HP, hrp⟩ := hP
  have hin : Hid (Calls Tryz.prog 84 #[.slice ro k rc, .int .i64 (p : Int), .slice (some ⟨w3.heap.size, 0, none⟩) 1 1] (w3.alloc (.cells #[.int .i64 x] 3)) fun e w' => ∃ v', e = .returned v' ∧ w'.ownsRow (w.heap.size + 1) 3 1 v' (k + 1) ((ins K p x).map (.int .i64)) ∧ Below (w.heap.size + 1) (w3.alloc (.cells #[.int .i64 x] 3)) w') :=
    ins_any (w.heap.size + 1) k p w3.heap.size (.slice ro k rc) K x (w3.alloc (.cells #[.int .i64 x] 3)) (by simp; omega) (by rw [← hsz0]; exact HO.out.alloc _) (by omega) hpk (Deep.blk_alloc_new _ _) (fun g c e => by
      rcases HO.out.2 with ⟨e2, _⟩ | ⟨g2, c2, cur, e2, _, hc2, _⟩
      · rw [e] at e2; simp at e2
      · rw [e] at e2
        simp only [Value.slice.injEq, Option.some.injEq, Addr.mk.injEq] at e2
        obtain ⟨⟨rfl, _, _⟩, _, _⟩ := e2
        have := (Array.getElem?_eq_some_iff.1 hc2).1
        omega)
  have hBn : Hid (Below w.heap.size w (w3.alloc (.cells #[.int .i64 x] 3))) := HB2.out.alloc (by omega) _
  clear HO HSL
  rcases hrp with ⟨rfl, rfl⟩ | rfl
  · go_wp2_with fail
    refine hin.out.mono ?_
    rintro e w4 ⟨v', rfl, ho4, b4⟩
    have R := hide (And.intro (owns_mono ho4 (Nat.le_succ _)) (hBn.out.trans (b4.mono (Nat.le_succ _))))
    clear ho4 b4
    go_wp2
    go_ret
    exact ⟨_, _, rfl, HP.out, R.out⟩
  · go_wp2_with fail
    refine hin.out.mono ?_
    rintro e w4 ⟨v', rfl, ho4, b4⟩
    have R := hide (And.intro (owns_mono ho4 (Nat.le_succ _)) (hBn.out.trans (b4.mono (Nat.le_succ _))))
    clear ho4 b4
    go_wp2
    go_ret
    exact ⟨_, _, rfl, HP.out, R.out⟩
theorem lst_of (M : List Int) : lst (fun i => M.getD i 0) M.length = M := by
  refine List.ext_getElem? fun j => ?_
  by_cases h : j < M.length
  · simp [lst, h, List.getD]
  · rw [List.getElem?_eq_none (by simp [lst]; omega), List.getElem?_eq_none (by omega)]

theorem mark_impl (B r : Nat) (v : Value) (M : List Int) (x : Int) (w : World) (ho : w.ownsRow B 3 1 v r (M.map (.int .i64))) (hA : Asc M) :
    Calls Tryz.prog 51 #[v, .int .i64 x] w fun e w' => ∃ v', e = .returned v' ∧ w'.ownsRow w.heap.size 3 1 v' (mkr M x).length ((mkr M x).map (.int .i64)) ∧ Below w.heap.size w w' := by
  have hr : r = M.length := by simpa using ho.1.symm
  have hlen := hA.len
  have hx := nocell_any x w
  by_cases hno : x < 0 ∨ 8 ≤ x
  · have hm : mkr M x = M := by unfold mkr; rw [if_pos (by omega)]
    rw [hm]
    rw [show decide (x < 0 ∨ 8 ≤ x) = true by simpa using hno] at hx
    rcases ho.2 with ⟨rfl, h0⟩ | ⟨g, cap, cur, rfl, _⟩
    · have hM : M = [] := List.eq_nil_of_length_eq_zero (by omega)
      subst hM
      clear ho hA hm hr h0 hlen hno
      go_enter Tryz.func51, Tryz.ntmps51
      go_wp2_with fail
      refine hx.mono ?_
      rintro e w' ⟨rfl, rfl⟩
      go_wp2_with fail
      refine (clone_nil _).mono ?_
      rintro e w'' ⟨rfl, rfl⟩
      go_wp2
      go_ret
      exact ⟨_, rfl, owns_nil, Below.refl _ _⟩
    · obtain ⟨ro, rc, e, hl, hO⟩ := Own.of_owns ho
      simp only [Value.slice.injEq] at e
      obtain ⟨rfl, _, rfl⟩ := e
      have hcl := hide (clone_any ⟨g, 0, none⟩ r cap (fun i => M.getD i 0) w (by omega) hO.sl)
      have HR := hide hr
      clear ho hA hm hlen hno hO hl hr
      go_enter Tryz.func51, Tryz.ntmps51
      go_wp2_with fail
      refine hx.mono ?_
      rintro e w' ⟨rfl, hw⟩
      rw [hw]
      clear hw
      go_wp2_with fail
      refine hcl.out.mono ?_
      rintro e w1 ⟨v1, rfl, ho1, b1⟩
      have R := hide (And.intro ho1 b1)
      clear ho1 b1
      go_wp2
      go_ret
      have h := R.out
      rw [HR.out, lst_of] at h
      exact ⟨_, rfl, h⟩
  · have hm : mkr M x = mk M x := by unfold mkr; rw [if_neg (by omega)]
    rw [hm]
    rw [show decide (x < 0 ∨ 8 ≤ x) = false by simpa using hno] at hx
    obtain ⟨ro, rc, rfl, hl, hO⟩ := Own.of_owns ho
    have hK : kept (fun i => M.getD i 0) x r = M.filter (fun y => decide (y ≠ x)) := by rw [hr, kept_filter M x M.length (Nat.le_refl _), List.take_of_length_le (Nat.le_refl _)]
    have hw := hide (with_any ro r rc (fun i => M.getD i 0) x w (by omega) hO.sl)
    have HX : Hid (∀ p, Place (kept (fun i => M.getD i 0) x r) x p → ins (kept (fun i => M.getD i 0) x r) p x = mk M x ∧ (kept (fun i => M.getD i 0) x r).length + 1 = (mk M x).length) := by
      intro p hp
      rw [hK] at hp ⊢
      have e := mk_impl hA.1 hp.1 hp.2.1 hp.2.2
      exact ⟨e, by rw [← e, ins_len]⟩
    clear ho hA hm hlen hno hO hl hr hK
    go_enter Tryz.func51, Tryz.ntmps51
    go_wp2_with fail
    refine hx.mono ?_
    rintro e w' ⟨rfl, hw'⟩
    rw [hw']
    clear hw'
    go_wp2_with fail
    refine hw.out.mono ?_
    rintro e w1 ⟨v1, p, rfl, hp, ho1, b1⟩
    obtain ⟨e1, e2⟩ := HX.out p hp
    rw [e1, e2] at ho1
    have R := hide (And.intro ho1 b1)
    clear ho1 b1 e1 e2 hp HX
    go_wp2
    go_ret
    exact ⟨_, rfl, R.out⟩

/-- A bool that tells whether p. -/
def IsB (e : Ending) (p : Prop) : Prop := ∃ b : Bool, e = .returned (.bool b) ∧ (b = true ↔ p)

theorem has_any (ao : Option Addr) (n cap : Nat) (f : Nat → Int) (x : Int) (w : World) (hn : n ≤ 1048576) (hs : SL .i64 w ao n f) :
    Calls Tryz.prog 59 #[.slice ao n cap, .int .i64 x] w fun e w' => IsB e (∃ i, i < n ∧ f i = x) ∧ w' = w := by
  go_enter Tryz.func59, Tryz.ntmps59
  go_wp2
  go_loop [5] (fun i => ∃ k : Nat, k ≤ n ∧ i = .int .i64 k ∧ Hid (∀ j, j < k → f j ≠ x)) (fun i => n - (intOf i).toNat)
  case atStart => exact ⟨0, by omega, rfl, fun j hj => absurd hj (by omega)⟩
  case round =>
    obtain ⟨k, hk, rfl, A⟩ := hrel
    by_cases hlt : k < n
    · obtain ⟨b, off, rfl, hb, hc⟩ := hs k hlt
      clear hs
      generalize hy : f k = y at *
      have B := hide hy
      clear hy
      by_cases he : y = x
      · subst he
        go_wp2
        go_ret
        exact ⟨⟨true, rfl, ⟨fun _ => ⟨k, hlt, B.out⟩, fun _ => rfl⟩⟩, rfl⟩
      · have hd : decide (y = x) = false := by simpa using he
        go_wp2
        go_round
        case rel =>
          refine ⟨k + 1, by omega, by go_num, fun j hj => ?_⟩
          by_cases e : j = k
          · subst e; rw [B.out]; exact he
          · exact A.out j (by omega)
        case measure => simp [intOf]; omega
    · obtain rfl : k = n := by omega
      go_wp2
      go_ret
      exact ⟨⟨false, rfl, ⟨(fun h => by cases h), fun ⟨i, hi, e⟩ => absurd e (A.out i hi)⟩⟩, rfl⟩

theorem news_at {w w' : World} {g off : Nat} {L : List Int} (hc : ∀ j, j < L.length → w.cell? ⟨g, off + j, none⟩ = some (.int .i64 (L.getD j 0))) (hg : L.length ≠ 0 → g < w.heap.size) (hb : Below w.heap.size w w') :
    ∀ j u, (L.map (Value.int .i64))[j]? = some u → w'.cell? ((⟨g, off, none⟩ : Addr).add j) = some u := by
  intro j u h
  have hj : j < L.length := by
    by_cases hj : j < L.length
    · exact hj
    · rw [List.getElem?_eq_none (by simp; omega)] at h; cases h
  have e : u = .int .i64 (L.getD j 0) := by simpa [hj, List.getD] using h.symm
  rw [Addr.add_lit, e]
  exact (hb.cell (p := ⟨g, off + j, none⟩) (hg (by omega))).trans (hc j hj)

/-- A row that is not nil. -/
def Fresh (w w' : World) (v : Value) (L : List Int) : Prop := w'.ownsRow w.heap.size 3 1 v L.length (L.map (.int .i64)) ∧ (∃ g c, v = .slice (some ⟨g, 0, none⟩) L.length c) ∧ Below w.heap.size w w'

theorem fresh_of {w w' : World} {v : Value} {L : List Int} (h : w'.ownsRow w.heap.size 3 1 v L.length (L.map (.int .i64))) (hn : v ≠ .slice none 0 0) (hb : Below w.heap.size w w') : Fresh w w' v L := by
  refine ⟨h, ?_, hb⟩
  rcases h.2 with ⟨e, _⟩ | ⟨g, c, _, e, _⟩
  · exact absurd e hn
  · exact ⟨g, c, e⟩

theorem cells_take {w : World} {g : Nat} {M : List Int} {k : Nat} (h : ∀ j, j < M.length → w.cell? ⟨g, j, none⟩ = some (.int .i64 (M.getD j 0))) : ∀ j, j < (M.take k).length → w.cell? ⟨g, j, none⟩ = some (.int .i64 ((M.take k).getD j 0)) := by
  intro j hj
  rw [List.length_take] at hj
  have h1 : j < k := by omega
  rw [h j (by omega)]
  simp [List.getD, h1]
theorem cells_drop {w : World} {g : Nat} {M : List Int} {k : Nat} (h : ∀ j, j < M.length → w.cell? ⟨g, j, none⟩ = some (.int .i64 (M.getD j 0))) : ∀ j, j < (M.drop k).length → w.cell? ⟨g, k + j, none⟩ = some (.int .i64 ((M.drop k).getD j 0)) := by
  intro j hj
  simp at hj
  rw [h (k + j) (by omega)]
  simp [List.getD, List.getElem?_drop]

theorem ins3 {M : List Int} {x : Int} {k : Nat} : ((M.take k ++ [x]) ++ M.drop k) = ins M k x := by simp [ins]

theorem mark_spec (B g cap r : Nat) (M : List Int) (x : Int) (w : World) (hr : r = M.length) (ho : w.ownsRow B 3 1 (.slice (some ⟨g, 0, none⟩) r cap) r (M.map (.int .i64))) (hA : Asc M) :
    Calls Tryz.prog 42 #[.slice (some ⟨g, 0, none⟩) r cap, .int .i64 x] w fun e w' => ∃ v, e = .returned v ∧ Fresh w w' v (mkr M x) := by
  obtain ⟨i0, hi, hz0, hz1, hz2⟩ := info_parts Tryz.info3
  obtain ⟨c, hc, hu1, hu2, hnc, hcm, hcs, hget⟩ := owns_cells ho
  clear hu1 hu2
  have hgw : g < w.heap.size := (Array.getElem?_eq_some_iff.1 hc).1
  have hcell : ∀ j, j < M.length → w.cell? ⟨g, j, none⟩ = some (.int .i64 (M.getD j 0)) := fun j hj => by
    simp only [World.cell?, hc]
    rw [if_neg (by simp), hget j (by omega)]
    simp [hj, List.getD]
  have hlen : r ≤ 8 := by have := hA.len; omega
  have hs : SL .i64 w (some ⟨g, 0, none⟩) r (fun i => M.getD i 0) := fun i hi => ⟨g, 0, rfl, hgw, by rw [Nat.zero_add]; exact hcell i (by omega)⟩
  have hhas := hide (has_any (some ⟨g, 0, none⟩) r cap (fun i => M.getD i 0) x w (by omega) hs)
  have hmem : (∃ i, i < r ∧ M.getD i 0 = x) ↔ x ∈ M := by
    rw [List.mem_iff_getElem]
    constructor
    · rintro ⟨i, hi, e⟩
      exact ⟨i, by omega, by rw [← e]; simp [List.getD, show i < M.length by omega]⟩
    · rintro ⟨i, hi, e⟩
      exact ⟨i, by omega, by rw [← e]; simp [List.getD, hi]⟩
  unfold maxLen at hcm
  have HR := hide hr
  have HM := hide hmem
  have HB0 := hide ((Below.refl w.heap.size w).alloc (Nat.le_refl _) (.cells #[] 3))
  have HA := hide hA
  have HC := hide hcell
  have HS := hide hs
  clear hs hcell hget hA ho hmem hr hc hcs
  by_cases hstay : x ∈ M ∨ (x < 0 ∨ 7 < x)
  · have hm : mkr M x = M := by
      unfold mkr
      split
      · rfl
      · exact mk_has HA.out.1 (by rcases hstay with h | h; exact h; omega)
    rw [hm]
    have hnews := hide (news_at (L := M) (off := 0) (fun j hj => by rw [Nat.zero_add]; exact HC.out j hj) (fun _ => hgw) HB0.out)
    have hone := hide (app_ones .i64 M)
    have hst := hide hstay
    clear hstay hm
    go_enter Tryz.func42, Tryz.ntmps42
    go_wp2_with fail
    refine hhas.out.mono ?_
    rintro e w' ⟨⟨b, rfl, hb0⟩, hw⟩
    have hb := hide hb0
    rw [hw]
    clear hw hb0
    cases b with
    | true =>
      go_wp2_with (first
        | (at_builtin; refine wpList_append_own _ rfl _ _ 22 rfl w.heap.size 3 i0 (.int .i64 0) 1 8 Tryz.underlying22 hi hz0 hz1 hz2 rfl (by decide) _ _ _ rfl (owns_empty (Nat.le_refl _)) ⟨g, 0, none⟩ r cap (M.map (.int .i64)) rfl (by simp [HR.out]) hnews.out hone.out (app_lens (by omega)) (by omega) (by simp) ?_; intro v' w1 hown' hgrow hnn))
      have hb1 := grown_below ((Below.refl w.heap.size w).alloc (Nat.le_refl _) _) (by simp) (owns_empty (Nat.le_refl _)) hgrow
      have hv1 : v' ≠ .slice none 0 0 := fun e => by
        have h : Value.slice (some ⟨w.heap.size, 0, none⟩) 0 0 = .slice none 0 0 := (hnn.1 e).1
        cases h
      have R := hide (fresh_of (L := M) (by simpa [HR.out] using hown') hv1 hb1)
      clear hown' hgrow hnn hb1 hv1
      go_wp2
      go_ret
      exact ⟨_, rfl, R.out⟩
    | false =>
      have hno : x < 0 ∨ 7 < x := by
        rcases hst.out with h | h
        · exact absurd (hb.out.2 (HM.out.2 h)) (by simp)
        · exact h
      go_wp2_with (first
        | (go_at_call 36; refine (in_no _ _ _ _ hno).mono ?_; rintro e w9 ⟨rfl, hw9⟩; rw [hw9]; clear hw9)
        | (at_builtin; refine wpList_append_own _ rfl _ _ 22 rfl w.heap.size 3 i0 (.int .i64 0) 1 8 Tryz.underlying22 hi hz0 hz1 hz2 rfl (by decide) _ _ _ rfl (owns_empty (Nat.le_refl _)) ⟨g, 0, none⟩ r cap (M.map (.int .i64)) rfl (by simp [HR.out]) hnews.out hone.out (app_lens (by omega)) (by omega) (by simp) ?_; intro v' w1 hown' hgrow hnn))
      have hb1 := grown_below ((Below.refl w.heap.size w).alloc (Nat.le_refl _) _) (by simp) (owns_empty (Nat.le_refl _)) hgrow
      have hv1 : v' ≠ .slice none 0 0 := fun e => by
        have h : Value.slice (some ⟨w.heap.size, 0, none⟩) 0 0 = .slice none 0 0 := (hnn.1 e).1
        cases h
      have R := hide (fresh_of (L := M) (by simpa [HR.out] using hown') hv1 hb1)
      clear hown' hgrow hnn hb1 hv1
      go_wp2
      go_ret
      exact ⟨_, rfl, R.out⟩
  · have hx0 : 0 ≤ x := by omega
    have hx7 : x ≤ 7 := by omega
    have hxM : Hid (x ∉ M) := fun h => hstay (.inl h)
    have hm : mkr M x = mk M x := by unfold mkr; rw [if_neg (by omega)]
    rw [hm]
    clear hstay hm
    go_enter Tryz.func42, Tryz.ntmps42
    go_wp2_with fail
    refine hhas.out.mono ?_
    rintro e w' ⟨⟨b, rfl, hb0⟩, hw⟩
    obtain rfl : b = false := by
      cases b with
      | false => rfl
      | true => exact absurd (HM.out.1 (hb0.1 rfl)) hxM.out
    rw [hw]
    clear hw hb0 hhas
    go_wp2_with (go_at_call 36; refine (in_yes _ _ _ _ hx0 hx7).mono ?_; rintro e w9 ⟨rfl, hw9⟩; rw [hw9]; clear hw9)
    go_loop [5] (fun i => ∃ k : Nat, k ≤ r ∧ i = .int .i64 k ∧ Hid (∀ j, j < k → M.getD j 0 < x)) (fun i => r - (intOf i).toNat)
    case atStart => exact ⟨0, by omega, rfl, fun j hj => absurd hj (by omega)⟩
    case round =>
      obtain ⟨k, hk, rfl, A⟩ := hrel
      have hnews1 := hide (news_at (L := M.take k) (off := 0) (fun j hj => by rw [Nat.zero_add]; exact cells_take HC.out j hj) (fun _ => hgw) HB0.out)
      have hone1 := hide (app_ones .i64 (M.take k))
      have hone3 := hide (app_ones .i64 (M.drop k))
      have hl1 : Hid (((M.take k).map (Value.int .i64)).length = k * 1) := (show _ = _ by have := HR.out; simp; omega)
      have hl3 : Hid (((M.drop k).map (Value.int .i64)).length = (r - k) * 1) := (show _ = _ by have := HR.out; simp; omega)
      have hk0 : (0 : Int) ≤ (k : Int) := by omega
      have hkc : (k : Int) ≤ (cap : Int) := by omega
      have hkr : (k : Int) ≤ (r : Int) := by omega
      by_cases hlt : k < r
      · have hc0 : w.cell? ⟨g, k, none⟩ = some (.int .i64 (M.getD k 0)) := HC.out k (by have := HR.out; omega)
        generalize hy : M.getD k 0 = y at hc0
        have HY := hide hy
        clear hy
        by_cases hyx : y < x
        · clear hnews1 hone1 hone3 hl1 hl3
          go_wp2
          go_round
          case rel =>
            refine ⟨k + 1, by omega, by go_num, fun j hj => ?_⟩
            by_cases e : j = k
            · subst e; rw [HY.out]; exact hyx
            · exact A.out j (by omega)
          case measure => simp [intOf]; omega
        · have hex : Hid (k < M.length → ¬ M.getD k 0 < x) := fun _ => by rw [HY.out]; exact hyx
          have hd : decide (y < x) = false := by simpa using hyx
          have hck : ¬ (cap = k) := by omega
          go_upto_region 7 with (first
            | (at_builtin; refine wpList_append_own _ rfl _ _ 22 rfl w.heap.size 3 i0 (.int .i64 0) 1 8 Tryz.underlying22 hi hz0 hz1 hz2 rfl (by decide) _ _ _ rfl (owns_empty (Nat.le_refl _)) ⟨g, 0, none⟩ k cap ((M.take k).map (.int .i64)) rfl hl1.out hnews1.out hone1.out (app_lens (by omega)) (by omega) (by simp) ?_; intro v1 w1 hown1 hgrow1 hnn1))
          have hb1 := grown_below ((Below.refl w.heap.size w).alloc (Nat.le_refl _) _) (by simp) (owns_empty (Nat.le_refl _)) hgrow1
          clear hgrow1 hnn1
          rw [Nat.zero_add] at hown1
          go_upto_region 8 with (first
            | (at_builtin; refine wpList_append_own _ rfl _ _ 22 rfl w.heap.size 3 i0 (.int .i64 0) 1 8 Tryz.underlying22 hi hz0 hz1 hz2 rfl (by decide) _ _ _ rfl (hown1.alloc _) ⟨w1.heap.size, 0, none⟩ 1 1 [.int .i64 x] rfl rfl (app_cell8 _ _ _) (app_one8 _ _) (app_len8 (by omega)) (by omega) (by have := hb1.size; simp; omega) ?_; intro v2 w2 hown2 hgrow2 hnn2))
          have hb2 := grown_below (hb1.alloc hb1.size _) (by have := hb1.size; simp; omega) hown1 hgrow2
          clear hgrow2 hnn2 hown1
          have hnews3 := hide (news_at (L := M.drop k) (off := k) (fun j hj => cells_drop HC.out j hj) (fun _ => hgw) hb2)
          go_wp2_with (first
            | (at_builtin; refine wpList_append_own _ rfl _ _ 22 rfl w.heap.size 3 i0 (.int .i64 0) 1 8 Tryz.underlying22 hi hz0 hz1 hz2 rfl (by decide) _ _ _ rfl hown2 ⟨g, k, none⟩ (r - k) (cap - k) ((M.drop k).map (.int .i64)) rfl hl3.out hnews3.out hone3.out (app_lens (by omega)) (by omega) hb2.size ?_; intro v3 w3 hown3 hgrow3 hnn3))
          have hb3 := grown_below hb2 hb2.size hown2 hgrow3
          clear hgrow3 hnn3 hown2
          have R : Hid (Fresh w w3 v3 (mk M x)) := by
            have e := mk_spec hxM.out (by have := HR.out; omega) A.out (fun h => by have := hex.out h; omega)
            have hrr := HR.out
            have hlen3 : (mk M x).length = k + 1 + (r - k) := by rw [← e, ins_len]; omega
            refine fresh_of (by rw [hlen3, ← e, ← ins3]; simpa using hown3) (fun h => ?_) hb3
            rw [h] at hown3
            rcases hown3.2 with ⟨_, h0⟩ | ⟨_, _, _, h0, _⟩
            · omega
            · cases h0
          clear hown3 hb3
          go_wp2
          go_ret
          exact ⟨_, rfl, R.out⟩
      · obtain rfl : k = r := by omega
        have hex : Hid (k < M.length → ¬ M.getD k 0 < x) := fun h => by have := HR.out; omega
        have hdn : Hid (M.drop k = []) := List.drop_of_length_le (by have := HR.out; omega)
        have hl0 : Hid (((M.drop k).map (Value.int .i64)).length = 0 * 1) := (show _ = _ by rw [hdn.out]; rfl)
        by_cases hck : k = cap
        · subst hck
          go_upto_region 7 with (first
            | (at_builtin; refine wpList_append_own _ rfl _ _ 22 rfl w.heap.size 3 i0 (.int .i64 0) 1 8 Tryz.underlying22 hi hz0 hz1 hz2 rfl (by decide) _ _ _ rfl (owns_empty (Nat.le_refl _)) ⟨g, 0, none⟩ k k ((M.take k).map (.int .i64)) rfl hl1.out hnews1.out hone1.out (app_lens (by omega)) (by omega) (by simp) ?_; intro v1 w1 hown1 hgrow1 hnn1))
          have hb1 := grown_below ((Below.refl w.heap.size w).alloc (Nat.le_refl _) _) (by simp) (owns_empty (Nat.le_refl _)) hgrow1
          clear hgrow1 hnn1
          rw [Nat.zero_add] at hown1
          go_upto_region 8 with (first
            | (at_builtin; refine wpList_append_own _ rfl _ _ 22 rfl w.heap.size 3 i0 (.int .i64 0) 1 8 Tryz.underlying22 hi hz0 hz1 hz2 rfl (by decide) _ _ _ rfl (hown1.alloc _) ⟨w1.heap.size, 0, none⟩ 1 1 [.int .i64 x] rfl rfl (app_cell8 _ _ _) (app_one8 _ _) (app_len8 (by omega)) (by omega) (by have := hb1.size; simp; omega) ?_; intro v2 w2 hown2 hgrow2 hnn2))
          have hb2 := grown_below (hb1.alloc hb1.size _) (by have := hb1.size; simp; omega) hown1 hgrow2
          clear hgrow2 hnn2 hown1
          have hnews3 : Hid (∀ j u, ((M.drop k).map (Value.int .i64))[j]? = some u → w2.cell? ((⟨g, 0, none⟩ : Addr).add j) = some u) := fun j u h => by rw [hdn.out] at h; simp at h
          go_wp2_with (first
            | (at_builtin; refine wpList_append_own _ rfl _ _ 22 rfl w.heap.size 3 i0 (.int .i64 0) 1 8 Tryz.underlying22 hi hz0 hz1 hz2 rfl (by decide) _ _ _ rfl hown2 ⟨g, 0, none⟩ 0 0 ((M.drop k).map (.int .i64)) rfl hl0.out hnews3.out hone3.out (app_lens (by omega)) (by omega) hb2.size ?_; intro v3 w3 hown3 hgrow3 hnn3))
          have hb3 := grown_below hb2 hb2.size hown2 hgrow3
          clear hgrow3 hnn3 hown2
          have R : Hid (Fresh w w3 v3 (mk M x)) := by
            have e := mk_spec hxM.out (by have := HR.out; omega) A.out (fun h => by have := hex.out h; omega)
            have hrr := HR.out
            have hlen3 : (mk M x).length = k + 1 + 0 := by rw [← e, ins_len]; omega
            refine fresh_of (by rw [hlen3, ← e, ← ins3]; simpa using hown3) (fun h => ?_) hb3
            rw [h] at hown3
            rcases hown3.2 with ⟨_, h0⟩ | ⟨_, _, _, h0, _⟩
            · omega
            · cases h0
          clear hown3 hb3
          go_wp2
          go_ret
          exact ⟨_, rfl, R.out⟩
        · skip
          go_upto_region 7 with (first
            | (at_builtin; refine wpList_append_own _ rfl _ _ 22 rfl w.heap.size 3 i0 (.int .i64 0) 1 8 Tryz.underlying22 hi hz0 hz1 hz2 rfl (by decide) _ _ _ rfl (owns_empty (Nat.le_refl _)) ⟨g, 0, none⟩ k cap ((M.take k).map (.int .i64)) rfl hl1.out hnews1.out hone1.out (app_lens (by omega)) (by omega) (by simp) ?_; intro v1 w1 hown1 hgrow1 hnn1))
          have hb1 := grown_below ((Below.refl w.heap.size w).alloc (Nat.le_refl _) _) (by simp) (owns_empty (Nat.le_refl _)) hgrow1
          clear hgrow1 hnn1
          rw [Nat.zero_add] at hown1
          go_upto_region 8 with (first
            | (at_builtin; refine wpList_append_own _ rfl _ _ 22 rfl w.heap.size 3 i0 (.int .i64 0) 1 8 Tryz.underlying22 hi hz0 hz1 hz2 rfl (by decide) _ _ _ rfl (hown1.alloc _) ⟨w1.heap.size, 0, none⟩ 1 1 [.int .i64 x] rfl rfl (app_cell8 _ _ _) (app_one8 _ _) (app_len8 (by omega)) (by omega) (by have := hb1.size; simp; omega) ?_; intro v2 w2 hown2 hgrow2 hnn2))
          have hb2 := grown_below (hb1.alloc hb1.size _) (by have := hb1.size; simp; omega) hown1 hgrow2
          clear hgrow2 hnn2 hown1
          have hnews3 : Hid (∀ j u, ((M.drop k).map (Value.int .i64))[j]? = some u → w2.cell? ((⟨g, k, none⟩ : Addr).add j) = some u) := fun j u h => by rw [hdn.out] at h; simp at h
          go_wp2_with (first
            | (at_builtin; refine wpList_append_own _ rfl _ _ 22 rfl w.heap.size 3 i0 (.int .i64 0) 1 8 Tryz.underlying22 hi hz0 hz1 hz2 rfl (by decide) _ _ _ rfl hown2 ⟨g, k, none⟩ 0 (cap - k) ((M.drop k).map (.int .i64)) rfl hl0.out hnews3.out hone3.out (app_lens (by omega)) (by omega) hb2.size ?_; intro v3 w3 hown3 hgrow3 hnn3))
          have hb3 := grown_below hb2 hb2.size hown2 hgrow3
          clear hgrow3 hnn3 hown2
          have R : Hid (Fresh w w3 v3 (mk M x)) := by
            have e := mk_spec hxM.out (by have := HR.out; omega) A.out (fun h => by have := hex.out h; omega)
            have hrr := HR.out
            have hlen3 : (mk M x).length = k + 1 + 0 := by rw [← e, ins_len]; omega
            refine fresh_of (by rw [hlen3, ← e, ← ins3]; simpa using hown3) (fun h => ?_) hb3
            rw [h] at hown3
            rcases hown3.2 with ⟨_, h0⟩ | ⟨_, _, _, h0, _⟩
            · omega
            · cases h0
          clear hown3 hb3
          go_wp2
          go_ret
          exact ⟨_, rfl, R.out⟩

theorem Fresh.on {w wr w2 : World} {v v2 : Value} {L L2 : List Int} (h : Fresh w wr v L) (h2 : Fresh wr w2 v2 L2) : Fresh w w2 v2 L2 :=
  ⟨owns_mono h2.1 h.2.2.size, h2.2.1, h.2.2.trans (h2.2.2.mono h.2.2.size)⟩

end Go.Proofs.YtabknfmhhjelaaaGreatDoor

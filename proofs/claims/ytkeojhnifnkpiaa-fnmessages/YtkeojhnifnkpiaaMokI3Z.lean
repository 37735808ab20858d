/- MsgOk of the program: messages held against each other, generations. -/
import Derived.Test.YtkeojhnifnkpiaaGd
import Derived.Laws.StructEq
import Derived.Deep.RegionHeld3

namespace Go.Proofs.Ytkeojhnifnkpiaa
open Go.ChangeShapes Go.WideShapes Go.ChangeAt Go.RowKit
set_option linter.unusedVariables false
set_option linter.unusedSimpArgs false

theorem sindex_any (ao : Option Addr) (n cap : Nat) (f : Nat → Int) (x : Int) (w : World) (hn : n ≤ 1048576) (hs : SL .i64 w ao n f) :
    Calls Try.prog 136 #[.slice ao n cap, .int .i64 x] w fun e w' => ((∃ i : Nat, i < n ∧ f i = x ∧ e = .returned (.int .i64 i)) ∨ ((∀ i, i < n → f i ≠ x) ∧ e = .returned (.int .i64 (-1)))) ∧ w' = w := by
  have HS := hide hs
  clear hs
  go_enter Try.func136, Try.ntmps136
  go_wp2
  go_loop [5, 8] (fun _ i => ∃ k : Nat, k ≤ n ∧ i = .int .i64 k ∧ Hid (∀ j, j < k → f j ≠ x)) (fun _ i => n - (intOf i).toNat)
  case atStart => exact ⟨0, by omega, rfl, fun j hj => absurd hj (by omega)⟩
  case round =>
    obtain ⟨k, hk, rfl, A⟩ := hrel
    by_cases hlt : k < n
    · obtain ⟨b, off, rfl, hb, hc⟩ := HS.out k hlt
      generalize hy : f k = y at *
      have B := hide hy
      clear hy
      by_cases he : x = y
      · subst he
        go_wp2
        go_ret
        exact ⟨.inl ⟨k, hlt, B.out, rfl⟩, rfl⟩
      · have hd : decide (x = y) = false := by simpa using he
        go_wp2
        go_round
        case rel =>
          refine ⟨k + 1, by omega, by go_num, fun j hj => ?_⟩
          by_cases e : j = k
          · subst e; rw [B.out]; exact fun e => he e.symm
          · exact A.out j (by omega)
        case measure => simp [intOf]; omega
    · obtain rfl : k = n := by omega
      go_wp2
      go_ret
      exact ⟨.inr ⟨A.out, rfl⟩, rfl⟩
theorem scontains_yes (ao : Option Addr) (n cap : Nat) (f : Nat → Int) (x : Int) (w : World) (hn : n ≤ 1048576) (hs : SL .i64 w ao n f) (h : ∃ i, i < n ∧ f i = x) :
    Calls Try.prog 123 #[.slice ao n cap, .int .i64 x] w fun e w' => e = .returned (.bool true) ∧ w' = w := by
  have hc := hide (sindex_any ao n cap f x w hn hs)
  have H := hide h
  clear hs h
  go_enter Try.func123, Try.ntmps123
  go_wp2_with fail
  refine hc.out.mono ?_
  rintro e w' ⟨h, hw⟩
  rw [hw]
  clear hw hc
  rcases h with ⟨i, hi, _, rfl⟩ | ⟨h, _⟩
  · go_wp2
    go_ret
    exact ⟨by simp, rfl⟩
  · obtain ⟨i, hi, e⟩ := H.out
    exact absurd e (h i hi)
theorem scontains_no (ao : Option Addr) (n cap : Nat) (f : Nat → Int) (x : Int) (w : World) (hn : n ≤ 1048576) (hs : SL .i64 w ao n f) (h : ∀ i, i < n → f i ≠ x) :
    Calls Try.prog 123 #[.slice ao n cap, .int .i64 x] w fun e w' => e = .returned (.bool false) ∧ w' = w := by
  have hc := hide (sindex_any ao n cap f x w hn hs)
  have H := hide h
  clear hs h
  go_enter Try.func123, Try.ntmps123
  go_wp2_with fail
  refine hc.out.mono ?_
  rintro e w' ⟨h, hw⟩
  rw [hw]
  clear hw hc
  rcases h with ⟨i, hi, e, rfl⟩ | ⟨_, rfl⟩
  · exact absurd e (H.out i hi)
  · go_wp2
    go_ret
    exact ⟨rfl, rfl⟩
/-- Two lists of numbers that are the same. -/
def SameI (f g : Nat → Int) (n m : Nat) : Prop := n = m ∧ ∀ i, i < n → f i = g i
theorem sequal_any (ao bo : Option Addr) (n m ca cb : Nat) (f g : Nat → Int) (w : World) (hn : n ≤ 1048576) (hA : SL .i64 w ao n f) (hB : SL .i64 w bo m g) :
    Calls Try.prog 69 #[.slice ao n ca, .slice bo m cb] w fun e w' => ((SameI f g n m ∧ e = .returned (.bool true)) ∨ (¬ SameI f g n m ∧ e = .returned (.bool false))) ∧ ∃ q, w' = w.drewN q := by
  have HA := hide hA
  have HB := hide hB
  clear hA hB
  by_cases hnm : n = m
  · subst hnm
    go_enter Try.func69, Try.ntmps69
    go_wp2
    go_loopw [5, 13] (fun _ i wr => ∃ k : Nat, k ≤ n ∧ i = .int .i64 k ∧ Hid (∀ j, j < k → f j = g j) ∧ ∃ q, wr = w.drewN q) (fun _ i _ => n - (intOf i).toNat)
    case atStart => exact ⟨0, by omega, rfl, fun j hj => absurd hj (by omega), 0, rfl⟩
    case round =>
      obtain ⟨k, hk, rfl, A, q, rfl⟩ := hrel
      by_cases hlt : k < n
      · obtain ⟨b, off, rfl, hb, hc⟩ := HA.out k hlt
        obtain ⟨b', off', rfl, hb', hc'⟩ := HB.out k hlt
        generalize hy : f k = y at *
        generalize hz : g k = z at *
        have B := hide hy
        have C := hide hz
        clear hy hz
        by_cases he : y = z
        · subst he
          go_wp2
          go_quiet (fail)
          go_wp2
          go_roundw
          case rel =>
            refine ⟨k + 1, by omega, by go_num, fun j hj => ?_, _, rfl⟩
            by_cases e : j = k
            · subst e; rw [B.out, C.out]
            · exact A.out j (by omega)
          case measure => simp [intOf]; omega
        · have hd : decide (y = z) = false := by simpa using he
          have hno : Hid (¬ SameI f g n n) := fun h => he (by rw [← B.out, ← C.out]; exact h.2 k hlt)
          go_wp2
          go_quiet (fail)
          go_wp2
          go_ret
          exact ⟨.inr ⟨hno.out, rfl⟩, _, World.drewN_drewN ..⟩
      · obtain rfl : k = n := by omega
        go_wp2
        go_ret
        exact ⟨.inl ⟨⟨rfl, A.out⟩, rfl⟩, q, rfl⟩
  · have hd : ((n : Int) == (m : Int)) = false := by simp; omega
    have hd2 : decide ((n : Int) = (m : Int)) = false := by simp; omega
    have hd3 : ¬ (n : Int) = (m : Int) := by omega
    go_enter Try.func69, Try.ntmps69
    go_wp2
    go_ret
    exact ⟨.inr ⟨fun h => hnm h.1, rfl⟩, 0, rfl⟩
theorem gensok_impl (ao : Option Addr) (n cap : Nat) (f : Nat → Int) (w : World) (hn : n ≤ 1048576) (hcap : n ≤ cap) (hs : SL .i64 w ao n f) :
    Calls Try.prog 72 #[.slice ao n cap] w fun e w' => ((GOk f n ∧ e = .returned (.bool true)) ∨ (¬ GOk f n ∧ e = .returned (.bool false))) ∧ ∃ q, w' = w.drewN q := by
  have HS := hide hs
  clear hs
  by_cases h12 : n ≤ 12
  · have hd : (n : Int) ≤ 12 := by omega
    go_enter Try.func72, Try.ntmps72
    go_wp2
    go_loopw [3, 4, 10] (fun _ _ i wr => ∃ k : Nat, k ≤ n ∧ i = .int .i64 k ∧ Hid (GIn f k) ∧ ∃ q, wr = w.drewN q) (fun _ _ i _ => n - (intOf i).toNat)
    case atStart => exact ⟨0, by omega, rfl, fun j hj => absurd hj (by omega), 0, rfl⟩
    case round =>
      obtain ⟨k, hk, rfl, A, q, rfl⟩ := hrel
      by_cases hlt : k < n
      · obtain ⟨b, off, rfl, hb, hc⟩ := HS.out k hlt
        have hpre : Hid (∀ q, SL .i64 (w.drewN q) (some ⟨b, off, none⟩) k f) := fun q i hi => HS.out i (by omega)
        generalize hy : f k = y at *
        have B := hide hy
        clear hy
        have hk0 : (0 : Int) ≤ (k : Int) := by omega
        have hkn : (k : Int) ≤ (n : Int) := by omega
        have hkc : (k : Int) ≤ (cap : Int) := by omega
        by_cases h1 : y < 1 ∨ 100000 < y
        · have hbad : Hid (¬ GOk f n) := fun h => by have := (h.2 k hlt).1; rw [B.out] at this; omega
          have hdec : decide (y < 1 ∨ 100000 < y) = true := by simpa using h1
          go_wp2_with (first
            | (go_at_call 122; refine (nogen_any _ _).mono ?_; rintro e9 w9 ⟨rfl, hw9⟩; rw [hw9, hdec]; clear hw9)
            | fail)
          go_ret
          exact ⟨.inr ⟨hbad.out, rfl⟩, _, rfl⟩
        · have hdec : decide (y < 1 ∨ 100000 < y) = false := by simpa using h1
          by_cases h2 : ∃ j, j < k ∧ f j = y
          · have hbad : Hid (¬ GOk f n) := fun h => by obtain ⟨j, hj, e⟩ := h2; exact (h.2 k hlt).2 j hj (e.trans B.out.symm)
            have H2 := hide h2
            clear h2
            go_wp2_with (first
              | (go_at_call 122; refine (nogen_any _ _).mono ?_; rintro e9 w9 ⟨rfl, hw9⟩; rw [hw9, hdec]; clear hw9)
              | (go_at_call 123; refine (scontains_yes _ _ _ f _ _ (by omega) (hpre.out _) H2.out).mono ?_; rintro e9 w9 ⟨rfl, hw9⟩; rw [hw9]; clear hw9)
              | fail)
            go_ret
            exact ⟨.inr ⟨hbad.out, rfl⟩, _, rfl⟩
          · have H2 : Hid (∀ j, j < k → f j ≠ y) := fun j hj e => h2 ⟨j, hj, e⟩
            have H1 := hide h1
            clear h2 h1
            go_wp2_with (first
              | (go_at_call 122; refine (nogen_any _ _).mono ?_; rintro e9 w9 ⟨rfl, hw9⟩; rw [hw9, hdec]; clear hw9)
              | (go_at_call 123; refine (scontains_no _ _ _ f _ _ (by omega) (hpre.out _) H2.out).mono ?_; rintro e9 w9 ⟨rfl, hw9⟩; rw [hw9]; clear hw9)
              | fail)
            go_roundw
            case rel =>
              refine ⟨k + 1, by omega, by go_num, fun i hi => ?_, _, rfl⟩
              by_cases e : i = k
              · subst e; exact ⟨by rw [B.out]; have := H1.out; omega, fun j hj => by rw [B.out]; exact H2.out j hj⟩
              · exact A.out i (by omega)
            case measure => simp [intOf]; omega
      · obtain rfl : k = n := by omega
        go_wp2
        go_ret
        exact ⟨.inl ⟨⟨h12, A.out⟩, rfl⟩, q, rfl⟩
  · have hd : ¬ (n : Int) ≤ 12 := by omega
    go_enter Try.func72, Try.ntmps72
    go_wp2
    go_ret
    exact ⟨.inr ⟨fun h => h12 h.1, rfl⟩, 0, rfl⟩
theorem headof (ao : Option Addr) (n cap : Nat) (k c v h : Int) (w : World) :
    Calls Try.prog 126 #[.agg #[.int .i64 k, .int .i64 c, .int .i64 v, .int .i64 h, .slice ao n cap]] w fun e w' => e = .returned (.agg #[.int .i64 k, .int .i64 c, .int .i64 v, .int .i64 h]) ∧ Below w.heap.size w w' := by
  go_enter Try.func126, Try.ntmps126
  go_wp2
  refine bodyPost_ret (v := .agg #[.int .i64 k, .int .i64 c, .int .i64 v, .int .i64 h]) (by simp [results, Try.results126, go_sem]) rfl ⟨rfl, ((Below.refl _ _).alloc (Nat.le_refl _) _).alloc (by simp) _⟩

theorem eq_head (a b c d a' b' c' d' : Int) (w : World) : (Op.equalIn 10000 124 (.agg #[.int .i64 a, .int .i64 b, .int .i64 c, .int .i64 d]) (.agg #[.int .i64 a', .int .i64 b', .int .i64 c', .int .i64 d'])).run Try.prog w = .ok (a == a' && (b == b' && (c == c' && d == d'))) w := by
  have u3 := Try.underlying3
  have a3 := Try.isAgg3
  have z3 := Try.sizeOf3
  rw [show (10000 : Nat) = 9999 + 1 from rfl, Op.equalIn]
  simp only [Sem.run_bind, run_underlying Try.underlying124, Result.andThen_ok]
  simp only [Std.Legacy.Range.forIn_eq_forIn_range', Std.Legacy.Range.size, Nat.sub_zero, Nat.add_sub_cancel, Nat.div_one, List.range'_succ, List.range'_zero, List.forIn_cons, List.forIn_nil]
  go_simp
  by_cases h1 : a = a'
  case neg => simp [h1]
  by_cases h2 : b = b'
  case neg => simp [h2]
  by_cases h3 : c = c'
  case neg => simp [h3]
  by_cases h4 : d = d'
  case neg => simp [h4]
  simp [h1, h2, h3, h4]

theorem sequal_yes (ao bo : Option Addr) (n m ca cb : Nat) (f g : Nat → Int) (w : World) (hn : n ≤ 1048576) (hA : SL .i64 w ao n f) (hB : SL .i64 w bo m g) (h : SameI f g n m) :
    Calls Try.prog 69 #[.slice ao n ca, .slice bo m cb] w fun e w' => e = .returned (.bool true) ∧ ∃ q, w' = w.drewN q :=
  (sequal_any ao bo n m ca cb f g w hn hA hB).mono fun _ _ ⟨h1, h2⟩ => ⟨h1.elim (·.2) (fun x => absurd h x.1), h2⟩
theorem sequal_no (ao bo : Option Addr) (n m ca cb : Nat) (f g : Nat → Int) (w : World) (hn : n ≤ 1048576) (hA : SL .i64 w ao n f) (hB : SL .i64 w bo m g) (h : ¬ SameI f g n m) :
    Calls Try.prog 69 #[.slice ao n ca, .slice bo m cb] w fun e w' => e = .returned (.bool false) ∧ ∃ q, w' = w.drewN q :=
  (sequal_any ao bo n m ca cb f g w hn hA hB).mono fun _ _ ⟨h1, h2⟩ => ⟨h1.elim (fun x => absurd x.1 h) (·.2), h2⟩

set_option maxHeartbeats 1000000 in
set_option maxRecDepth 100000 in
theorem samemsg_any (ao bo : Option Addr) (n m ca cb : Nat) (f g : Nat → Int) (k c v h k' c' v' h' : Int) (w : World) (hn : n ≤ 1048576) (hA : SL .i64 w ao n f) (hB : SL .i64 w bo m g) :
    Calls Try.prog 97 #[.agg #[.int .i64 k, .int .i64 c, .int .i64 v, .int .i64 h, .slice ao n ca], .agg #[.int .i64 k', .int .i64 c', .int .i64 v', .int .i64 h', .slice bo m cb]] w fun e w' => Tells w w' e ((k = k' ∧ c = c' ∧ v = v' ∧ h = h') ∧ SameI f g n m) := by
  obtain ⟨W, hW⟩ : ∃ W, W = (w.alloc (.cells #[.int .i64 k, .int .i64 c, .int .i64 v, .int .i64 h, .slice ao n ca] 40)).alloc (.cells #[.int .i64 k', .int .i64 c', .int .i64 v', .int .i64 h', .slice bo m cb] 40) := ⟨_, rfl⟩
  have M1 : MB W w.heap.size 40 k c v h ao n ca := by rw [hW]; exact (MB.new w _ k c v h ao n ca).below ((Below.refl _ _).alloc (Nat.le_refl _) _) (by simp)
  have M2 : MB W (w.heap.size + 1) 40 k' c' v' h' bo m cb := by
    rw [hW]
    have := MB.new (w.alloc (.cells #[.int .i64 k, .int .i64 c, .int .i64 v, .int .i64 h, .slice ao n ca] 40)) 40 k' c' v' h' bo m cb
    simpa using this
  have hb : Below w.heap.size w W := by rw [hW]; exact ((Below.refl _ _).alloc (Nat.le_refl _) _).alloc (by simp) _
  have HA := hide (hA.below hb)
  have HB := hide (hB.below hb)
  have hE := eq_head k c v h k' c' v' h'
  clear hA hB
  have HB0 := hide hb
  clear hb
  by_cases heq : k = k' ∧ c = c' ∧ v = v' ∧ h = h'
  · have e4 : (k == k' && (c == c' && (v == v' && h == h'))) = true := by simp [heq]
    rw [e4] at hE
    have HQ := hide heq
    clear e4 heq
    by_cases hS : SameI f g n m
    · have HS := hide hS
      clear hS
      go_enter Try.func97, Try.ntmps97
      go_wp2_with fail
      rw [← hW]
      obtain ⟨m0, m1, m2, m3, m4⟩ := M1.cells
      obtain ⟨x0, x1, x2, x3, x4⟩ := M2.cells
      have H5 : Hid (MB W.drew w.heap.size 40 k c v h ao n ca ∧ MB W.drew (w.heap.size + 1) 40 k' c' v' h' bo m cb ∧ SL .i64 W.drew ao n f ∧ SL .i64 W.drew bo m g ∧ Below w.heap.size w W.drew) := ⟨M1, M2, HA.out, HB.out, Below.drawn HB0.out 1⟩
      clear hW M1 M2 HA HB HB0
      go_region_held3 (fun w' => (w'.cell? ⟨w.heap.size, 0, none⟩ = some (.int .i64 k) ∧ w'.cell? ⟨w.heap.size, 1, none⟩ = some (.int .i64 c) ∧ w'.cell? ⟨w.heap.size, 2, none⟩ = some (.int .i64 v) ∧ w'.cell? ⟨w.heap.size, 3, none⟩ = some (.int .i64 h) ∧ w'.cell? ⟨w.heap.size, 4, none⟩ = some (.slice ao n ca)) ∧ (w'.cell? ⟨w.heap.size + 1, 0, none⟩ = some (.int .i64 k') ∧ w'.cell? ⟨w.heap.size + 1, 1, none⟩ = some (.int .i64 c') ∧ w'.cell? ⟨w.heap.size + 1, 2, none⟩ = some (.int .i64 v') ∧ w'.cell? ⟨w.heap.size + 1, 3, none⟩ = some (.int .i64 h') ∧ w'.cell? ⟨w.heap.size + 1, 4, none⟩ = some (.slice bo m cb))) (first | assumption | exact ⟨⟨m0, m1, m2, m3, m4⟩, x0, x1, x2, x3, x4⟩) (first
        | (go_at_call 126; refine (headof bo m cb k' c' v' h' w6).mono ?_; rintro e w7 ⟨rfl, b7⟩; have H7 : Hid (MB w7 w.heap.size 40 k c v h ao n ca ∧ MB w7 (w.heap.size + 1) 40 k' c' v' h' bo m cb ∧ SL .i64 w7 ao n f ∧ SL .i64 w7 bo m g ∧ Below w.heap.size w w7) := ⟨H6.out.1.below b7 H6.out.1.lt, H6.out.2.1.below b7 H6.out.2.1.lt, H6.out.2.2.1.below b7, H6.out.2.2.2.1.below b7, H6.out.2.2.2.2.trans (b7.mono H6.out.2.2.2.2.size)⟩; have hk7 := And.intro H7.out.1.cells H7.out.2.1.cells; clear b7)
        | (go_at_call 126; refine (headof ao n ca k c v h W.drew).mono ?_; rintro e w6 ⟨rfl, b6⟩; have H6 : Hid (MB w6 w.heap.size 40 k c v h ao n ca ∧ MB w6 (w.heap.size + 1) 40 k' c' v' h' bo m cb ∧ SL .i64 w6 ao n f ∧ SL .i64 w6 bo m g ∧ Below w.heap.size w w6) := ⟨H5.out.1.below b6 H5.out.1.lt, H5.out.2.1.below b6 H5.out.2.1.lt, H5.out.2.2.1.below b6, H5.out.2.2.2.1.below b6, H5.out.2.2.2.2.trans (b6.mono H5.out.2.2.2.2.size)⟩; have hk6 := And.intro H6.out.1.cells H6.out.2.1.cells; clear b6)
        | (go_at_call 69; refine (sequal_yes ao bo n m ca cb f g w7 hn H7.out.2.2.1 H7.out.2.2.2.1 HS.out).mono ?_; rintro e w8 ⟨rfl, q8, hw8⟩; have H8 : Hid (Below w.heap.size w w8) := (hw8 ▸ Below.drawn H7.out.2.2.2.2 q8); have hk8 : (w8.cell? ⟨w.heap.size, 0, none⟩ = some (.int .i64 k) ∧ w8.cell? ⟨w.heap.size, 1, none⟩ = some (.int .i64 c) ∧ w8.cell? ⟨w.heap.size, 2, none⟩ = some (.int .i64 v) ∧ w8.cell? ⟨w.heap.size, 3, none⟩ = some (.int .i64 h) ∧ w8.cell? ⟨w.heap.size, 4, none⟩ = some (.slice ao n ca)) ∧ (w8.cell? ⟨w.heap.size + 1, 0, none⟩ = some (.int .i64 k') ∧ w8.cell? ⟨w.heap.size + 1, 1, none⟩ = some (.int .i64 c') ∧ w8.cell? ⟨w.heap.size + 1, 2, none⟩ = some (.int .i64 v') ∧ w8.cell? ⟨w.heap.size + 1, 3, none⟩ = some (.int .i64 h') ∧ w8.cell? ⟨w.heap.size + 1, 4, none⟩ = some (.slice bo m cb)) := hw8 ▸ hk7; clear hw8))
      go_wp2
      go_ret
      exact Tells.yes ⟨HQ.out, HS.out⟩ H8.out
    · have HS := hide hS
      clear hS
      go_enter Try.func97, Try.ntmps97
      go_wp2_with fail
      rw [← hW]
      obtain ⟨m0, m1, m2, m3, m4⟩ := M1.cells
      obtain ⟨x0, x1, x2, x3, x4⟩ := M2.cells
      have H5 : Hid (MB W.drew w.heap.size 40 k c v h ao n ca ∧ MB W.drew (w.heap.size + 1) 40 k' c' v' h' bo m cb ∧ SL .i64 W.drew ao n f ∧ SL .i64 W.drew bo m g ∧ Below w.heap.size w W.drew) := ⟨M1, M2, HA.out, HB.out, Below.drawn HB0.out 1⟩
      clear hW M1 M2 HA HB HB0
      go_region_held3 (fun w' => (w'.cell? ⟨w.heap.size, 0, none⟩ = some (.int .i64 k) ∧ w'.cell? ⟨w.heap.size, 1, none⟩ = some (.int .i64 c) ∧ w'.cell? ⟨w.heap.size, 2, none⟩ = some (.int .i64 v) ∧ w'.cell? ⟨w.heap.size, 3, none⟩ = some (.int .i64 h) ∧ w'.cell? ⟨w.heap.size, 4, none⟩ = some (.slice ao n ca)) ∧ (w'.cell? ⟨w.heap.size + 1, 0, none⟩ = some (.int .i64 k') ∧ w'.cell? ⟨w.heap.size + 1, 1, none⟩ = some (.int .i64 c') ∧ w'.cell? ⟨w.heap.size + 1, 2, none⟩ = some (.int .i64 v') ∧ w'.cell? ⟨w.heap.size + 1, 3, none⟩ = some (.int .i64 h') ∧ w'.cell? ⟨w.heap.size + 1, 4, none⟩ = some (.slice bo m cb))) (first | assumption | exact ⟨⟨m0, m1, m2, m3, m4⟩, x0, x1, x2, x3, x4⟩) (first
        | (go_at_call 126; refine (headof bo m cb k' c' v' h' w6).mono ?_; rintro e w7 ⟨rfl, b7⟩; have H7 : Hid (MB w7 w.heap.size 40 k c v h ao n ca ∧ MB w7 (w.heap.size + 1) 40 k' c' v' h' bo m cb ∧ SL .i64 w7 ao n f ∧ SL .i64 w7 bo m g ∧ Below w.heap.size w w7) := ⟨H6.out.1.below b7 H6.out.1.lt, H6.out.2.1.below b7 H6.out.2.1.lt, H6.out.2.2.1.below b7, H6.out.2.2.2.1.below b7, H6.out.2.2.2.2.trans (b7.mono H6.out.2.2.2.2.size)⟩; have hk7 := And.intro H7.out.1.cells H7.out.2.1.cells; clear b7)
        | (go_at_call 126; refine (headof ao n ca k c v h W.drew).mono ?_; rintro e w6 ⟨rfl, b6⟩; have H6 : Hid (MB w6 w.heap.size 40 k c v h ao n ca ∧ MB w6 (w.heap.size + 1) 40 k' c' v' h' bo m cb ∧ SL .i64 w6 ao n f ∧ SL .i64 w6 bo m g ∧ Below w.heap.size w w6) := ⟨H5.out.1.below b6 H5.out.1.lt, H5.out.2.1.below b6 H5.out.2.1.lt, H5.out.2.2.1.below b6, H5.out.2.2.2.1.below b6, H5.out.2.2.2.2.trans (b6.mono H5.out.2.2.2.2.size)⟩; have hk6 := And.intro H6.out.1.cells H6.out.2.1.cells; clear b6)
        | (go_at_call 69; refine (sequal_no ao bo n m ca cb f g w7 hn H7.out.2.2.1 H7.out.2.2.2.1 HS.out).mono ?_; rintro e w8 ⟨rfl, q8, hw8⟩; have H8 : Hid (Below w.heap.size w w8) := (hw8 ▸ Below.drawn H7.out.2.2.2.2 q8); have hk8 : (w8.cell? ⟨w.heap.size, 0, none⟩ = some (.int .i64 k) ∧ w8.cell? ⟨w.heap.size, 1, none⟩ = some (.int .i64 c) ∧ w8.cell? ⟨w.heap.size, 2, none⟩ = some (.int .i64 v) ∧ w8.cell? ⟨w.heap.size, 3, none⟩ = some (.int .i64 h) ∧ w8.cell? ⟨w.heap.size, 4, none⟩ = some (.slice ao n ca)) ∧ (w8.cell? ⟨w.heap.size + 1, 0, none⟩ = some (.int .i64 k') ∧ w8.cell? ⟨w.heap.size + 1, 1, none⟩ = some (.int .i64 c') ∧ w8.cell? ⟨w.heap.size + 1, 2, none⟩ = some (.int .i64 v') ∧ w8.cell? ⟨w.heap.size + 1, 3, none⟩ = some (.int .i64 h') ∧ w8.cell? ⟨w.heap.size + 1, 4, none⟩ = some (.slice bo m cb)) := hw8 ▸ hk7; clear hw8))
      go_wp2
      go_ret
      exact Tells.no (fun x => HS.out x.2) H8.out
  · have e4 : (k == k' && (c == c' && (v == v' && h == h'))) = false := by
      cases hx : (k == k' && (c == c' && (v == v' && h == h'))) with
      | false => rfl
      | true => simp at hx; exact absurd hx heq
    rw [e4] at hE
    have HQ := hide heq
    clear e4 heq
    go_enter Try.func97, Try.ntmps97
    go_wp2_with fail
    rw [← hW]
    obtain ⟨m0, m1, m2, m3, m4⟩ := M1.cells
    obtain ⟨x0, x1, x2, x3, x4⟩ := M2.cells
    have H5 : Hid (MB W.drew w.heap.size 40 k c v h ao n ca ∧ MB W.drew (w.heap.size + 1) 40 k' c' v' h' bo m cb ∧ SL .i64 W.drew ao n f ∧ SL .i64 W.drew bo m g ∧ Below w.heap.size w W.drew) := ⟨M1, M2, HA.out, HB.out, Below.drawn HB0.out 1⟩
    clear hW M1 M2 HA HB HB0
    refine wp_region_held_drew (S := (fun w' => (w'.cell? ⟨w.heap.size, 0, none⟩ = some (.int .i64 k) ∧ w'.cell? ⟨w.heap.size, 1, none⟩ = some (.int .i64 c) ∧ w'.cell? ⟨w.heap.size, 2, none⟩ = some (.int .i64 v) ∧ w'.cell? ⟨w.heap.size, 3, none⟩ = some (.int .i64 h) ∧ w'.cell? ⟨w.heap.size, 4, none⟩ = some (.slice ao n ca)) ∧ (w'.cell? ⟨w.heap.size + 1, 0, none⟩ = some (.int .i64 k') ∧ w'.cell? ⟨w.heap.size + 1, 1, none⟩ = some (.int .i64 c') ∧ w'.cell? ⟨w.heap.size + 1, 2, none⟩ = some (.int .i64 v') ∧ w'.cell? ⟨w.heap.size + 1, 3, none⟩ = some (.int .i64 h') ∧ w'.cell? ⟨w.heap.size + 1, 4, none⟩ = some (.slice bo m cb)))) (by kernel_rfl) ?_ (fun hHeld => ?_)
    · exact ⟨⟨m0, m1, m2, m3, m4⟩, x0, x1, x2, x3, x4⟩
    refine wpAnyH_take (i := 0) (oi := { dst := some 5, op := Op.load 40 (Operand.tmp 2), type := 40, pos := "l04_msg.go:161", after := #[], guard := none }) (v := ?_) rfl (by kernel_rfl) (by kernel_rfl) (by kernel_rfl) (fun _ _ _ h => h) (Or.inl ⟨by rfl, ?_⟩) (by assumption) ?_
    rotate_left 1
    · (intro wq hSw; (try dsimp only at hSw); go_simp; try with_reducible rfl)
    try simp only [Act.put, List.setIfInBounds_toArray, List.set_cons_zero, List.set_cons_succ]
    refine wpAnyH_take (i := 2) (oi := { dst := some 7, op := Op.load 40 (Operand.tmp 3), type := 40, pos := "l04_msg.go:161", after := #[], guard := none }) (v := ?_) rfl (by kernel_rfl) (by kernel_rfl) (by kernel_rfl) (fun _ _ _ h => h) (Or.inl ⟨by rfl, ?_⟩) (by assumption) ?_
    rotate_left 1
    · (intro wq hSw; (try dsimp only at hSw); go_simp; try with_reducible rfl)
    try simp only [Act.put, List.setIfInBounds_toArray, List.set_cons_zero, List.set_cons_succ]
    refine wpAnyH_ready (rs := [1]) (by kernel_rfl) (by simp) ?_
    refine AllReadyH.cons (o := { dst := some 6, op := Op.call { callee := Callee.value (Operand.func 126), args := #[Operand.tmp 5], argTypes := #[40] }, type := 124, pos := "l04_msg.go:161", after := #[{ on := 0, ground := Ground.data }], guard := none }) rfl (fun K hK => ?_) AllReadyH.nil
    go_simp
    refine (headof ao n ca k c v h _).mono ?_
    rintro e w6 ⟨rfl, b6⟩
    have H6 : Hid (MB w6 w.heap.size 40 k c v h ao n ca ∧ MB w6 (w.heap.size + 1) 40 k' c' v' h' bo m cb ∧ SL .i64 w6 ao n f ∧ SL .i64 w6 bo m g ∧ Below w.heap.size w w6) := ⟨H5.out.1.below b6 H5.out.1.lt, H5.out.2.1.below b6 H5.out.2.1.lt, H5.out.2.2.1.below b6, H5.out.2.2.2.1.below b6, H5.out.2.2.2.2.trans (b6.mono H5.out.2.2.2.2.size)⟩
    have hk6 := And.intro H6.out.1.cells H6.out.2.1.cells
    clear b6
    go_wp2_with fail
    refine hK.out _ _ ?_ (fun hHeld => ?_)
    · exact hk6
    clear hK K
    try simp only [Act.put, List.setIfInBounds_toArray, List.set_cons_zero, List.set_cons_succ]
    refine wpAnyH_ready (rs := [3]) (by kernel_rfl) (by simp) ?_
    refine AllReadyH.cons (o := { dst := some 8, op := Op.call { callee := Callee.value (Operand.func 126), args := #[Operand.tmp 7], argTypes := #[40] }, type := 124, pos := "l04_msg.go:161", after := #[{ on := 2, ground := Ground.data }, { on := 1, ground := Ground.chain }], guard := none }) rfl (fun K hK => ?_) AllReadyH.nil
    go_simp
    refine (headof bo m cb k' c' v' h' _).mono ?_
    rintro e w7 ⟨rfl, b7⟩
    have H7 : Hid (MB w7 w.heap.size 40 k c v h ao n ca ∧ MB w7 (w.heap.size + 1) 40 k' c' v' h' bo m cb ∧ SL .i64 w7 ao n f ∧ SL .i64 w7 bo m g ∧ Below w.heap.size w w7) := ⟨H6.out.1.below b7 H6.out.1.lt, H6.out.2.1.below b7 H6.out.2.1.lt, H6.out.2.2.1.below b7, H6.out.2.2.2.1.below b7, H6.out.2.2.2.2.trans (b7.mono H6.out.2.2.2.2.size)⟩
    have hk7 := And.intro H7.out.1.cells H7.out.2.1.cells
    clear b7
    go_wp2_with fail
    refine hK.out _ _ ?_ (fun hHeld => ?_)
    · exact hk7
    clear hK K
    try simp only [Act.put, List.setIfInBounds_toArray, List.set_cons_zero, List.set_cons_succ]
    refine wpAnyH_take (i := 4) (oi := { dst := some 9, op := Op.binOp BinOp.eql 124 (Operand.tmp 6) (Operand.tmp 8) 124, type := 4, pos := "l04_msg.go:161", after := #[{ on := 1, ground := Ground.data }, { on := 3, ground := Ground.data }], guard := none }) (v := ?_) rfl (by kernel_rfl) (by kernel_rfl) (by kernel_rfl) (fun _ _ _ h => h) (Or.inl ⟨by rfl, ?_⟩) (by assumption) ?_
    rotate_left 1
    · (intro wq hSw; (try dsimp only at hSw); go_simp; try with_reducible rfl)
    try simp only [Act.put, List.setIfInBounds_toArray, List.set_cons_zero, List.set_cons_succ]
    refine wpAnyH_take (i := 5) (oi := { dst := some 10, op := Op.move (Operand.tmp 9), type := 4, pos := "l04_msg.go:161", after := #[{ on := 4, ground := Ground.data }, { on := 3, ground := Ground.chain }], guard := none }) (v := ?_) rfl (by kernel_rfl) (by kernel_rfl) (by kernel_rfl) (fun _ _ _ h => h) (Or.inl ⟨by rfl, ?_⟩) (by assumption) ?_
    rotate_left 1
    · (intro wq hSw; (try dsimp only at hSw); go_simp; try with_reducible rfl)
    try simp only [Act.put, List.setIfInBounds_toArray, List.set_cons_zero, List.set_cons_succ]
    refine wpAnyH_take (i := 6) (oi := { dst := some 11, op := Op.fieldAddr 40 (Operand.tmp 2) 4, type := 0, pos := "l04_msg.go:161", after := #[{ on := 5, ground := Ground.guard }], guard := some (5, true) }) (v := undef) rfl (by kernel_rfl) (by kernel_rfl) (by kernel_rfl) (fun _ _ _ h => h) (Or.inr ⟨by rfl, rfl⟩) (by assumption) ?_
    try simp only [Act.put, List.setIfInBounds_toArray, List.set_cons_zero, List.set_cons_succ]
    refine wpAnyH_take (i := 7) (oi := { dst := some 12, op := Op.load 24 (Operand.tmp 11), type := 24, pos := "l04_msg.go:161", after := #[{ on := 6, ground := Ground.data }, { on := 5, ground := Ground.guard }], guard := some (5, true) }) (v := undef) rfl (by kernel_rfl) (by kernel_rfl) (by kernel_rfl) (fun _ _ _ h => h) (Or.inr ⟨by rfl, rfl⟩) (by assumption) ?_
    try simp only [Act.put, List.setIfInBounds_toArray, List.set_cons_zero, List.set_cons_succ]
    refine wpAnyH_take (i := 8) (oi := { dst := some 13, op := Op.fieldAddr 40 (Operand.tmp 3) 4, type := 0, pos := "l04_msg.go:161", after := #[{ on := 5, ground := Ground.guard }], guard := some (5, true) }) (v := undef) rfl (by kernel_rfl) (by kernel_rfl) (by kernel_rfl) (fun _ _ _ h => h) (Or.inr ⟨by rfl, rfl⟩) (by assumption) ?_
    try simp only [Act.put, List.setIfInBounds_toArray, List.set_cons_zero, List.set_cons_succ]
    refine wpAnyH_take (i := 9) (oi := { dst := some 14, op := Op.load 24 (Operand.tmp 13), type := 24, pos := "l04_msg.go:161", after := #[{ on := 8, ground := Ground.data }, { on := 5, ground := Ground.guard }], guard := some (5, true) }) (v := undef) rfl (by kernel_rfl) (by kernel_rfl) (by kernel_rfl) (fun _ _ _ h => h) (Or.inr ⟨by rfl, rfl⟩) (by assumption) ?_
    try simp only [Act.put, List.setIfInBounds_toArray, List.set_cons_zero, List.set_cons_succ]
    refine wpAnyH_take (i := 10) (oi := { dst := some 15, op := Op.call { callee := Callee.value (Operand.func 69), args := #[Operand.tmp 12, Operand.tmp 14], argTypes := #[24, 24] }, type := 4, pos := "l04_msg.go:161", after := #[{ on := 7, ground := Ground.data }, { on := 9, ground := Ground.data }, { on := 5, ground := Ground.chain }, { on := 5, ground := Ground.guard }], guard := some (5, true) }) (v := undef) rfl (by kernel_rfl) (by kernel_rfl) (by kernel_rfl) (fun _ _ _ h => h) (Or.inr ⟨by rfl, rfl⟩) (by assumption) ?_
    try simp only [Act.put, List.setIfInBounds_toArray, List.set_cons_zero, List.set_cons_succ]
    refine wpAnyH_take (i := 11) (oi := { dst := some 16, op := Op.pick (Operand.tmp 10) (Operand.tmp 15) (Operand.const (Value.bool false)), type := 4, pos := "l04_msg.go:161", after := #[{ on := 5, ground := Ground.data }, { on := 10, ground := Ground.data }], guard := none }) (v := ?_) rfl (by kernel_rfl) (by kernel_rfl) (by kernel_rfl) (fun _ _ _ h => h) (Or.inl ⟨by rfl, ?_⟩) (by assumption) ?_
    rotate_left 1
    · (intro wq hSw; (try dsimp only at hSw); go_simp; try with_reducible rfl)
    try simp only [Act.put, List.setIfInBounds_toArray, List.set_cons_zero, List.set_cons_succ]
    refine wpAnyH_take (i := 12) (oi := { dst := some 4, op := Op.assign (Operand.tmp 16), type := 4, pos := "l04_msg.go:161", after := #[{ on := 11, ground := Ground.data }, { on := 10, ground := Ground.chain }, { on := 0, ground := Ground.phase }, { on := 1, ground := Ground.phase }, { on := 2, ground := Ground.phase }, { on := 3, ground := Ground.phase }, { on := 4, ground := Ground.phase }, { on := 5, ground := Ground.phase }, { on := 6, ground := Ground.phase }, { on := 7, ground := Ground.phase }, { on := 8, ground := Ground.phase }, { on := 9, ground := Ground.phase }, { on := 10, ground := Ground.phase }, { on := 11, ground := Ground.phase }], guard := none }) (v := ?_) rfl (by kernel_rfl) (by kernel_rfl) (by kernel_rfl) (fun _ _ _ h => h) (Or.inl ⟨by rfl, ?_⟩) (by assumption) ?_
    rotate_left 1
    · (intro wq hSw; (try dsimp only at hSw); go_simp; try with_reducible rfl)
    try simp only [Act.put, List.setIfInBounds_toArray, List.set_cons_zero, List.set_cons_succ]
    refine wpAnyH_done (by kernel_rfl) ?_ _
    go_wp2
    go_ret
    exact Tells.no (fun x => HQ.out x.1) H7.out.2.2.2.2
end Go.Proofs.Ytkeojhnifnkpiaa

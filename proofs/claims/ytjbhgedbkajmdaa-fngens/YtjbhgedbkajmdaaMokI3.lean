/- MsgOk of the program: messages held against each other, generations. -/
import Derived.Test.YtjbhgedbkajmdaaMokI
import Derived.Laws.StructEq
import Derived.Test.YtjbhgedbkajmdaaMsgW
import Derived.Deep.RegionHeld3
namespace Go.Proofs.Ytjbhgedbkajmdaa
open Go.ChangeShapes Go.WideShapes Go.ChangeAt Go.RowKit
set_option linter.unusedVariables false
set_option linter.unusedSimpArgs false

theorem sindex_any (ao : Option Addr) (n cap : Nat) (f : Nat → Int) (x : Int) (w : World) (hn : n ≤ 1048576) (hs : SL .i64 w ao n f) :
    Calls Try.prog 91 #[.slice ao n cap, .int .i64 x] w fun e w' => ((∃ i : Nat, i < n ∧ f i = x ∧ e = .returned (.int .i64 i)) ∨ ((∀ i, i < n → f i ≠ x) ∧ e = .returned (.int .i64 (-1)))) ∧ w' = w := by
  have HS := hide hs
  clear hs
  go_enter Try.func91, Try.ntmps91
  go_wp2
  go_loop [5, 8] (fun _ i => ∃ k : Nat, k ≤ n ∧ i = .int .i64 k ∧ Hid (∀ j, j < k → f j ≠ x)) (fun _ i => n - (intOf i).toNat)
  case atStart => exact ⟨0, by omega, rfl, fun j hj => absurd hj (by omega)⟩
  case round =>
    obtain ⟨k, hk, rfl, A⟩ := hrel
    by_cases hlt : k < n
    · obtain ⟨b, off, rfl, hb, hc⟩ := HS.out k hlt
      generalize hy : f k = y at *
      have B := hide hy
      clear hy
      by_cases he : x = y
      · subst he
        go_wp2
        go_ret
        exact ⟨.inl ⟨k, hlt, B.out, rfl⟩, rfl⟩
      · have hd : decide (x = y) = false := by simpa using he
        go_wp2
        go_round
        case rel =>
          refine ⟨k + 1, by omega, by go_num, fun j hj => ?_⟩
          by_cases e : j = k
          · subst e; rw [B.out]; exact fun e => he e.symm
          · exact A.out j (by omega)
        case measure => simp [intOf]; omega
    · obtain rfl : k = n := by omega
      go_wp2
      go_ret
      exact ⟨.inr ⟨A.out, rfl⟩, rfl⟩
theorem scontains_yes (ao : Option Addr) (n cap : Nat) (f : Nat → Int) (x : Int) (w : World) (hn : n ≤ 1048576) (hs : SL .i64 w ao n f) (h : ∃ i, i < n ∧ f i = x) :
    Calls Try.prog 75 #[.slice ao n cap, .int .i64 x] w fun e w' => e = .returned (.bool true) ∧ w' = w := by
  have hc := hide (sindex_any ao n cap f x w hn hs)
  have H := hide h
  clear hs h
  go_enter Try.func75, Try.ntmps75
  go_wp2_with fail
  refine hc.out.mono ?_
  rintro e w' ⟨h, hw⟩
  rw [hw]
  clear hw hc
  rcases h with ⟨i, hi, _, rfl⟩ | ⟨h, _⟩
  · go_wp2
    go_ret
    exact ⟨by simp, rfl⟩
  · obtain ⟨i, hi, e⟩ := H.out
    exact absurd e (h i hi)
theorem scontains_no (ao : Option Addr) (n cap : Nat) (f : Nat → Int) (x : Int) (w : World) (hn : n ≤ 1048576) (hs : SL .i64 w ao n f) (h : ∀ i, i < n → f i ≠ x) :
    Calls Try.prog 75 #[.slice ao n cap, .int .i64 x] w fun e w' => e = .returned (.bool false) ∧ w' = w := by
  have hc := hide (sindex_any ao n cap f x w hn hs)
  have H := hide h
  clear hs h
  go_enter Try.func75, Try.ntmps75
  go_wp2_with fail
  refine hc.out.mono ?_
  rintro e w' ⟨h, hw⟩
  rw [hw]
  clear hw hc
  rcases h with ⟨i, hi, e, rfl⟩ | ⟨_, rfl⟩
  · exact absurd e (H.out i hi)
  · go_wp2
    go_ret
    exact ⟨rfl, rfl⟩
/-- Two lists of numbers that are the same. -/
def SameI (f g : Nat → Int) (n m : Nat) : Prop := n = m ∧ ∀ i, i < n → f i = g i
theorem sequal_any (ao bo : Option Addr) (n m ca cb : Nat) (f g : Nat → Int) (w : World) (hn : n ≤ 1048576) (hA : SL .i64 w ao n f) (hB : SL .i64 w bo m g) :
    Calls Try.prog 57 #[.slice ao n ca, .slice bo m cb] w fun e w' => ((SameI f g n m ∧ e = .returned (.bool true)) ∨ (¬ SameI f g n m ∧ e = .returned (.bool false))) ∧ ∃ q, w' = w.drewN q := by
  have HA := hide hA
  have HB := hide hB
  clear hA hB
  by_cases hnm : n = m
  · subst hnm
    go_enter Try.func57, Try.ntmps57
    go_wp2
    go_loopw [5, 13] (fun _ i wr => ∃ k : Nat, k ≤ n ∧ i = .int .i64 k ∧ Hid (∀ j, j < k → f j = g j) ∧ ∃ q, wr = w.drewN q) (fun _ i _ => n - (intOf i).toNat)
    case atStart => exact ⟨0, by omega, rfl, fun j hj => absurd hj (by omega), 0, rfl⟩
    case round =>
      obtain ⟨k, hk, rfl, A, q, rfl⟩ := hrel
      by_cases hlt : k < n
      · obtain ⟨b, off, rfl, hb, hc⟩ := HA.out k hlt
        obtain ⟨b', off', rfl, hb', hc'⟩ := HB.out k hlt
        generalize hy : f k = y at *
        generalize hz : g k = z at *
        have B := hide hy
        have C := hide hz
        clear hy hz
        by_cases he : y = z
        · subst he
          go_wp2
          go_quiet (fail)
          go_wp2
          go_roundw
          case rel =>
            refine ⟨k + 1, by omega, by go_num, fun j hj => ?_, _, rfl⟩
            by_cases e : j = k
            · subst e; rw [B.out, C.out]
            · exact A.out j (by omega)
          case measure => simp [intOf]; omega
        · have hd : decide (y = z) = false := by simpa using he
          have hno : Hid (¬ SameI f g n n) := fun h => he (by rw [← B.out, ← C.out]; exact h.2 k hlt)
          go_wp2
          go_quiet (fail)
          go_wp2
          go_ret
          exact ⟨.inr ⟨hno.out, rfl⟩, _, World.drewN_drewN ..⟩
      · obtain rfl : k = n := by omega
        go_wp2
        go_ret
        exact ⟨.inl ⟨⟨rfl, A.out⟩, rfl⟩, q, rfl⟩
  · have hd : ((n : Int) == (m : Int)) = false := by simp; omega
    have hd2 : decide ((n : Int) = (m : Int)) = false := by simp; omega
    have hd3 : ¬ (n : Int) = (m : Int) := by omega
    go_enter Try.func57, Try.ntmps57
    go_wp2
    go_ret
    exact ⟨.inr ⟨fun h => hnm h.1, rfl⟩, 0, rfl⟩
theorem gensok_impl (ao : Option Addr) (n cap : Nat) (f : Nat → Int) (w : World) (hn : n ≤ 1048576) (hcap : n ≤ cap) (hs : SL .i64 w ao n f) :
    Calls Try.prog 31 #[.slice ao n cap] w fun e w' => ((GOk f n ∧ e = .returned (.bool true)) ∨ (¬ GOk f n ∧ e = .returned (.bool false))) ∧ ∃ q, w' = w.drewN q := by
  have HS := hide hs
  clear hs
  by_cases h12 : n ≤ 12
  · have hd : (n : Int) ≤ 12 := by omega
    go_enter Try.func31, Try.ntmps31
    go_wp2
    go_loopw [3, 4, 10] (fun _ _ i wr => ∃ k : Nat, k ≤ n ∧ i = .int .i64 k ∧ Hid (GIn f k) ∧ ∃ q, wr = w.drewN q) (fun _ _ i _ => n - (intOf i).toNat)
    case atStart => exact ⟨0, by omega, rfl, fun j hj => absurd hj (by omega), 0, rfl⟩
    case round =>
      obtain ⟨k, hk, rfl, A, q, rfl⟩ := hrel
      by_cases hlt : k < n
      · obtain ⟨b, off, rfl, hb, hc⟩ := HS.out k hlt
        have hpre : Hid (∀ q, SL .i64 (w.drewN q) (some ⟨b, off, none⟩) k f) := fun q i hi => HS.out i (by omega)
        generalize hy : f k = y at *
        have B := hide hy
        clear hy
        have hk0 : (0 : Int) ≤ (k : Int) := by omega
        have hkn : (k : Int) ≤ (n : Int) := by omega
        have hkc : (k : Int) ≤ (cap : Int) := by omega
        by_cases h1 : y < 1 ∨ 100000 < y
        · have hbad : Hid (¬ GOk f n) := fun h => by have := (h.2 k hlt).1; rw [B.out] at this; omega
          have hdec : decide (y < 1 ∨ 100000 < y) = true := by simpa using h1
          go_wp2_with (first
            | (go_at_call 74; refine (nogen_any _ _).mono ?_; rintro e9 w9 ⟨rfl, hw9⟩; rw [hw9, hdec]; clear hw9)
            | fail)
          go_ret
          exact ⟨.inr ⟨hbad.out, rfl⟩, _, rfl⟩
        · have hdec : decide (y < 1 ∨ 100000 < y) = false := by simpa using h1
          by_cases h2 : ∃ j, j < k ∧ f j = y
          · have hbad : Hid (¬ GOk f n) := fun h => by obtain ⟨j, hj, e⟩ := h2; exact (h.2 k hlt).2 j hj (e.trans B.out.symm)
            have H2 := hide h2
            clear h2
            go_wp2_with (first
              | (go_at_call 74; refine (nogen_any _ _).mono ?_; rintro e9 w9 ⟨rfl, hw9⟩; rw [hw9, hdec]; clear hw9)
              | (go_at_call 75; refine (scontains_yes _ _ _ f _ _ (by omega) (hpre.out _) H2.out).mono ?_; rintro e9 w9 ⟨rfl, hw9⟩; rw [hw9]; clear hw9)
              | fail)
            go_ret
            exact ⟨.inr ⟨hbad.out, rfl⟩, _, rfl⟩
          · have H2 : Hid (∀ j, j < k → f j ≠ y) := fun j hj e => h2 ⟨j, hj, e⟩
            have H1 := hide h1
            clear h2 h1
            go_wp2_with (first
              | (go_at_call 74; refine (nogen_any _ _).mono ?_; rintro e9 w9 ⟨rfl, hw9⟩; rw [hw9, hdec]; clear hw9)
              | (go_at_call 75; refine (scontains_no _ _ _ f _ _ (by omega) (hpre.out _) H2.out).mono ?_; rintro e9 w9 ⟨rfl, hw9⟩; rw [hw9]; clear hw9)
              | fail)
            go_roundw
            case rel =>
              refine ⟨k + 1, by omega, by go_num, fun i hi => ?_, _, rfl⟩
              by_cases e : i = k
              · subst e; exact ⟨by rw [B.out]; have := H1.out; omega, fun j hj => by rw [B.out]; exact H2.out j hj⟩
              · exact A.out i (by omega)
            case measure => simp [intOf]; omega
      · obtain rfl : k = n := by omega
        go_wp2
        go_ret
        exact ⟨.inl ⟨⟨h12, A.out⟩, rfl⟩, q, rfl⟩
  · have hd : ¬ (n : Int) ≤ 12 := by omega
    go_enter Try.func31, Try.ntmps31
    go_wp2
    go_ret
    exact ⟨.inr ⟨fun h => h12 h.1, rfl⟩, 0, rfl⟩
theorem sequal_yes (ao bo : Option Addr) (n m ca cb : Nat) (f g : Nat → Int) (w : World) (hn : n ≤ 1048576) (hA : SL .i64 w ao n f) (hB : SL .i64 w bo m g) (h : SameI f g n m) :
    Calls Try.prog 57 #[.slice ao n ca, .slice bo m cb] w fun e w' => e = .returned (.bool true) ∧ ∃ q, w' = w.drewN q :=
  (sequal_any ao bo n m ca cb f g w hn hA hB).mono fun _ _ ⟨h1, h2⟩ => ⟨h1.elim (·.2) (fun x => absurd h x.1), h2⟩
theorem sequal_no (ao bo : Option Addr) (n m ca cb : Nat) (f g : Nat → Int) (w : World) (hn : n ≤ 1048576) (hA : SL .i64 w ao n f) (hB : SL .i64 w bo m g) (h : ¬ SameI f g n m) :
    Calls Try.prog 57 #[.slice ao n ca, .slice bo m cb] w fun e w' => e = .returned (.bool false) ∧ ∃ q, w' = w.drewN q :=
  (sequal_any ao bo n m ca cb f g w hn hA hB).mono fun _ _ ⟨h1, h2⟩ => ⟨h1.elim (fun x => absurd x.1 h) (·.2), h2⟩

end Go.Proofs.Ytjbhgedbkajmdaa

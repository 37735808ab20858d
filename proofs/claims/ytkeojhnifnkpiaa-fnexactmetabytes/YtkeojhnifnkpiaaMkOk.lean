/- Marks, beside messages: MarksOk of the program and of its model. -/
import Derived.Test.YtkeojhnifnkpiaaIdxG
import Derived.Test.YtkeojhnifnkpiaaMokI
namespace Go.Proofs.Ytkeojhnifnkpiaa
open Go.ChangeShapes Go.WideShapes Go.ChangeAt Go.RowKit
set_option linter.unusedVariables false
set_option linter.unusedSimpArgs false

theorem asc_any (ao : Option Addr) (n cap : Nat) (f : Nat → Int) (w : World) (hn : n ≤ 1048576) (hs : SL .i64 w ao n f) :
    Calls Try.prog 137 #[.slice ao n cap] w fun e w' => (∃ b : Bool, e = .returned (.bool b) ∧ (b = true ↔ ∀ i, 1 ≤ i → i < n → f (i - 1) < f i)) ∧ ∃ q, w' = w.drewN q := by
  go_enter Try.func137, Try.ntmps137
  go_wp2
  go_loopw [3] (fun i wr => ∃ k : Nat, 1 ≤ k ∧ k ≤ n + 1 ∧ i = .int .i64 k ∧ Hid (∀ j, 1 ≤ j → j < k → f (j - 1) < f j) ∧ ∃ q, wr = w.drewN q) (fun i _ => n + 1 - (intOf i).toNat)
  case atStart => exact ⟨1, Nat.le_refl _, by omega, rfl, (fun j h1 h2 => absurd h2 (by omega)), 0, rfl⟩
  case round =>
    obtain ⟨k, h1k, hk, rfl, A, q, rfl⟩ := hrel
    by_cases hlt : k < n
    · obtain ⟨b, off, e1, hb, hc⟩ := hs k hlt
      obtain ⟨b', off', e2, hb', hc'⟩ := hs (k - 1) (by omega)
      subst e1
      simp only [Option.some.injEq, Addr.mk.injEq] at e2
      obtain ⟨rfl, rfl, _⟩ := e2
      obtain ⟨k, rfl⟩ : ∃ k', k = k' + 1 := ⟨k - 1, by omega⟩
      rw [show k + 1 - 1 = k by omega] at hc'
      have hsub : ((k + 1 : Nat) : Int) - 1 = (k : Int) := by omega
      clear hs
      generalize hy : f (k + 1) = y at *
      generalize hx : f k = x at *
      have B : Hid (f (k + 1) = y ∧ f k = x) := ⟨hy, hx⟩
      clear hy hx
      by_cases hle : y ≤ x
      · have hd : decide (y ≤ x) = true := by simpa using hle
        go_wp2
        go_quiet (fail)
        go_wp2
        go_ret
        refine ⟨⟨_, rfl, ?_⟩, _, World.drewN_drewN ..⟩
        constructor
        · intro h; cases h
        · intro h
          have := h (k + 1) (by omega) hlt
          rw [show k + 1 - 1 = k by omega, B.out.1, B.out.2] at this
          omega
      · have hd : decide (y ≤ x) = false := by simpa using hle
        go_wp2
        go_quiet (fail)
        go_wp2
        go_roundw
        case rel =>
          refine ⟨k + 1 + 1, by omega, by omega, by go_num, fun j h1 h2 => ?_, _, rfl⟩
          by_cases e : j = k + 1
          · subst e; rw [show k + 1 - 1 = k by omega, B.out.1, B.out.2]; omega
          · exact A.out j h1 (by omega)
        case measure => simp [intOf]; omega
    · go_wp2
      go_ret
      exact ⟨⟨_, rfl, ⟨fun _ i h1 h2 => A.out i h1 (by omega), fun _ => rfl⟩⟩, q, rfl⟩

/-- Ascending, each once, in 0 .. 7. -/
def KIn (f : Nat → Int) (n : Nat) : Prop := (∀ i, i < n → 0 ≤ f i ∧ f i ≤ 7) ∧ ∀ i, 1 ≤ i → i < n → f (i - 1) < f i

theorem marksok_spec (ao : Option Addr) (n cap : Nat) (f : Nat → Int) (w : World) (hn : n ≤ 1048576) (hs : SL .i64 w ao n f) :
    Calls Try.prog 75 #[.slice ao n cap] w fun e w' => (∃ b : Bool, e = .returned (.bool b) ∧ (b = true ↔ KIn f n)) ∧ ∃ q, w' = w.drewN q := by
  go_enter Try.func75, Try.ntmps75
  go_wp2
  go_loopw [3] (fun i wr => ∃ k : Nat, k ≤ n ∧ i = .int .i64 k ∧ Hid (KIn f k) ∧ ∃ q, wr = w.drewN q) (fun i _ => n - (intOf i).toNat)
  case atStart => exact ⟨0, by omega, rfl, ⟨fun i hi => absurd hi (by omega), fun i h1 h2 => absurd h2 (by omega)⟩, 0, rfl⟩
  case round =>
    obtain ⟨k, hk, rfl, A, q, rfl⟩ := hrel
    by_cases hlt : k < n
    · obtain ⟨b, off, e1, hb, hc⟩ := hs k hlt
      by_cases hin : 0 ≤ f k ∧ f k ≤ 7
      · by_cases hk0 : k = 0
        · subst hk0
          obtain ⟨hin0, hin1⟩ := hin
          subst e1
          rw [Nat.add_zero] at hc
          have hd : decide ((0 : Int) < ((0 : Nat) : Int)) = false := by simp
          clear hs
          generalize hy : f 0 = y at *
          have B : Hid (f 0 = y) := hy
          clear hy
          go_wp2
          go_quiet (first | (go_at_call 77; refine quiet_q (in_yes _ _ _ _ hin0 hin1)))
          go_wp2
          go_roundw
          case rel =>
            refine ⟨1, by omega, by go_num, ⟨fun i hi => ?_, fun i h1 h2 => absurd h2 (by omega)⟩, _, rfl⟩
            obtain rfl : i = 0 := by omega
            rw [B.out]; omega
          case measure => simp [intOf]; omega
        · obtain ⟨b', off', e2, hb', hc'⟩ := hs (k - 1) (by omega)
          subst e1
          simp only [Option.some.injEq, Addr.mk.injEq] at e2
          obtain ⟨rfl, rfl, _⟩ := e2
          obtain ⟨k, rfl⟩ : ∃ k', k = k' + 1 := ⟨k - 1, by omega⟩
          rw [show k + 1 - 1 = k by omega] at hc'
          obtain ⟨hin0, hin1⟩ := hin
          have hpos : decide ((0 : Int) < ((k + 1 : Nat) : Int)) = true := by simp
          clear hs hk0
          generalize hy : f (k + 1) = y at *
          generalize hx : f k = x at *
          have B : Hid (f (k + 1) = y ∧ f k = x) := ⟨hy, hx⟩
          clear hy hx
          by_cases hle : y ≤ x
          · have hd : decide (y ≤ x) = true := by simpa using hle
            go_wp2
            go_quiet (first | (go_at_call 77; refine quiet_q (in_yes _ _ _ _ hin0 hin1)))
            go_wp2
            go_ret
            refine ⟨⟨_, rfl, ?_⟩, _, World.drewN_drewN ..⟩
            constructor
            · intro h; cases h
            · intro h
              have := h.2 (k + 1) (by omega) hlt
              rw [show k + 1 - 1 = k by omega, B.out.1, B.out.2] at this
              omega
          · have hd : decide (y ≤ x) = false := by simpa using hle
            go_wp2
            go_quiet (first | (go_at_call 77; refine quiet_q (in_yes _ _ _ _ hin0 hin1)))
            go_wp2
            go_roundw
            case rel =>
              refine ⟨k + 1 + 1, by omega, by go_num, ⟨fun i hi => ?_, fun j h1 h2 => ?_⟩, _, rfl⟩
              · by_cases e : i = k + 1
                · subst e; rw [B.out.1]; omega
                · exact A.out.1 i (by omega)
              · by_cases e : j = k + 1
                · subst e; rw [show k + 1 - 1 = k by omega, B.out.1, B.out.2]; omega
                · exact A.out.2 j h1 (by omega)
            case measure => simp [intOf]; omega
      · have hno : f k < 0 ∨ 7 < f k := by omega
        subst e1
        clear hs
        go_wp2
        go_quiet (first | (go_at_call 77; refine quiet_q (in_no _ _ _ _ hno)))
        go_wp2
        go_ret
        refine ⟨⟨_, rfl, ?_⟩, _, World.drewN_drewN ..⟩
        constructor
        · intro h; cases h
        · intro h; exact absurd (h.1 k hlt) hin
    · have hkn : k = n := by omega
      subst hkn
      go_wp2
      go_ret
      exact ⟨⟨_, rfl, ⟨fun _ => A.out, fun _ => rfl⟩⟩, q, rfl⟩

theorem marksok_impl (ao : Option Addr) (n cap : Nat) (f : Nat → Int) (w : World) (hn : n ≤ 1048576) (hs : SL .i64 w ao n f) :
    Calls Try.prog 124 #[.slice ao n cap] w fun e w' => (∃ b : Bool, e = .returned (.bool b) ∧ (b = true ↔ KIn f n)) ∧ ∃ q, w' = w.drewN q := by
  have h1 := asc_any ao n cap f w hn hs
  have h2 : Hid (∀ q, Calls Try.prog 138 #[.slice ao n cap, .func (.func 139) #[] #[]] (w.drewN q) fun e w' => (∃ b : Bool, e = .returned (.bool b) ∧ (b = true ↔ ∃ i, i < n ∧ decide (f i < 0 ∨ 8 ≤ f i) = true)) ∧ w' = w.drewN q) :=
    fun q => cf_any 139 #[] (fun x => decide (x < 0 ∨ 8 ≤ x)) ao n cap f (w.drewN q) (enters_of Try.func139 (by kernel_rfl) rfl) (fun x => nocell_any x _) hn hs
  clear hs
  go_enter Try.func124, Try.ntmps124
  go_wp2_with fail
  refine h1.mono ?_
  rintro e w1 ⟨⟨b, rfl, hb0⟩, q, rfl⟩
  have hb : Hid (b = true ↔ ∀ i, 1 ≤ i → i < n → f (i - 1) < f i) := hb0
  clear hb0 h1
  cases b with
  | false =>
    go_wp2
    go_ret
    refine ⟨⟨_, rfl, ?_⟩, q, rfl⟩
    constructor
    · intro h; cases h
    · intro h; exact hb.out.2 h.2
  | true =>
    go_wp2_with fail
    refine (h2.out q).mono ?_
    rintro e w2 ⟨⟨c, rfl, hc⟩, rfl⟩
    go_wp2
    go_ret
    refine ⟨⟨_, rfl, ?_⟩, q, rfl⟩
    cases c with
    | true =>
      obtain ⟨i, hi, hx⟩ := hc.1 rfl
      constructor
      · intro h; cases h
      · intro h
        have := h.1 i hi
        simp at hx
        omega
    | false =>
      refine ⟨fun _ => ⟨fun i hi => ?_, hb.out.1 trivial⟩, fun _ => rfl⟩
      have hx : ¬ (decide (f i < 0 ∨ 8 ≤ f i) = true) := fun hx => by have := hc.2 ⟨i, hi, hx⟩; cases this
      simp at hx
      omega

/-- Of a list. -/
def KOk (l : List Int) : Prop := KIn (fun i => l.getD i 0) l.length
theorem marks_spec (ro : Option Addr) (rc : Nat) (l : List Int) (w : World) (hl : l.length ≤ 1048576) (hs : SL .i64 w ro l.length (fun i => l.getD i 0)) :
    Calls Try.prog 75 #[.slice ro l.length rc] w fun e w' => ((KOk l ∧ e = .returned (.bool true)) ∨ (¬ KOk l ∧ e = .returned (.bool false))) ∧ ∃ q, w' = w.drewN q := by
  refine (marksok_spec ro l.length rc (fun i => l.getD i 0) w hl hs).mono ?_
  rintro e w' ⟨⟨b, rfl, hb⟩, hq⟩
  refine ⟨?_, hq⟩
  cases b with
  | true => exact .inl ⟨hb.1 rfl, rfl⟩
  | false => exact .inr ⟨(fun h => by have := hb.2 h; cases this), rfl⟩
theorem marks_impl (ro : Option Addr) (rc : Nat) (l : List Int) (w : World) (hl : l.length ≤ 1048576) (hs : SL .i64 w ro l.length (fun i => l.getD i 0)) :
    Calls Try.prog 124 #[.slice ro l.length rc] w fun e w' => ((KOk l ∧ e = .returned (.bool true)) ∨ (¬ KOk l ∧ e = .returned (.bool false))) ∧ ∃ q, w' = w.drewN q := by
  refine (marksok_impl ro l.length rc (fun i => l.getD i 0) w hl hs).mono ?_
  rintro e w' ⟨⟨b, rfl, hb⟩, hq⟩
  refine ⟨?_, hq⟩
  cases b with
  | true => exact .inl ⟨hb.1 rfl, rfl⟩
  | false => exact .inr ⟨(fun h => by have := hb.2 h; cases this), rfl⟩
end Go.Proofs.Ytkeojhnifnkpiaa

/- MsgOk of the program: what is in bounds. -/
import Derived.Test.YtkeojhnifnkpiaaMokI2Z
import Derived.Test.YtkeojhnifnkpiaaMokI3Z

namespace Go.Proofs.Ytkeojhnifnkpiaa
open Go.ChangeShapes Go.WideShapes Go.ChangeAt Go.RowKit
set_option linter.unusedVariables false
set_option linter.unusedSimpArgs false

theorem cellwith_any (x y : Int) (w : World) : Calls Try.prog 165 #[.int .i64 x, .int .i64 y] w fun e w' => e = .returned (.bool (decide ((0 ≤ x ∧ x ≤ 7) ∧ 0 ≤ y ∧ y ≤ 200))) ∧ w' = w := by
  by_cases hx : x < 0 ∨ 8 ≤ x
  · have dx : decide (x < 0 ∨ 8 ≤ x) = true := by simpa using hx
    have dz : decide ((0 ≤ x ∧ x ≤ 7) ∧ 0 ≤ y ∧ y ≤ 200) = false := by simp; omega
    rw [dz]
    clear dz hx
    go_enter Try.func165, Try.ntmps165
    go_wp2_with (first
      | (go_at_call 139; refine (nocell_any _ _).mono ?_; rintro e9 w9 ⟨rfl, hw9⟩; rw [hw9, dx]; clear hw9)
      | fail)
    go_ret
    exact ⟨rfl, rfl⟩
  · have dx : decide (x < 0 ∨ 8 ≤ x) = false := by simpa using hx
    have dz : decide ((0 ≤ x ∧ x ≤ 7) ∧ 0 ≤ y ∧ y ≤ 200) = !decide (y < 0 ∨ 200 < y) := by
      by_cases hy : y < 0 ∨ 200 < y
      · simp [hy]; omega
      · simp [hy]; omega
    rw [dz]
    clear dz hx
    have hcb := hide (nowrite_any y)
    generalize decide (y < 0 ∨ 200 < y) = b9 at hcb ⊢
    go_enter Try.func165, Try.ntmps165
    go_wp2_with (first
      | (go_at_call 139; refine (nocell_any _ _).mono ?_; rintro e9 w9 ⟨rfl, hw9⟩; rw [hw9, dx]; clear hw9)
      | (go_at_call 74; refine (hcb.out _).mono ?_; rintro e9 w9 ⟨rfl, hw9⟩; rw [hw9]; clear hw9)
      | fail)
    go_ret
    exact ⟨rfl, rfl⟩
theorem written_any (x y : Int) (w : World) : Calls Try.prog 164 #[.int .i64 x, .int .i64 y] w fun e w' => e = .returned (.bool (decide ((0 ≤ x ∧ x ≤ 7) ∧ 1 ≤ y ∧ y ≤ 200))) ∧ w' = w := by
  by_cases hx : (0 ≤ x ∧ x ≤ 7) ∧ 0 ≤ y ∧ y ≤ 200
  · have dx : decide ((0 ≤ x ∧ x ≤ 7) ∧ 0 ≤ y ∧ y ≤ 200) = true := by simpa using hx
    have dz : decide ((0 ≤ x ∧ x ≤ 7) ∧ 1 ≤ y ∧ y ≤ 200) = decide (0 < y) := by
      by_cases hy : 0 < y
      · simp [hy]; omega
      · simp [hy]; omega
    rw [dz]
    clear dz hx
    go_enter Try.func164, Try.ntmps164
    go_wp2_with (first
      | (go_at_call 165; refine (cellwith_any _ _ _).mono ?_; rintro e9 w9 ⟨rfl, hw9⟩; rw [hw9, dx]; clear hw9)
      | fail)
    go_ret
    exact ⟨rfl, rfl⟩
  · have dx : decide ((0 ≤ x ∧ x ≤ 7) ∧ 0 ≤ y ∧ y ≤ 200) = false := by simpa using hx
    have dz : decide ((0 ≤ x ∧ x ≤ 7) ∧ 1 ≤ y ∧ y ≤ 200) = false := by simp at hx ⊢; omega
    rw [dz]
    clear dz hx
    go_enter Try.func164, Try.ntmps164
    go_wp2_with (first
      | (go_at_call 165; refine (cellwith_any _ _ _).mono ?_; rintro e9 w9 ⟨rfl, hw9⟩; rw [hw9, dx]; clear hw9)
      | fail)
    go_ret
    exact ⟨rfl, rfl⟩
theorem bnd_data (c v : Int) (w : World) : Calls Try.prog 163 #[.agg #[.int .i64 c, .int .i64 v]] w fun e w' => e = .returned (.bool (decide ((0 ≤ c ∧ c ≤ 7) ∧ 1 ≤ v ∧ v ≤ 200))) ∧ Below w.heap.size w w' := by
  have hcb := hide (written_any c v)
  generalize decide ((0 ≤ c ∧ c ≤ 7) ∧ 1 ≤ v ∧ v ≤ 200) = b9 at hcb ⊢
  go_enter Try.func163, Try.ntmps163
  go_wp2_with (first
    | (go_at_call 164; refine (hcb.out _).mono ?_; rintro e9 w9 ⟨rfl, hw9⟩; rw [hw9]; clear hw9)
    | fail)
  go_ret
  exact ⟨rfl, (Below.refl _ _).alloc (Nat.le_refl _) _⟩
theorem bnd_ack (c v : Int) (w : World) : Calls Try.prog 166 #[.agg #[.int .i64 c, .int .i64 v]] w fun e w' => e = .returned (.bool (decide ((0 ≤ c ∧ c ≤ 7) ∧ 0 ≤ v ∧ v ≤ 200))) ∧ Below w.heap.size w w' := by
  have hcb := hide (cellwith_any c v)
  generalize decide ((0 ≤ c ∧ c ≤ 7) ∧ 0 ≤ v ∧ v ≤ 200) = b9 at hcb ⊢
  go_enter Try.func166, Try.ntmps166
  go_wp2_with (first
    | (go_at_call 165; refine (hcb.out _).mono ?_; rintro e9 w9 ⟨rfl, hw9⟩; rw [hw9]; clear hw9)
    | fail)
  go_ret
  exact ⟨rfl, (Below.refl _ _).alloc (Nat.le_refl _) _⟩
theorem bnd_copy (c v : Int) (w : World) : Calls Try.prog 169 #[.agg #[.int .i64 c, .int .i64 v]] w fun e w' => e = .returned (.bool (decide ((0 ≤ c ∧ c ≤ 7) ∧ 0 ≤ v ∧ v ≤ 200))) ∧ Below w.heap.size w w' := by
  have hcb := hide (cellwith_any c v)
  generalize decide ((0 ≤ c ∧ c ≤ 7) ∧ 0 ≤ v ∧ v ≤ 200) = b9 at hcb ⊢
  go_enter Try.func169, Try.ntmps169
  go_wp2_with (first
    | (go_at_call 165; refine (hcb.out _).mono ?_; rintro e9 w9 ⟨rfl, hw9⟩; rw [hw9]; clear hw9)
    | fail)
  go_ret
  exact ⟨rfl, (Below.refl _ _).alloc (Nat.le_refl _) _⟩
theorem bnd_clear (c v h : Int) (w : World) : Calls Try.prog 167 #[.agg #[.int .i64 c, .int .i64 v, .int .i64 h]] w fun e w' => e = .returned (.bool (decide (((0 ≤ c ∧ c ≤ 7) ∧ 1 ≤ v ∧ v ≤ 200) ∧ 0 ≤ h ∧ h ≤ 2))) ∧ Below w.heap.size w w' := by
  by_cases hx : (0 ≤ c ∧ c ≤ 7) ∧ 1 ≤ v ∧ v ≤ 200
  · have dx : decide ((0 ≤ c ∧ c ≤ 7) ∧ 1 ≤ v ∧ v ≤ 200) = true := by simpa using hx
    have dz : decide (((0 ≤ c ∧ c ≤ 7) ∧ 1 ≤ v ∧ v ≤ 200) ∧ 0 ≤ h ∧ h ≤ 2) = !decide (h < 0 ∨ 3 ≤ h) := by
      by_cases hy : h < 0 ∨ 3 ≤ h
      · simp [hy]; omega
      · simp [hy]; omega
    rw [dz]
    clear dz hx
    have hcb := hide (nonode_any h)
    generalize decide (h < 0 ∨ 3 ≤ h) = b9 at hcb ⊢
    go_enter Try.func167, Try.ntmps167
    go_wp2_with (first
      | (go_at_call 164; refine (written_any _ _ _).mono ?_; rintro e9 w9 ⟨rfl, hw9⟩; rw [hw9, dx]; clear hw9)
      | (go_at_call 168; refine (hcb.out _).mono ?_; rintro e9 w9 ⟨rfl, hw9⟩; rw [hw9]; clear hw9)
      | fail)
    go_ret
    exact ⟨rfl, (Below.refl _ _).alloc (Nat.le_refl _) _⟩
  · have dx : decide ((0 ≤ c ∧ c ≤ 7) ∧ 1 ≤ v ∧ v ≤ 200) = false := by simpa using hx
    have dz : decide (((0 ≤ c ∧ c ≤ 7) ∧ 1 ≤ v ∧ v ≤ 200) ∧ 0 ≤ h ∧ h ≤ 2) = false := by simp at hx ⊢; omega
    rw [dz]
    clear dz hx
    go_enter Try.func167, Try.ntmps167
    go_wp2_with (first
      | (go_at_call 164; refine (written_any _ _ _).mono ?_; rintro e9 w9 ⟨rfl, hw9⟩; rw [hw9, dx]; clear hw9)
      | fail)
    go_ret
    exact ⟨rfl, (Below.refl _ _).alloc (Nat.le_refl _) _⟩
/-- b tells whether p holds. -/
def TellsB (b : Bool) (p : Prop) : Prop := b = true ↔ p
theorem tellsB (p : Prop) : ∃ b : Bool, TellsB b p := by
  by_cases h : p
  · exact ⟨true, by simp [TellsB, h]⟩
  · exact ⟨false, by simp [TellsB, h]⟩
theorem tellsB_of (p : Prop) [Decidable p] : TellsB (decide p) p := by simp [TellsB]
theorem gensok_b (ao : Option Addr) (n cap : Nat) (f : Nat → Int) (w : World) (hn : n ≤ 1048576) (hcap : n ≤ cap) (hs : SL .i64 w ao n f) (b : Bool) (hb : TellsB b (GOk f n)) :
    Calls Try.prog 72 #[.slice ao n cap] w fun e w' => e = .returned (.bool b) ∧ ∃ q, w' = w.drewN q :=
  (gensok_impl ao n cap f w hn hcap hs).mono fun e w' ⟨h1, h2⟩ => ⟨by
    rcases h1 with ⟨h, rfl⟩ | ⟨h, rfl⟩
    · rw [hb.2 h]
    · cases b with
      | false => rfl
      | true => exact absurd (hb.1 rfl) h, h2⟩
theorem samemsg_b (ao bo : Option Addr) (n m ca cb : Nat) (f g : Nat → Int) (k c v h k' c' v' h' : Int) (w : World) (hn : n ≤ 1048576) (hA : SL .i64 w ao n f) (hB : SL .i64 w bo m g) (b : Bool) (hb : TellsB b ((k = k' ∧ c = c' ∧ v = v' ∧ h = h') ∧ SameI f g n m)) :
    Calls Try.prog 97 #[.agg #[.int .i64 k, .int .i64 c, .int .i64 v, .int .i64 h, .slice ao n ca], .agg #[.int .i64 k', .int .i64 c', .int .i64 v', .int .i64 h', .slice bo m cb]] w fun e w' => e = .returned (.bool b) ∧ Below w.heap.size w w' :=
  (samemsg_any ao bo n m ca cb f g k c v h k' c' v' h' w hn hA hB).mono fun e w' ⟨h1, h2⟩ => ⟨by
    rcases h1 with ⟨h, rfl⟩ | ⟨h, rfl⟩
    · rw [hb.2 h]
    · cases b with
      | false => rfl
      | true => exact absurd (hb.1 rfl) h, h2⟩
theorem bnd_done (ao : Option Addr) (n cap : Nat) (f : Nat → Int) (v : Int) (w : World) (hn : n ≤ 1048576) (hcap : n ≤ cap) (hs : SL .i64 w ao n f) (b : Bool) (hb : TellsB b ((0 ≤ v ∧ v ≤ 200) ∧ GOk f n)) :
    Calls Try.prog 170 #[.agg #[.int .i64 v, .slice ao n cap]] w fun e w' => e = .returned (.bool b) ∧ Below w.heap.size w w' := by
  have HS : Hid (∀ o : Obj, SL .i64 (w.alloc o) ao n f) := fun o => hs.below ((Below.refl _ _).alloc (Nat.le_refl _) o)
  have HB : Hid (∀ (o : Obj) (q : Nat), Below w.heap.size w ((w.alloc o).drewN q)) := fun o q => Below.drawn ((Below.refl _ _).alloc (Nat.le_refl _) o) q
  have HB0 : Hid (∀ (o : Obj), Below w.heap.size w (w.alloc o)) := fun o => (Below.refl _ _).alloc (Nat.le_refl _) o
  have HT := hide hb
  clear hs hb
  by_cases hv : v < 0 ∨ 200 < v
  · have dv : decide (v < 0 ∨ 200 < v) = true := by simpa using hv
    obtain rfl : b = false := by
      cases b with
      | false => rfl
      | true => exact absurd (HT.out.1 rfl).1 (by omega)
    clear hv HT
    go_enter Try.func170, Try.ntmps170
    go_wp2_with (first
      | (go_at_call 74; refine (nowrite_any _ _).mono ?_; rintro e9 w9 ⟨rfl, hw9⟩; rw [hw9, dv]; clear hw9)
      | fail)
    go_ret
    exact ⟨rfl, HB0.out _⟩
  · have dv : decide (v < 0 ∨ 200 < v) = false := by simpa using hv
    have HG : Hid (TellsB b (GOk f n)) := ⟨fun h => (HT.out.1 h).2, fun h => HT.out.2 ⟨by omega, h⟩⟩
    clear hv HT
    go_enter Try.func170, Try.ntmps170
    go_wp2_with (first
      | (go_at_call 74; refine (nowrite_any _ _).mono ?_; rintro e9 w9 ⟨rfl, hw9⟩; rw [hw9, dv]; clear hw9)
      | (go_at_call 72; refine (gensok_b ao n cap f _ hn hcap (HS.out _) b HG.out).mono ?_; rintro e9 w9 ⟨rfl, q9, hw9⟩; rw [hw9]; clear hw9)
      | fail)
    go_ret
    exact ⟨rfl, HB.out _ _⟩
end Go.Proofs.Ytkeojhnifnkpiaa

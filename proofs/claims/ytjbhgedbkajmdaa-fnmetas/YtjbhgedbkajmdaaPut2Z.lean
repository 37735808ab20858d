/- PutNum of the program: its bytes lie in memory of its own; nothing where there is no number. -/
import Derived.Test.YtjbhgedbkajmdaaGb
import Derived.Test.YtjbhgedbkajmdaaGf

namespace Go.Proofs.Ytjbhgedbkajmdaa
open Go.ChangeShapes Go.WideShapes Go.ChangeAt Go.RowKit
set_option linter.unusedVariables false
set_option linter.unusedSimpArgs false

theorem num_bytes (x : Int) (w : World) (h0 : 0 ≤ x) (h1 : x ≤ 2147483647) :
    Calls Try.prog 81 #[.int .i64 x] w fun e w' => ∃ v, e = .returned v ∧ w'.ownsRow w.heap.size 5 1 v (pb 4 x).length ((pb 4 x).map (.int .u8)) ∧ Below w.heap.size w w' := by
  obtain ⟨i0, hi, hz0, hz1, hz2⟩ := info_parts Try.info5
  go_enter Try.func81, Try.ntmps81
  go_wp2
  go_loopw [0, 3] (fun xv v wr => ∃ (k : Nat) (y : Int) (L : List Int), k ≤ 4 ∧ Hid (L.length = k) ∧ 0 ≤ y ∧ y < lim k ∧ xv = .int .i64 y ∧ Hid (L ++ pb (4 - k) y = pb 4 x) ∧ wr.ownsRow w.heap.size 5 1 v k (L.map (.int .u8)) ∧ Below w.heap.size w wr) (fun xv _ _ => (intOf xv).toNat)
  case atStart => exact ⟨0, x, [], by omega, rfl, h0, by simp [lim]; omega, rfl, rfl, World.ownsRow_nil _ _ _ _, Below.refl _ _⟩
  case round =>
    obtain ⟨k, y, L, hk, hl, hy0, hy1, rfl, hp, hown, hbel⟩ := hrel
    have hlim := lim_le k
    by_cases hlt : 128 ≤ y
    · obtain ⟨hk4, hd0, hd1⟩ := lim_step k y hlt hy1
      go_wp2_with (first
        | (at_builtin; refine wpList_append_own _ rfl _ _ 22 rfl w.heap.size 5 i0 (.int .u8 0) 1 1 Try.underlying22 hi hz0 hz1 hz2 rfl (by decide) _ _ _ rfl (hown.alloc _) ⟨wr.heap.size, 0, none⟩ 1 1 [.int .u8 (y % 128 + 128)] rfl rfl (app_cell _ _ _) (app_one _ _) (app_len (by omega)) (by omega) (by have := hbel.size; simp; omega) ?_; intro v' w1 hown' hgrow hnn))
      · have R := put_step hk4 hl.out (by omega) hp.out hown' hbel hown hgrow
        clear hown' hgrow hown
        go_wp2
        go_roundw
        case rel => exact ⟨k + 1, y / 128, _, by omega, R.1, hd0, hd1, by go_num, R.2.1, R.2.2.1, R.2.2.2⟩
        case measure => simp [intOf]; omega
    · go_wp2_with (first
        | (at_builtin; refine wpList_append_own _ rfl _ _ 22 rfl w.heap.size 5 i0 (.int .u8 0) 1 1 Try.underlying22 hi hz0 hz1 hz2 rfl (by decide) _ _ _ rfl (hown.alloc _) ⟨wr.heap.size, 0, none⟩ 1 1 [.int .u8 y] rfl rfl (app_cell _ _ _) (app_one _ _) (app_len (by omega)) (by omega) (by have := hbel.size; simp; omega) ?_; intro v' w1 hown' hgrow hnn))
      · have R := put_end hl.out (by omega) hp.out hown' hbel hown hgrow
        clear hown' hgrow hown
        go_wp2
        go_ret
        exact ⟨_, rfl, R⟩

theorem catch17 (u : TypeId) (pv : Value) (older : List PanicEntry) (w : World) :
    CallsD Try.prog 80 #[] (.panicking ({ v := .iface u pv, recovered := false } :: older)) w fun e u' w' =>
      e = .returned (.tuple #[]) ∧ u' = .panicking ({ v := .iface u pv, recovered := true } :: older) ∧ w' = w := by
  refine callsD_of_wpS Try.func80 rfl fun c₀ cs hu => ?_
  apply wpS_region
  simp [wpOpsS, go_sem, recoverD, hu, Try.ntmps80, bodyPostS, results, Try.results80]

theorem idle17 (w : World) :
    CallsD Try.prog 80 #[] .returning w fun e u' w' => e = .returned (.tuple #[]) ∧ u' = .returning ∧ w' = w := by
  refine callsD_of_wpS Try.func80 rfl fun c₀ cs hu => ?_
  apply wpS_region
  simp [wpOpsS, go_sem, recoverD, hu, Try.ntmps80, bodyPostS, results, Try.results80]
  cases c₀
  simp_all

theorem put_impl_no (x : Int) (w : World) (h : x < 0 ∨ 2147483647 < x) :
    Calls Try.prog 42 #[.int .i64 x] w fun e w' => e = .returned (.slice none 0 0) ∧ w' = w := by
  go_enter_defers Try.func42, Try.ntmps42
  go_wp2_with (go_at_call 82; refine (num_no x _ h).mono ?_; rintro e w' ⟨⟨pv, rfl⟩, rfl⟩)
  refine leaves_cons (f := 80) (args := #[]) (by simp) (by simp [go_sem]) ?_
  refine (catch17 101 _ [] _).mono ?_
  rintro e u' w'' ⟨rfl, rfl, rfl⟩
  simp [Leaves, settle, results, Try.results42, go_sem]

theorem put_impl (x : Int) (w : World) (h0 : 0 ≤ x) (h1 : x ≤ 2147483647) :
    Calls Try.prog 42 #[.int .i64 x] w fun e w' => ∃ v, e = .returned v ∧ w'.ownsRow w.heap.size 5 1 v (pb 4 x).length ((pb 4 x).map (.int .u8)) ∧ Below w.heap.size w w' := by
  go_enter_defers Try.func42, Try.ntmps42
  go_wp2_with (first
    | (go_at_call 82; refine (num_yes x _ ⟨h0, h1⟩).mono ?_; rintro e w' ⟨rfl, rfl⟩)
    | (go_at_call 81; refine (num_bytes x _ h0 h1).mono ?_; rintro e w1 ⟨v, rfl, ho, hb⟩))
  refine leaves_cons (f := 80) (args := #[]) (by simp) (by simp [go_sem]) ?_
  refine (idle17 _).mono ?_
  rintro e u' w'' ⟨rfl, rfl, rfl⟩
  simp [Leaves, settle, results, Try.results42, go_sem]
  exact ⟨by assumption, by assumption⟩
end Go.Proofs.Ytjbhgedbkajmdaa

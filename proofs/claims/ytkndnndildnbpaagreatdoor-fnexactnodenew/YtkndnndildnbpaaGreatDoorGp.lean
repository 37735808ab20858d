/- readNum of the program reads the same number, or panics where there is none. -/
import Derived.Test.YtkndnndildnbpaaGreatDoorGe
import Derived.Test.YtkndnndildnbpaaGreatDoorGb

namespace Go.Proofs.YtkndnndildnbpaaGreatDoor
open Go.ChangeShapes Go.WideShapes Go.ChangeAt Go.RowKit
set_option linter.unusedVariables false
set_option linter.unusedSimpArgs false

/-- How readNum ends. -/
def rend (r : Option (Int × Int)) (e : Ending) : Prop :=
  match r with
  | some (x, y) => e = .returned (.tuple #[.int .i64 x, .int .i64 y])
  | none => ∃ pv, e = .panicked [{ v := .iface 246 pv, recovered := false }]

theorem read_neg (ao : Option Addr) (n cap : Nat) (x : Int) (w : World) (hx : x < 0) (hx' : -9223372036854775808 ≤ x) :
    Calls Tryz.prog 278 #[.slice ao n cap, .int .i64 x] w fun e w' => rend none e ∧ w' = w := by
  go_enter Tryz.func278, Tryz.ntmps278
  go_wp2
  refine wp_loop_rounds 1 ?_
  rw [rounds_succ]
  go_wp2_with (go_at_call 279; refine (byte_no ao n cap _ _ (.inl hx)).mono ?_; rintro e w' ⟨⟨pv, rfl⟩, rfl⟩)
  exact ⟨rfl, ⟨_, rfl⟩, rfl⟩

set_option maxHeartbeats 1000000 in
theorem read_any (ao : Option Addr) (n cap a : Nat) (f : Nat → Int) (w : World) (hn : n ≤ 1048576) (ha : (a : Int) ≤ 9223372036854775807) (hs : SL .u8 w ao n f) (hf : ∀ i, i < n → 0 ≤ f i ∧ f i ≤ 255) :
    Calls Tryz.prog 278 #[.slice ao n cap, .int .i64 a] w fun e w' => rend (gr n f a 5 0) e ∧ w' = w := by
  go_enter Tryz.func278, Tryz.ntmps278
  go_wp2
  go_loop [6, 9] (fun x i => ∃ k : Nat, k ≤ 5 ∧ (k = 0 ∨ a + k ≤ n) ∧ i = .int .i64 k ∧ x = .int .i64 (gacc f a k) ∧ Hid (gr n f a 5 0 = gr n f a (5 - k) k)) (fun _ i => 5 - (intOf i).toNat)
  case atStart => exact ⟨0, Nat.zero_le _, .inl rfl, rfl, rfl, rfl⟩
  case round =>
    obtain ⟨k, hk, hkn, rfl, rfl, hg⟩ := hrel
    have hb := (gacc_bd f a k).1
    have hak : (a : Int) + k ≤ 9223372036854775807 := by omega
    by_cases hk5 : k < 5
    · have e5 : 5 - k = (5 - (k + 1)) + 1 := by omega
      by_cases hin : a + k < n
      · obtain ⟨b, off, rfl, hbs, hc⟩ := hs (a + k) hin
        have hz := hf (a + k) hin
        have hsh := shl_step f a k hk5
        have hbd := shl_bd f a k hk5
        have hg2 := hg.out
        rw [e5, gr_in hin] at hg2
        have hG := (gacc_bd f a (k + 1)).1
        have hGe : gacc f a (k + 1) = gacc f a k + f (a + k) % 128 * 128 ^ k := rfl
        generalize hd : f (a + k) = d at hc hz hsh hbd hg2 hGe
        generalize d % 128 * 128 ^ k = D at hsh hbd hGe
        have HG : Hid (gacc f a (k + 1) = gacc f a k + D) := hGe
        rw [hGe] at hg2 hG
        clear hs hf hd hGe hg e5 hkn
        by_cases hd : d < 128
        · rw [if_pos hd] at hg2
          by_cases hno : (0 < k ∧ d = 0) ∨ 2147483647 < gacc f a k + D
          · rw [if_pos hno] at hg2
            have fin : Hid (gr n f a 5 0 = none) := hg2
            clear hg2 HG
            by_cases h0 : 0 < k ∧ d = 0
            · have h1 : Hid (d = 0) := h0.2
              have h0' : 0 < k := h0.1
              clear hno h0
              go_wp2_with (first
                | (go_at_call 279; refine (byte_yes b off n cap (a + k) _ d _ (by omega) hin hn hc hz).mono ?_; rintro e w' ⟨rfl, rfl⟩)
                | (go_at_call 280; refine (short_no d k _ h1.out (by omega)).mono ?_; rintro e w' ⟨⟨pv, rfl⟩, rfl⟩))
              exact ⟨rfl, by rw [fin.out]; exact ⟨_, rfl⟩, rfl⟩
            · have h2 : 2147483647 < gacc f a k + D := hno.resolve_left h0
              have h1 : Hid (¬ (0 < (k : Int) ∧ d = 0)) := fun x => h0 ⟨by omega, x.2⟩
              clear hno h0
              go_wp2_with (first
                | (go_at_call 279; refine (byte_yes b off n cap (a + k) _ d _ (by omega) hin hn hc hz).mono ?_; rintro e w' ⟨rfl, rfl⟩)
                | (go_at_call 280; refine (short_yes d k _ h1.out).mono ?_; rintro e w' ⟨rfl, rfl⟩)
                | (go_at_call 265; refine (num_no _ _ (.inr h2)).mono ?_; rintro e w' ⟨⟨pv, rfl⟩, rfl⟩))
              exact ⟨rfl, by rw [fin.out]; exact ⟨_, rfl⟩, rfl⟩
          · rw [if_neg hno] at hg2
            have fin : Hid (gr n f a 5 0 = some (gacc f a k + D, (a : Int) + k + 1)) := hg2
            have h2 : gacc f a k + D ≤ 2147483647 := Int.not_lt.1 fun x => hno (.inr x)
            have h1 : Hid (¬ (0 < (k : Int) ∧ d = 0)) := fun x => hno (.inl ⟨by omega, x.2⟩)
            clear hg2 HG hno
            go_wp2_with (first
              | (go_at_call 279; refine (byte_yes b off n cap (a + k) _ d _ (by omega) hin hn hc hz).mono ?_; rintro e w' ⟨rfl, rfl⟩)
              | (go_at_call 280; refine (short_yes d k _ h1.out).mono ?_; rintro e w' ⟨rfl, rfl⟩)
              | (go_at_call 265; refine (num_yes _ _ ⟨hG, h2⟩).mono ?_; rintro e w' ⟨rfl, rfl⟩))
            go_ret2
            exact ⟨by rw [fin.out]; rfl, rfl⟩
        · rw [if_neg hd] at hg2
          have Hg2 : Hid _ := hg2
          clear hg2
          go_wp2_with (go_at_call 279; refine (byte_yes b off n cap (a + k) _ d _ (by omega) hin hn hc hz).mono ?_; rintro e w' ⟨rfl, rfl⟩)
          go_round
          case rel => exact ⟨k + 1, by omega, by omega, by go_num, by rw [HG.out], Hg2⟩
          case measure => simp [intOf]; omega
      · have hg2 := hg.out
        rw [e5, gr_out hin] at hg2
        have fin : Hid (gr n f a 5 0 = none) := hg2
        clear hg2 hg hs hf e5 hkn
        go_wp2_with (go_at_call 279; refine (byte_no ao n cap _ _ (by omega)).mono ?_; rintro e w' ⟨⟨pv, rfl⟩, rfl⟩)
        exact ⟨rfl, by rw [fin.out]; exact ⟨_, rfl⟩, rfl⟩
    · have e5 : k = 5 := by omega
      subst e5
      have fin : Hid (gr n f a 5 0 = none) := hg.out
      clear hs hf hg
      go_wp2
      exact ⟨rfl, by rw [fin.out]; exact ⟨_, rfl⟩, rfl⟩
theorem catch20 (u : TypeId) (pv : Value) (older : List PanicEntry) (w : World) :
    CallsD Tryz.prog 277 #[] (.panicking ({ v := .iface u pv, recovered := false } :: older)) w fun e u' w' =>
      e = .returned (.tuple #[]) ∧ u' = .panicking ({ v := .iface u pv, recovered := true } :: older) ∧ w' = w := by
  refine callsD_of_wpS Tryz.func277 rfl fun c₀ cs hu => ?_
  apply wpS_region
  simp [wpOpsS, go_sem, recoverD, hu, Tryz.ntmps277, bodyPostS, results, Tryz.results277]

theorem idle20 (w : World) :
    CallsD Tryz.prog 277 #[] .returning w fun e u' w' => e = .returned (.tuple #[]) ∧ u' = .returning ∧ w' = w := by
  refine callsD_of_wpS Tryz.func277 rfl fun c₀ cs hu => ?_
  apply wpS_region
  simp [wpOpsS, go_sem, recoverD, hu, Tryz.ntmps277, bodyPostS, results, Tryz.results277]
  cases c₀
  simp_all

theorem get_impl_of (ao : Option Addr) (n cap : Nat) (x : Int) (r : Option (Int × Int)) (w : World)
    (h : Calls Tryz.prog 278 #[.slice ao n cap, .int .i64 x] w fun e w' => rend r e ∧ w' = w) :
    Calls Tryz.prog 272 #[.slice ao n cap, .int .i64 x] w fun e w' => e = .returned (gres r) ∧ w' = w := by
  have H : Hid (Calls Tryz.prog 278 #[.slice ao n cap, .int .i64 x] w fun e w' => rend r e ∧ w' = w) := h
  clear h
  rcases r with _ | ⟨y, z⟩
  · go_enter_defers Tryz.func272, Tryz.ntmps272
    go_wp2_with (go_at_call 278; refine H.out.mono ?_; rintro e w' ⟨⟨pv, rfl⟩, rfl⟩)
    refine leaves_cons (f := 277) (args := #[]) (by simp) (by simp [go_sem]) ?_
    refine (catch20 246 _ [] _).mono ?_
    rintro e u' w'' ⟨rfl, rfl, rfl⟩
    simp [Leaves, settle, results, Tryz.results272, go_sem, gres]
  · go_enter_defers Tryz.func272, Tryz.ntmps272
    go_wp2_with (go_at_call 278; refine H.out.mono ?_; rintro e w' ⟨he, rfl⟩; obtain rfl : e = .returned (.tuple #[.int .i64 y, .int .i64 z]) := he)
    refine leaves_cons (f := 277) (args := #[]) (by simp) (by simp [go_sem]) ?_
    refine (idle20 _).mono ?_
    rintro e u' w'' ⟨rfl, rfl, rfl⟩
    simp [Leaves, settle, results, Tryz.results272, go_sem, gres]
theorem num_bytes (x : Int) (w : World) (h0 : 0 ≤ x) (h1 : x ≤ 2147483647) :
    Calls Tryz.prog 264 #[.int .i64 x] w fun e w' => ∃ v, e = .returned v ∧ w'.ownsRow w.heap.size 5 1 v (pb 4 x).length ((pb 4 x).map (.int .u8)) ∧ Below w.heap.size w w' := by
  obtain ⟨i0, hi, hz0, hz1, hz2⟩ := info_parts Tryz.info5
  go_enter Tryz.func264, Tryz.ntmps264
  go_wp2
  go_loopw [0, 3] (fun xv v wr => ∃ (k : Nat) (y : Int) (L : List Int), k ≤ 4 ∧ Hid (L.length = k) ∧ 0 ≤ y ∧ y < lim k ∧ xv = .int .i64 y ∧ Hid (L ++ pb (4 - k) y = pb 4 x) ∧ wr.ownsRow w.heap.size 5 1 v k (L.map (.int .u8)) ∧ Below w.heap.size w wr) (fun xv _ _ => (intOf xv).toNat)
  case atStart => exact ⟨0, x, [], by omega, rfl, h0, by simp [lim]; omega, rfl, rfl, World.ownsRow_nil _ _ _ _, Below.refl _ _⟩
  case round =>
    obtain ⟨k, y, L, hk, hl, hy0, hy1, rfl, hp, hown, hbel⟩ := hrel
    have hlim := lim_le k
    by_cases hlt : 128 ≤ y
    · obtain ⟨hk4, hd0, hd1⟩ := lim_step k y hlt hy1
      go_wp2_with (first
        | (at_builtin; refine wpList_append_own _ rfl _ _ 26 rfl w.heap.size 5 i0 (.int .u8 0) 1 1 Tryz.underlying26 hi hz0 hz1 hz2 rfl (by decide) _ _ _ rfl (hown.alloc _) ⟨wr.heap.size, 0, none⟩ 1 1 [.int .u8 (y % 128 + 128)] rfl rfl (app_cell _ _ _) (app_one _ _) (app_len (by omega)) (by omega) (by have := hbel.size; simp; omega) ?_; intro v' w1 hown' hgrow hnn))
      · have R := put_step hk4 hl.out (by omega) hp.out hown' hbel hown hgrow
        clear hown' hgrow hown
        go_wp2
        go_roundw
        case rel => exact ⟨k + 1, y / 128, _, by omega, R.1, hd0, hd1, by go_num, R.2.1, R.2.2.1, R.2.2.2⟩
        case measure => simp [intOf]; omega
    · go_wp2_with (first
        | (at_builtin; refine wpList_append_own _ rfl _ _ 26 rfl w.heap.size 5 i0 (.int .u8 0) 1 1 Tryz.underlying26 hi hz0 hz1 hz2 rfl (by decide) _ _ _ rfl (hown.alloc _) ⟨wr.heap.size, 0, none⟩ 1 1 [.int .u8 y] rfl rfl (app_cell _ _ _) (app_one _ _) (app_len (by omega)) (by omega) (by have := hbel.size; simp; omega) ?_; intro v' w1 hown' hgrow hnn))
      · have R := put_end hl.out (by omega) hp.out hown' hbel hown hgrow
        clear hown' hgrow hown
        go_wp2
        go_ret
        exact ⟨_, rfl, R⟩

theorem idle17 (w : World) :
    CallsD Tryz.prog 263 #[] .returning w fun e u' w' => e = .returned (.tuple #[]) ∧ u' = .returning ∧ w' = w := by
  refine callsD_of_wpS Tryz.func263 rfl fun c₀ cs hu => ?_
  apply wpS_region
  simp [wpOpsS, go_sem, recoverD, hu, Tryz.ntmps263, bodyPostS, results, Tryz.results263]
  cases c₀
  simp_all

theorem put_impl (x : Int) (w : World) (h0 : 0 ≤ x) (h1 : x ≤ 2147483647) :
    Calls Tryz.prog 253 #[.int .i64 x] w fun e w' => ∃ v, e = .returned v ∧ w'.ownsRow w.heap.size 5 1 v (pb 4 x).length ((pb 4 x).map (.int .u8)) ∧ Below w.heap.size w w' := by
  go_enter_defers Tryz.func253, Tryz.ntmps253
  go_wp2_with (first
    | (go_at_call 265; refine (num_yes x _ ⟨h0, h1⟩).mono ?_; rintro e w' ⟨rfl, rfl⟩)
    | (go_at_call 264; refine (num_bytes x _ h0 h1).mono ?_; rintro e w1 ⟨v, rfl, ho, hb⟩))
  refine leaves_cons (f := 263) (args := #[]) (by simp) (by simp [go_sem]) ?_
  refine (idle17 _).mono ?_
  rintro e u' w'' ⟨rfl, rfl, rfl⟩
  simp [Leaves, settle, results, Tryz.results253, go_sem]
  exact ⟨by assumption, by assumption⟩
end Go.Proofs.YtkndnndildnbpaaGreatDoor

/- PutNum of the model, and numBytes of the program: the bytes of a number, in memory of the call's own. -/
import Derived.Test.YtjbhgedbkajmdaaBase2
import Derived.Test.YtjbhgedbkajmdaaNum
import Derived.Test.YtjbhgedbkajmdaaIn
namespace Go.Proofs.Ytjbhgedbkajmdaa
open Go.ChangeShapes Go.WideShapes Go.ChangeAt Go.RowKit
set_option linter.unusedVariables false
set_option linter.unusedSimpArgs false

/-- The bytes of a number. -/
def pb : Nat → Int → List Int
  | 0, x => [x]
  | fuel + 1, x => if x < 128 then [x] else (x % 128 + 128) :: pb fuel (x / 128)
/-- How great what is left may be behind k bytes. -/
def lim (k : Nat) : Int := if k = 0 then 2147483648 else if k = 1 then 16777216 else if k = 2 then 131072 else if k = 3 then 1024 else 8

theorem pb_last (fuel : Nat) (x : Int) (h : x < 128) : pb fuel x = [x] := by
  cases fuel with
  | zero => rfl
  | succ f => rw [pb, if_pos h]
theorem pb_more (fuel : Nat) (x : Int) (h : ¬ x < 128) : pb (fuel + 1) x = (x % 128 + 128) :: pb fuel (x / 128) := by rw [pb, if_neg h]
theorem pb_len (fuel : Nat) (x : Int) : (pb fuel x).length ≤ fuel + 1 := by
  induction fuel generalizing x with
  | zero => simp [pb]
  | succ f ih =>
    rw [pb]
    split
    · simp
    · have := ih (x / 128); simp; omega
theorem lim_step (k : Nat) (y : Int) (h : 128 ≤ y) (hy : y < lim k) : k < 4 ∧ 0 ≤ y / 128 ∧ y / 128 < lim (k + 1) := by
  unfold lim at *
  split at hy
  · subst_vars; simp; omega
  · split at hy
    · subst_vars; simp; omega
    · split at hy
      · subst_vars; simp; omega
      · split at hy
        · subst_vars; simp; omega
        · omega
theorem lim_le (k : Nat) : lim k ≤ 2147483648 := by unfold lim; repeat (split; omega); omega

theorem put_step {w wr w1 : World} {v v' : Value} {k : Nat} {y : Int} {L : List Int} {x : Int} (hk : k < 4) (hl : L.length = k) (hy : ¬ y < 128) (hp : L ++ pb (4 - k) y = pb 4 x)
    (h1 : w1.ownsRow w.heap.size 5 1 v' (k + 1) (L.map (.int .u8) ++ [.int .u8 (y % 128 + 128)])) (hb : Below w.heap.size w wr) (ho : wr.ownsRow w.heap.size 5 1 v k (L.map (.int .u8)))
    (hg : (wr.alloc (.cells #[.int .u8 (y % 128 + 128)] 5)).grownBy w1 v.ownBlock) :
    (L ++ [y % 128 + 128]).length = k + 1 ∧ (L ++ [y % 128 + 128]) ++ pb (4 - (k + 1)) (y / 128) = pb 4 x ∧ w1.ownsRow w.heap.size 5 1 v' (k + 1) ((L ++ [y % 128 + 128]).map (.int .u8)) ∧ Below w.heap.size w w1 := by
  refine ⟨by simp [hl], ?_, by simpa using h1, ?_⟩
  · rw [← hp, show 4 - k = (4 - (k + 1)) + 1 by omega, pb_more _ _ hy]; simp
  · refine (hb.alloc hb.size _).grown hg (by have := hb.size; simp; omega) ?_
    intro g hgv
    rcases ho.2 with ⟨rfl, _⟩ | ⟨g', cap, cur, rfl, hge, _⟩
    · simp [Value.ownBlock] at hgv
    · simp [Value.ownBlock] at hgv; omega

theorem put_end {w wr w1 : World} {v v' : Value} {k : Nat} {y : Int} {L : List Int} {x : Int} (hl : L.length = k) (hy : y < 128) (hp : L ++ pb (4 - k) y = pb 4 x)
    (h1 : w1.ownsRow w.heap.size 5 1 v' (k + 1) (L.map (.int .u8) ++ [.int .u8 y])) (hb : Below w.heap.size w wr) (ho : wr.ownsRow w.heap.size 5 1 v k (L.map (.int .u8)))
    (hg : (wr.alloc (.cells #[.int .u8 y] 5)).grownBy w1 v.ownBlock) :
    w1.ownsRow w.heap.size 5 1 v' (pb 4 x).length ((pb 4 x).map (.int .u8)) ∧ Below w.heap.size w w1 := by
  refine ⟨?_, ?_⟩
  · rw [← hp, pb_last _ _ hy]; simpa [hl] using h1
  · refine (hb.alloc hb.size _).grown hg (by have := hb.size; simp; omega) ?_
    intro g hgv
    rcases ho.2 with ⟨rfl, _⟩ | ⟨g', cap, cur, rfl, hge, _⟩
    · simp [Value.ownBlock] at hgv
    · simp [Value.ownBlock] at hgv; omega

theorem app_cell (wr : World) (u : Value) (t : TypeId) : ∀ j u', [u][j]? = some u' → (wr.alloc (.cells #[u] t)).cell? ((⟨wr.heap.size, 0, none⟩ : Addr).add j) = some u' := by
  intro j u' hj
  match j, hj with
  | 0, hj => simp at hj; subst hj; simp [Addr.add]
theorem app_one (k : IntKind) (x : Int) : ∀ u ∈ [Value.int k x], u.oneCell' = true := by
  intro u hu; simp at hu; subst hu; rfl
theorem app_len {k : Nat} (h : k ≤ 1048576) : k + 1 ≤ maxLen := by unfold maxLen; omega

theorem put_spec_no (x : Int) (w : World) (h : x < 0 ∨ 2147483647 < x) :
    Calls Try.prog 54 #[.int .i64 x] w fun e w' => e = .returned (.slice (some ⟨w.heap.size, 0, none⟩) 0 0) ∧ Below w.heap.size w w' := by
  go_enter Try.func54, Try.ntmps54
  go_wp2_with (go_at_call 63; refine (in_no _ _ _ _ h).mono ?_; rintro e w' ⟨rfl, rfl⟩)
  go_ret
  exact ⟨rfl, (Below.refl _ _).alloc (Nat.le_refl _) _⟩

set_option maxRecDepth 100000 in
theorem put_spec (x : Int) (w : World) (h0 : 0 ≤ x) (h1 : x ≤ 2147483647) :
    Calls Try.prog 54 #[.int .i64 x] w fun e w' => ∃ v, e = .returned v ∧ w'.ownsRow w.heap.size 5 1 v (pb 4 x).length ((pb 4 x).map (.int .u8)) ∧ Below w.heap.size w w' := by
  obtain ⟨i0, hi, hz0, hz1, hz2⟩ := info_parts Try.info5
  go_enter Try.func54, Try.ntmps54
  go_wp2_with (go_at_call 63; refine (in_yes _ _ _ _ h0 h1).mono ?_; rintro e w' ⟨rfl, rfl⟩)
  go_loopw [0, 3] (fun xv v wr => ∃ (k : Nat) (y : Int) (L : List Int), k ≤ 4 ∧ Hid (L.length = k) ∧ 0 ≤ y ∧ y < lim k ∧ xv = .int .i64 y ∧ Hid (L ++ pb (4 - k) y = pb 4 x) ∧ wr.ownsRow w.heap.size 5 1 v k (L.map (.int .u8)) ∧ Below w.heap.size w wr) (fun xv _ _ => (intOf xv).toNat)
  case atStart => exact ⟨0, x, [], by omega, rfl, h0, by simp [lim]; omega, rfl, rfl, ⟨rfl, .inr ⟨_, _, #[], rfl, Nat.le_refl _, Deep.blk_alloc_new _ _, by simp, by simp, by simp, by simp⟩⟩, (Below.refl _ _).alloc (Nat.le_refl _) _⟩
  case round =>
    obtain ⟨k, y, L, hk, hl, hy0, hy1, rfl, hp, hown, hbel⟩ := hrel
    have hlim := lim_le k
    by_cases hlt : 128 ≤ y
    · obtain ⟨hk4, hd0, hd1⟩ := lim_step k y hlt hy1
      go_wp2_with (first
        | (at_builtin; refine wpList_append_own _ rfl _ _ 22 rfl w.heap.size 5 i0 (.int .u8 0) 1 1 Try.underlying22 hi hz0 hz1 hz2 rfl (by decide) _ _ _ rfl (hown.alloc _) ⟨wr.heap.size, 0, none⟩ 1 1 [.int .u8 (y % 128 + 128)] rfl rfl (app_cell _ _ _) (app_one _ _) (app_len (by omega)) (by omega) (by have := hbel.size; simp; omega) ?_; intro v' w1 hown' hgrow hnn))
      · have R := put_step hk4 hl.out (by omega) hp.out hown' hbel hown hgrow
        clear hown' hgrow hown
        go_wp2
        go_roundw
        case rel => exact ⟨k + 1, y / 128, _, by omega, R.1, hd0, hd1, by go_num, R.2.1, R.2.2.1, R.2.2.2⟩
        case measure => simp [intOf]; omega
    · go_wp2_with (first
        | (at_builtin; refine wpList_append_own _ rfl _ _ 22 rfl w.heap.size 5 i0 (.int .u8 0) 1 1 Try.underlying22 hi hz0 hz1 hz2 rfl (by decide) _ _ _ rfl (hown.alloc _) ⟨wr.heap.size, 0, none⟩ 1 1 [.int .u8 y] rfl rfl (app_cell _ _ _) (app_one _ _) (app_len (by omega)) (by omega) (by have := hbel.size; simp; omega) ?_; intro v' w1 hown' hgrow hnn))
      · have R := put_end hl.out (by omega) hp.out hown' hbel hown hgrow
        clear hown' hgrow hown
        go_wp2
        go_ret
        exact ⟨_, rfl, R⟩
end Go.Proofs.Ytjbhgedbkajmdaa

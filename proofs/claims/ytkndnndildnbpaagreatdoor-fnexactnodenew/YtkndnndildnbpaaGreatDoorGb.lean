/- (Beside the bytes' own.) markIntS writes a running number into memory that was handed back, heldIntS finds it there. -/
import Derived.Test.YtkndnndildnbpaaGreatDoorGa
import Derived.WalkKit
import Derived.Laws.BitsAllLaws
import Derived.Deep.AppendLies
import Derived.Laws.StructEq
import Derived.Deep.RegionHeld3
import Derived.Deep.Slices
import Derived.ChangeArms

namespace Go.Proofs.YtkndnndildnbpaaGreatDoor
open Go.ChangeShapes Go.WideShapes Go.ChangeAt Go.RowKit
set_option linter.unusedVariables false
set_option linter.unusedSimpArgs false

theorem imark_step {wr : World} {B g n k : Nat} {k0 : Int} {t : TypeId} {F : Nat → Value} (h : Own wr B t (some ⟨g, 0, none⟩) n (fun j => if j < k then .int .i64 (k0 + j) else F j)) :
    Own (wr.setCell ⟨g, k, none⟩ (.int .i64 (k0 + k))) B t (some ⟨g, 0, none⟩) n (fun j => if j < k + 1 then .int .i64 (k0 + j) else F j) := by
  refine (h.set k _).congr fun j hj => ?_
  by_cases e : j = k
  · subst e; simp
  · simp only [if_neg e]
    by_cases e2 : j < k
    · rw [if_pos e2, if_pos (by omega)]
    · rw [if_neg e2, if_neg (by omega)]

theorem iheld_any (ao : Option Addr) (n cap : Nat) (k0 : Int) (w : World) (hn : n ≤ 1048576) (h0 : 0 ≤ k0) (h1 : k0 ≤ 1099511627776) (hs : SL .i64 w ao n (fun j => k0 + j)) :
    Calls Tryz.prog 69 #[.slice ao n cap, .int .i64 k0] w fun e w' => e = .returned (.int .i64 (k0 + n)) ∧ w' = w := by
  go_enter Tryz.func69, Tryz.ntmps69
  go_wp2
  go_loop [1, 5] (fun m i => ∃ k : Nat, k ≤ n ∧ i = .int .i64 k ∧ m = .int .i64 (k0 + k)) (fun _ i => n - (intOf i).toNat)
  case atStart => exact ⟨0, Nat.zero_le _, rfl, by simp⟩
  case round =>
    obtain ⟨k, hk, rfl, rfl⟩ := hrel
    by_cases hlt : k < n
    · obtain ⟨b, off, rfl, hb, hc⟩ := hs k hlt
      clear hs
      go_wp2
      go_round
      case rel => exact ⟨k + 1, by omega, by go_num, by go_num⟩
      case measure => simp [intOf]; omega
    · have hkn : k = n := by omega
      subst hkn
      go_wp2
      go_ret
      exact ⟨rfl, rfl⟩

end Go.Proofs.YtkndnndildnbpaaGreatDoor
namespace Go.Proofs.YtkndnndildnbpaaGreatDoor
open Go.RowKit

/-- What the first k bytes from a on tell. -/
def gacc (f : Nat → Int) (a : Nat) : Nat → Int
  | 0 => 0
  | k + 1 => gacc f a k + f (a + k) % 128 * 128 ^ k

/-- The number that begins at a, read from its byte k on, 'fuel' bytes at most. -/
def gr (n : Nat) (f : Nat → Int) (a : Nat) : Nat → Nat → Option (Int × Int)
  | 0, _ => none
  | fuel + 1, k =>
    if a + k < n then
      if f (a + k) < 128 then
        if (0 < k ∧ f (a + k) = 0) ∨ 2147483647 < gacc f a (k + 1) then none else some (gacc f a (k + 1), a + k + 1)
      else gr n f a fuel (k + 1)
    else none

theorem i64_or_nat (a b : Nat) (ha : a < 4611686018427387904) (hb : b < 4611686018427387904) : bits .or .i64 (a : Int) (b : Int) = ((a ||| b : Nat) : Int) := by
  have h : a ||| b < 2 ^ 62 := Nat.or_lt_two_pow (by omega) (by omega)
  have e : (BitVec.ofInt 64 (a : Int) ||| BitVec.ofInt 64 (b : Int)).toNat = a ||| b := by
    rw [BitVec.toNat_or, ofInt_u64 a (by omega), ofInt_u64 b (by omega)]
  show IntKind.i64.wrap (((BitVec.ofInt 64 (a : Int) ||| BitVec.ofInt 64 (b : Int)).toNat : Nat) : Int) = _
  rw [e]
  generalize a ||| b = c at h ⊢
  rw [IntKind.wrap_i64]
  omega

theorem or_mul (a b i m : Nat) (hm : m = 2 ^ i) (h : a < m) : a ||| (b * m) = b * m + a := by
  subst hm
  rw [Nat.or_comm, ← Nat.shiftLeft_eq, Nat.shiftLeft_add_eq_or_of_lt h]

theorem gacc_bd (f : Nat → Int) (a k : Nat) : 0 ≤ gacc f a k ∧ gacc f a k < 128 ^ k := by
  induction k with
  | zero => simp [gacc]
  | succ k ih =>
    have h1 : 0 ≤ f (a + k) % 128 := by omega
    have h2 : f (a + k) % 128 ≤ 127 := by omega
    have hp : (0 : Int) < 128 ^ k := Int.pow_pos (by decide)
    rw [gacc, Int.pow_succ]
    generalize f (a + k) % 128 = x at h1 h2 ⊢
    generalize (128 : Int) ^ k = P at ih hp ⊢
    have e1 : 0 ≤ x * P := Int.mul_nonneg h1 (Int.le_of_lt hp)
    have e2 : x * P ≤ 127 * P := Int.mul_le_mul_of_nonneg_right h2 (Int.le_of_lt hp)
    omega

theorem pow7 (k : Nat) : (2 : Int) ^ (7 * k) = 128 ^ k := by
  rw [Int.pow_mul]; rfl

theorem shl_step (f : Nat → Int) (a k : Nat) (hk : k < 5) : wrap64 (f (a + k) % 128 * 2 ^ (7 * k)) = f (a + k) % 128 * 128 ^ k := by
  rw [pow7]
  have h1 : 0 ≤ f (a + k) % 128 := by omega
  have h2 : f (a + k) % 128 ≤ 127 := by omega
  generalize f (a + k) % 128 = x at h1 h2 ⊢
  rcases (show k = 0 ∨ k = 1 ∨ k = 2 ∨ k = 3 ∨ k = 4 by omega) with rfl | rfl | rfl | rfl | rfl <;> (unfold wrap64; omega)

theorem shl_bd (f : Nat → Int) (a k : Nat) (hk : k < 5) : 0 ≤ f (a + k) % 128 * 128 ^ k ∧ f (a + k) % 128 * 128 ^ k < 34359738368 ∧ gacc f a k < 34359738368 := by
  have hb := gacc_bd f a k
  have h1 : 0 ≤ f (a + k) % 128 := by omega
  have h2 : f (a + k) % 128 ≤ 127 := by omega
  generalize f (a + k) % 128 = x at h1 h2 ⊢
  generalize gacc f a k = y at hb ⊢
  rcases (show k = 0 ∨ k = 1 ∨ k = 2 ∨ k = 3 ∨ k = 4 by omega) with rfl | rfl | rfl | rfl | rfl <;> omega

theorem or_step (f : Nat → Int) (a k : Nat) (hk : k < 5) : bits .or .i64 (gacc f a k) (wrap64 (f (a + k) % 128 * 2 ^ (7 * k))) = gacc f a (k + 1) := by
  rw [shl_step f a k hk]
  have hb := gacc_bd f a k
  simp only [gacc]
  have h1 : 0 ≤ f (a + k) % 128 := by omega
  have h2 : f (a + k) % 128 ≤ 127 := by omega
  generalize f (a + k) % 128 = x at h1 h2 ⊢
  generalize gacc f a k = y at hb ⊢
  obtain ⟨hb0, hb⟩ := hb
  obtain ⟨x, rfl⟩ := Int.eq_ofNat_of_zero_le h1
  obtain ⟨y, rfl⟩ := Int.eq_ofNat_of_zero_le hb0
  rcases (show k = 0 ∨ k = 1 ∨ k = 2 ∨ k = 3 ∨ k = 4 by omega) with rfl | rfl | rfl | rfl | rfl
  · rw [show ((x : Int) * 128 ^ 0) = ((x * 1 : Nat) : Int) by simp, i64_or_nat _ _ (by omega) (by omega), or_mul y x 0 1 rfl (by omega)]; omega
  · rw [show ((x : Int) * 128 ^ 1) = ((x * 128 : Nat) : Int) by omega, i64_or_nat _ _ (by omega) (by omega), or_mul y x 7 128 rfl (by omega)]; omega
  · rw [show ((x : Int) * 128 ^ 2) = ((x * 16384 : Nat) : Int) by omega, i64_or_nat _ _ (by omega) (by omega), or_mul y x 14 16384 rfl (by omega)]; omega
  · rw [show ((x : Int) * 128 ^ 3) = ((x * 2097152 : Nat) : Int) by omega, i64_or_nat _ _ (by omega) (by omega), or_mul y x 21 2097152 rfl (by omega)]; omega
  · rw [show ((x : Int) * 128 ^ 4) = ((x * 268435456 : Nat) : Int) by omega, i64_or_nat _ _ (by omega) (by omega), or_mul y x 28 268435456 rfl (by omega)]; omega

theorem gr_in {n a fuel k : Nat} {f : Nat → Int} (h : a + k < n) : gr n f a (fuel + 1) k =
    if f (a + k) < 128 then (if (0 < k ∧ f (a + k) = 0) ∨ 2147483647 < gacc f a (k + 1) then none else some (gacc f a (k + 1), (a : Int) + k + 1)) else gr n f a fuel (k + 1) := by
  rw [gr, if_pos h]
theorem gr_out {n a fuel k : Nat} {f : Nat → Int} (h : ¬ a + k < n) : gr n f a (fuel + 1) k = none := by
  rw [gr, if_neg h]
end Go.Proofs.YtkndnndildnbpaaGreatDoor
namespace Go.Proofs.YtkndnndildnbpaaGreatDoor
open Go.ChangeShapes Go.WideShapes Go.ChangeAt Go.RowKit
set_option linter.unusedVariables false
set_option linter.unusedSimpArgs false

/-- The bytes of a number. -/
def pb : Nat → Int → List Int
  | 0, x => [x]
  | fuel + 1, x => if x < 128 then [x] else (x % 128 + 128) :: pb fuel (x / 128)
/-- How great what is left may be behind k bytes. -/
def lim (k : Nat) : Int := if k = 0 then 2147483648 else if k = 1 then 16777216 else if k = 2 then 131072 else if k = 3 then 1024 else 8

theorem pb_last (fuel : Nat) (x : Int) (h : x < 128) : pb fuel x = [x] := by
  cases fuel with
  | zero => rfl
  | succ f => rw [pb, if_pos h]
theorem pb_more (fuel : Nat) (x : Int) (h : ¬ x < 128) : pb (fuel + 1) x = (x % 128 + 128) :: pb fuel (x / 128) := by rw [pb, if_neg h]
theorem pb_len (fuel : Nat) (x : Int) : (pb fuel x).length ≤ fuel + 1 := by
  induction fuel generalizing x with
  | zero => simp [pb]
  | succ f ih =>
    rw [pb]
    split
    · simp
    · have := ih (x / 128); simp; omega
theorem lim_step (k : Nat) (y : Int) (h : 128 ≤ y) (hy : y < lim k) : k < 4 ∧ 0 ≤ y / 128 ∧ y / 128 < lim (k + 1) := by
  unfold lim at *
  split at hy
  · subst_vars; simp; omega
  · split at hy
    · subst_vars; simp; omega
    · split at hy
      · subst_vars; simp; omega
      · split at hy
        · subst_vars; simp; omega
        · omega
theorem lim_le (k : Nat) : lim k ≤ 2147483648 := by unfold lim; repeat (split; omega); omega

theorem put_step {w wr w1 : World} {v v' : Value} {k : Nat} {y : Int} {L : List Int} {x : Int} (hk : k < 4) (hl : L.length = k) (hy : ¬ y < 128) (hp : L ++ pb (4 - k) y = pb 4 x)
    (h1 : w1.ownsRow w.heap.size 5 1 v' (k + 1) (L.map (.int .u8) ++ [.int .u8 (y % 128 + 128)])) (hb : Below w.heap.size w wr) (ho : wr.ownsRow w.heap.size 5 1 v k (L.map (.int .u8)))
    (hg : (wr.alloc (.cells #[.int .u8 (y % 128 + 128)] 5)).grownBy w1 v.ownBlock) :
    (L ++ [y % 128 + 128]).length = k + 1 ∧ (L ++ [y % 128 + 128]) ++ pb (4 - (k + 1)) (y / 128) = pb 4 x ∧ w1.ownsRow w.heap.size 5 1 v' (k + 1) ((L ++ [y % 128 + 128]).map (.int .u8)) ∧ Below w.heap.size w w1 := by
  refine ⟨by simp [hl], ?_, by simpa using h1, ?_⟩
  · rw [← hp, show 4 - k = (4 - (k + 1)) + 1 by omega, pb_more _ _ hy]; simp
  · refine (hb.alloc hb.size _).grown hg (by have := hb.size; simp; omega) ?_
    intro g hgv
    rcases ho.2 with ⟨rfl, _⟩ | ⟨g', cap, cur, rfl, hge, _⟩
    · simp [Value.ownBlock] at hgv
    · simp [Value.ownBlock] at hgv; omega

theorem put_end {w wr w1 : World} {v v' : Value} {k : Nat} {y : Int} {L : List Int} {x : Int} (hl : L.length = k) (hy : y < 128) (hp : L ++ pb (4 - k) y = pb 4 x)
    (h1 : w1.ownsRow w.heap.size 5 1 v' (k + 1) (L.map (.int .u8) ++ [.int .u8 y])) (hb : Below w.heap.size w wr) (ho : wr.ownsRow w.heap.size 5 1 v k (L.map (.int .u8)))
    (hg : (wr.alloc (.cells #[.int .u8 y] 5)).grownBy w1 v.ownBlock) :
    w1.ownsRow w.heap.size 5 1 v' (pb 4 x).length ((pb 4 x).map (.int .u8)) ∧ Below w.heap.size w w1 := by
  refine ⟨?_, ?_⟩
  · rw [← hp, pb_last _ _ hy]; simpa [hl] using h1
  · refine (hb.alloc hb.size _).grown hg (by have := hb.size; simp; omega) ?_
    intro g hgv
    rcases ho.2 with ⟨rfl, _⟩ | ⟨g', cap, cur, rfl, hge, _⟩
    · simp [Value.ownBlock] at hgv
    · simp [Value.ownBlock] at hgv; omega

theorem app_cell (wr : World) (u : Value) (t : TypeId) : ∀ j u', [u][j]? = some u' → (wr.alloc (.cells #[u] t)).cell? ((⟨wr.heap.size, 0, none⟩ : Addr).add j) = some u' := by
  intro j u' hj
  match j, hj with
  | 0, hj => simp at hj; subst hj; simp [Addr.add]
theorem app_one (k : IntKind) (x : Int) : ∀ u ∈ [Value.int k x], u.oneCell' = true := by
  intro u hu; simp at hu; subst hu; rfl
theorem app_len {k : Nat} (h : k ≤ 1048576) : k + 1 ≤ maxLen := by unfold maxLen; omega

set_option maxRecDepth 100000 in
theorem put_spec (x : Int) (w : World) (h0 : 0 ≤ x) (h1 : x ≤ 2147483647) :
    Calls Tryz.prog 234 #[.int .i64 x] w fun e w' => ∃ v, e = .returned v ∧ w'.ownsRow w.heap.size 5 1 v (pb 4 x).length ((pb 4 x).map (.int .u8)) ∧ Below w.heap.size w w' := by
  obtain ⟨i0, hi, hz0, hz1, hz2⟩ := info_parts Tryz.info5
  go_enter Tryz.func234, Tryz.ntmps234
  go_wp2_with (go_at_call 51; refine (in_yes _ _ _ _ h0 h1).mono ?_; rintro e w' ⟨rfl, rfl⟩)
  go_loopw [0, 3] (fun xv v wr => ∃ (k : Nat) (y : Int) (L : List Int), k ≤ 4 ∧ Hid (L.length = k) ∧ 0 ≤ y ∧ y < lim k ∧ xv = .int .i64 y ∧ Hid (L ++ pb (4 - k) y = pb 4 x) ∧ wr.ownsRow w.heap.size 5 1 v k (L.map (.int .u8)) ∧ Below w.heap.size w wr) (fun xv _ _ => (intOf xv).toNat)
  case atStart => exact ⟨0, x, [], by omega, rfl, h0, by simp [lim]; omega, rfl, rfl, ⟨rfl, .inr ⟨_, _, #[], rfl, Nat.le_refl _, Deep.blk_alloc_new _ _, by simp, by simp, by simp, by simp⟩⟩, (Below.refl _ _).alloc (Nat.le_refl _) _⟩
  case round =>
    obtain ⟨k, y, L, hk, hl, hy0, hy1, rfl, hp, hown, hbel⟩ := hrel
    have hlim := lim_le k
    by_cases hlt : 128 ≤ y
    · obtain ⟨hk4, hd0, hd1⟩ := lim_step k y hlt hy1
      go_wp2_with (first
        | (at_builtin; refine wpList_append_own _ rfl _ _ 26 rfl w.heap.size 5 i0 (.int .u8 0) 1 1 Tryz.underlying26 hi hz0 hz1 hz2 rfl (by decide) _ _ _ rfl (hown.alloc _) ⟨wr.heap.size, 0, none⟩ 1 1 [.int .u8 (y % 128 + 128)] rfl rfl (app_cell _ _ _) (app_one _ _) (app_len (by omega)) (by omega) (by have := hbel.size; simp; omega) ?_; intro v' w1 hown' hgrow hnn))
      · have R := put_step hk4 hl.out (by omega) hp.out hown' hbel hown hgrow
        clear hown' hgrow hown
        go_wp2
        go_roundw
        case rel => exact ⟨k + 1, y / 128, _, by omega, R.1, hd0, hd1, by go_num, R.2.1, R.2.2.1, R.2.2.2⟩
        case measure => simp [intOf]; omega
    · go_wp2_with (first
        | (at_builtin; refine wpList_append_own _ rfl _ _ 26 rfl w.heap.size 5 i0 (.int .u8 0) 1 1 Tryz.underlying26 hi hz0 hz1 hz2 rfl (by decide) _ _ _ rfl (hown.alloc _) ⟨wr.heap.size, 0, none⟩ 1 1 [.int .u8 y] rfl rfl (app_cell _ _ _) (app_one _ _) (app_len (by omega)) (by omega) (by have := hbel.size; simp; omega) ?_; intro v' w1 hown' hgrow hnn))
      · have R := put_end hl.out (by omega) hp.out hown' hbel hown hgrow
        clear hown' hgrow hown
        go_wp2
        go_ret
        exact ⟨_, rfl, R⟩
/-- Numbers as bytes, one behind the other. -/
def nums (l : List Int) : List Int := (l.map (pb 4)).flatten
theorem nums_nil : nums [] = [] := rfl
theorem nums_cons (x : Int) (l : List Int) : nums (x :: l) = pb 4 x ++ nums l := by simp [nums]
theorem nums_app (l m : List Int) : nums (l ++ m) = nums l ++ nums m := by simp [nums]
theorem nums_one (x : Int) : nums [x] = pb 4 x := by simp [nums]
theorem nums_len (l : List Int) : (nums l).length ≤ 5 * l.length := by
  induction l with
  | nil => simp [nums]
  | cons x l ih =>
    have := pb_len 4 x
    rw [nums_cons, List.length_append, List.length_cons]
    omega

theorem mpb_pos (fuel : Nat) (x : Int) : 0 < (pb fuel x).length := by
  cases fuel with
  | zero => simp [pb]
  | succ f => rw [pb]; split <;> simp
theorem mpb_255 (fuel : Nat) (x : Int) (k : Nat) (hk : k + fuel = 4) (h0 : 0 ≤ x) (h1 : x < lim k) : ∀ z ∈ pb fuel x, 0 ≤ z ∧ z ≤ 255 := by
  induction fuel generalizing x k with
  | zero =>
    intro z hz
    simp [pb] at hz
    subst hz
    have : k = 4 := by omega
    subst this
    simp [lim] at h1
    omega
  | succ f ih =>
    intro z hz
    rw [pb] at hz
    split at hz
    · simp at hz; omega
    · next h =>
      obtain ⟨_, g0, g1⟩ := lim_step k x (by omega) h1
      rcases List.mem_cons.1 hz with rfl | hz
      · omega
      · exact ih (x / 128) (k + 1) (by omega) g0 g1 z hz
theorem pb_byte (x : Int) (h0 : 0 ≤ x) (h1 : x ≤ 2147483647) : ∀ z ∈ pb 4 x, 0 ≤ z ∧ z ≤ 255 := mpb_255 4 x 0 rfl h0 (by simp [lim]; omega)
theorem nums_byte (l : List Int) (h : ∀ x ∈ l, 0 ≤ x ∧ x ≤ 2147483647) : ∀ z ∈ nums l, 0 ≤ z ∧ z ≤ 255 := by
  intro z hz
  simp only [nums, List.mem_flatten, List.mem_map] at hz
  obtain ⟨_, ⟨x, hx, rfl⟩, hz⟩ := hz
  exact pb_byte x (h x hx).1 (h x hx).2 z hz

theorem gbelow {B n s : Nat} {w w' : World} {e : TypeId} {v : Value} {xs : List Value} (h : w.ownsRow B e s v n xs) (hb : Below w.heap.size w w') : w'.ownsRow B e s v n xs := by
  refine ⟨h.1, ?_⟩
  rcases h.2 with h | ⟨g, cap, cur, e1, hge, hc, r⟩
  · exact .inl h
  · exact .inr ⟨g, cap, cur, e1, hge, (hb.block g (Array.getElem?_eq_some_iff.1 hc).1).trans hc, r⟩
theorem msrc {w : World} {B : Nat} {v : Value} {L : List Int} {k : IntKind} {t : TypeId} (h : w.ownsRow B t 1 v L.length (L.map (.int k))) (hne : 0 < L.length) :
    ∃ g cap, v = .slice (some ⟨g, 0, none⟩) L.length cap ∧ g < w.heap.size ∧ B ≤ g ∧ ∀ j u, (L.map (Value.int k))[j]? = some u → w.cell? ((⟨g, 0, none⟩ : Addr).add j) = some u := by
  rcases h.2 with ⟨_, h0⟩ | ⟨g, cap, cur, e, hge, hc, _⟩
  · omega
  · exact ⟨g, cap, e, (Array.getElem?_eq_some_iff.1 hc).1, hge, h.cells (by rw [e]; rfl)⟩

/-- Bytes that are built beside a list of numbers at block q, and a message at block p. -/
def Bo (w0 w : World) (p q : Nat) (v : Value) (L : List Int) : Prop :=
  w.ownsRow w0.heap.size 5 1 v L.length (L.map (.int .u8)) ∧ v.ownBlock ≠ some p ∧ v.ownBlock ≠ some q ∧ p < w.heap.size ∧ q < w.heap.size ∧ Below w0.heap.size w0 w

theorem Bo.step {w0 w w' : World} {p q : Nat} {v : Value} {L : List Int} (h : Bo w0 w p q v L) (hb : Below w.heap.size w w') : Bo w0 w' p q v L :=
  ⟨gbelow h.1 hb, h.2.1, h.2.2.1, Nat.lt_of_lt_of_le h.2.2.2.1 hb.size, Nat.lt_of_lt_of_le h.2.2.2.2.1 hb.size, h.2.2.2.2.2.trans (hb.mono h.2.2.2.2.2.size)⟩
theorem Bo.app {w0 w w' : World} {p q g cap : Nat} {v : Value} {L M : List Int} (h : Bo w0 w p q v L)
    (h1 : w'.ownsRow w0.heap.size 5 1 (.slice (some ⟨g, 0, none⟩) (L.length + M.length) cap) (L.length + M.length) (L.map (.int .u8) ++ M.map (.int .u8))) (hg : w.grownBy w' v.ownBlock) (hat : v.ownBlock = some g ∨ g = w.heap.size) :
    Bo w0 w' p q (.slice (some ⟨g, 0, none⟩) (L.length + M.length) cap) (L ++ M) := by
  obtain ⟨ho, hp, hq, lp, lq, hb⟩ := h
  refine ⟨by simpa using h1, ?_, ?_, Nat.lt_of_lt_of_le lp hg.size, Nat.lt_of_lt_of_le lq hg.size, ggrown hb hb.size ho hg⟩
  · rcases hat with e | e
    · intro c; exact hp (e.trans (by simpa [Value.ownBlock] using c))
    · intro c; simp [Value.ownBlock] at c; omega
  · rcases hat with e | e
    · intro c; exact hq (e.trans (by simpa [Value.ownBlock] using c))
    · intro c; simp [Value.ownBlock] at c; omega
theorem blk_cell {w : World} {g i : Nat} {cs : Array Value} {t : TypeId} {fr : Nat × Nat} {v : Value} (h : w.heap[g]? = some (.cells cs t fr)) (hv : cs[i]? = some v) : w.cell? ⟨g, i, none⟩ = some v := by
  simp [World.cell?, h, hv]
theorem row_set {w : World} {g n : Nat} {t : TypeId} {F : Nat → Value} (h : w.rowIs g t n F) (p : Addr) (hp : p.block ≠ g) (v : Value) : (w.setCell p v).rowIs g t n F :=
  h.of_block (by simp only [World.setCell, Array.getElem?_modify]; rw [if_neg hp])

/-- Of what was there block g alone was written. -/
def OnlyG (g : Nat) (w w' : World) : Prop := Below g w w' ∧ ∀ j, j < w.heap.size → j ≠ g → w'.heap[j]? = w.heap[j]?
theorem OnlyG.own {g n B : Nat} {w w' : World} {t : TypeId} {ao : Option Addr} {F : Nat → Value} (h : OnlyG g w w') (r : Own w B t ao n F) (hB : g < B) : Own w' B t ao n F := by
  rcases r with r | ⟨g', ea, hB', c, hc, hs, hF⟩
  · exact .inl r
  · exact .inr ⟨g', ea, hB', c, (h.2 g' (Array.getElem?_eq_some_iff.1 hc).1 (by omega)).trans hc, hs, hF⟩
/-- Block g holds a message. -/
def MB (w : World) (g : Nat) (t : TypeId) (k c v d : Int) (ao : Option Addr) (n cap : Nat) : Prop :=
  w.heap[g]? = some (.cells #[.int .i64 k, .int .i64 c, .int .i64 v, .int .i64 d, .slice ao n cap] t (0, 0))
theorem MB.lt {w : World} {g : Nat} {t : TypeId} {k c v d : Int} {ao : Option Addr} {n cap : Nat} (h : MB w g t k c v d ao n cap) : g < w.heap.size := (Array.getElem?_eq_some_iff.1 h).1
theorem MB.new (w : World) (t : TypeId) (k c v d : Int) (ao : Option Addr) (n cap : Nat) : MB (w.alloc (.cells #[.int .i64 k, .int .i64 c, .int .i64 v, .int .i64 d, .slice ao n cap] t)) w.heap.size t k c v d ao n cap := Deep.blk_alloc_new _ _
theorem MB.below {w w' : World} {g B : Nat} {t : TypeId} {k c v d : Int} {ao : Option Addr} {n cap : Nat} (h : MB w g t k c v d ao n cap) (hb : Below B w w') (hg : g < B) : MB w' g t k c v d ao n cap := (hb.block g hg).trans h
theorem MB.cells {w : World} {g : Nat} {t : TypeId} {k c v d : Int} {ao : Option Addr} {n cap : Nat} (h : MB w g t k c v d ao n cap) :
    w.cell? ⟨g, 0, none⟩ = some (.int .i64 k) ∧ w.cell? ⟨g, 1, none⟩ = some (.int .i64 c) ∧ w.cell? ⟨g, 2, none⟩ = some (.int .i64 v) ∧ w.cell? ⟨g, 3, none⟩ = some (.int .i64 d) ∧ w.cell? ⟨g, 4, none⟩ = some (.slice ao n cap) :=
  ⟨blk_cell h rfl, blk_cell h rfl, blk_cell h rfl, blk_cell h rfl, blk_cell h rfl⟩
theorem sindex_any (ao : Option Addr) (n cap : Nat) (f : Nat → Int) (x : Int) (w : World) (hn : n ≤ 1048576) (hs : SL .i64 w ao n f) :
    Calls Tryz.prog 193 #[.slice ao n cap, .int .i64 x] w fun e w' => ((∃ i : Nat, i < n ∧ f i = x ∧ e = .returned (.int .i64 i)) ∨ ((∀ i, i < n → f i ≠ x) ∧ e = .returned (.int .i64 (-1)))) ∧ w' = w := by
  have HS := hide hs
  clear hs
  go_enter Tryz.func193, Tryz.ntmps193
  go_wp2
  go_loop [5, 8] (fun _ i => ∃ k : Nat, k ≤ n ∧ i = .int .i64 k ∧ Hid (∀ j, j < k → f j ≠ x)) (fun _ i => n - (intOf i).toNat)
  case atStart => exact ⟨0, by omega, rfl, fun j hj => absurd hj (by omega)⟩
  case round =>
    obtain ⟨k, hk, rfl, A⟩ := hrel
    by_cases hlt : k < n
    · obtain ⟨b, off, rfl, hb, hc⟩ := HS.out k hlt
      generalize hy : f k = y at *
      have B := hide hy
      clear hy
      by_cases he : x = y
      · subst he
        go_wp2
        go_ret
        exact ⟨.inl ⟨k, hlt, B.out, rfl⟩, rfl⟩
      · have hd : decide (x = y) = false := by simpa using he
        go_wp2
        go_round
        case rel =>
          refine ⟨k + 1, by omega, by go_num, fun j hj => ?_⟩
          by_cases e : j = k
          · subst e; rw [B.out]; exact fun e => he e.symm
          · exact A.out j (by omega)
        case measure => simp [intOf]; omega
    · obtain rfl : k = n := by omega
      go_wp2
      go_ret
      exact ⟨.inr ⟨A.out, rfl⟩, rfl⟩
theorem scontains_yes (ao : Option Addr) (n cap : Nat) (f : Nat → Int) (x : Int) (w : World) (hn : n ≤ 1048576) (hs : SL .i64 w ao n f) (h : ∃ i, i < n ∧ f i = x) :
    Calls Tryz.prog 125 #[.slice ao n cap, .int .i64 x] w fun e w' => e = .returned (.bool true) ∧ w' = w := by
  have hc := hide (sindex_any ao n cap f x w hn hs)
  have H := hide h
  clear hs h
  go_enter Tryz.func125, Tryz.ntmps125
  go_wp2_with fail
  refine hc.out.mono ?_
  rintro e w' ⟨h, hw⟩
  rw [hw]
  clear hw hc
  rcases h with ⟨i, hi, _, rfl⟩ | ⟨h, _⟩
  · go_wp2
    go_ret
    exact ⟨by simp, rfl⟩
  · obtain ⟨i, hi, e⟩ := H.out
    exact absurd e (h i hi)
theorem scontains_no (ao : Option Addr) (n cap : Nat) (f : Nat → Int) (x : Int) (w : World) (hn : n ≤ 1048576) (hs : SL .i64 w ao n f) (h : ∀ i, i < n → f i ≠ x) :
    Calls Tryz.prog 125 #[.slice ao n cap, .int .i64 x] w fun e w' => e = .returned (.bool false) ∧ w' = w := by
  have hc := hide (sindex_any ao n cap f x w hn hs)
  have H := hide h
  clear hs h
  go_enter Tryz.func125, Tryz.ntmps125
  go_wp2_with fail
  refine hc.out.mono ?_
  rintro e w' ⟨h, hw⟩
  rw [hw]
  clear hw hc
  rcases h with ⟨i, hi, e, rfl⟩ | ⟨_, rfl⟩
  · exact absurd e (H.out i hi)
  · go_wp2
    go_ret
    exact ⟨rfl, rfl⟩
/-- Two lists of numbers that are the same. -/
def SameI (f g : Nat → Int) (n m : Nat) : Prop := n = m ∧ ∀ i, i < n → f i = g i
theorem sequal_any (ao bo : Option Addr) (n m ca cb : Nat) (f g : Nat → Int) (w : World) (hn : n ≤ 1048576) (hA : SL .i64 w ao n f) (hB : SL .i64 w bo m g) :
    Calls Tryz.prog 226 #[.slice ao n ca, .slice bo m cb] w fun e w' => ((SameI f g n m ∧ e = .returned (.bool true)) ∨ (¬ SameI f g n m ∧ e = .returned (.bool false))) ∧ ∃ q, w' = w.drewN q := by
  have HA := hide hA
  have HB := hide hB
  clear hA hB
  by_cases hnm : n = m
  · subst hnm
    go_enter Tryz.func226, Tryz.ntmps226
    go_wp2
    go_loopw [5, 13] (fun _ i wr => ∃ k : Nat, k ≤ n ∧ i = .int .i64 k ∧ Hid (∀ j, j < k → f j = g j) ∧ ∃ q, wr = w.drewN q) (fun _ i _ => n - (intOf i).toNat)
    case atStart => exact ⟨0, by omega, rfl, fun j hj => absurd hj (by omega), 0, rfl⟩
    case round =>
      obtain ⟨k, hk, rfl, A, q, rfl⟩ := hrel
      by_cases hlt : k < n
      · obtain ⟨b, off, rfl, hb, hc⟩ := HA.out k hlt
        obtain ⟨b', off', rfl, hb', hc'⟩ := HB.out k hlt
        generalize hy : f k = y at *
        generalize hz : g k = z at *
        have B := hide hy
        have C := hide hz
        clear hy hz
        by_cases he : y = z
        · subst he
          go_wp2
          go_quiet (fail)
          go_wp2
          go_roundw
          case rel =>
            refine ⟨k + 1, by omega, by go_num, fun j hj => ?_, _, rfl⟩
            by_cases e : j = k
            · subst e; rw [B.out, C.out]
            · exact A.out j (by omega)
          case measure => simp [intOf]; omega
        · have hd : decide (y = z) = false := by simpa using he
          have hno : Hid (¬ SameI f g n n) := fun h => he (by rw [← B.out, ← C.out]; exact h.2 k hlt)
          go_wp2
          go_quiet (fail)
          go_wp2
          go_ret
          exact ⟨.inr ⟨hno.out, rfl⟩, _, World.drewN_drewN ..⟩
      · obtain rfl : k = n := by omega
        go_wp2
        go_ret
        exact ⟨.inl ⟨⟨rfl, A.out⟩, rfl⟩, q, rfl⟩
  · have hd : ((n : Int) == (m : Int)) = false := by simp; omega
    have hd2 : decide ((n : Int) = (m : Int)) = false := by simp; omega
    have hd3 : ¬ (n : Int) = (m : Int) := by omega
    go_enter Tryz.func226, Tryz.ntmps226
    go_wp2
    go_ret
    exact ⟨.inr ⟨fun h => hnm h.1, rfl⟩, 0, rfl⟩
theorem gensok_impl (ao : Option Addr) (n cap : Nat) (f : Nat → Int) (w : World) (hn : n ≤ 1048576) (hcap : n ≤ cap) (hs : SL .i64 w ao n f) :
    Calls Tryz.prog 201 #[.slice ao n cap] w fun e w' => ((GOk f n ∧ e = .returned (.bool true)) ∨ (¬ GOk f n ∧ e = .returned (.bool false))) ∧ ∃ q, w' = w.drewN q := by
  have HS := hide hs
  clear hs
  by_cases h12 : n ≤ 12
  · have hd : (n : Int) ≤ 12 := by omega
    go_enter Tryz.func201, Tryz.ntmps201
    go_wp2
    go_loopw [3, 4, 10] (fun _ _ i wr => ∃ k : Nat, k ≤ n ∧ i = .int .i64 k ∧ Hid (GIn f k) ∧ ∃ q, wr = w.drewN q) (fun _ _ i _ => n - (intOf i).toNat)
    case atStart => exact ⟨0, by omega, rfl, fun j hj => absurd hj (by omega), 0, rfl⟩
    case round =>
      obtain ⟨k, hk, rfl, A, q, rfl⟩ := hrel
      by_cases hlt : k < n
      · obtain ⟨b, off, rfl, hb, hc⟩ := HS.out k hlt
        have hpre : Hid (∀ q, SL .i64 (w.drewN q) (some ⟨b, off, none⟩) k f) := fun q i hi => HS.out i (by omega)
        generalize hy : f k = y at *
        have B := hide hy
        clear hy
        have hk0 : (0 : Int) ≤ (k : Int) := by omega
        have hkn : (k : Int) ≤ (n : Int) := by omega
        have hkc : (k : Int) ≤ (cap : Int) := by omega
        by_cases h1 : y < 1 ∨ 100000 < y
        · have hbad : Hid (¬ GOk f n) := fun h => by have := (h.2 k hlt).1; rw [B.out] at this; omega
          have hdec : decide (y < 1 ∨ 100000 < y) = true := by simpa using h1
          go_wp2_with (first
            | (go_at_call 124; refine (nogen_any _ _).mono ?_; rintro e9 w9 ⟨rfl, hw9⟩; rw [hw9, hdec]; clear hw9)
            | fail)
          go_ret
          exact ⟨.inr ⟨hbad.out, rfl⟩, _, rfl⟩
        · have hdec : decide (y < 1 ∨ 100000 < y) = false := by simpa using h1
          by_cases h2 : ∃ j, j < k ∧ f j = y
          · have hbad : Hid (¬ GOk f n) := fun h => by obtain ⟨j, hj, e⟩ := h2; exact (h.2 k hlt).2 j hj (e.trans B.out.symm)
            have H2 := hide h2
            clear h2
            go_wp2_with (first
              | (go_at_call 124; refine (nogen_any _ _).mono ?_; rintro e9 w9 ⟨rfl, hw9⟩; rw [hw9, hdec]; clear hw9)
              | (go_at_call 125; refine (scontains_yes _ _ _ f _ _ (by omega) (hpre.out _) H2.out).mono ?_; rintro e9 w9 ⟨rfl, hw9⟩; rw [hw9]; clear hw9)
              | fail)
            go_ret
            exact ⟨.inr ⟨hbad.out, rfl⟩, _, rfl⟩
          · have H2 : Hid (∀ j, j < k → f j ≠ y) := fun j hj e => h2 ⟨j, hj, e⟩
            have H1 := hide h1
            clear h2 h1
            go_wp2_with (first
              | (go_at_call 124; refine (nogen_any _ _).mono ?_; rintro e9 w9 ⟨rfl, hw9⟩; rw [hw9, hdec]; clear hw9)
              | (go_at_call 125; refine (scontains_no _ _ _ f _ _ (by omega) (hpre.out _) H2.out).mono ?_; rintro e9 w9 ⟨rfl, hw9⟩; rw [hw9]; clear hw9)
              | fail)
            go_roundw
            case rel =>
              refine ⟨k + 1, by omega, by go_num, fun i hi => ?_, _, rfl⟩
              by_cases e : i = k
              · subst e; exact ⟨by rw [B.out]; have := H1.out; omega, fun j hj => by rw [B.out]; exact H2.out j hj⟩
              · exact A.out i (by omega)
            case measure => simp [intOf]; omega
      · obtain rfl : k = n := by omega
        go_wp2
        go_ret
        exact ⟨.inl ⟨⟨h12, A.out⟩, rfl⟩, q, rfl⟩
  · have hd : ¬ (n : Int) ≤ 12 := by omega
    go_enter Tryz.func201, Tryz.ntmps201
    go_wp2
    go_ret
    exact ⟨.inr ⟨fun h => h12 h.1, rfl⟩, 0, rfl⟩
theorem mblk {w : World} {g i : Nat} {cs : Array Value} {t : TypeId} {fr : Nat × Nat} {v : Value} (h : w.heap[g]? = some (.cells cs t fr)) (hv : cs[i]? = some v) : w.cell? ⟨g, i, none⟩ = some v := by
  simp [World.cell?, h, hv]
/-- The first n of a slice of slices of numbers. -/
def BV (w : World) (bo : Option Addr) (n : Nat) (L : Nat → List Int) : Prop :=
  ∀ i, i < n → ∃ b off ro rc, bo = some ⟨b, off, none⟩ ∧ w.cell? ⟨b, off + i, none⟩ = some (.slice ro (L i).length rc) ∧ (L i).length ≤ rc ∧ SL .i64 w ro (L i).length (fun j => (L i).getD j 0)
theorem BV.below {w w' : World} {bo : Option Addr} {n : Nat} {L : Nat → List Int} (h : BV w bo n L) (hb : Below w.heap.size w w') : BV w' bo n L := fun i hi => by
  obtain ⟨b, off, ro, rc, e, hc, hr, hs⟩ := h i hi
  exact ⟨b, off, ro, rc, e, (hb.cell (lt_of_cell hc)).trans hc, hr, hs.below hb⟩
/-- Generations and marks. -/
def MV (w : World) (go : Option Addr) (gc : Nat) (bo : Option Addr) (bc : Nat) (g : List Int) (n : Nat) (L : Nat → List Int) : Prop :=
  (g.length ≤ gc ∧ n ≤ bc) ∧ SL .i64 w go g.length (fun i => g.getD i 0) ∧ BV w bo n L
theorem MV.below {w w' : World} {go bo : Option Addr} {gc bc n : Nat} {g : List Int} {L : Nat → List Int} (h : MV w go gc bo bc g n L) (hb : Below w.heap.size w w') : MV w' go gc bo bc g n L :=
  ⟨h.1, h.2.1.below hb, h.2.2.below hb⟩
/-- Nothing of it is too long. -/
def Bd (g : List Int) (n : Nat) (L : Nat → List Int) : Prop := g.length ≤ 1048576 ∧ n ≤ 1048576 ∧ ∀ i, i < n → (L i).length ≤ 1048576
/-- What is one. -/
def MtOk (g : List Int) (n : Nat) (L : Nat → List Int) (ol he : Bool) (la : Int) : Prop :=
  (GOk (fun i => g.getD i 0) g.length ∧ 0 < g.length) ∧ (n = 3 ∧ ∀ i, i < n → KOk (L i)) ∧ (0 ≤ la ∧ la ≤ 200) ∧ ¬ (ol = true ∧ he = true)
theorem list6 {l : List Value} (h : l.length = 6) : ∃ a b c d e f, l = [a, b, c, d, e, f] := by
  match l, h with
  | [a, b, c, d, e, f], _ => exact ⟨a, b, c, d, e, f, rfl⟩

/-- A slice of numbers that came in. -/
theorem open_row {H : Type} {enc : TypeId × Value → H} {w : World} {base : Nat} {sp : Nat → Bool} {held : Bool} {fuel : Nat} {cs : List Value} {x : DataW H × List MemPlace}
    (h : DataW.trod enc Tryz.prog w base sp held fuel 22 cs = some x) :
    ∃ (ao : Option Addr) (cap : Nat) (l : List Int), cs = [.slice ao l.length cap] ∧ l.length ≤ cap ∧ l.length ≤ 9223372036854775807 ∧ SL .i64 w ao l.length (fun i => l.getD i 0) := by
  have c3 : Tryz.prog.cellsOf 3 = 1 := by kernel_rfl
  rcases open_ints Tryz.underlying22 Tryz.underlying3 c3 h with ⟨hcs, _⟩ | ⟨a, l, cp, zs, hcs, _, hl', hm, hz, _, hcell, _⟩
  · cases hcs
    exact ⟨none, 0, [], rfl, Nat.le_refl _, by simp, fun i hi => absurd hi (Nat.not_lt_zero _)⟩
  · cases hcs
    have hlz : l ≤ zs.length := by rw [hz]; split <;> omega
    have hlen : (zs.take l).length = l := by simp; omega
    refine ⟨some a, cp, zs.take l, by rw [hlen], by rw [hlen]; exact hl', by rw [hlen]; unfold maxLen at hm; omega, fun i hi => ?_⟩
    rw [hlen] at hi
    have hc := hcell i (by omega)
    have h0 := hcell 0 (by omega)
    obtain ⟨b, off, spot⟩ := a
    have hspot : spot = none := by simpa [Addr.add] using World.cell?_spot h0
    subst hspot
    rw [Addr.add_lit] at hc
    refine ⟨b, off, rfl, lt_of_cell hc, ?_⟩
    rw [hc]
    simp only [List.getD, List.getElem?_take, if_pos hi]

theorem open_rows {H : Type} {enc : TypeId × Value → H} {w : World} {base : Nat} {sp : Nat → Bool} {held : Bool} {fuel : Nat} {cs : List Value} {x : DataW H × List MemPlace}
    (h : DataW.trod enc Tryz.prog w base sp held fuel 23 cs = some x) :
    ∃ (bo : Option Addr) (n bc : Nat) (L : Nat → List Int), cs = [.slice bo n bc] ∧ n ≤ bc ∧ n ≤ 9223372036854775807 ∧ BV w bo n L ∧ ∀ i, i < n → (L i).length ≤ 9223372036854775807 := by
  have h1 : Tryz.prog.cellsOf 22 = 1 := by kernel_rfl
  rcases Deep.open_slice Tryz.underlying23 h with ⟨rfl, _⟩ | ⟨a, len, cap, m, n, D, Pl, rfl, _, hl, hm, hmm, _, hel⟩
  · exact ⟨none, 0, 0, fun _ => [], rfl, Nat.le_refl _, by omega, fun i hi => absurd hi (Nat.not_lt_zero _), fun i hi => absurd hi (Nat.not_lt_zero _)⟩
  · have hml : len ≤ m := by rw [hmm]; split <;> omega
    rw [h1] at hel
    have hone : ∀ i, i < len → ∃ l : List Int, (∃ b off ro rc, (some a : Option Addr) = some ⟨b, off, none⟩ ∧ w.cell? ⟨b, off + i, none⟩ = some (.slice ro l.length rc) ∧ l.length ≤ rc ∧ SL .i64 w ro l.length (fun j => l.getD j 0)) ∧ l.length ≤ 9223372036854775807 := fun i hi => by
      obtain ⟨cs', hc, ht⟩ := hel i (by omega)
      obtain ⟨ro, rc, l, hcs, hlr, hmx, hs⟩ := open_row ht
      subst hcs
      have g0 := (World.cells?_some hc).2.2 0 (by omega)
      obtain ⟨cs0, hc0, _⟩ := hel 0 (by omega)
      have hz := (World.cells?_some hc0).2.2 0 (by omega)
      have hl0 := (World.cells?_some hc0).2.1
      obtain ⟨x0, hx0⟩ : ∃ x0, cs0[0]? = some x0 := ⟨cs0[0]'(by omega), List.getElem?_eq_getElem (by omega)⟩
      rw [hx0] at hz
      obtain ⟨b, off, spot⟩ := a
      have hspot : spot = none := by simpa [Addr.add] using World.cell?_spot hz
      subst hspot
      simp only [Addr.add_lit] at g0
      exact ⟨l, ⟨b, off, ro, rc, rfl, by simpa using g0, hlr, hs⟩, hmx⟩
    obtain ⟨L, hLL⟩ := Deep.choose_lt hone
    exact ⟨some a, len, cap, L, rfl, hl, by unfold maxLen at hm; omega, fun i hi => (hLL i hi).1, fun i hi => (hLL i hi).2⟩

theorem open_known {H : Type} {enc : TypeId × Value → H} {w : World} {base : Nat} {sp : Nat → Bool} {held : Bool} {fuel : Nat} {cs : List Value} {x : DataW H × List MemPlace}
    (h : DataW.trod enc Tryz.prog w base sp held fuel 36 cs = some x) :
    ∃ (go bo : Option Addr) (gc bc : Nat) (g : List Int) (n : Nat) (L : Nat → List Int) (fi ol he : Bool) (la : Int), cs = [.slice go g.length gc, .slice bo n bc, .bool fi, .bool ol, .bool he, .int .i64 la] ∧ MV w go gc bo bc g n L ∧
      g.length ≤ 9223372036854775807 ∧ n ≤ 9223372036854775807 ∧ ∀ i, i < n → (L i).length ≤ 9223372036854775807 := by
  obtain ⟨xs, m, _, _, hl, hxl, hf⟩ := DataW.trod_struct Tryz.underlying36 h
  have h6 : Tryz.prog.cellsOf 36 = 6 := by kernel_rfl
  have c3 : Tryz.prog.cellsOf 3 = 1 := by kernel_rfl
  have c4 : Tryz.prog.cellsOf 4 = 1 := by kernel_rfl
  have c24 : Tryz.prog.cellsOf 22 = 1 := by kernel_rfl
  have c25 : Tryz.prog.cellsOf 23 = 1 := by kernel_rfl
  obtain ⟨v0, v1, v2, v3, v4, v5, rfl⟩ := list6 (hl.trans h6)
  have g0 : DataW.trod enc Tryz.prog w base sp held m 22 (([v0, v1, v2, v3, v4, v5].drop 0).take (Tryz.prog.cellsOf 22)) = xs[0]? := hf 0 _ rfl
  rw [c24] at g0
  change DataW.trod enc Tryz.prog w base sp held m 22 [v0] = xs[0]? at g0
  have g1 : DataW.trod enc Tryz.prog w base sp held m 23 (([v0, v1, v2, v3, v4, v5].drop 1).take (Tryz.prog.cellsOf 23)) = xs[1]? := hf 1 _ rfl
  rw [c25] at g1
  change DataW.trod enc Tryz.prog w base sp held m 23 [v1] = xs[1]? at g1
  have g2 : DataW.trod enc Tryz.prog w base sp held m 4 (([v0, v1, v2, v3, v4, v5].drop 2).take (Tryz.prog.cellsOf 4)) = xs[2]? := hf 2 _ rfl
  rw [c4] at g2
  change DataW.trod enc Tryz.prog w base sp held m 4 [v2] = xs[2]? at g2
  have g3 : DataW.trod enc Tryz.prog w base sp held m 4 (([v0, v1, v2, v3, v4, v5].drop 3).take (Tryz.prog.cellsOf 4)) = xs[3]? := hf 3 _ rfl
  rw [c4] at g3
  change DataW.trod enc Tryz.prog w base sp held m 4 [v3] = xs[3]? at g3
  have g4 : DataW.trod enc Tryz.prog w base sp held m 4 (([v0, v1, v2, v3, v4, v5].drop 4).take (Tryz.prog.cellsOf 4)) = xs[4]? := hf 4 _ rfl
  rw [c4] at g4
  change DataW.trod enc Tryz.prog w base sp held m 4 [v4] = xs[4]? at g4
  have g5 : DataW.trod enc Tryz.prog w base sp held m 3 (([v0, v1, v2, v3, v4, v5].drop 5).take (Tryz.prog.cellsOf 3)) = xs[5]? := hf 5 _ rfl
  rw [c3] at g5
  change DataW.trod enc Tryz.prog w base sp held m 3 [v5] = xs[5]? at g5
  have e : xs.length = 6 := hxl
  rw [List.getElem?_eq_getElem (by omega)] at g0 g1 g2 g3 g4 g5
  obtain ⟨go, gc, g, e0, hg1, hg2, hg3⟩ := open_row g0
  obtain ⟨bo, n, bc, L, e1, hn1, hn2, hn3, hn4⟩ := open_rows g1
  obtain ⟨fi, e2, _⟩ := DataW.trod_bool Tryz.underlying4 g2
  obtain ⟨ol, e3, _⟩ := DataW.trod_bool Tryz.underlying4 g3
  obtain ⟨he, e4, _⟩ := DataW.trod_bool Tryz.underlying4 g4
  obtain ⟨la, e5, _⟩ := DataW.trod_int Tryz.underlying3 g5
  cases e0; cases e1; cases e2; cases e3; cases e4; cases e5
  exact ⟨go, bo, gc, bc, g, n, L, fi, ol, he, la, rfl, ⟨⟨hg1, hn1⟩, hg3, hn3⟩, hg2, hn2, hn4⟩
end Go.Proofs.YtkndnndildnbpaaGreatDoor

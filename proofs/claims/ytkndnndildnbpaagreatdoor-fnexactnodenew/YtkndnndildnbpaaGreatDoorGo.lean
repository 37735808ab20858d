/- l4Num of the model: numbers read one behind the other; once there was none, none more. -/
import Derived.Test.YtkndnndildnbpaaGreatDoorGe
import Derived.Test.YtkndnndildnbpaaGreatDoorGa
import Derived.Test.YtkndnndildnbpaaGreatDoorGb
import Derived.Deep.Cut
import Derived.Test.YtkndnndildnbpaaGreatDoorGh

namespace Go.Proofs.YtkndnndildnbpaaGreatDoor
open Go.ChangeShapes Go.WideShapes Go.ChangeAt Go.RowKit
set_option linter.unusedVariables false
set_option linter.unusedSimpArgs false

/-- The number that begins at p, and the place behind it. -/
def rdI (n : Nat) (f : Nat → Int) (p : Int) : Option (Int × Int) := if p < 0 then none else gr n f p.toNat 5 0
/-- Where the next number begins; none: there was one that is none. -/
def nx (n : Nat) (f : Nat → Int) : Option Int → Option Int
  | none => none
  | some p => (rdI n f p).map (·.2)
def rdv (n : Nat) (f : Nat → Int) : Option Int → Int
  | none => 0
  | some p => ((rdI n f p).map (·.1)).getD 0

theorem gr_pos (n : Nat) (f : Nat → Int) (a fuel k : Nat) (x y : Int) (h : gr n f a fuel k = some (x, y)) : (a : Int) < y ∧ y ≤ n ∧ 0 ≤ x ∧ x ≤ 2147483647 := by
  induction fuel generalizing k with
  | zero => cases h
  | succ fuel ih =>
    rw [gr] at h
    split at h
    · split at h
      · split at h
        · cases h
        · next h1 =>
          simp only [Option.some.injEq, Prod.mk.injEq] at h
          have := (gacc_bd f a (k + 1)).1
          omega
      · exact ih _ h
    · cases h
theorem rdI_pos {n : Nat} {f : Nat → Int} {p x y : Int} (h : rdI n f p = some (x, y)) : 0 ≤ p ∧ p < y ∧ y ≤ n ∧ 0 ≤ x ∧ x ≤ 2147483647 := by
  unfold rdI at h
  split at h
  · cases h
  · have := gr_pos n f p.toNat 5 0 x y h
    omega

theorem get_any (ao : Option Addr) (n cap : Nat) (p : Int) (f : Nat → Int) (w : World) (hn : n ≤ 1048576) (hp : p ≤ 9223372036854775807) (hs : SL .u8 w ao n f) (hf : ∀ i, i < n → 0 ≤ f i ∧ f i ≤ 255) :
    Calls Tryz.prog 256 #[.slice ao n cap, .int .i64 p] w fun e w' => e = .returned (gres (rdI n f p)) ∧ w' = w := by
  by_cases h : p < 0
  · have e : rdI n f p = none := by unfold rdI; rw [if_pos h]
    rw [e]
    exact get_spec_neg ao n cap p w h
  · obtain ⟨a, rfl⟩ := Int.eq_ofNat_of_zero_le (Int.not_lt.1 h)
    have e : rdI n f (a : Int) = gr n f a 5 0 := by unfold rdI; rw [if_neg h]; simp
    rw [e]
    exact get_spec ao n cap a f w hn hp hs hf

/-- A cursor at block g. -/
def Cu (w : World) (g : Nat) (ao : Option Addr) (n cap : Nat) (st : Option Int) : Prop :=
  ∃ p : Int, w.heap[g]? = some (.cells #[.slice ao n cap, .int .i64 p, .bool st.isSome] 215 (0, 0)) ∧ (∀ q, st = some q → p = q) ∧ p ≤ 9223372036854775807

theorem Only.drawn {g : Nat} {w w' : World} (h : Only g w w') (q : Nat) : Only g w (w'.drewN q) := ⟨Below.drawn h.1 q, h.2.1, h.2.2⟩

theorem Cu.fail {w : World} {g : Nat} {ao : Option Addr} {n cap : Nat} {p : Int} {b : Bool} (h : w.heap[g]? = some (.cells #[.slice ao n cap, .int .i64 p, .bool b] 215 (0, 0))) (hp : p ≤ 9223372036854775807) (q : Nat) : Cu ((w.drewN q).setCell ⟨g, 2, none⟩ (.bool false)) g ao n cap none := by
  refine ⟨p, ?_, (fun _ e => by cases e), hp⟩
  have e : (w.drewN q).heap = w.heap := rfl
  simp [World.setCell, Array.getElem?_modify, e, h]
theorem Cu.next {w : World} {g : Nat} {ao : Option Addr} {n cap : Nat} {p y : Int} (h : w.heap[g]? = some (.cells #[.slice ao n cap, .int .i64 p, .bool true] 215 (0, 0))) (hy : y ≤ 9223372036854775807) (q : Nat) : Cu ((w.drewN q).setCell ⟨g, 1, none⟩ (.int .i64 y)) g ao n cap (some y) := by
  refine ⟨y, ?_, (fun _ e => by cases e; rfl), hy⟩
  have e : (w.drewN q).heap = w.heap := rfl
  simp [World.setCell, Array.getElem?_modify, e, h]

theorem num_any (g : Nat) (ao : Option Addr) (n cap : Nat) (f : Nat → Int) (st : Option Int) (w : World) (hn : n ≤ 1048576) (hs : SL .u8 w ao n f) (hf : ∀ i, i < n → 0 ≤ f i ∧ f i ≤ 255) (hc : Cu w g ao n cap st) :
    Calls Tryz.prog 248 #[.pointer (some ⟨g, 0, none⟩)] w fun e w' => e = .returned (.int .i64 (rdv n f st)) ∧ Cu w' g ao n cap (nx n f st) ∧ Only g w w' := by
  obtain ⟨p, hblk, hq, hp⟩ := hc
  have hget : Hid (∀ q, Calls Tryz.prog 256 #[.slice ao n cap, .int .i64 p] (w.drewN q) fun e w' => e = .returned (gres (rdI n f p)) ∧ w' = w.drewN q) := fun q => get_any ao n cap p f (w.drewN q) hn hp hs hf
  have c0 := blk_cell (i := 0) hblk rfl
  have c1 := blk_cell (i := 1) hblk rfl
  have c2 := blk_cell (i := 2) hblk rfl
  have z0 : ∀ i, w.frozen? ⟨g, i, none⟩ = false := fun i => by simp [World.frozen?, hblk]
  have HBK := hide hblk
  clear hs hf hblk
  change w.cell? ⟨g, 0, none⟩ = some (.slice ao n cap) at c0
  change w.cell? ⟨g, 1, none⟩ = some (.int .i64 p) at c1
  change w.cell? ⟨g, 2, none⟩ = some (.bool st.isSome) at c2
  cases st with
  | none =>
    have HR : Hid (rdv n f none = 0 ∧ nx n f none = none) := ⟨rfl, rfl⟩
    rw [HR.out.1, HR.out.2]
    simp only [Option.isSome_none] at c2
    cases hr : rdI n f p with
    | none =>
      rw [hr] at hget
      unfold gres at hget
      clear hr
      go_enter Tryz.func248, Tryz.ntmps248
      go_wp2
      go_quiet (first | (go_at_call 256; refine Calls.quiet_of_same (hget.out _)))
      go_wp2
      go_ret
      exact ⟨rfl, Cu.fail HBK.out hp nq, ((Only.refl g w).drawn nq).setCell _⟩
    | some xy =>
      obtain ⟨x, y⟩ := xy
      rw [hr] at hget
      unfold gres at hget
      clear hr
      go_enter Tryz.func248, Tryz.ntmps248
      go_wp2
      go_quiet (first | (go_at_call 256; refine Calls.quiet_of_same (hget.out _)))
      go_wp2
      go_ret
      exact ⟨rfl, Cu.fail HBK.out hp nq, ((Only.refl g w).drawn nq).setCell _⟩
  | some p' =>
    obtain rfl : p = p' := hq p' rfl
    simp only [Option.isSome_some] at c2
    cases hr : rdI n f p with
    | none =>
      have HR : Hid (rdv n f (some p) = 0 ∧ nx n f (some p) = none) := ⟨by simp [rdv, hr], by simp [nx, hr]⟩
      rw [HR.out.1, HR.out.2]
      rw [hr] at hget
      unfold gres at hget
      clear hr hq
      go_enter Tryz.func248, Tryz.ntmps248
      go_wp2
      go_quiet (first | (go_at_call 256; refine Calls.quiet_of_same (hget.out _)))
      go_wp2
      go_ret
      exact ⟨rfl, Cu.fail HBK.out hp nq, ((Only.refl g w).drawn nq).setCell _⟩
    | some xy =>
      obtain ⟨x, y⟩ := xy
      have HR : Hid (rdv n f (some p) = x ∧ nx n f (some p) = some y) := ⟨by simp [rdv, hr], by simp [nx, hr]⟩
      have hy := rdI_pos hr
      rw [HR.out.1, HR.out.2]
      rw [hr] at hget
      unfold gres at hget
      clear hr hq
      go_enter Tryz.func248, Tryz.ntmps248
      go_wp2
      go_quiet (first | (go_at_call 256; refine Calls.quiet_of_same (hget.out _)))
      go_wp2
      go_ret
      exact ⟨rfl, Cu.next HBK.out (by omega) nq, ((Only.refl g w).drawn nq).setCell _⟩
/-- A number as four bytes, the low ones first. -/
def s4 (x : Int) : List Int := [x % 256, x / 256 % 256, x / 65536 % 256, x / 16777216 % 256]

theorem i64_and255 (x : Int) (h0 : 0 ≤ x) (h1 : x < 4611686018427387904) : bits .and .i64 x 255 = x % 256 := by
  obtain ⟨a, rfl⟩ := Int.eq_ofNat_of_zero_le h0
  have e : (BitVec.ofInt 64 (a : Int) &&& BitVec.ofInt 64 ((255 : Nat) : Int)).toNat = a % 256 := by
    rw [BitVec.toNat_and, ofInt_u64 a (by omega), ofInt_u64 255 (by omega)]
    exact Nat.and_two_pow_sub_one_eq_mod a 8
  show IntKind.i64.wrap (((BitVec.ofInt 64 (a : Int) &&& BitVec.ofInt 64 ((255 : Nat) : Int)).toNat : Nat) : Int) = _
  rw [e, IntKind.wrap_i64]
  omega

theorem sum4_spec (x : Int) (w : World) (h0 : 0 ≤ x) (h1 : x < 4294967296) :
    Calls Tryz.prog 200 #[.int .i64 x] w fun e w' => ∃ v, e = .returned v ∧ w'.ownsRow w.heap.size 5 1 v (s4 x).length ((s4 x).map (.int .u8)) ∧ Below w.heap.size w w' := by
  go_enter Tryz.func200, Tryz.ntmps200
  go_wp2
  go_ret
  refine ⟨_, rfl, ?_, (Below.refl _ _).alloc (Nat.le_refl _) _⟩
  rw [i64_and255 x h0 (by omega), i64_and255 (x / 256) (by omega) (by omega), i64_and255 (x / 65536) (by omega) (by omega), i64_and255 (x / 16777216) (by omega) (by omega)]
  refine ⟨rfl, .inr ⟨_, _, _, rfl, Nat.le_refl _, Deep.blk_alloc_new _ _, by simp [s4], by simp [maxLen], by simp, ?_⟩⟩
  simp [s4]

theorem mput_back (f : Nat → Int) (a : Nat) (fuel : Nat) : ∀ (k : Nat) (x : Int), 0 ≤ x → x < 128 ^ (fuel + 1) → (0 < k → 0 < x) → gacc f a k + 128 ^ k * x ≤ 2147483647 → (∀ i, i < (pb fuel x).length → f (a + k + i) = (pb fuel x).getD i 0) →
    gr (a + k + (pb fuel x).length) f a (fuel + 1) k = some (gacc f a k + 128 ^ k * x, (a : Int) + k + (pb fuel x).length) := by
  induction fuel with
  | zero =>
    intro k x h0 h1 h2 h3 h4
    have hx : x < 128 := by simpa using h1
    have hd : f (a + k) = x := by have := h4 0 (by simp [pb]); simpa [pb] using this
    have hl : (pb 0 x).length = 1 := by simp [pb]
    rw [hl, gr_in (by omega), hd, if_pos hx]
    have e : gacc f a (k + 1) = gacc f a k + 128 ^ k * x := by rw [gacc, hd, Int.emod_eq_of_lt h0 hx, Int.mul_comm]
    rw [e, if_neg]
    · simp
    · rintro (⟨p, q⟩ | r)
      · have := h2 p; omega
      · omega
  | succ fuel ih =>
    intro k x h0 h1 h2 h3 h4
    by_cases hx : x < 128
    · have hpb := pb_last (fuel + 1) x hx
      rw [hpb] at h4 ⊢
      have hd : f (a + k) = x := by have := h4 0 (by simp); simpa using this
      rw [show [x].length = 1 from rfl, gr_in (by omega), hd, if_pos hx]
      have e : gacc f a (k + 1) = gacc f a k + 128 ^ k * x := by rw [gacc, hd, Int.emod_eq_of_lt h0 hx, Int.mul_comm]
      rw [e, if_neg]
      · simp
      · rintro (⟨p, q⟩ | r)
        · have := h2 p; omega
        · omega
    · have hpb := pb_more fuel x hx
      rw [hpb] at h4 ⊢
      have hd : f (a + k) = x % 128 + 128 := by have := h4 0 (by simp); simpa using this
      have e1 : gacc f a (k + 1) + 128 ^ (k + 1) * (x / 128) = gacc f a k + 128 ^ k * x := by
        rw [gacc, hd, show (x % 128 + 128) % 128 = x % 128 by omega, Int.pow_succ]
        generalize hP : (128 : Int) ^ k = P
        have e2 : P * x = P * (128 * (x / 128) + x % 128) := by rw [Int.mul_ediv_add_emod]
        rw [e2, Int.mul_add, Int.mul_assoc P 128 (x / 128), Int.mul_comm (x % 128) P]
        omega
      have hlen : ((x % 128 + 128) :: pb fuel (x / 128)).length = (pb fuel (x / 128)).length + 1 := rfl
      have hx2 : x / 128 < 128 ^ (fuel + 1) := by
        rw [Int.pow_succ] at h1
        generalize (128 : Int) ^ (fuel + 1) = P at h1 ⊢
        omega
      have := ih (k + 1) (x / 128) (by omega) hx2 (fun _ => by omega) (by rw [e1]; exact h3) (fun i hi => by
        have := h4 (i + 1) (by rw [hlen]; omega)
        rw [show a + (k + 1) + i = a + k + (i + 1) by omega, this]; simp)
      rw [hlen, gr_in (by omega), hd, if_neg (by omega)]
      rw [show a + (k + 1) + (pb fuel (x / 128)).length = a + k + ((pb fuel (x / 128)).length + 1) by omega] at this
      rw [this, e1]
      simp
      omega

theorem gr_mono (n n' : Nat) (f : Nat → Int) (a fuel k : Nat) (x y : Int) (hn : n ≤ n') (h : gr n f a fuel k = some (x, y)) : gr n' f a fuel k = some (x, y) := by
  induction fuel generalizing k with
  | zero => cases h
  | succ fuel ih =>
    by_cases hin : a + k < n
    · rw [gr_in hin] at h
      rw [gr_in (by omega)]
      split at h
      · next h1 => rw [if_pos h1]; exact h
      · next h1 => rw [if_neg h1]; exact ih _ h
    · rw [gr_out hin] at h; cases h

/-- The bytes L lie at a. -/
def Has (n : Nat) (f : Nat → Int) (a : Nat) (L : List Int) : Prop := a + L.length ≤ n ∧ ∀ i, i < L.length → f (a + i) = L.getD i 0
theorem Has.left {n : Nat} {f : Nat → Int} {a : Nat} {L M : List Int} (h : Has n f a (L ++ M)) : Has n f a L := by
  refine ⟨by have := h.1; simp at this; omega, fun i hi => ?_⟩
  rw [h.2 i (by simp; omega)]
  simp [List.getD, List.getElem?_append_left hi]
theorem Has.right {n : Nat} {f : Nat → Int} {a : Nat} {L M : List Int} (h : Has n f a (L ++ M)) : Has n f (a + L.length) M := by
  refine ⟨by have := h.1; simp at this; omega, fun i hi => ?_⟩
  rw [Nat.add_assoc, h.2 (L.length + i) (by simp; omega)]
  simp [List.getD, List.getElem?_append_right (Nat.le_add_right _ _)]
theorem Has.num {n : Nat} {f : Nat → Int} {a : Nat} {x : Int} {R : List Int} (h : Has n f a (pb 4 x ++ R)) (h0 : 0 ≤ x) (h1 : x ≤ 2147483647) :
    rdI n f (a : Int) = some (x, ((a + (pb 4 x).length : Nat) : Int)) ∧ Has n f (a + (pb 4 x).length) R := by
  refine ⟨?_, h.right⟩
  have hl := h.left
  have g := mput_back f a 4 0 x h0 (by omega) (fun h => absurd h (by omega)) (by simp [gacc]; omega) (fun i hi => by have := hl.2 i hi; simpa using this)
  have g' := gr_mono _ n f a 5 0 _ _ (by have := hl.1; omega) g
  unfold rdI
  rw [if_neg (by omega)]
  simp [gacc] at g'
  simpa using g'

/-- The state behind j numbers. -/
def sts (n : Nat) (f : Nat → Int) (st : Option Int) : Nat → Option Int
  | 0 => st
  | j + 1 => nx n f (sts n f st j)
theorem sts_none (n : Nat) (f : Nat → Int) (j : Nat) : sts n f none j = none := by
  induction j with
  | zero => rfl
  | succ j ih => rw [sts, ih]; rfl
theorem sts_succ (n : Nat) (f : Nat → Int) (st : Option Int) (j : Nat) : sts n f st (j + 1) = sts n f (nx n f st) j := by
  induction j with
  | zero => rfl
  | succ j ih => rw [sts, ih]; rfl
/-- Numbers that lie one behind the other are read as they are. -/
theorem Has.nums {n : Nat} {f : Nat → Int} {R : List Int} (l : List Int) (hl : ∀ x ∈ l, 0 ≤ x ∧ x ≤ 2147483647) : ∀ {a : Nat}, Has n f a (nums l ++ R) →
    (∀ j, j ≤ l.length → ∃ q : Nat, sts n f (some (a : Int)) j = some (q : Int) ∧ q ≤ n) ∧ (∀ j, j < l.length → rdv n f (sts n f (some (a : Int)) j) = l.getD j 0) ∧ Has n f (a + (nums l).length) R := by
  induction l with
  | nil =>
    intro a h
    refine ⟨fun j hj => ?_, fun j hj => absurd hj (by simp), by simpa [Proofs.YtkndnndildnbpaaGreatDoor.nums] using h⟩
    obtain rfl : j = 0 := by simpa using hj
    exact ⟨a, rfl, by have := h.1; omega⟩
  | cons x l ih =>
    intro a h
    rw [nums_cons, List.append_assoc] at h
    obtain ⟨h0, h1⟩ := hl x (by simp)
    obtain ⟨g, hr⟩ := h.num h0 h1
    obtain ⟨i1, i2, i3⟩ := ih (fun y hy => hl y (by simp [hy])) hr
    have e1 : nx n f (some (a : Int)) = some ((a + (pb 4 x).length : Nat) : Int) := by simp only [nx, g, Option.map_some]
    refine ⟨fun j hj => ?_, fun j hj => ?_, ?_⟩
    · cases j with
      | zero => exact ⟨a, rfl, by have := h.1; omega⟩
      | succ j => rw [sts_succ, e1]; exact i1 j (by simpa using hj)
    · cases j with
      | zero => simp [sts, rdv, g]
      | succ j => rw [sts_succ, e1, i2 j (by simpa using hj)]; simp
    · rw [nums_cons, List.length_append, ← Nat.add_assoc]; exact i3

theorem kts_add (n : Nat) (f : Nat → Int) (st : Option Int) (a b : Nat) : sts n f (sts n f st a) b = sts n f st (a + b) := by
  induction b with
  | zero => rfl
  | succ b ih => rw [sts, ih]; rfl
theorem kts_le (n : Nat) (f : Nat → Int) (st : Option Int) (c d : Nat) (h : sts n f st c = none) (hd : c ≤ d) : sts n f st d = none := by
  obtain ⟨e, rfl⟩ : ∃ e, d = c + e := ⟨d - c, by omega⟩
  rw [← kts_add, h, sts_none]
/-- A list with how many there are ahead of it, read. -/
def RlS (n : Nat) (f : Nat → Int) (st : Option Int) (G : List Int) : Prop :=
  rdv n f st = G.length ∧ (∀ i, i < G.length → rdv n f (sts n f st (1 + i)) = G.getD i 0) ∧ (sts n f st (1 + G.length)).isSome = true
theorem rls_one {n : Nat} {f : Nat → Int} {st : Option Int} {G G' : List Int} (h : RlS n f st G) (h' : RlS n f st G') : G = G' := by
  have hl : G.length = G'.length := by have := h.1; have := h'.1; omega
  refine List.ext_getElem? fun j => ?_
  by_cases hj : j < G.length
  · have hj' : j < G'.length := by omega
    have := (h.2.1 j hj).symm.trans (h'.2.1 j hj')
    simp only [List.getD, List.getElem?_eq_getElem hj, List.getElem?_eq_getElem hj', Option.getD_some] at this
    rw [List.getElem?_eq_getElem hj, List.getElem?_eq_getElem hj', this]
  · rw [List.getElem?_eq_none (by omega), List.getElem?_eq_none (by omega)]
def LR (n : Nat) (f : Nat → Int) (st : Option Int) (G : List Int) (st' : Option Int) : Prop :=
  (st'.isSome = true ∧ RlS n f st G ∧ st' = sts n f st (1 + G.length)) ∨ (st' = none ∧ ¬ ∃ G, RlS n f st G)
theorem lr_is {n : Nat} {f : Nat → Int} {st st' : Option Int} {G G' : List Int} (h : LR n f st G st') (h' : RlS n f st G') : G = G' ∧ st' = sts n f st (1 + G'.length) := by
  rcases h with ⟨_, h1, h2⟩ | ⟨_, h⟩
  · have e := rls_one h1 h'
    subst e
    exact ⟨rfl, h2⟩
  · exact absurd ⟨G', h'⟩ h
theorem has_self (L : List Int) : Has L.length (fun i => L.getD i 0) 0 L := ⟨by omega, fun i _ => by rw [Nat.zero_add]⟩
theorem nums_inj : ∀ (l l' : List Int), (∀ x ∈ l, 0 ≤ x ∧ x ≤ 2147483647) → (∀ x ∈ l', 0 ≤ x ∧ x ≤ 2147483647) → nums l = nums l' → l = l'
  | [], [], _, _, _ => rfl
  | [], x :: l', _, _, h => by
    have h4 := mpb_pos 4 x
    rw [nums_cons, nums_nil] at h
    have h3 := congrArg List.length h
    rw [List.length_append] at h3
    simp only [List.length_nil] at h3
    omega
  | x :: l, [], _, _, h => by
    have h4 := mpb_pos 4 x
    rw [nums_cons, nums_nil] at h
    have h3 := congrArg List.length h
    rw [List.length_append] at h3
    simp only [List.length_nil] at h3
    omega
  | x :: l, x' :: l', h1, h2, h => by
    rw [nums_cons, nums_cons] at h
    have b1 := h1 x (by simp)
    have b2 := h2 x' (by simp)
    have r1 := ((has_self (pb 4 x ++ nums l)).num b1.1 b1.2).1
    have r2 := has_self (pb 4 x' ++ nums l')
    rw [← h] at r2
    have r2' := r2
    rw [h] at r2'
    have r3 := (Has.num (R := nums l') (by rw [h]; exact has_self _) b2.1 b2.2 : rdI (pb 4 x ++ nums l).length (fun i => (pb 4 x ++ nums l).getD i 0) ((0 : Nat) : Int) = some (x', ((0 + (pb 4 x').length : Nat) : Int)) ∧ _).1
    rw [r1] at r3
    simp only [Option.some.injEq, Prod.mk.injEq] at r3
    obtain ⟨rfl, _⟩ := r3
    have e := List.append_cancel_left h
    rw [nums_inj l l' (fun y hy => h1 y (by simp [hy])) (fun y hy => h2 y (by simp [hy])) e]
theorem lsq_inj {l l' r r' : List Int} (h : lsq l ++ r = lsq l' ++ r') : l = l' ∧ r = r' := by
  simp only [lsq, List.cons_append, List.cons.injEq] at h
  exact List.append_inj h.2 (by omega)
/-- The bytes of what is known. -/
def MtIs (B : List Int) (g : List Int) (L : Nat → List Int) (fi ol he : Bool) (la : Int) : Prop := MtOk g 3 L ol he la ∧ nums (mseq g L fi ol he la) = B
theorem mseq_eq (g : List Int) (L : Nat → List Int) (fi ol he : Bool) (la : Int) : mseq g L fi ol he la = lsq g ++ (lsq (L 0) ++ (lsq (L 1) ++ (lsq (L 2) ++ [flg fi ol he, la]))) := by simp [mseq, pre]
theorem flg_inj {a b c a' b' c' : Bool} (h : flg a b c = flg a' b' c') : a = a' ∧ b = b' ∧ c = c' := by
  revert h; cases a <;> cases b <;> cases c <;> cases a' <;> cases b' <;> cases c' <;> simp [flg, bi]
theorem mseq_inj {g g' : List Int} {L L' : Nat → List Int} {fi ol he fi' ol' he' : Bool} {la la' : Int} (h : mseq g L fi ol he la = mseq g' L' fi' ol' he' la') : g = g' ∧ (∀ i, i < 3 → L i = L' i) ∧ fi = fi' ∧ ol = ol' ∧ he = he' ∧ la = la' := by
  rw [mseq_eq, mseq_eq] at h
  obtain ⟨h1, h⟩ := lsq_inj h
  obtain ⟨h2, h⟩ := lsq_inj h
  obtain ⟨h3, h⟩ := lsq_inj h
  obtain ⟨h4, h⟩ := lsq_inj h
  simp only [List.cons.injEq, and_true] at h
  obtain ⟨e1, e2, e3⟩ := flg_inj h.1
  refine ⟨h1, fun i hi => ?_, e1, e2, e3, h.2⟩
  obtain rfl | rfl | rfl : i = 0 ∨ i = 1 ∨ i = 2 := by omega
  · exact h2
  · exact h3
  · exact h4
theorem mtis_one {B g g' : List Int} {L L' : Nat → List Int} {fi ol he fi' ol' he' : Bool} {la la' : Int} (h : MtIs B g L fi ol he la) (h' : MtIs B g' L' fi' ol' he' la') : g = g' ∧ (∀ i, i < 3 → L i = L' i) ∧ fi = fi' ∧ ol = ol' ∧ he = he' ∧ la = la' :=
  mseq_inj (nums_inj _ _ (mseq_mem h.1) (mseq_mem h'.1) (h.2.trans h'.2.symm))
/-- .. is read as it is. -/
theorem mtis_read {n : Nat} {f : Nat → Int} {g : List Int} {L : Nat → List Int} {fi ol he : Bool} {la : Int} (h : MtIs ((List.range n).map f) g L fi ol he la) :
    ∃ t : Nat, RlS n f (some 0) g ∧ RlS n f (sts n f (some 0) (1 + g.length)) (L 0) ∧ RlS n f (sts n f (sts n f (some 0) (1 + g.length)) (1 + (L 0).length)) (L 1) ∧
      RlS n f (sts n f (sts n f (sts n f (some 0) (1 + g.length)) (1 + (L 0).length)) (1 + (L 1).length)) (L 2) ∧ sts n f (sts n f (sts n f (sts n f (some 0) (1 + g.length)) (1 + (L 0).length)) (1 + (L 1).length)) (1 + (L 2).length) = sts n f (some 0) t ∧
      rdv n f (sts n f (some 0) t) = flg fi ol he ∧ rdv n f (sts n f (some 0) (t + 1)) = la ∧ (sts n f (some 0) (t + 2)).isSome = true := by
  have hh : Has n f 0 (nums (mseq g L fi ol he la) ++ []) := by
    rw [List.append_nil, h.2]
    refine ⟨by simp, fun i hi => ?_⟩
    have hi' : i < n := by simpa using hi
    simp [List.getD, hi']
  obtain ⟨i1, i2, _⟩ := hh.nums _ (mseq_mem h.1)
  have hsome : ∀ j, j ≤ (mseq g L fi ol he la).length → (sts n f (some 0) j).isSome = true := fun j hj => by obtain ⟨q, hq, _⟩ := i1 j hj; rw [show ((0 : Nat) : Int) = 0 from rfl] at hq; rw [hq]; rfl
  have hval : ∀ j, j < (mseq g L fi ol he la).length → rdv n f (sts n f (some 0) j) = (mseq g L fi ol he la).getD j 0 := fun j hj => i2 j hj
  have hcut : ∀ (A l R : List Int), mseq g L fi ol he la = A ++ (lsq l ++ R) → RlS n f (sts n f (some 0) A.length) l ∧ (sts n f (sts n f (some 0) A.length) (1 + l.length)) = sts n f (some 0) (A ++ lsq l).length := fun A l R e => by
    have hl := congrArg List.length e
    simp only [List.length_append, lsq_len] at hl
    refine ⟨⟨?_, fun i hi => ?_, ?_⟩, ?_⟩
    · rw [hval _ (by omega), e]; simp [List.getD, lsq]
    · rw [kts_add, hval _ (by omega), e]
      simp only [List.getD, lsq]
      rw [List.getElem?_append_right (by omega), List.getElem?_append_left (by simp; omega), show A.length + (1 + i) - A.length = i + 1 by omega, List.getElem?_cons_succ]
    · rw [kts_add]; exact hsome _ (by omega)
    · rw [kts_add]; congr 1; simp [lsq_len]; omega
  have e := mseq_eq g L fi ol he la
  obtain ⟨a1, a2⟩ := hcut [] g _ e
  obtain ⟨b1, b2⟩ := hcut (lsq g) (L 0) _ e
  obtain ⟨c1, c2⟩ := hcut (lsq g ++ lsq (L 0)) (L 1) (lsq (L 2) ++ [flg fi ol he, la]) (by rw [e]; simp)
  obtain ⟨d1, d2⟩ := hcut (lsq g ++ lsq (L 0) ++ lsq (L 1)) (L 2) [flg fi ol he, la] (by rw [e]; simp)
  simp only [List.nil_append, List.length_nil] at a1 a2
  have a1' : RlS n f (some 0) g := a1
  have a2' : sts n f (some 0) (1 + g.length) = sts n f (some 0) (lsq g).length := a2
  rw [← a2'] at b1 b2
  rw [← b2] at c1 c2
  rw [← c2] at d1 d2
  refine ⟨(lsq g ++ lsq (L 0) ++ lsq (L 1) ++ lsq (L 2)).length, a1', b1, c1, d1, d2, ?_, ?_, ?_⟩
  all_goals
    have e' : mseq g L fi ol he la = (lsq g ++ lsq (L 0) ++ lsq (L 1) ++ lsq (L 2)) ++ [flg fi ol he, la] := by rw [e]; simp
    generalize lsq g ++ lsq (L 0) ++ lsq (L 1) ++ lsq (L 2) = A at *
  · rw [hval _ (by rw [e']; simp), e']
    simp [List.getD]
  · rw [hval _ (by rw [e']; simp), e']
    simp [List.getD]
  · exact hsome _ (by rw [e']; simp)
theorem pb_three (x : Int) (h : x ≤ 2097151) : (pb 4 x).length ≤ 3 := by
  rw [pb]
  split
  · simp
  · rw [pb]
    split
    · simp
    · rw [pb, if_pos (by omega)]
      simp
theorem nums_three (l : List Int) (h : ∀ x ∈ l, x ≤ 2097151) : (nums l).length ≤ 3 * l.length := by
  induction l with
  | nil => simp [nums]
  | cons x l ih =>
    have h1 := pb_three x (h x (by simp))
    have h2 := ih (fun y hy => h y (by simp [hy]))
    rw [nums_cons]
    simp
    omega
theorem mt_len {g : List Int} {n : Nat} {L : Nat → List Int} {fi ol he : Bool} {la : Int} (h : MtOk g n L ol he la) : (nums (mseq g L fi ol he la)).length ≤ 126 := by
  obtain ⟨h1, _, h2, h3, h4, h5⟩ := mtok_g h
  have a0 := h2 0 (by omega)
  have a1 := h2 1 (by omega)
  have a2 := h2 2 (by omega)
  have hm : ∀ x ∈ mseq g L fi ol he la, x ≤ 2097151 := by
    intro x hx
    rw [mseq_eq] at hx
    simp only [List.mem_append, List.mem_cons, List.not_mem_nil, or_false, lsq] at hx
    rcases hx with (rfl | hx) | (rfl | hx) | (rfl | hx) | (rfl | hx) | rfl | rfl
    · omega
    · have := h3 x hx; omega
    · omega
    · have := h4 0 (by omega) x hx; omega
    · omega
    · have := h4 1 (by omega) x hx; omega
    · omega
    · have := h4 2 (by omega) x hx; omega
    · have := bi_bd fi; have := bi_bd ol; have := bi_bd he; unfold flg; omega
    · omega
  have := nums_three _ hm
  have e : (mseq g L fi ol he la).length ≤ 42 := by
    rw [mseq_eq]
    simp [lsq_len]
    omega
  omega

/-- The bytes of a whole slot. -/
def slb (M : List Int) (q : Int) : List Int := s4 q ++ ((M.length : Int) :: (M ++ (List.replicate (151 - M.length) 0 ++ s4 q)))
theorem slb_len {M : List Int} {q : Int} (h : M.length ≤ 151) : (slb M q).length = 160 := by simp [slb, s4]; omega
/-- A slot that is whole. -/
def SlIs (B : List Int) (g : List Int) (L : Nat → List Int) (fi ol he : Bool) (la q : Int) : Prop := MtOk g 3 L ol he la ∧ (1 ≤ q ∧ q ≤ 1000000) ∧ slb (nums (mseq g L fi ol he la)) q = B
def Whole (B : List Int) : Prop := ∃ g L fi ol he la q, SlIs B g L fi ol he la q
def rd4 (f : Nat → Int) : Int := f 0 + f 1 * 256 + f 2 * 65536 + f 3 * 16777216
def mid (f : Nat → Int) (k : Nat) : List Int := (List.range k).map (fun i => f (5 + i))
theorem s4_back (q : Int) (h : 0 ≤ q ∧ q < 4294967296) : q % 256 + q / 256 % 256 * 256 + q / 65536 % 256 * 65536 + q / 16777216 % 256 * 16777216 = q := by omega
theorem slb_at {n : Nat} {f : Nat → Int} {M : List Int} {q : Int} (hM : M.length ≤ 151) (h : slb M q = (List.range n).map f) : n = 160 ∧ (f 0 = q % 256 ∧ f 1 = q / 256 % 256 ∧ f 2 = q / 65536 % 256 ∧ f 3 = q / 16777216 % 256 ∧ f 4 = M.length) ∧ mid f M.length = M := by
  have hn : n = 160 := by
    have := congrArg List.length h
    rw [slb_len hM] at this
    simpa using this.symm
  subst hn
  have hat : ∀ i, i < 160 → (slb M q)[i]? = some (f i) := fun i hi => by rw [h]; simp [hi]
  refine ⟨rfl, ⟨?_, ?_, ?_, ?_, ?_⟩, ?_⟩
  · have := hat 0 (by omega); simpa [slb, s4] using this.symm
  · have := hat 1 (by omega); simpa [slb, s4] using this.symm
  · have := hat 2 (by omega); simpa [slb, s4] using this.symm
  · have := hat 3 (by omega); simpa [slb, s4] using this.symm
  · have := hat 4 (by omega); simpa [slb, s4] using this.symm
  · refine List.ext_getElem? fun j => ?_
    by_cases hj : j < M.length
    · have := hat (j + 5) (by omega)
      simp only [slb, s4, List.cons_append, List.nil_append, List.getElem?_cons_succ] at this
      rw [List.getElem?_append_left hj] at this
      rw [this, mid, List.getElem?_map, List.getElem?_range hj, Option.map_some, Nat.add_comm]
    · rw [List.getElem?_eq_none (by simp [mid]; omega), List.getElem?_eq_none (by omega)]
/-- What is read of a whole one. -/
theorem sl_key {n : Nat} {f : Nat → Int} {g : List Int} {L : Nat → List Int} {fi ol he : Bool} {la q : Int} (h : SlIs ((List.range n).map f) g L fi ol he la q) :
    n = 160 ∧ (0 ≤ f 4 ∧ f 4 ≤ 151) ∧ (1 ≤ rd4 f ∧ rd4 f ≤ 1000000) ∧ rd4 f = q ∧ MtIs (mid f (f 4).toNat) g L fi ol he la := by
  obtain ⟨h1, h2, h3⟩ := h
  have hl := mt_len (fi := fi) h1
  obtain ⟨a, ⟨b0, b1, b2, b3, b4⟩, c⟩ := slb_at (by omega) h3
  have e : rd4 f = q := by
    unfold rd4
    rw [b0, b1, b2, b3]
    exact s4_back q (by omega)
  refine ⟨a, by omega, by omega, e, h1, ?_⟩
  rw [b4, Int.toNat_natCast, c]
theorem sl_one {B g g' : List Int} {L L' : Nat → List Int} {fi ol he fi' ol' he' : Bool} {la la' q q' : Int} (h : SlIs B g L fi ol he la q) (h' : SlIs B g' L' fi' ol' he' la' q') : g = g' ∧ (∀ i, i < 3 → L i = L' i) ∧ fi = fi' ∧ ol = ol' ∧ he = he' ∧ la = la' ∧ q = q' := by
  have e : (List.range B.length).map (fun i => B.getD i 0) = B := by
    refine List.ext_getElem? fun j => ?_
    by_cases hj : j < B.length
    · simp [hj, List.getD]
    · rw [List.getElem?_eq_none (by simp; omega), List.getElem?_eq_none (by omega)]
  rw [← e] at h h'
  obtain ⟨_, _, _, a, b⟩ := sl_key h
  obtain ⟨_, _, _, a', b'⟩ := sl_key h'
  obtain ⟨c1, c2, c3, c4, c5, c6⟩ := mtis_one b b'
  exact ⟨c1, c2, c3, c4, c5, c6, a.symm.trans a'⟩
/-- The number of a slot; 0 where it is not whole. -/
def sqv (D : (p : Prop) → Decidable p) (B : List Int) : Int := @ite Int (Whole B) (D _) (rd4 (fun i => B.getD i 0)) 0
theorem krange_self (B : List Int) : (List.range B.length).map (fun i => B.getD i 0) = B := by
  refine List.ext_getElem? fun j => ?_
  by_cases hj : j < B.length
  · simp [hj, List.getD]
  · rw [List.getElem?_eq_none (by simp; omega), List.getElem?_eq_none (by omega)]
theorem sqv_is {B g : List Int} {L : Nat → List Int} {fi ol he : Bool} {la q : Int} (h : SlIs B g L fi ol he la q) : (sqv Classical.propDecidable) B = q := by
  unfold sqv
  rw [if_pos ⟨g, L, fi, ol, he, la, q, h⟩]
  rw [← krange_self B] at h
  exact (sl_key h).2.2.2.1
theorem sqv_no {B : List Int} (h : ¬ Whole B) : (sqv Classical.propDecidable) B = 0 := by unfold sqv; rw [if_neg h]
theorem sqv_bd (B : List Int) : 0 ≤ (sqv Classical.propDecidable) B ∧ (sqv Classical.propDecidable) B ≤ 1000000 := by
  by_cases h : Whole B
  · obtain ⟨g, L, fi, ol, he, la, q, h⟩ := h
    rw [sqv_is h]
    have := h.2.1
    omega
  · rw [sqv_no h]; omega
theorem sqv_pos {B : List Int} : 0 < (sqv Classical.propDecidable) B ↔ Whole B := by
  constructor
  · intro h
    by_cases h' : Whole B
    · exact h'
    · rw [sqv_no h'] at h; omega
  · rintro ⟨g, L, fi, ol, he, la, q, h⟩
    rw [sqv_is h]
    have := h.2.1
    omega
/-- A slot of what is known; nothing where it is none. -/
def slm (D : (p : Prop) → Decidable p) (g : List Int) (n : Nat) (L : Nat → List Int) (fi ol he : Bool) (la q : Int) : List Int := @ite (List Int) (MtOk g n L ol he la ∧ 1 ≤ q ∧ q ≤ 1000000) (D _) (slb (nums (mseq g L fi ol he la)) q) []
theorem slm_yes {g : List Int} {n : Nat} {L : Nat → List Int} {fi ol he : Bool} {la q : Int} (h : MtOk g n L ol he la) (hq : 1 ≤ q ∧ q ≤ 1000000) : (slm Classical.propDecidable) g n L fi ol he la q = slb (nums (mseq g L fi ol he la)) q := by unfold slm; rw [if_pos ⟨h, hq⟩]
theorem slm_no {g : List Int} {n : Nat} {L : Nat → List Int} {fi ol he : Bool} {la q : Int} (h : ¬ (MtOk g n L ol he la ∧ 1 ≤ q ∧ q ≤ 1000000)) : (slm Classical.propDecidable) g n L fi ol he la q = [] := by unfold slm; rw [if_neg h]
/-- The first one of two is the latest. -/
def Lat (A B : List Int) : Prop := 0 < (sqv Classical.propDecidable) A ∧ (sqv Classical.propDecidable) B ≤ (sqv Classical.propDecidable) A
end Go.Proofs.YtkndnndildnbpaaGreatDoor

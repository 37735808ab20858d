/- A message read back from its bytes: plain arithmetic. -/
import Derived.Test.YtjjdbdkbpmbniabGreatDoorCurSZ
import Derived.Test.YtjjdbdkbpmbniabGreatDoorMbySZ

namespace Go.Proofs.YtjjdbdkbpmbniabGreatDoor
open Go.ChangeShapes Go.WideShapes Go.ChangeAt Go.RowKit
set_option linter.unusedVariables false
set_option linter.unusedSimpArgs false

theorem mput_back (f : Nat → Int) (a : Nat) (fuel : Nat) : ∀ (k : Nat) (x : Int), 0 ≤ x → x < 128 ^ (fuel + 1) → (0 < k → 0 < x) → gacc f a k + 128 ^ k * x ≤ 2147483647 → (∀ i, i < (pb fuel x).length → f (a + k + i) = (pb fuel x).getD i 0) →
    gr (a + k + (pb fuel x).length) f a (fuel + 1) k = some (gacc f a k + 128 ^ k * x, (a : Int) + k + (pb fuel x).length) := by
  induction fuel with
  | zero =>
    intro k x h0 h1 h2 h3 h4
    have hx : x < 128 := by simpa using h1
    have hd : f (a + k) = x := by have := h4 0 (by simp [pb]); simpa [pb] using this
    have hl : (pb 0 x).length = 1 := by simp [pb]
    rw [hl, gr_in (by omega), hd, if_pos hx]
    have e : gacc f a (k + 1) = gacc f a k + 128 ^ k * x := by rw [gacc, hd, Int.emod_eq_of_lt h0 hx, Int.mul_comm]
    rw [e, if_neg]
    · simp
    · rintro (⟨p, q⟩ | r)
      · have := h2 p; omega
      · omega
  | succ fuel ih =>
    intro k x h0 h1 h2 h3 h4
    by_cases hx : x < 128
    · have hpb := pb_last (fuel + 1) x hx
      rw [hpb] at h4 ⊢
      have hd : f (a + k) = x := by have := h4 0 (by simp); simpa using this
      rw [show [x].length = 1 from rfl, gr_in (by omega), hd, if_pos hx]
      have e : gacc f a (k + 1) = gacc f a k + 128 ^ k * x := by rw [gacc, hd, Int.emod_eq_of_lt h0 hx, Int.mul_comm]
      rw [e, if_neg]
      · simp
      · rintro (⟨p, q⟩ | r)
        · have := h2 p; omega
        · omega
    · have hpb := pb_more fuel x hx
      rw [hpb] at h4 ⊢
      have hd : f (a + k) = x % 128 + 128 := by have := h4 0 (by simp); simpa using this
      have e1 : gacc f a (k + 1) + 128 ^ (k + 1) * (x / 128) = gacc f a k + 128 ^ k * x := by
        rw [gacc, hd, show (x % 128 + 128) % 128 = x % 128 by omega, Int.pow_succ]
        generalize hP : (128 : Int) ^ k = P
        have e2 : P * x = P * (128 * (x / 128) + x % 128) := by rw [Int.mul_ediv_add_emod]
        rw [e2, Int.mul_add, Int.mul_assoc P 128 (x / 128), Int.mul_comm (x % 128) P]
        omega
      have hlen : ((x % 128 + 128) :: pb fuel (x / 128)).length = (pb fuel (x / 128)).length + 1 := rfl
      have hx2 : x / 128 < 128 ^ (fuel + 1) := by
        rw [Int.pow_succ] at h1
        generalize (128 : Int) ^ (fuel + 1) = P at h1 ⊢
        omega
      have := ih (k + 1) (x / 128) (by omega) hx2 (fun _ => by omega) (by rw [e1]; exact h3) (fun i hi => by
        have := h4 (i + 1) (by rw [hlen]; omega)
        rw [show a + (k + 1) + i = a + k + (i + 1) by omega, this]; simp)
      rw [hlen, gr_in (by omega), hd, if_neg (by omega)]
      rw [show a + (k + 1) + (pb fuel (x / 128)).length = a + k + ((pb fuel (x / 128)).length + 1) by omega] at this
      rw [this, e1]
      simp
      omega

theorem gr_mono (n n' : Nat) (f : Nat → Int) (a fuel k : Nat) (x y : Int) (hn : n ≤ n') (h : gr n f a fuel k = some (x, y)) : gr n' f a fuel k = some (x, y) := by
  induction fuel generalizing k with
  | zero => cases h
  | succ fuel ih =>
    by_cases hin : a + k < n
    · rw [gr_in hin] at h
      rw [gr_in (by omega)]
      split at h
      · next h1 => rw [if_pos h1]; exact h
      · next h1 => rw [if_neg h1]; exact ih _ h
    · rw [gr_out hin] at h; cases h

/-- The bytes L lie at a. -/
def Has (n : Nat) (f : Nat → Int) (a : Nat) (L : List Int) : Prop := a + L.length ≤ n ∧ ∀ i, i < L.length → f (a + i) = L.getD i 0
theorem Has.left {n : Nat} {f : Nat → Int} {a : Nat} {L M : List Int} (h : Has n f a (L ++ M)) : Has n f a L := by
  refine ⟨by have := h.1; simp at this; omega, fun i hi => ?_⟩
  rw [h.2 i (by simp; omega)]
  simp [List.getD, List.getElem?_append_left hi]
theorem Has.right {n : Nat} {f : Nat → Int} {a : Nat} {L M : List Int} (h : Has n f a (L ++ M)) : Has n f (a + L.length) M := by
  refine ⟨by have := h.1; simp at this; omega, fun i hi => ?_⟩
  rw [Nat.add_assoc, h.2 (L.length + i) (by simp; omega)]
  simp [List.getD, List.getElem?_append_right (Nat.le_add_right _ _)]
theorem Has.num {n : Nat} {f : Nat → Int} {a : Nat} {x : Int} {R : List Int} (h : Has n f a (pb 4 x ++ R)) (h0 : 0 ≤ x) (h1 : x ≤ 2147483647) :
    rdI n f (a : Int) = some (x, ((a + (pb 4 x).length : Nat) : Int)) ∧ Has n f (a + (pb 4 x).length) R := by
  refine ⟨?_, h.right⟩
  have hl := h.left
  have g := mput_back f a 4 0 x h0 (by omega) (fun h => absurd h (by omega)) (by simp [gacc]; omega) (fun i hi => by have := hl.2 i hi; simpa using this)
  have g' := gr_mono _ n f a 5 0 _ _ (by have := hl.1; omega) g
  unfold rdI
  rw [if_neg (by omega)]
  simp [gacc] at g'
  simpa using g'

/-- The state behind j numbers. -/
def sts (n : Nat) (f : Nat → Int) (st : Option Int) : Nat → Option Int
  | 0 => st
  | j + 1 => nx n f (sts n f st j)
theorem sts_none (n : Nat) (f : Nat → Int) (j : Nat) : sts n f none j = none := by
  induction j with
  | zero => rfl
  | succ j ih => rw [sts, ih]; rfl
theorem sts_succ (n : Nat) (f : Nat → Int) (st : Option Int) (j : Nat) : sts n f st (j + 1) = sts n f (nx n f st) j := by
  induction j with
  | zero => rfl
  | succ j ih => rw [sts, ih]; rfl
/-- Numbers that lie one behind the other are read as they are. -/
theorem Has.nums {n : Nat} {f : Nat → Int} {R : List Int} (l : List Int) (hl : ∀ x ∈ l, 0 ≤ x ∧ x ≤ 2147483647) : ∀ {a : Nat}, Has n f a (nums l ++ R) →
    (∀ j, j ≤ l.length → ∃ q : Nat, sts n f (some (a : Int)) j = some (q : Int) ∧ q ≤ n) ∧ (∀ j, j < l.length → rdv n f (sts n f (some (a : Int)) j) = l.getD j 0) ∧ Has n f (a + (nums l).length) R := by
  induction l with
  | nil =>
    intro a h
    refine ⟨fun j hj => ?_, fun j hj => absurd hj (by simp), by simpa [Proofs.YtjjdbdkbpmbniabGreatDoor.nums] using h⟩
    obtain rfl : j = 0 := by simpa using hj
    exact ⟨a, rfl, by have := h.1; omega⟩
  | cons x l ih =>
    intro a h
    rw [nums_cons, List.append_assoc] at h
    obtain ⟨h0, h1⟩ := hl x (by simp)
    obtain ⟨g, hr⟩ := h.num h0 h1
    obtain ⟨i1, i2, i3⟩ := ih (fun y hy => hl y (by simp [hy])) hr
    have e1 : nx n f (some (a : Int)) = some ((a + (pb 4 x).length : Nat) : Int) := by simp only [nx, g, Option.map_some]
    refine ⟨fun j hj => ?_, fun j hj => ?_, ?_⟩
    · cases j with
      | zero => exact ⟨a, rfl, by have := h.1; omega⟩
      | succ j => rw [sts_succ, e1]; exact i1 j (by simpa using hj)
    · cases j with
      | zero => simp [sts, rdv, g]
      | succ j => rw [sts_succ, e1, i2 j (by simpa using hj)]; simp
    · rw [nums_cons, List.length_append, ← Nat.add_assoc]; exact i3

/-- A message whose bytes begin at p. -/
def Begins (n : Nat) (f : Nat → Int) (p k c v d : Int) (G : List Int) : Prop :=
  0 ≤ p ∧ MOk k c v d (fun i => G.getD i 0) G.length ∧ Has n f p.toNat (mb k c v d (fun i => G.getD i 0) G.length)
theorem range_getD (G : List Int) : (List.range G.length).map (fun i => G.getD i 0) = G := by
  refine List.ext_getElem? fun j => ?_
  by_cases h : j < G.length
  · simp [h, List.getD]
  · rw [List.getElem?_eq_none (by simp; omega), List.getElem?_eq_none (by omega)]
theorem begins_read {n : Nat} {f : Nat → Int} {p k c v d : Int} {G : List Int} (h : Begins n f p k c v d G) :
    (∃ q : Int, sts n f (some p) 1 = some q ∧ rdv n f (some p) ≤ (n : Int) - q - 4) ∧ (∀ j, j ≤ 6 + G.length → (sts n f (some p) j).isSome = true) ∧
    rdv n f (sts n f (some p) 1) = k ∧ rdv n f (sts n f (some p) 2) = c ∧ rdv n f (sts n f (some p) 3) = v ∧ rdv n f (sts n f (some p) 4) = d ∧ rdv n f (sts n f (some p) 5) = G.length ∧ ∀ i, i < G.length → rdv n f (sts n f (some p) (6 + i)) = G.getD i 0 := by
  obtain ⟨h0, hok, hh⟩ := h
  obtain ⟨a, rfl⟩ := Int.eq_ofNat_of_zero_le h0
  obtain ⟨hn12, hfb, hkb, hcb, hvb, hdb⟩ := mok_bd hok
  have hbl := mbody_len (k := k) (c := c) (v := v) (h := d) (f := fun i => G.getD i 0) hn12
  unfold mb at hh
  rw [if_pos hok] at hh
  unfold framed at hh
  have e : mbody k c v d (fun i => G.getD i 0) G.length = nums ([k, c, v, d, (G.length : Int)] ++ G) := by unfold mbody; rw [range_getD]
  have e1 : pb 4 ((mbody k c v d (fun i => G.getD i 0) G.length).length : Int) ++ mbody k c v d (fun i => G.getD i 0) G.length ++ s4 (asum (mbody k c v d (fun i => G.getD i 0) G.length)) =
      nums (((mbody k c v d (fun i => G.getD i 0) G.length).length : Int) :: ([k, c, v, d, (G.length : Int)] ++ G)) ++ s4 (asum (mbody k c v d (fun i => G.getD i 0) G.length)) := by rw [nums_cons, ← e]
  have e2 : pb 4 ((mbody k c v d (fun i => G.getD i 0) G.length).length : Int) ++ mbody k c v d (fun i => G.getD i 0) G.length ++ s4 (asum (mbody k c v d (fun i => G.getD i 0) G.length)) =
      pb 4 ((mbody k c v d (fun i => G.getD i 0) G.length).length : Int) ++ (mbody k c v d (fun i => G.getD i 0) G.length ++ s4 (asum (mbody k c v d (fun i => G.getD i 0) G.length))) := by rw [List.append_assoc]
  have hN := hh
  rw [e1] at hN
  have hA := hh
  rw [e2] at hA
  have ha : ((a : Int)).toNat = a := by omega
  rw [ha] at hN hA
  obtain ⟨g, hr⟩ := hA.num (by omega) (by omega)
  have hsz := hr.1
  have hs4 : (s4 (asum (mbody k c v d (fun i => G.getD i 0) G.length))).length = 4 := rfl
  rw [List.length_append, hs4] at hsz
  generalize hB : (mbody k c v d (fun i => G.getD i 0) G.length).length = L at *
  have hmem : ∀ x ∈ ((L : Int) :: ([k, c, v, d, (G.length : Int)] ++ G)), 0 ≤ x ∧ x ≤ 2147483647 := by
    intro x hx
    simp at hx
    rcases hx with rfl | rfl | rfl | rfl | rfl | rfl | hx
    · omega
    · exact hkb
    · exact hcb
    · exact hvb
    · exact hdb
    · omega
    · obtain ⟨i, hi, rfl⟩ := List.getElem_of_mem hx
      have := hfb i hi
      simpa [List.getD, hi] using this
  obtain ⟨i1, i2, _⟩ := hN.nums _ hmem
  have hlen : ((L : Int) :: ([k, c, v, d, (G.length : Int)] ++ G)).length = 6 + G.length := by simp; omega
  rw [hlen] at i1 i2
  refine ⟨⟨((a + (pb 4 (L : Int)).length : Nat) : Int), by simp only [sts, nx, g, Option.map_some], by simp only [rdv, g, Option.map_some, Option.getD_some]; omega⟩, fun j hj => ?_, by simpa using i2 1 (by omega), by simpa using i2 2 (by omega), by simpa using i2 3 (by omega), by simpa using i2 4 (by omega), by simpa using i2 5 (by omega), fun i hi => ?_⟩
  · obtain ⟨q, hq, _⟩ := i1 j hj
    rw [hq]; rfl
  · have := i2 (6 + i) (by omega)
    rw [this]
    rw [show 6 + i = i + 1 + 5 by omega]
    simp [List.getD]
end Go.Proofs.YtjjdbdkbpmbniabGreatDoor

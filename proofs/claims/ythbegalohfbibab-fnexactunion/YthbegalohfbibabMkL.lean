/- Marks as ascending lists. -/
import Derived.Test.YthbegalohfbibabIns
import Derived.Test.YthbegalohfbibabClear
namespace Go.Proofs.Ythbegalohfbibab

/-- With x, where it comes by its size. -/
def mk : List Int → Int → List Int
  | [], x => [x]
  | y :: r, x => if y < x then y :: mk r x else if y = x then y :: r else x :: y :: r

/-- Ascending, in 0 .. 7. -/
def Asc (M : List Int) : Prop := M.Pairwise (· < ·) ∧ ∀ y ∈ M, 0 ≤ y ∧ y ≤ 7

theorem Asc.nil : Asc [] := ⟨List.Pairwise.nil, fun y hy => by cases hy⟩

theorem asc_bound (M : List Int) (a : Int) (hp : M.Pairwise (· < ·)) (h : ∀ y ∈ M, a ≤ y ∧ y ≤ 7) (ha : a ≤ 8) : (M.length : Int) ≤ 8 - a := by
  induction M generalizing a with
  | nil => simp; omega
  | cons y r ih =>
    have hy := h y (by simp)
    rw [List.pairwise_cons] at hp
    have := ih (y + 1) hp.2 (fun z hz => ⟨by have := hp.1 z hz; omega, (h z (by simp [hz])).2⟩) (by omega)
    simp only [List.length_cons]
    omega

theorem Asc.len {M : List Int} (h : Asc M) : M.length ≤ 8 := by
  have := asc_bound M 0 h.1 h.2 (by omega)
  omega

theorem mem_mk {M : List Int} {x z : Int} (h : z ∈ mk M x) : z = x ∨ z ∈ M := by
  induction M with
  | nil => left; simpa [mk] using h
  | cons y r ih =>
    rw [mk] at h
    split at h
    · rcases List.mem_cons.1 h with h | h
      · right; simp [h]
      · rcases ih h with h | h
        · exact .inl h
        · right; simp [h]
    · split at h
      · exact .inr h
      · rcases List.mem_cons.1 h with h | h
        · exact .inl h
        · exact .inr h

theorem mk_asc {M : List Int} {x : Int} (h : Asc M) (h0 : 0 ≤ x) (h7 : x ≤ 7) : Asc (mk M x) := by
  refine ⟨?_, fun z hz => ?_⟩
  · replace h := h.1
    clear h0 h7
    induction M with
    | nil => simp [mk]
    | cons y r ih =>
      rw [List.pairwise_cons] at h
      rw [mk]
      split
      · rw [List.pairwise_cons]
        refine ⟨fun z hz => ?_, ih h.2⟩
        rcases mem_mk hz with e | e
        · omega
        · exact h.1 z e
      · split
        · rw [List.pairwise_cons]; exact h
        · rw [List.pairwise_cons]
          refine ⟨fun z hz => ?_, List.pairwise_cons.2 h⟩
          rcases List.mem_cons.1 hz with e | e
          · omega
          · have := h.1 z e; omega
  · rcases mem_mk hz with e | e
    · omega
    · exact h.2 z e

theorem mk_spec {M : List Int} {x : Int} {k : Nat} (hx : x ∉ M) (hk : k ≤ M.length) (h1 : ∀ i, i < k → M.getD i 0 < x) (h2 : k < M.length → ¬ M.getD k 0 < x) : ins M k x = mk M x := by
  induction M generalizing k with
  | nil =>
    obtain rfl : k = 0 := by simpa using hk
    rfl
  | cons y r ih =>
    rw [mk]
    cases k with
    | zero =>
      have hy : ¬ y < x := by simpa using h2 (by simp)
      have he : ¬ y = x := fun e => hx (by simp [e])
      rw [if_neg hy, if_neg he]; rfl
    | succ k =>
      have hy : y < x := by simpa using h1 0 (by omega)
      rw [if_pos hy, ← ih (k := k) (fun h => hx (by simp [h])) (by simpa using hk) (fun i hi => by simpa using h1 (i + 1) (by omega)) (fun hl => by simpa using h2 (by simpa using hl))]
      rfl

theorem mk_has {M : List Int} {x : Int} (hp : M.Pairwise (· < ·)) (hx : x ∈ M) : mk M x = M := by
  induction M with
  | nil => cases hx
  | cons y r ih =>
    rw [List.pairwise_cons] at hp
    rw [mk]
    rcases List.mem_cons.1 hx with e | e
    · rw [if_neg (by omega), if_pos e.symm]
    · have := hp.1 x e
      rw [if_pos this, ih hp.2 e]

theorem filter_all {M : List Int} {x : Int} (h : ∀ z ∈ M, x < z) : M.filter (fun y => decide (y ≠ x)) = M :=
  List.filter_eq_self.2 fun z hz => by have := h z hz; simp; omega

theorem mk_impl {M : List Int} {x : Int} {p : Nat} (hp : M.Pairwise (· < ·)) (hk : p ≤ (M.filter (fun y => decide (y ≠ x))).length) (h1 : ∀ i, i < p → ¬ x < (M.filter (fun y => decide (y ≠ x))).getD i 0)
    (h2 : p < (M.filter (fun y => decide (y ≠ x))).length → x < (M.filter (fun y => decide (y ≠ x))).getD p 0) : ins (M.filter (fun y => decide (y ≠ x))) p x = mk M x := by
  induction M generalizing p with
  | nil =>
    obtain rfl : p = 0 := by simpa using hk
    rfl
  | cons y r ih =>
    rw [List.pairwise_cons] at hp
    rw [mk]
    by_cases e : y = x
    · subst e
      have hr := filter_all (x := y) hp.1
      rw [if_neg (by omega), if_pos rfl]
      rw [List.filter_cons_of_neg (by simp), hr] at hk h1 h2 ⊢
      have hp0 : p = 0 := by
        cases p with
        | zero => rfl
        | succ p =>
          cases r with
          | nil => simp at hk
          | cons z r => exact absurd (hp.1 z (by simp)) (by simpa using h1 0 (by omega))
      subst hp0
      rfl
    · rw [List.filter_cons_of_pos (by simpa using e)] at hk h1 h2 ⊢
      by_cases hlt : y < x
      · rw [if_pos hlt]
        cases p with
        | zero => exact absurd (by simpa using h2 (by simp)) (show ¬ x < y by omega)
        | succ p =>
          rw [← ih (p := p) hp.2 (by simpa using hk) (fun i hi => by simpa using h1 (i + 1) (by omega)) (fun hl => by simpa using h2 (by simpa using hl))]
          rfl
      · rw [if_neg hlt, if_neg e]
        have hr := filter_all (x := x) (M := r) (fun z hz => by have := hp.1 z hz; omega)
        have hp0 : p = 0 := by
          cases p with
          | zero => rfl
          | succ p => exact absurd (show x < y by omega) (by simpa using h1 0 (by omega))
        subst hp0
        rw [hr]
        rfl

theorem kept_filter (M : List Int) (x : Int) (k : Nat) (hk : k ≤ M.length) : kept (fun i => M.getD i 0) x k = (M.take k).filter (fun y => decide (y ≠ x)) := by
  induction k with
  | zero => simp [kept]
  | succ k ih =>
    rw [kept, ih (by omega), List.take_add_one, List.getElem?_eq_getElem (by omega : k < M.length), List.filter_append]
    have e : M.getD k 0 = M[k] := by simp [List.getD, show k < M.length by omega]
    simp only [e]
    by_cases h : M[k] = x
    · rw [if_pos h]; simp [h]
    · rw [if_neg h]; simp [h]

/-- Mark. -/
def mkr (M : List Int) (x : Int) : List Int := if x < 0 ∨ 7 < x then M else mk M x
theorem mkr_asc {M : List Int} {x : Int} (h : Asc M) : Asc (mkr M x) := by
  unfold mkr
  split
  · exact h
  · exact mk_asc h (by omega) (by omega)

/-- Union of the first k. -/
def un (h : Nat → Int) : Nat → List Int
  | 0 => []
  | k + 1 => mkr (un h k) (h k)
theorem un_asc (h : Nat → Int) (k : Nat) : Asc (un h k) := by
  induction k with
  | zero => exact Asc.nil
  | succ k ih => exact mkr_asc ih
theorem un_congr {h g : Nat → Int} {k : Nat} (e : ∀ i, i < k → h i = g i) : un h k = un g k := by
  induction k with
  | zero => rfl
  | succ k ih => rw [un, un, ih (fun i hi => e i (by omega)), e k (by omega)]
end Go.Proofs.Ythbegalohfbibab

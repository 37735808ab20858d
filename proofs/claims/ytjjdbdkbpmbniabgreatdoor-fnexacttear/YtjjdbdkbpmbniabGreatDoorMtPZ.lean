/- What is known, read back from its bytes: plain arithmetic. -/
import Derived.Test.YtjjdbdkbpmbniabGreatDoorMtBZ
import Derived.Test.YtjjdbdkbpmbniabGreatDoorMofPZ

namespace Go.Proofs.YtjjdbdkbpmbniabGreatDoor
open Go.ChangeShapes Go.WideShapes Go.ChangeAt Go.RowKit
set_option linter.unusedVariables false
set_option linter.unusedSimpArgs false

theorem kts_add (n : Nat) (f : Nat → Int) (st : Option Int) (a b : Nat) : sts n f (sts n f st a) b = sts n f st (a + b) := by
  induction b with
  | zero => rfl
  | succ b ih => rw [sts, ih]; rfl
theorem kts_le (n : Nat) (f : Nat → Int) (st : Option Int) (c d : Nat) (h : sts n f st c = none) (hd : c ≤ d) : sts n f st d = none := by
  obtain ⟨e, rfl⟩ : ∃ e, d = c + e := ⟨d - c, by omega⟩
  rw [← kts_add, h, sts_none]
/-- A list with how many there are ahead of it, read. -/
def RlS (n : Nat) (f : Nat → Int) (st : Option Int) (G : List Int) : Prop :=
  rdv n f st = G.length ∧ (∀ i, i < G.length → rdv n f (sts n f st (1 + i)) = G.getD i 0) ∧ (sts n f st (1 + G.length)).isSome = true
theorem rls_one {n : Nat} {f : Nat → Int} {st : Option Int} {G G' : List Int} (h : RlS n f st G) (h' : RlS n f st G') : G = G' := by
  have hl : G.length = G'.length := by have := h.1; have := h'.1; omega
  refine List.ext_getElem? fun j => ?_
  by_cases hj : j < G.length
  · have hj' : j < G'.length := by omega
    have := (h.2.1 j hj).symm.trans (h'.2.1 j hj')
    simp only [List.getD, List.getElem?_eq_getElem hj, List.getElem?_eq_getElem hj', Option.getD_some] at this
    rw [List.getElem?_eq_getElem hj, List.getElem?_eq_getElem hj', this]
  · rw [List.getElem?_eq_none (by omega), List.getElem?_eq_none (by omega)]
def LR (n : Nat) (f : Nat → Int) (st : Option Int) (G : List Int) (st' : Option Int) : Prop :=
  (st'.isSome = true ∧ RlS n f st G ∧ st' = sts n f st (1 + G.length)) ∨ (st' = none ∧ ¬ ∃ G, RlS n f st G)
theorem lr_is {n : Nat} {f : Nat → Int} {st st' : Option Int} {G G' : List Int} (h : LR n f st G st') (h' : RlS n f st G') : G = G' ∧ st' = sts n f st (1 + G'.length) := by
  rcases h with ⟨_, h1, h2⟩ | ⟨_, h⟩
  · have e := rls_one h1 h'
    subst e
    exact ⟨rfl, h2⟩
  · exact absurd ⟨G', h'⟩ h
theorem lr_some {n : Nat} {f : Nat → Int} {st st' : Option Int} {G : List Int} (h : LR n f st G st') (h' : st'.isSome = true) : RlS n f st G ∧ st' = sts n f st (1 + G.length) := by
  rcases h with ⟨_, h1, h2⟩ | ⟨e, _⟩
  · exact ⟨h1, h2⟩
  · subst e; cases h'

theorem has_self (L : List Int) : Has L.length (fun i => L.getD i 0) 0 L := ⟨by omega, fun i _ => by rw [Nat.zero_add]⟩
theorem nums_inj : ∀ (l l' : List Int), (∀ x ∈ l, 0 ≤ x ∧ x ≤ 2147483647) → (∀ x ∈ l', 0 ≤ x ∧ x ≤ 2147483647) → nums l = nums l' → l = l'
  | [], [], _, _, _ => rfl
  | [], x :: l', _, _, h => by
    have h4 := mpb_pos 4 x
    rw [nums_cons, nums_nil] at h
    have h3 := congrArg List.length h
    rw [List.length_append] at h3
    simp only [List.length_nil] at h3
    omega
  | x :: l, [], _, _, h => by
    have h4 := mpb_pos 4 x
    rw [nums_cons, nums_nil] at h
    have h3 := congrArg List.length h
    rw [List.length_append] at h3
    simp only [List.length_nil] at h3
    omega
  | x :: l, x' :: l', h1, h2, h => by
    rw [nums_cons, nums_cons] at h
    have b1 := h1 x (by simp)
    have b2 := h2 x' (by simp)
    have r1 := ((has_self (pb 4 x ++ nums l)).num b1.1 b1.2).1
    have r2 := has_self (pb 4 x' ++ nums l')
    rw [← h] at r2
    have r2' := r2
    rw [h] at r2'
    have r3 := (Has.num (R := nums l') (by rw [h]; exact has_self _) b2.1 b2.2 : rdI (pb 4 x ++ nums l).length (fun i => (pb 4 x ++ nums l).getD i 0) ((0 : Nat) : Int) = some (x', ((0 + (pb 4 x').length : Nat) : Int)) ∧ _).1
    rw [r1] at r3
    simp only [Option.some.injEq, Prod.mk.injEq] at r3
    obtain ⟨rfl, _⟩ := r3
    have e := List.append_cancel_left h
    rw [nums_inj l l' (fun y hy => h1 y (by simp [hy])) (fun y hy => h2 y (by simp [hy])) e]
theorem lsq_inj {l l' r r' : List Int} (h : lsq l ++ r = lsq l' ++ r') : l = l' ∧ r = r' := by
  simp only [lsq, List.cons_append, List.cons.injEq] at h
  exact List.append_inj h.2 (by omega)
/-- The bytes of what is known. -/
def MtIs (B : List Int) (g : List Int) (L : Nat → List Int) (fi ol he : Bool) (la : Int) : Prop := MtOk g 3 L ol he la ∧ nums (mseq g L fi ol he la) = B
theorem mseq_eq (g : List Int) (L : Nat → List Int) (fi ol he : Bool) (la : Int) : mseq g L fi ol he la = lsq g ++ (lsq (L 0) ++ (lsq (L 1) ++ (lsq (L 2) ++ [flg fi ol he, la]))) := by simp [mseq, pre]
theorem flg_inj {a b c a' b' c' : Bool} (h : flg a b c = flg a' b' c') : a = a' ∧ b = b' ∧ c = c' := by
  revert h; cases a <;> cases b <;> cases c <;> cases a' <;> cases b' <;> cases c' <;> simp [flg, bi]
theorem mseq_inj {g g' : List Int} {L L' : Nat → List Int} {fi ol he fi' ol' he' : Bool} {la la' : Int} (h : mseq g L fi ol he la = mseq g' L' fi' ol' he' la') : g = g' ∧ (∀ i, i < 3 → L i = L' i) ∧ fi = fi' ∧ ol = ol' ∧ he = he' ∧ la = la' := by
  rw [mseq_eq, mseq_eq] at h
  obtain ⟨h1, h⟩ := lsq_inj h
  obtain ⟨h2, h⟩ := lsq_inj h
  obtain ⟨h3, h⟩ := lsq_inj h
  obtain ⟨h4, h⟩ := lsq_inj h
  simp only [List.cons.injEq, and_true] at h
  obtain ⟨e1, e2, e3⟩ := flg_inj h.1
  refine ⟨h1, fun i hi => ?_, e1, e2, e3, h.2⟩
  obtain rfl | rfl | rfl : i = 0 ∨ i = 1 ∨ i = 2 := by omega
  · exact h2
  · exact h3
  · exact h4
theorem mtis_one {B g g' : List Int} {L L' : Nat → List Int} {fi ol he fi' ol' he' : Bool} {la la' : Int} (h : MtIs B g L fi ol he la) (h' : MtIs B g' L' fi' ol' he' la') : g = g' ∧ (∀ i, i < 3 → L i = L' i) ∧ fi = fi' ∧ ol = ol' ∧ he = he' ∧ la = la' :=
  mseq_inj (nums_inj _ _ (mseq_mem h.1) (mseq_mem h'.1) (h.2.trans h'.2.symm))
/-- .. is read as it is. -/
theorem mtis_read {n : Nat} {f : Nat → Int} {g : List Int} {L : Nat → List Int} {fi ol he : Bool} {la : Int} (h : MtIs ((List.range n).map f) g L fi ol he la) :
    ∃ t : Nat, RlS n f (some 0) g ∧ RlS n f (sts n f (some 0) (1 + g.length)) (L 0) ∧ RlS n f (sts n f (sts n f (some 0) (1 + g.length)) (1 + (L 0).length)) (L 1) ∧
      RlS n f (sts n f (sts n f (sts n f (some 0) (1 + g.length)) (1 + (L 0).length)) (1 + (L 1).length)) (L 2) ∧ sts n f (sts n f (sts n f (sts n f (some 0) (1 + g.length)) (1 + (L 0).length)) (1 + (L 1).length)) (1 + (L 2).length) = sts n f (some 0) t ∧
      rdv n f (sts n f (some 0) t) = flg fi ol he ∧ rdv n f (sts n f (some 0) (t + 1)) = la ∧ (sts n f (some 0) (t + 2)).isSome = true := by
  have hh : Has n f 0 (nums (mseq g L fi ol he la) ++ []) := by
    rw [List.append_nil, h.2]
    refine ⟨by simp, fun i hi => ?_⟩
    have hi' : i < n := by simpa using hi
    simp [List.getD, hi']
  obtain ⟨i1, i2, _⟩ := hh.nums _ (mseq_mem h.1)
  have hsome : ∀ j, j ≤ (mseq g L fi ol he la).length → (sts n f (some 0) j).isSome = true := fun j hj => by obtain ⟨q, hq, _⟩ := i1 j hj; rw [show ((0 : Nat) : Int) = 0 from rfl] at hq; rw [hq]; rfl
  have hval : ∀ j, j < (mseq g L fi ol he la).length → rdv n f (sts n f (some 0) j) = (mseq g L fi ol he la).getD j 0 := fun j hj => i2 j hj
  have hcut : ∀ (A l R : List Int), mseq g L fi ol he la = A ++ (lsq l ++ R) → RlS n f (sts n f (some 0) A.length) l ∧ (sts n f (sts n f (some 0) A.length) (1 + l.length)) = sts n f (some 0) (A ++ lsq l).length := fun A l R e => by
    have hl := congrArg List.length e
    simp only [List.length_append, lsq_len] at hl
    refine ⟨⟨?_, fun i hi => ?_, ?_⟩, ?_⟩
    · rw [hval _ (by omega), e]; simp [List.getD, lsq]
    · rw [kts_add, hval _ (by omega), e]
      simp only [List.getD, lsq]
      rw [List.getElem?_append_right (by omega), List.getElem?_append_left (by simp; omega), show A.length + (1 + i) - A.length = i + 1 by omega, List.getElem?_cons_succ]
    · rw [kts_add]; exact hsome _ (by omega)
    · rw [kts_add]; congr 1; simp [lsq_len]; omega
  have e := mseq_eq g L fi ol he la
  obtain ⟨a1, a2⟩ := hcut [] g _ e
  obtain ⟨b1, b2⟩ := hcut (lsq g) (L 0) _ e
  obtain ⟨c1, c2⟩ := hcut (lsq g ++ lsq (L 0)) (L 1) (lsq (L 2) ++ [flg fi ol he, la]) (by rw [e]; simp)
  obtain ⟨d1, d2⟩ := hcut (lsq g ++ lsq (L 0) ++ lsq (L 1)) (L 2) [flg fi ol he, la] (by rw [e]; simp)
  simp only [List.nil_append, List.length_nil] at a1 a2
  have a1' : RlS n f (some 0) g := a1
  have a2' : sts n f (some 0) (1 + g.length) = sts n f (some 0) (lsq g).length := a2
  rw [← a2'] at b1 b2
  rw [← b2] at c1 c2
  rw [← c2] at d1 d2
  refine ⟨(lsq g ++ lsq (L 0) ++ lsq (L 1) ++ lsq (L 2)).length, a1', b1, c1, d1, d2, ?_, ?_, ?_⟩
  all_goals
    have e' : mseq g L fi ol he la = (lsq g ++ lsq (L 0) ++ lsq (L 1) ++ lsq (L 2)) ++ [flg fi ol he, la] := by rw [e]; simp
    generalize lsq g ++ lsq (L 0) ++ lsq (L 1) ++ lsq (L 2) = A at *
  · rw [hval _ (by rw [e']; simp), e']
    simp [List.getD]
  · rw [hval _ (by rw [e']; simp), e']
    simp [List.getD]
  · exact hsome _ (by rw [e']; simp)
end Go.Proofs.YtjjdbdkbpmbniabGreatDoor

/- Messages read one behind the other: plain words. -/
import Derived.Test.YtkeojhnifnkpiaaPckSZ
import Derived.Test.YtkeojhnifnkpiaaSprSZ
import Derived.Test.YtkeojhnifnkpiaaSprIZ

namespace Go.Proofs.Ytkeojhnifnkpiaa
open Go.ChangeShapes Go.WideShapes Go.ChangeAt Go.RowKit
set_option linter.unusedVariables false
set_option linter.unusedSimpArgs false
set_option maxRecDepth 100000

/-- The message m begins at p. -/
def BgM (n : Nat) (f : Nat → Int) (p : Int) (m : Mg) : Prop := Begins n f p m.k m.c m.v m.h m.g
theorem bgm_one {n : Nat} {f : Nat → Int} {p : Int} {m m' : Mg} (h : BgM n f p m) (h' : BgM n f p m') : m = m' := by
  obtain ⟨e1, e2, e3, e4, e5⟩ := begins_one h h'
  cases m; cases m'
  simp_all
theorem bgm_len {n : Nat} {f : Nat → Int} {p : Nat} {m : Mg} (h : BgM n f (p : Int) m) : 0 < (mby m).length ∧ p + (mby m).length ≤ n := by
  refine ⟨mb_pos h.2.1, ?_⟩
  have := h.2.2.1
  rw [show ((p : Int)).toNat = p by omega] at this
  exact this
/-- The first j of M lie one behind the other from 0 on. -/
def Prs (n : Nat) (f : Nat → Int) (M : Nat → Mg) (j : Nat) : Prop := ∀ i, i < j → BgM n f ((frs M i).length : Nat) (M i)
theorem frs_congr {M M' : Nat → Mg} {j : Nat} (h : ∀ i, i < j → M i = M' i) : frs M j = frs M' j := by
  induction j with
  | zero => rfl
  | succ j ih => simp only [frs]; rw [ih (fun i hi => h i (by omega)), h j (by omega)]
theorem Prs.congr {n : Nat} {f : Nat → Int} {M M' : Nat → Mg} {j : Nat} (h : Prs n f M j) (e : ∀ i, i < j → M i = M' i) : Prs n f M' j := fun i hi => by
  rw [← e i hi, ← frs_congr (j := i) (fun t ht => e t (by omega))]
  exact h i hi
/-- M with m at j. -/
def setM (M : Nat → Mg) (j : Nat) (m : Mg) (i : Nat) : Mg := if i = j then m else M i
theorem setM_at (M : Nat → Mg) (j : Nat) (m : Mg) : setM M j m j = m := by simp [setM]
theorem setM_lt (M : Nat → Mg) (j : Nat) (m : Mg) : ∀ i, i < j → M i = setM M j m i := fun i hi => by simp [setM, show ¬ i = j by omega]
theorem frs_set (M : Nat → Mg) (j : Nat) (m : Mg) : frs (setM M j m) (j + 1) = frs M j ++ mby m := by
  simp only [frs]
  rw [setM_at, ← frs_congr (setM_lt M j m)]
theorem Prs.step {n : Nat} {f : Nat → Int} {M : Nat → Mg} {j : Nat} {m : Mg} (h : Prs n f M j) (hb : BgM n f ((frs M j).length : Nat) m) : Prs n f (setM M j m) (j + 1) := fun i hi => by
  by_cases e : i = j
  · subst e
    rw [setM_at, ← frs_congr (setM_lt M i m)]
    exact hb
  · exact (h.congr (setM_lt M j m)) i (by omega)
theorem Prs.le {n : Nat} {f : Nat → Int} {M : Nat → Mg} {j : Nat} (h : Prs n f M j) : j ≤ (frs M j).length ∧ (frs M j).length ≤ n := by
  induction j with
  | zero => exact ⟨Nat.le_refl _, Nat.zero_le _⟩
  | succ j ih =>
    obtain ⟨h1, h2⟩ := ih (fun i hi => h i (by omega))
    obtain ⟨g1, g2⟩ := bgm_len (h j (by omega))
    simp only [frs, List.length_append]
    omega
theorem prs_one {n : Nat} {f : Nat → Int} {M M' : Nat → Mg} {j k : Nat} (h : Prs n f M j) (h' : Prs n f M' k) (hj : j ≤ k) : ∀ i, i < j → M i = M' i := by
  intro i
  induction i using Nat.strongRecOn with
  | _ i ih =>
    intro hi
    have e : frs M i = frs M' i := frs_congr fun t ht => ih t ht (by omega)
    have h2 := h' i (by omega)
    rw [← e] at h2
    exact bgm_one (h i hi) h2
/-- All of it is messages. -/
def All (n : Nat) (f : Nat → Int) (M : Nat → Mg) (k : Nat) : Prop := Prs n f M k ∧ (frs M k).length = n
theorem all_one {n : Nat} {f : Nat → Int} {M M' : Nat → Mg} {k k' : Nat} (h : All n f M k) (h' : All n f M' k') : k = k' ∧ ∀ i, i < k → M i = M' i := by
  have key : ∀ {M M' : Nat → Mg} {k k' : Nat}, All n f M k → All n f M' k' → k ≤ k' → k = k' := by
    intro M M' k k' h h' hle
    by_cases e : k = k'
    · exact e
    · have e1 := frs_congr (prs_one h.1 h'.1 hle)
      obtain ⟨g1, g2⟩ := bgm_len (h'.1 k (by omega))
      rw [← e1, h.2] at g2
      omega
  have ek : k = k' := by
    rcases Nat.le_total k k' with h1 | h1
    · exact key h h' h1
    · exact (key h' h h1).symm
  subst ek
  exact ⟨rfl, prs_one h.1 h'.1 (Nat.le_refl _)⟩
/-- Where none begins behind the first j of them, and there is more, it is not all messages. -/
theorem all_no {n : Nat} {f : Nat → Int} {M : Nat → Mg} {j : Nat} (h : Prs n f M j) (hl : (frs M j).length < n) (hno : ¬ ∃ m, BgM n f ((frs M j).length : Nat) m) : ¬ ∃ M' k, All n f M' k := by
  rintro ⟨M', k, hA⟩
  by_cases hjk : j < k
  · have e := frs_congr (prs_one h hA.1 (by omega))
    exact hno ⟨M' j, by rw [e]; exact hA.1 j hjk⟩
  · have hk : k ≤ j := by omega
    have e := frs_congr (prs_one hA.1 h hk)
    have h1 := hA.2
    rw [e] at h1
    by_cases e2 : k = j
    · subst e2; omega
    · obtain ⟨g1, g2⟩ := bgm_len (h k (by omega))
      omega
/-- The bytes that are all messages are the messages' bytes. -/
theorem Prs.at {n : Nat} {f : Nat → Int} {M : Nat → Mg} {j : Nat} (h : Prs n f M j) : ∀ t, t < (frs M j).length → (frs M j).getD t 0 = f t := by
  induction j with
  | zero => intro t ht; simp [frs] at ht
  | succ j ih =>
    intro t ht
    have h0 : Prs n f M j := fun i hi => h i (by omega)
    simp only [frs, List.length_append] at ht ⊢
    by_cases hlt : t < (frs M j).length
    · rw [← ih h0 t hlt]
      simp [List.getD, List.getElem?_append_left hlt]
    · have hb := (h j (by omega)).2.2.2 (t - (frs M j).length) (by
        show t - (frs M j).length < (mby (M j)).length
        omega)
      rw [show (((frs M j).length : Nat) : Int).toNat + (t - (frs M j).length) = t by omega] at hb
      rw [hb]
      simp only [List.getD]
      rw [List.getElem?_append_right (by omega)]
      rfl
theorem All.eq {n : Nat} {f : Nat → Int} {M : Nat → Mg} {k : Nat} (h : All n f M k) : frs M k = (List.range n).map f := by
  refine List.ext_getElem? fun t => ?_
  by_cases ht : t < n
  · have := h.1.at t (by rw [h.2]; exact ht)
    rw [List.getElem?_eq_getElem (by rw [h.2]; exact ht)]
    simp only [List.getD] at this
    rw [List.getElem?_eq_getElem (by rw [h.2]; exact ht)] at this
    simp only [Option.getD_some] at this
    simp [ht, this]
  · rw [List.getElem?_eq_none (by rw [h.2]; omega), List.getElem?_eq_none (by simp; omega)]

/-- L is the messages packed: the k of M. -/
def Upk (L : List Int) (M : Nat → Mg) (k : Nat) : Prop := ∃ F, spread L = some F ∧ All F.length (fun i => F.getD i 0) M k ∧ pck M k = L
theorem upk_one {L : List Int} {M M' : Nat → Mg} {k k' : Nat} (h : Upk L M k) (h' : Upk L M' k') : k = k' ∧ ∀ i, i < k → M i = M' i := by
  obtain ⟨F, h1, h2, _⟩ := h
  obtain ⟨F', g1, g2, _⟩ := h'
  rw [h1] at g1
  cases g1
  exact all_one h2 g2
theorem spread_le {L F : List Int} (h : spread L = some F) : F.length ≤ 3000 := by
  unfold spread at h
  split at h
  · cases h
  · split at h
    · cases h
    · cases h; omega
end Go.Proofs.Ytkeojhnifnkpiaa

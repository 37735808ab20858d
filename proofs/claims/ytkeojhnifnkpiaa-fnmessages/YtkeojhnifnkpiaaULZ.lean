/- A list of messages that is built by append. -/
import Derived.Test.YtkeojhnifnkpiaaUpPZ
import Derived.Test.YtkeojhnifnkpiaaOwnTZ

namespace Go.Proofs.Ytkeojhnifnkpiaa
open Go.ChangeShapes Go.WideShapes Go.ChangeAt Go.RowKit
set_option linter.unusedVariables false
set_option linter.unusedSimpArgs false
set_option maxRecDepth 100000

def mcell (m : Mg) (r : Option Addr × Nat) : List Value := [.int .i64 m.k, .int .i64 m.c, .int .i64 m.v, .int .i64 m.h, .slice r.1 m.g.length r.2]
def mcells (M : Nat → Mg) (R : Nat → Option Addr × Nat) : Nat → List Value
  | 0 => []
  | j + 1 => mcells M R j ++ mcell (M j) (R j)
theorem mcells_len (M : Nat → Mg) (R : Nat → Option Addr × Nat) (j : Nat) : (mcells M R j).length = j * 5 := by
  induction j with
  | zero => rfl
  | succ j ih => simp [mcells, mcell, ih]; omega
theorem mcells_at (M : Nat → Mg) (R : Nat → Option Addr × Nat) (n i t : Nat) (hi : i < n) (ht : t < 5) : (mcells M R n)[i * 5 + t]? = (mcell (M i) (R i))[t]? := by
  induction n with
  | zero => omega
  | succ n ih =>
    have hl := mcells_len M R n
    simp only [mcells]
    by_cases e : i = n
    · subst e
      rw [List.getElem?_append_right (by omega), hl, Nat.add_sub_cancel_left]
    · rw [List.getElem?_append_left (by omega)]
      exact ih (by omega)
theorem mcells_congr {M M' : Nat → Mg} {R R' : Nat → Option Addr × Nat} {n : Nat} (h : ∀ i, i < n → M i = M' i ∧ R i = R' i) : mcells M R n = mcells M' R' n := by
  induction n with
  | zero => rfl
  | succ n ih => simp only [mcells]; rw [ih (fun i hi => h i (by omega)), (h n (by omega)).1, (h n (by omega)).2]

/-- The numbers of each of them lie in a row of its own, away from the list. -/
def UG (w : World) (B : Nat) (blk : Option Nat) (n : Nat) (M : Nat → Mg) (R : Nat → Option Addr × Nat) : Prop :=
  ∀ i, i < n → ((M i).g.length ≤ (R i).2 ∧ Own w B 3 (R i).1 (M i).g.length (fun j => .int .i64 ((M i).g.getD j 0))) ∧
    ∀ γ, (R i).1 = some ⟨γ, 0, none⟩ → 0 < (M i).g.length → (γ < w.heap.size ∧ blk ≠ some γ) ∧ ∀ j, j < n → j ≠ i → 0 < (M j).g.length → (R j).1 ≠ some ⟨γ, 0, none⟩
def UL (w : World) (B : Nat) (v : Value) (n : Nat) (M : Nat → Mg) (R : Nat → Option Addr × Nat) : Prop :=
  w.ownsRow B 40 5 v n (mcells M R n) ∧ UG w B v.ownBlock n M R
theorem UL.nil {w : World} {B : Nat} {M : Nat → Mg} {R : Nat → Option Addr × Nat} : UL w B (.slice none 0 0) 0 M R := ⟨⟨rfl, .inl ⟨rfl, rfl⟩⟩, fun i hi => absurd hi (Nat.not_lt_zero _)⟩
theorem UL.empty {w : World} {B : Nat} {M : Nat → Mg} {R : Nat → Option Addr × Nat} (hB : B ≤ w.heap.size) : UL (w.alloc (.cells #[] 40)) B (.slice (some ⟨w.heap.size, 0, none⟩) 0 0) 0 M R :=
  ⟨⟨rfl, .inr ⟨_, _, #[], rfl, hB, Deep.blk_alloc_new _ _, by simp, by simp, by simp, by simp [mcells]⟩⟩, fun i hi => absurd hi (Nat.not_lt_zero _)⟩
theorem UL.below {w w' : World} {B n : Nat} {v : Value} {M : Nat → Mg} {R : Nat → Option Addr × Nat} (h : UL w B v n M R) (hb : Below w.heap.size w w') : UL w' B v n M R :=
  ⟨gbelow h.1 hb, fun i hi => ⟨⟨(h.2 i hi).1.1, (h.2 i hi).1.2.below hb⟩, fun γ e hp => ⟨⟨Nat.lt_of_lt_of_le ((h.2 i hi).2 γ e hp).1.1 hb.size, ((h.2 i hi).2 γ e hp).1.2⟩, ((h.2 i hi).2 γ e hp).2⟩⟩⟩
theorem UL.mono {w : World} {B B' n : Nat} {v : Value} {M : Nat → Mg} {R : Nat → Option Addr × Nat} (h : UL w B v n M R) (hB : B' ≤ B) : UL w B' v n M R := by
  refine ⟨gmono h.1 hB, fun i hi => ⟨⟨(h.2 i hi).1.1, ?_⟩, (h.2 i hi).2⟩⟩
  rcases (h.2 i hi).1.2 with h0 | ⟨γ, e, hg, r⟩
  · exact .inl h0
  · exact .inr ⟨γ, e, Nat.le_trans hB hg, r⟩
/-- R with r at j. -/
def setR (R : Nat → Option Addr × Nat) (j : Nat) (r : Option Addr × Nat) (i : Nat) : Option Addr × Nat := if i = j then r else R i

/-- Behind an append of one message: w1 is the world ahead of it, H what was there ahead of the message's own numbers. -/
theorem UL.push {w1 w2 : World} {B H n cap g : Nat} {v : Value} {M : Nat → Mg} {R : Nat → Option Addr × Nat} {m : Mg} {r : Option Addr × Nat} (h : UL w1 B v n M R) (hH : ∀ k, v.ownBlock = some k → k < H) (hHs : ∀ i, i < n → ∀ γ, (R i).1 = some ⟨γ, 0, none⟩ → 0 < (M i).g.length → γ < H) (hBH : B ≤ H)
    (hr : m.g.length ≤ r.2) (ho : Own w1 H 3 r.1 m.g.length (fun j => .int .i64 (m.g.getD j 0)))
    (hown : w2.ownsRow B 40 5 (.slice (some ⟨g, 0, none⟩) (n + 1) cap) (n + 1) (mcells M R n ++ mcell m r)) (hg : w1.grownBy w2 v.ownBlock) (hat : v.ownBlock = some g ∨ g = w1.heap.size) :
    UL w2 B (.slice (some ⟨g, 0, none⟩) (n + 1) cap) (n + 1) (setM M n m) (setR R n r) := by
  have keepO : ∀ {ao : Option Addr} {l B' : Nat} {F : Nat → Value}, Own w1 B' 3 ao l F → (∀ γ, ao = some ⟨γ, 0, none⟩ → 0 < l → v.ownBlock ≠ some γ) → Own w2 B' 3 ao l F := by
    intro ao l B' F ho hne
    rcases ho with h0 | ⟨γ, e, hB, cs, hcs, hl, hF⟩
    · exact .inl h0
    · by_cases h0 : l = 0
      · exact .inl h0
      · exact .inr ⟨γ, e, hB, cs, (hg.block γ (Array.getElem?_eq_some_iff.1 hcs).1 (fun e2 => hne γ e (by omega) e2.symm)).trans hcs, hl, hF⟩
  have hnew : ∀ γ, r.1 = some ⟨γ, 0, none⟩ → 0 < m.g.length → H ≤ γ ∧ γ < w1.heap.size := fun γ e hp => by
    obtain ⟨γ', e', hB', hlt, _⟩ := ho.at hp
    rw [e] at e'
    cases e'
    exact ⟨hB', hlt⟩
  have hnv : ∀ γ, r.1 = some ⟨γ, 0, none⟩ → 0 < m.g.length → v.ownBlock ≠ some γ := fun γ e hp e2 => by
    have := hnew γ e hp
    have := hH γ e2
    omega
  refine ⟨?_, fun i hi => ?_⟩
  · have e : mcells (setM M n m) (setR R n r) (n + 1) = mcells M R n ++ mcell m r := by
      simp only [mcells]
      rw [← mcells_congr (M := M) (R := R) (fun i hi => ⟨setM_lt M n m i hi, by simp [setR, show ¬ i = n by omega]⟩)]
      simp [setM, setR]
    rw [e]
    exact hown
  · by_cases e : i = n
    · subst e
      simp only [setM_at, setR, if_true]
      refine ⟨⟨hr, (show Own w2 B 3 r.1 _ _ from ?_)⟩, fun γ e2 hp => ⟨⟨Nat.lt_of_lt_of_le (hnew γ e2 hp).2 hg.size, fun e3 => ?_⟩, fun j hj hne hpj e3 => ?_⟩⟩
      · rcases keepO ho hnv with h0 | ⟨γ, e, hB', rr⟩
        · exact .inl h0
        · exact .inr ⟨γ, e, by omega, rr⟩
      · simp only [Value.ownBlock, Option.some.injEq] at e3
        rcases hat with h1 | h1
        · exact hnv γ e2 hp (by rw [h1, e3])
        · have := (hnew γ e2 hp).2; omega
      · rw [if_neg hne] at e3
        have := hHs j (by omega) γ e3 (by rw [setM_lt M i m j (by omega)]; exact hpj)
        have := (hnew γ e2 hp).1
        omega
    · have hin : i < n := by omega
      have hMi : setM M n m i = M i := (setM_lt M n m i hin).symm
      have hRi : setR R n r i = R i := by simp [setR, e]
      rw [hMi, hRi]
      obtain ⟨⟨h1, h2⟩, h3⟩ := h.2 i hin
      refine ⟨⟨h1, keepO h2 (fun γ e2 hp => (h3 γ e2 hp).1.2)⟩, fun γ e2 hp => ⟨⟨Nat.lt_of_lt_of_le (h3 γ e2 hp).1.1 hg.size, fun e3 => ?_⟩, fun j hj hne hpj => ?_⟩⟩
      · simp only [Value.ownBlock, Option.some.injEq] at e3
        rcases hat with h4 | h4
        · exact (h3 γ e2 hp).1.2 (by rw [h4, e3])
        · have := (h3 γ e2 hp).1.1; omega
      · by_cases ej : j = n
        · subst ej
          simp only [setR, if_true]
          intro e4
          rw [setM_at] at hpj
          have := (hnew γ e4 hpj).1
          have := hHs i hin γ e2 hp
          omega
        · rw [show setR R n r j = R j by simp [setR, ej]]
          exact (h3 γ e2 hp).2 j (by omega) hne (by rw [setM_lt M n m j (by omega)]; exact hpj)

theorem UL.form {w : World} {B n : Nat} {v : Value} {M : Nat → Mg} {R : Nat → Option Addr × Nat} (h : UL w B v n M R) : ∃ ao cap, v = .slice ao n cap ∧ n ≤ cap ∧ (n = 0 ∨ ∃ g c, ao = some ⟨g, 0, none⟩ ∧ OM w B w.heap.size g n M c R) := by
  rcases h.1.2 with ⟨e, h0⟩ | ⟨g, cap, cur, e, hB, hc, hn, hm, hs, ht⟩
  · subst h0; exact ⟨none, 0, e, Nat.le_refl _, .inl rfl⟩
  · refine ⟨_, cap, e, hn, .inr ⟨g, cur, rfl, ⟨hB, (Array.getElem?_eq_some_iff.1 hc).1, Nat.le_refl _⟩, hc, by rw [hs]; exact Nat.mul_le_mul_right 5 hn, fun i hi => ?_⟩⟩
    have hat : ∀ t, t < 5 → cur[i * 5 + t]? = (mcell (M i) (R i))[t]? := fun t ht5 => by
      rw [← mcells_at M R n i t hi ht5, ← ht, List.getElem?_take, if_pos (by omega), Array.getElem?_toList]
    obtain ⟨⟨h1, h2⟩, h3⟩ := h.2 i hi
    refine ⟨⟨hat 0 (by omega), hat 1 (by omega), hat 2 (by omega), hat 3 (by omega), hat 4 (by omega)⟩, h1, h2, fun γ e2 hp => ⟨⟨(h3 γ e2 hp).1.1, fun e3 => (h3 γ e2 hp).1.2 (by rw [e, e3]; rfl)⟩, (h3 γ e2 hp).2⟩⟩
theorem UL.msl {w : World} {B n : Nat} {v : Value} {M : Nat → Mg} {R : Nat → Option Addr × Nat} {ao : Option Addr} {cap : Nat} (h : UL w B v n M R) (e : v = .slice ao n cap) : MSL w ao n M := by
  obtain ⟨ao', cap', e', _, h0 | ⟨g, c, e2, ho⟩⟩ := h.form
  · subst h0; exact fun i hi => absurd hi (Nat.not_lt_zero _)
  · rw [e] at e'; cases e'
    rw [e2]
    exact ho.msl
end Go.Proofs.Ytkeojhnifnkpiaa

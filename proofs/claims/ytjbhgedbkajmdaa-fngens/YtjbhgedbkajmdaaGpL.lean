/- What GenPush answers (pure). -/
import Derived.Test.YtjbhgedbkajmdaaGpM
import Derived.Test.YtjbhgedbkajmdaaGenS
namespace Go.Proofs.Ytjbhgedbkajmdaa
open Go.ChangeShapes Go.WideShapes Go.ChangeAt Go.RowKit
set_option linter.unusedVariables false
set_option linter.unusedSimpArgs false

/-- One ahead of the others. -/
def ahead (x : Int) (f : Nat → Int) (i : Nat) : Int := match i with
  | 0 => x
  | j + 1 => f j
theorem gok_laid {f F : Nat → Int} {m : Nat} (h : ∀ i, i < m → ((Fst f i → F i = f i) ∧ (¬ Fst f i → F i = 0))) : (GOk F m ↔ GOk f m) ∧ (GOk f m → ∀ i, i < m → F i = f i) := by
  have key : (∀ i, i < m → Fst f i) → ∀ i, i < m → F i = f i := fun hh i hi => (h i hi).1 (hh i hi)
  have same : (∀ i, i < m → F i = f i) → (GIn F m ↔ GIn f m) := fun hh =>
    ⟨fun g i hi => ⟨by rw [← hh i hi]; exact (g i hi).1, fun j hj => by rw [← hh i hi, ← hh j (by omega)]; exact (g i hi).2 j hj⟩,
     fun g i hi => ⟨by rw [hh i hi]; exact (g i hi).1, fun j hj => by rw [hh i hi, hh j (by omega)]; exact (g i hi).2 j hj⟩⟩
  refine ⟨⟨fun g => ⟨g.1, ?_⟩, fun g => ⟨g.1, (same (key fun i hi => (g.2 i hi).2)).2 g.2⟩⟩, fun g => key fun i hi => (g.2 i hi).2⟩
  have hh : ∀ i, i < m → Fst f i := fun i hi => Classical.byContradiction fun hn => by
    have h0 := (h i hi).2 hn
    have := (g.2 i hi).1
    omega
  exact (same (key hh)).1 g.2
theorem gok_congr {f g : Nat → Int} {n : Nat} (h : ∀ i, i < n → f i = g i) : GOk f n ↔ GOk g n := by
  unfold GOk GIn
  constructor
  · rintro ⟨a, b⟩
    exact ⟨a, fun i hi => ⟨by rw [← h i hi]; exact (b i hi).1, fun j hj => by rw [← h i hi, ← h j (by omega)]; exact (b i hi).2 j hj⟩⟩
  · rintro ⟨a, b⟩
    exact ⟨a, fun i hi => ⟨by rw [h i hi]; exact (b i hi).1, fun j hj => by rw [h i hi, h j (by omega)]; exact (b i hi).2 j hj⟩⟩

/-- One pushed onto others, cut off behind the twelfth. -/
def psh (x : Int) (L : List Int) : List Int := (x :: L).take 12
/-- What GenPush answers. -/
def gpl (D : (p : Prop) → Decidable p) (x : Int) (L : List Int) : List Int := @ite _ (GOk (fun i => (psh x L).getD i 0) (psh x L).length) (D _) (psh x L) L
theorem gpl_yes {D : (p : Prop) → Decidable p} {x : Int} {L : List Int} (h : GOk (fun i => (psh x L).getD i 0) (psh x L).length) : gpl D x L = psh x L := by
  unfold gpl; rw [@if_pos _ (D _) h]
theorem gpl_no {D : (p : Prop) → Decidable p} {x : Int} {L : List Int} (h : ¬ GOk (fun i => (psh x L).getD i 0) (psh x L).length) : gpl D x L = L := by
  unfold gpl; rw [@if_neg _ (D _) h]
theorem psh_len (x : Int) (L : List Int) : (psh x L).length = min (L.length + 1) 12 := by simp [psh]; omega
theorem psh_at (x : Int) (L : List Int) (i : Nat) (h : i < 12) : (psh x L).getD i 0 = ahead x (fun j => L.getD j 0) i := by
  unfold psh ahead
  cases i with
  | zero => simp
  | succ j => simp [List.getD, List.getElem?_take, h, show j < 11 by omega]
theorem gpl_or {D : (p : Prop) → Decidable p} (x : Int) (L : List Int) : gpl D x L = psh x L ∨ gpl D x L = L := by
  rcases Classical.em (GOk (fun i => (psh x L).getD i 0) (psh x L).length) with h | h
  · exact .inl (gpl_yes h)
  · exact .inr (gpl_no h)
theorem two_len {M L : List Int} {x : Int} (h : M = psh x L ∨ M = L) : M.length ≤ max 12 L.length := by
  rcases h with rfl | rfl
  · rw [psh_len]; omega
  · omega
theorem gpl_len {D : (p : Prop) → Decidable p} (x : Int) (L : List Int) : (gpl D x L).length ≤ max 12 L.length := two_len (gpl_or x L)
end Go.Proofs.Ytjbhgedbkajmdaa

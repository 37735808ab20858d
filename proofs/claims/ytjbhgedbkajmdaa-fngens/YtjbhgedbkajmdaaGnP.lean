/- Generations as lists (pure): what FnGens wants. -/
import Derived.Test.YtjbhgedbkajmdaaGpL
import Derived.Test.YtjbhgedbkajmdaaNwP
namespace Go.Proofs.Ytjbhgedbkajmdaa
open Go.ChangeShapes Go.WideShapes Go.ChangeAt Go.RowKit
set_option linter.unusedVariables false
set_option linter.unusedSimpArgs false

/-- A list that is GensOk. -/
def LGo (L : List Int) : Prop := GOk (fun i => L.getD i 0) L.length
theorem getD_at {L : List Int} {i : Nat} (h : i < L.length) : L.getD i 0 = L[i] := by simp [List.getD, h]
theorem lgo_iff (L : List Int) : LGo L ↔ L.length ≤ 12 ∧ (∀ y ∈ L, 1 ≤ y ∧ y ≤ 100000) ∧ L.Nodup := by
  constructor
  · rintro ⟨h1, h2⟩
    refine ⟨h1, fun y hy => ?_, ?_⟩
    · obtain ⟨i, hi, rfl⟩ := List.getElem_of_mem hy
      have := (h2 i hi).1
      simp only [getD_at hi] at this
      exact this
    · rw [List.nodup_iff_pairwise_ne, List.pairwise_iff_getElem]
      intro i j hi hj hij
      have := (h2 j hj).2 i hij
      simp only [getD_at hi, getD_at hj] at this
      exact this
  · rintro ⟨h1, h2, h3⟩
    refine ⟨h1, fun i hi => ⟨?_, fun j hj => ?_⟩⟩
    · simp only [getD_at hi]
      exact h2 _ (List.getElem_mem hi)
    · rw [List.nodup_iff_pairwise_ne, List.pairwise_iff_getElem] at h3
      have hj' : j < L.length := by omega
      simp only [getD_at hi, getD_at hj']
      exact h3 j i hj' hi hj

theorem lgo_push {x : Int} {L : List Int} (h : LGo L) (hx : x ∉ L) (h0 : 1 ≤ x) (h1 : x ≤ 100000) : LGo (psh x L) := by
  rw [lgo_iff] at h ⊢
  refine ⟨by rw [psh_len]; omega, fun y hy => ?_, ?_⟩
  · rcases List.mem_cons.1 (List.mem_of_mem_take hy) with rfl | hm
    · exact ⟨h0, h1⟩
    · exact h.2.1 y hm
  · exact List.Sublist.nodup (List.take_sublist _ _) (List.nodup_cons.2 ⟨hx, h.2.2⟩)
theorem head_psh (x : Int) (L : List Int) : x ∈ psh x L := by simp [psh]
theorem lgo_not_range {x : Int} {L : List Int} (h : x < 1 ∨ 100000 < x) : ¬ LGo (psh x L) := fun hl => by
  have := ((lgo_iff _).1 hl).2.1 x (head_psh x L); omega
theorem lgo_not_in {x : Int} {L : List Int} (h : x ∈ L) (hl : L.length ≤ 11) : ¬ LGo (psh x L) := fun hg => by
  have h3 := ((lgo_iff _).1 hg).2.2
  rw [psh, List.take_of_length_le (by simp; omega)] at h3
  exact (List.nodup_cons.1 h3).1 h
theorem gpl_go {D : (p : Prop) → Decidable p} {x : Int} {L : List Int} (h : LGo L) : LGo (gpl D x L) := by
  rcases Classical.em (LGo (psh x L)) with hp | hp
  · rw [gpl_yes hp]; exact hp
  · rw [gpl_no hp]; exact h
theorem psh_mem {x z : Int} {L : List Int} (h : z ∈ psh x L) : z = x ∨ z ∈ L := List.mem_cons.1 (List.mem_of_mem_take h)
theorem gpl_mem {D : (p : Prop) → Decidable p} {x z : Int} {L : List Int} (h : z ∈ gpl D x L) : z = x ∨ z ∈ L := by
  rcases gpl_or (D := D) x L with e | e
  · rw [e] at h; exact psh_mem h
  · rw [e] at h; exact .inr h
theorem two_len1 {M L : List Int} {x : Int} (h : M = psh x L ∨ M = L) : M.length ≤ L.length + 1 := by
  rcases h with rfl | rfl
  · rw [psh_len]; omega
  · omega
theorem gpl_len1 {D : (p : Prop) → Decidable p} (x : Int) (L : List Int) : (gpl D x L).length ≤ L.length + 1 := two_len1 (gpl_or x L)

/-- What is drawn: few of them, or none but those from 20 to 31. -/
def GDr (L : List Int) : Prop := (L.length ≤ 4 ∨ ∀ y ∈ L, 20 ≤ y ∧ y < 32) ∧ L.length ≤ 12 ∧ ∀ y ∈ L, -1 ≤ y ∧ y ≤ 100001
/-- While twelve are pushed. -/
def GJ (i : Nat) (L : List Int) : Prop := LGo L ∧ (∀ y ∈ L, y < 20 + i) ∧ ∀ j, j < i → j < L.length → 20 ≤ L.getD j 0
theorem GJ.step0 {i : Nat} {L : List Int} (h : GJ i L) (hi : i < 12) : LGo (psh (20 + i) L) ∧ GJ (i + 1) (psh (20 + i) L) := by
  obtain ⟨h1, h2, h3⟩ := h
  have hp : LGo (psh (20 + i) L) := lgo_push h1 (fun hm => by have := h2 _ hm; omega) (by omega) (by omega)
  refine ⟨hp, hp, fun y hy => ?_, fun j hj hl => ?_⟩
  · rcases psh_mem hy with rfl | hm
    · omega
    · have := h2 y hm; omega
  · rw [psh_len] at hl
    rw [psh_at _ _ _ (by omega)]
    cases j with
    | zero => simp only [ahead]; omega
    | succ j => simp only [ahead]; exact h3 j (by omega) (by omega)
theorem GJ.step {D : (p : Prop) → Decidable p} {i : Nat} {L : List Int} (h : GJ i L) (hi : i < 12) : GJ (i + 1) (gpl D (20 + i) L) := by
  rw [gpl_yes (h.step0 hi).1]; exact (h.step0 hi).2
theorem GJ.end {L : List Int} (h : GJ 12 L) : GDr L := by
  obtain ⟨h1, h2, h3⟩ := h
  have hl := ((lgo_iff L).1 h1).1
  have : ∀ y ∈ L, 20 ≤ y ∧ y < 32 := fun y hy => by
    obtain ⟨i, hi, rfl⟩ := List.getElem_of_mem hy
    have a := h3 i (by omega) hi
    rw [getD_at hi] at a
    have b := h2 _ (List.getElem_mem hi)
    exact ⟨a, by omega⟩
  exact ⟨.inr this, hl, fun y hy => by have := this y hy; omega⟩

/-- What is pushed where it may not be: nothing. -/
theorem gpl_same {D : (p : Prop) → Decidable p} {x : Int} {L : List Int} (hd : GDr L) (hx : x ∈ [1, 9, 50, 0, 100001]) (h : x ∈ L ∨ x < 1 ∨ 100000 < x) : gpl D x L = L := by
  refine gpl_no ?_
  clear D
  rcases h with h | h
  · refine lgo_not_in h ?_
    rcases hd.1 with h4 | h20
    · omega
    · have := h20 x h
      simp at hx
      omega
  · exact lgo_not_range h
/-- What is pushed elsewhere is ahead of it, and newer. -/
theorem gpl_newer {D : (p : Prop) → Decidable p} {x : Int} {L : List Int} (hl : LGo L) (hx : x ∉ L) (h0 : 1 ≤ x) (h1 : x ≤ 100000) : LGo (gpl D x L) ∧ (gpl D x L).getD 0 0 = x ∧ 0 < (gpl D x L).length ∧
    (0 < L.length → NewIs (fun i => (gpl D x L).getD i 0) (fun i => L.getD i 0) (gpl D x L).length L.length 1) := by
  have hp := lgo_push hl hx h0 h1
  rw [gpl_yes hp]
  clear D
  refine ⟨hp, by rw [psh_at _ _ _ (by omega)]; rfl, by rw [psh_len]; omega, fun h => .inr (.inl ⟨?_, .inr ⟨1, by rw [psh_len]; omega, ?_⟩, rfl⟩)⟩
  · rintro (⟨_, e⟩ | ⟨_, _, e⟩)
    · omega
    · simp only [psh_at _ _ 0 (by omega), ahead] at e
      rw [getD_at h] at e
      exact hx (by rw [e]; exact List.getElem_mem h)
  · simp only [psh_at _ _ 1 (by omega), ahead]

theorem new_sym {f g : Nat → Int} {n m : Nat} {r s : Int} (h : NewIs f g n m r) (h' : NewIs g f m n s) : (r = 0 → s = 0) ∧ (r = 3 → s = 3) ∧ (r = 2 → s = 1) := by
  have hs : SameF f g n m ↔ SameF g f m n := by
    unfold SameF
    constructor
    · rintro (⟨a, b⟩ | ⟨a, b, c⟩)
      · exact .inl ⟨b, a⟩
      · exact .inr ⟨b, a, c.symm⟩
    · rintro (⟨a, b⟩ | ⟨a, b, c⟩)
      · exact .inl ⟨b, a⟩
      · exact .inr ⟨b, a, c.symm⟩
  refine ⟨?_, ?_, ?_⟩
  · rintro rfl
    rcases h with ⟨a, _⟩ | ⟨_, _, e⟩ | ⟨_, _, _, e⟩ | ⟨_, _, _, e⟩
    · exact h'.uniq (.inl ⟨hs.1 a, rfl⟩)
    · omega
    · omega
    · omega
  · rintro rfl
    rcases h with ⟨_, e⟩ | ⟨_, _, e⟩ | ⟨_, _, _, e⟩ | ⟨a, b, c, _⟩
    · omega
    · omega
    · omega
    · exact h'.uniq (.inr (.inr (.inr ⟨fun x => a (hs.2 x), c, b, rfl⟩)))
  · rintro rfl
    rcases h with ⟨_, e⟩ | ⟨_, _, e⟩ | ⟨a, b, c, _⟩ | ⟨_, _, _, e⟩
    · omega
    · omega
    · exact h'.uniq (.inr (.inl ⟨fun x => a (hs.2 x), c, rfl⟩))
    · omega
end Go.Proofs.Ytjbhgedbkajmdaa

/- Slots, told apart from memory. -/
import Derived.Test.YtjjdbdkbpmbniaaGreatDoorMtPZ
import Derived.Test.YtjjdbdkbpmbniaaGreatDoorMbySZ

namespace Go.Proofs.YtjjdbdkbpmbniaaGreatDoor
open Go.ChangeShapes Go.WideShapes Go.ChangeAt Go.RowKit
set_option linter.unusedVariables false
set_option linter.unusedSimpArgs false

theorem pb_three (x : Int) (h : x ≤ 2097151) : (pb 4 x).length ≤ 3 := by
  rw [pb]
  split
  · simp
  · rw [pb]
    split
    · simp
    · rw [pb, if_pos (by omega)]
      simp
theorem nums_three (l : List Int) (h : ∀ x ∈ l, x ≤ 2097151) : (nums l).length ≤ 3 * l.length := by
  induction l with
  | nil => simp [nums]
  | cons x l ih =>
    have h1 := pb_three x (h x (by simp))
    have h2 := ih (fun y hy => h y (by simp [hy]))
    rw [nums_cons]
    simp
    omega
theorem mt_len {g : List Int} {n : Nat} {L : Nat → List Int} {fi ol he : Bool} {la : Int} (h : MtOk g n L ol he la) : (nums (mseq g L fi ol he la)).length ≤ 126 := by
  obtain ⟨h1, _, h2, h3, h4, h5⟩ := mtok_g h
  have a0 := h2 0 (by omega)
  have a1 := h2 1 (by omega)
  have a2 := h2 2 (by omega)
  have hm : ∀ x ∈ mseq g L fi ol he la, x ≤ 2097151 := by
    intro x hx
    rw [mseq_eq] at hx
    simp only [List.mem_append, List.mem_cons, List.not_mem_nil, or_false, lsq] at hx
    rcases hx with (rfl | hx) | (rfl | hx) | (rfl | hx) | (rfl | hx) | rfl | rfl
    · omega
    · have := h3 x hx; omega
    · omega
    · have := h4 0 (by omega) x hx; omega
    · omega
    · have := h4 1 (by omega) x hx; omega
    · omega
    · have := h4 2 (by omega) x hx; omega
    · have := bi_bd fi; have := bi_bd ol; have := bi_bd he; unfold flg; omega
    · omega
  have := nums_three _ hm
  have e : (mseq g L fi ol he la).length ≤ 42 := by
    rw [mseq_eq]
    simp [lsq_len]
    omega
  omega

/-- The bytes of a whole slot. -/
def slb (M : List Int) (q : Int) : List Int := s4 q ++ ((M.length : Int) :: (M ++ (List.replicate (151 - M.length) 0 ++ s4 q)))
theorem slb_len {M : List Int} {q : Int} (h : M.length ≤ 151) : (slb M q).length = 160 := by simp [slb, s4]; omega
/-- A slot that is whole. -/
def SlIs (B : List Int) (g : List Int) (L : Nat → List Int) (fi ol he : Bool) (la q : Int) : Prop := MtOk g 3 L ol he la ∧ (1 ≤ q ∧ q ≤ 1000000) ∧ slb (nums (mseq g L fi ol he la)) q = B
def Whole (B : List Int) : Prop := ∃ g L fi ol he la q, SlIs B g L fi ol he la q
def rd4 (f : Nat → Int) : Int := f 0 + f 1 * 256 + f 2 * 65536 + f 3 * 16777216
def mid (f : Nat → Int) (k : Nat) : List Int := (List.range k).map (fun i => f (5 + i))
theorem s4_back (q : Int) (h : 0 ≤ q ∧ q < 4294967296) : q % 256 + q / 256 % 256 * 256 + q / 65536 % 256 * 65536 + q / 16777216 % 256 * 16777216 = q := by omega
theorem slb_at {n : Nat} {f : Nat → Int} {M : List Int} {q : Int} (hM : M.length ≤ 151) (h : slb M q = (List.range n).map f) : n = 160 ∧ (f 0 = q % 256 ∧ f 1 = q / 256 % 256 ∧ f 2 = q / 65536 % 256 ∧ f 3 = q / 16777216 % 256 ∧ f 4 = M.length) ∧ mid f M.length = M := by
  have hn : n = 160 := by
    have := congrArg List.length h
    rw [slb_len hM] at this
    simpa using this.symm
  subst hn
  have hat : ∀ i, i < 160 → (slb M q)[i]? = some (f i) := fun i hi => by rw [h]; simp [hi]
  refine ⟨rfl, ⟨?_, ?_, ?_, ?_, ?_⟩, ?_⟩
  · have := hat 0 (by omega); simpa [slb, s4] using this.symm
  · have := hat 1 (by omega); simpa [slb, s4] using this.symm
  · have := hat 2 (by omega); simpa [slb, s4] using this.symm
  · have := hat 3 (by omega); simpa [slb, s4] using this.symm
  · have := hat 4 (by omega); simpa [slb, s4] using this.symm
  · refine List.ext_getElem? fun j => ?_
    by_cases hj : j < M.length
    · have := hat (j + 5) (by omega)
      simp only [slb, s4, List.cons_append, List.nil_append, List.getElem?_cons_succ] at this
      rw [List.getElem?_append_left hj] at this
      rw [this, mid, List.getElem?_map, List.getElem?_range hj, Option.map_some, Nat.add_comm]
    · rw [List.getElem?_eq_none (by simp [mid]; omega), List.getElem?_eq_none (by omega)]
/-- What is read of a whole one. -/
theorem sl_key {n : Nat} {f : Nat → Int} {g : List Int} {L : Nat → List Int} {fi ol he : Bool} {la q : Int} (h : SlIs ((List.range n).map f) g L fi ol he la q) :
    n = 160 ∧ (0 ≤ f 4 ∧ f 4 ≤ 151) ∧ (1 ≤ rd4 f ∧ rd4 f ≤ 1000000) ∧ rd4 f = q ∧ MtIs (mid f (f 4).toNat) g L fi ol he la := by
  obtain ⟨h1, h2, h3⟩ := h
  have hl := mt_len (fi := fi) h1
  obtain ⟨a, ⟨b0, b1, b2, b3, b4⟩, c⟩ := slb_at (by omega) h3
  have e : rd4 f = q := by
    unfold rd4
    rw [b0, b1, b2, b3]
    exact s4_back q (by omega)
  refine ⟨a, by omega, by omega, e, h1, ?_⟩
  rw [b4, Int.toNat_natCast, c]
theorem sl_one {B g g' : List Int} {L L' : Nat → List Int} {fi ol he fi' ol' he' : Bool} {la la' q q' : Int} (h : SlIs B g L fi ol he la q) (h' : SlIs B g' L' fi' ol' he' la' q') : g = g' ∧ (∀ i, i < 3 → L i = L' i) ∧ fi = fi' ∧ ol = ol' ∧ he = he' ∧ la = la' ∧ q = q' := by
  have e : (List.range B.length).map (fun i => B.getD i 0) = B := by
    refine List.ext_getElem? fun j => ?_
    by_cases hj : j < B.length
    · simp [hj, List.getD]
    · rw [List.getElem?_eq_none (by simp; omega), List.getElem?_eq_none (by omega)]
  rw [← e] at h h'
  obtain ⟨_, _, _, a, b⟩ := sl_key h
  obtain ⟨_, _, _, a', b'⟩ := sl_key h'
  obtain ⟨c1, c2, c3, c4, c5, c6⟩ := mtis_one b b'
  exact ⟨c1, c2, c3, c4, c5, c6, a.symm.trans a'⟩
/-- The number of a slot; 0 where it is not whole. -/
def sqv (D : (p : Prop) → Decidable p) (B : List Int) : Int := @ite Int (Whole B) (D _) (rd4 (fun i => B.getD i 0)) 0
theorem krange_self (B : List Int) : (List.range B.length).map (fun i => B.getD i 0) = B := by
  refine List.ext_getElem? fun j => ?_
  by_cases hj : j < B.length
  · simp [hj, List.getD]
  · rw [List.getElem?_eq_none (by simp; omega), List.getElem?_eq_none (by omega)]
theorem sqv_is {B g : List Int} {L : Nat → List Int} {fi ol he : Bool} {la q : Int} (h : SlIs B g L fi ol he la q) : (sqv Classical.propDecidable) B = q := by
  unfold sqv
  rw [if_pos ⟨g, L, fi, ol, he, la, q, h⟩]
  rw [← krange_self B] at h
  exact (sl_key h).2.2.2.1
theorem sqv_no {B : List Int} (h : ¬ Whole B) : (sqv Classical.propDecidable) B = 0 := by unfold sqv; rw [if_neg h]
theorem sqv_bd (B : List Int) : 0 ≤ (sqv Classical.propDecidable) B ∧ (sqv Classical.propDecidable) B ≤ 1000000 := by
  by_cases h : Whole B
  · obtain ⟨g, L, fi, ol, he, la, q, h⟩ := h
    rw [sqv_is h]
    have := h.2.1
    omega
  · rw [sqv_no h]; omega
theorem sqv_pos {B : List Int} : 0 < (sqv Classical.propDecidable) B ↔ Whole B := by
  constructor
  · intro h
    by_cases h' : Whole B
    · exact h'
    · rw [sqv_no h'] at h; omega
  · rintro ⟨g, L, fi, ol, he, la, q, h⟩
    rw [sqv_is h]
    have := h.2.1
    omega
/-- A slot of what is known; nothing where it is none. -/
def slm (D : (p : Prop) → Decidable p) (g : List Int) (n : Nat) (L : Nat → List Int) (fi ol he : Bool) (la q : Int) : List Int := @ite (List Int) (MtOk g n L ol he la ∧ 1 ≤ q ∧ q ≤ 1000000) (D _) (slb (nums (mseq g L fi ol he la)) q) []
theorem slm_yes {g : List Int} {n : Nat} {L : Nat → List Int} {fi ol he : Bool} {la q : Int} (h : MtOk g n L ol he la) (hq : 1 ≤ q ∧ q ≤ 1000000) : (slm Classical.propDecidable) g n L fi ol he la q = slb (nums (mseq g L fi ol he la)) q := by unfold slm; rw [if_pos ⟨h, hq⟩]
theorem slm_no {g : List Int} {n : Nat} {L : Nat → List Int} {fi ol he : Bool} {la q : Int} (h : ¬ (MtOk g n L ol he la ∧ 1 ≤ q ∧ q ≤ 1000000)) : (slm Classical.propDecidable) g n L fi ol he la q = [] := by unfold slm; rw [if_neg h]
/-- The first one of two is the latest. -/
def Lat (A B : List Int) : Prop := 0 < (sqv Classical.propDecidable) A ∧ (sqv Classical.propDecidable) B ≤ (sqv Classical.propDecidable) A
end Go.Proofs.YtjjdbdkbpmbniaaGreatDoor

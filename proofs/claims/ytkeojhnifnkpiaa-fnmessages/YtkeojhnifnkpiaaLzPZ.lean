/- Squeezed bytes: what Squeeze and Spread tell, as lists, and that what is squeezed spreads to what it was. -/
import Derived.Test.YtkeojhnifnkpiaaGa

namespace Go.Proofs.Ytkeojhnifnkpiaa

/-- The first n, as a list. -/
def bl (f : Nat → Int) (n : Nat) : List Int := (List.range n).map f
theorem bl_len (f : Nat → Int) (n : Nat) : (bl f n).length = n := by simp [bl]
theorem bl_getD (f : Nat → Int) (n i : Nat) (h : i < n) : (bl f n).getD i 0 = f i := by simp [bl, List.getD, h]
theorem bl_succ (f : Nat → Int) (n : Nat) : bl f (n + 1) = bl f n ++ [f n] := by simp [bl, List.range_succ]
theorem bl_of (L : List Int) : bl (fun i => L.getD i 0) L.length = L := by
  refine List.ext_getElem? fun j => ?_
  by_cases h : j < L.length
  · simp [bl, h, List.getD]
  · rw [List.getElem?_eq_none (by simp [bl]; omega), List.getElem?_eq_none (by omega)]

/-- Run, from r on, at most fuel more. -/
def runFrom (f : Nat → Int) (n at_ back : Nat) : Nat → Nat → Nat
  | 0, r => r
  | fuel + 1, r => if at_ + r < n ∧ f (at_ + r) = f (at_ + r - back) then runFrom f n at_ back fuel (r + 1) else r
def run (f : Nat → Int) (n at_ back : Nat) : Nat := runFrom f n at_ back 100 0

theorem runFrom_ge (f : Nat → Int) (n at_ back fuel r : Nat) : r ≤ runFrom f n at_ back fuel r ∧ runFrom f n at_ back fuel r ≤ r + fuel := by
  induction fuel generalizing r with
  | zero => simp [runFrom]
  | succ fuel ih =>
    rw [runFrom]
    split
    · have := ih (r + 1); omega
    · omega
theorem runFrom_same (f : Nat → Int) (n at_ back fuel r : Nat) (j : Nat) (h1 : r ≤ j) (h2 : j < runFrom f n at_ back fuel r) : at_ + j < n ∧ f (at_ + j) = f (at_ + j - back) := by
  induction fuel generalizing r with
  | zero => simp [runFrom] at h2; omega
  | succ fuel ih =>
    rw [runFrom] at h2
    split at h2
    · next hc =>
      by_cases e : j = r
      · subst e; exact hc
      · exact ih (r + 1) (by omega) h2
    · omega
theorem run_le (f : Nat → Int) (n at_ back : Nat) : run f n at_ back ≤ 100 := by have := (runFrom_ge f n at_ back 100 0).2; unfold run; omega
theorem run_same (f : Nat → Int) (n at_ back j : Nat) (h : j < run f n at_ back) : at_ + j < n ∧ f (at_ + j) = f (at_ + j - back) := runFrom_same f n at_ back 100 0 j (Nat.zero_le _) h

/-- The longest run of the backs 1 .. k: how far behind, how long. -/
def bst (f : Nat → Int) (n at_ : Nat) : Nat → Nat × Nat
  | 0 => (0, 0)
  | k + 1 => if (bst f n at_ k).2 < run f n at_ (k + 1) then (k + 1, run f n at_ (k + 1)) else bst f n at_ k

theorem bst_is (f : Nat → Int) (n at_ k : Nat) : (bst f n at_ k = (0, 0)) ∨ (1 ≤ (bst f n at_ k).1 ∧ (bst f n at_ k).1 ≤ k ∧ (bst f n at_ k).2 = run f n at_ (bst f n at_ k).1) := by
  induction k with
  | zero => exact .inl rfl
  | succ k ih =>
    rw [bst]
    split
    · exact .inr ⟨by simp, by simp, rfl⟩
    · rcases ih with h | ⟨h1, h2, h3⟩
      · exact .inl h
      · exact .inr ⟨h1, by omega, h3⟩

/-- What is told of the bytes from a place on. -/
def sqz (f : Nat → Int) (n : Nat) : Nat → Nat → List Int
  | 0, _ => []
  | fuel + 1, at_ =>
    if at_ < n then
      (if 3 ≤ (bst f n at_ (min at_ 255)).2 then
        (128 + ((bst f n at_ (min at_ 255)).2 : Int)) :: ((bst f n at_ (min at_ 255)).1 : Int) :: sqz f n fuel (at_ + (bst f n at_ (min at_ 255)).2)
      else if f at_ = 0 ∨ 127 < f at_ then 0 :: f at_ :: sqz f n fuel (at_ + 1)
      else f at_ :: sqz f n fuel (at_ + 1))
    else []
def squeeze (f : Nat → Int) (n : Nat) : List Int := if 3000 < n then [] else sqz f n n 0

theorem sqz_fuel (f : Nat → Int) (n fuel fuel' at_ : Nat) (h : n - at_ ≤ fuel) (h' : n - at_ ≤ fuel') : sqz f n fuel at_ = sqz f n fuel' at_ := by
  induction fuel generalizing fuel' at_ with
  | zero =>
    cases fuel' with
    | zero => rfl
    | succ fuel' => rw [sqz, sqz, if_neg (by omega)]
  | succ fuel ih =>
    cases fuel' with
    | zero => rw [sqz, sqz, if_neg (by omega)]
    | succ fuel' =>
      rw [sqz, sqz]
      by_cases hlt : at_ < n
      · rw [if_pos hlt, if_pos hlt]
        split
        · next h3 => rw [ih fuel' _ (by omega) (by omega)]
        · rw [ih fuel' (at_ + 1) (by omega) (by omega)]
      · rw [if_neg hlt, if_neg hlt]

theorem sqz_len (f : Nat → Int) (n fuel at_ : Nat) (h : n - at_ ≤ fuel) (ha : at_ ≤ n) : (sqz f n fuel at_).length ≤ 2 * (n - at_) := by
  induction fuel generalizing at_ with
  | zero => simp [sqz]
  | succ fuel ih =>
    rw [sqz]
    by_cases hlt : at_ < n
    · rw [if_pos hlt]
      split
      · next h3 =>
        have hle : at_ + (bst f n at_ (min at_ 255)).2 ≤ n := by
          rcases bst_is f n at_ (min at_ 255) with e | ⟨_, _, e⟩
          · rw [e] at h3; simp at h3
          · have := run_same f n at_ (bst f n at_ (min at_ 255)).1 ((bst f n at_ (min at_ 255)).2 - 1) (by rw [← e]; omega)
            omega
        have := ih (at_ + (bst f n at_ (min at_ 255)).2) (by omega) hle
        simp only [List.length_cons]
        omega
      · split
        · have := ih (at_ + 1) (by omega) (by omega)
          simp only [List.length_cons]
          omega
        · have := ih (at_ + 1) (by omega) (by omega)
          simp only [List.length_cons]
          omega
    · rw [if_neg hlt]; simp

/-- k bytes more, each from e behind. -/
def rep (out : List Int) (e : Nat) : Nat → List Int
  | 0 => out
  | k + 1 => rep out e k ++ [(rep out e k).getD ((rep out e k).length - e) 0]
theorem rep_len (out : List Int) (e k : Nat) : (rep out e k).length = out.length + k := by
  induction k with
  | zero => rfl
  | succ k ih => rw [rep, List.length_append, ih]; simp; omega

/-- What such bytes tell of, behind out. -/
def spr : List Int → List Int → Option (List Int)
  | [], out => some out
  | [d], out => if 1 ≤ d ∧ d ≤ 127 then some (out ++ [d]) else none
  | d :: e :: r, out =>
    if 1 ≤ d ∧ d ≤ 127 then spr (e :: r) (out ++ [d])
    else if d = 0 then (if e ≠ 0 ∧ e < 128 then none else spr r (out ++ [e]))
    else if 131 ≤ d ∧ d ≤ 228 ∧ 1 ≤ e ∧ e ≤ out.length then
      (if 3000 < (rep out e.toNat (d - 128).toNat).length then none else spr r (rep out e.toNat (d - 128).toNat))
    else none
def spread (L : List Int) : Option (List Int) :=
  match spr L [] with
  | none => none
  | some out => if 3000 < out.length then none else some out

theorem spread_len {L out : List Int} (h : spread L = some out) : out.length ≤ 3000 := by
  unfold spread at h
  cases hs : spr L [] with
  | none => rw [hs] at h; cases h
  | some o =>
    rw [hs] at h
    simp only at h
    split at h
    · cases h
    · cases h; omega

theorem rep_run (f : Nat → Int) (n at_ back : Nat) (hb : 1 ≤ back) (hba : back ≤ at_) (k : Nat) (hk : k ≤ run f n at_ back) : rep (bl f at_) back k = bl f (at_ + k) := by
  induction k with
  | zero => rfl
  | succ k ih =>
    rw [rep, ih (by omega), bl_len, bl_getD _ _ _ (by omega), ← (run_same f n at_ back k (by omega)).2, ← bl_succ]
    rfl

theorem spr_one (d : Int) (L out : List Int) (h : 1 ≤ d ∧ d ≤ 127) : spr (d :: L) out = spr L (out ++ [d]) := by
  cases L with
  | nil => simp [spr, h]
  | cons e r => rw [spr, if_pos h]

theorem spr_sqz (f : Nat → Int) (n : Nat) (hn : n ≤ 3000) (hf : ∀ i, i < n → 0 ≤ f i ∧ f i ≤ 255) (fuel at_ : Nat) (h : n - at_ ≤ fuel) (ha : at_ ≤ n) : spr (sqz f n fuel at_) (bl f at_) = some (bl f n) := by
  induction fuel generalizing at_ with
  | zero =>
    obtain rfl : at_ = n := by omega
    rfl
  | succ fuel ih =>
    rw [sqz]
    by_cases hlt : at_ < n
    · rw [if_pos hlt]
      split
      · next h3 =>
        rcases bst_is f n at_ (min at_ 255) with e | ⟨hb1, hb2, e⟩
        · rw [e] at h3; simp at h3
        · have hle := run_le f n at_ (bst f n at_ (min at_ 255)).1
          have hsm := run_same f n at_ (bst f n at_ (min at_ 255)).1 ((bst f n at_ (min at_ 255)).2 - 1) (by rw [← e]; omega)
          have hrep := rep_run f n at_ (bst f n at_ (min at_ 255)).1 hb1 (by omega) (bst f n at_ (min at_ 255)).2 (by omega)
          generalize hl : (bst f n at_ (min at_ 255)).2 = l at *
          generalize hk : (bst f n at_ (min at_ 255)).1 = b at *
          rw [spr, if_neg (by omega), if_neg (by omega), if_pos (by rw [bl_len]; omega), show (b : Int).toNat = b by omega, show (128 + (l : Int) - 128).toNat = l by omega, hrep, if_neg (by rw [bl_len]; omega)]
          exact ih (at_ + l) (by omega) (by omega)
      · have hz := hf at_ hlt
        split
        · next h0 =>
          rw [spr, if_neg (by omega), if_pos rfl, if_neg (by omega), ← bl_succ]
          exact ih (at_ + 1) (by omega) (by omega)
        · next h0 =>
          rw [spr_one _ _ _ (by omega), ← bl_succ]
          exact ih (at_ + 1) (by omega) (by omega)
    · obtain rfl : at_ = n := by omega
      rw [if_neg hlt]
      rfl

/-- What is squeezed spreads to what it was. -/
theorem spread_squeeze (f : Nat → Int) (n : Nat) (hn : n ≤ 3000) (hf : ∀ i, i < n → 0 ≤ f i ∧ f i ≤ 255) : spread (squeeze f n) = some (bl f n) := by
  unfold spread squeeze
  rw [if_neg (by omega)]
  have h := spr_sqz f n hn hf n 0 (by omega) (by omega)
  rw [show bl f 0 = [] from rfl] at h
  rw [h]
  show (if 3000 < (bl f n).length then none else some (bl f n)) = some (bl f n)
  rw [if_neg (by rw [bl_len]; omega)]

theorem squeeze_len (f : Nat → Int) (n : Nat) : (squeeze f n).length ≤ 2 * n := by
  unfold squeeze
  split
  · simp
  · have := sqz_len f n n 0 (by omega) (by omega); omega

/-- The bytes of it are bytes. -/
theorem sqz_byte (f : Nat → Int) (n fuel at_ : Nat) (hf : ∀ i, i < n → 0 ≤ f i ∧ f i ≤ 255) : ∀ z ∈ sqz f n fuel at_, 0 ≤ z ∧ z ≤ 255 := by
  induction fuel generalizing at_ with
  | zero => intro z hz; simp [sqz] at hz
  | succ fuel ih =>
    intro z hz
    rw [sqz] at hz
    by_cases hlt : at_ < n
    · rw [if_pos hlt] at hz
      have hb := bst_is f n at_ (min at_ 255)
      have hbb : (bst f n at_ (min at_ 255)).1 ≤ 255 ∧ (bst f n at_ (min at_ 255)).2 ≤ 100 := by
        rcases hb with e | ⟨_, h2, e⟩
        · rw [e]; simp
        · exact ⟨by omega, by rw [e]; exact run_le _ _ _ _⟩
      have hz0 := hf at_ hlt
      split at hz
      · rcases List.mem_cons.1 hz with e | hz
        · omega
        · rcases List.mem_cons.1 hz with e | hz
          · omega
          · exact ih _ z hz
      · split at hz
        · rcases List.mem_cons.1 hz with e | hz
          · omega
          · rcases List.mem_cons.1 hz with e | hz
            · omega
            · exact ih _ z hz
        · rcases List.mem_cons.1 hz with e | hz
          · omega
          · exact ih _ z hz
    · rw [if_neg hlt] at hz; cases hz
end Go.Proofs.Ytkeojhnifnkpiaa

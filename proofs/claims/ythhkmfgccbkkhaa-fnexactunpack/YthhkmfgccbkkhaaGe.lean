/- Lists of messages. -/
import Derived.Test.YthhkmfgccbkkhaaGd
import Derived.Test.YthhkmfgccbkkhaaGc
import Derived.Test.YthhkmfgccbkkhaaGa
import Derived.Deep.Cut
import Derived.Lib.MinMax
import Derived.ScopeJumps
import Derived.WalkMore
import Derived.Deep.RegionHeld3

namespace Go.Proofs.Ythhkmfgccbkkhaa
open Go.ChangeShapes Go.WideShapes Go.ChangeAt Go.RowKit
set_option linter.unusedVariables false
set_option linter.unusedSimpArgs false
set_option maxRecDepth 100000

/-- A message, told apart from memory. -/
structure Mg where
  k : Int
  c : Int
  v : Int
  h : Int
  g : List Int
def mg0 : Mg := ⟨0, 0, 0, 0, []⟩
/-- Its bytes; nothing where it is none. -/
def mby (m : Mg) : List Int := mb m.k m.c m.v m.h (fun i => m.g.getD i 0) m.g.length
def MgOk (m : Mg) : Prop := MOk m.k m.c m.v m.h (fun i => m.g.getD i 0) m.g.length
/-- Of n messages, one behind the other. -/
def frs (M : Nat → Mg) : Nat → List Int
  | 0 => []
  | j + 1 => frs M j ++ mby (M j)

theorem mby_len (m : Mg) : (mby m).length ≤ 100 := by
  unfold mby mb
  split
  · next hok =>
    have h1 := mbody_len (k := m.k) (c := m.c) (v := m.v) (h := m.h) (f := fun i => m.g.getD i 0) (mok_bd hok).1
    have h2 := pb_len 4 ((mbody m.k m.c m.v m.h (fun i => m.g.getD i 0) m.g.length).length : Int)
    have h4 : (s4 (asum (mbody m.k m.c m.v m.h (fun i => m.g.getD i 0) m.g.length))).length = 4 := rfl
    unfold framed
    rw [List.length_append, List.length_append]
    omega
  · simp
theorem mby_byte (m : Mg) : ∀ z ∈ mby m, 0 ≤ z ∧ z ≤ 255 := by
  by_cases h : MgOk m
  · exact mbi_byte h
  · have : mby m = [] := by unfold mby mb; exact if_neg h
    rw [this]; intro z hz; cases hz
theorem frs_len (M : Nat → Mg) (j : Nat) : (frs M j).length ≤ 100 * j := by
  induction j with
  | zero => exact Nat.le_refl _
  | succ j ih => have := mby_len (M j); simp only [frs, List.length_append]; omega
theorem frs_byte (M : Nat → Mg) (j : Nat) : ∀ z ∈ frs M j, 0 ≤ z ∧ z ≤ 255 := by
  induction j with
  | zero => intro z hz; cases hz
  | succ j ih =>
    intro z hz
    simp only [frs, List.mem_append] at hz
    rcases hz with hz | hz
    · exact ih z hz
    · exact mby_byte _ z hz

/-- A message lies at b, o. -/
def MAt (w : World) (b o : Nat) (m : Mg) : Prop :=
  ∃ ro rc, m.g.length ≤ rc ∧ SL .i64 w ro m.g.length (fun i => m.g.getD i 0) ∧ w.cell? ⟨b, o, none⟩ = some (.int .i64 m.k) ∧ w.cell? ⟨b, o + 1, none⟩ = some (.int .i64 m.c) ∧ w.cell? ⟨b, o + 2, none⟩ = some (.int .i64 m.v) ∧ w.cell? ⟨b, o + 3, none⟩ = some (.int .i64 m.h) ∧ w.cell? ⟨b, o + 4, none⟩ = some (.slice ro m.g.length rc)
theorem MAt.below {w w' : World} {b o : Nat} {m : Mg} (h : MAt w b o m) (hb : Below w.heap.size w w') : MAt w' b o m := by
  obtain ⟨ro, rc, h1, h2, c0, c1, c2, c3, c4⟩ := h
  exact ⟨ro, rc, h1, h2.below hb, (hb.cell (lt_of_cell c0)).trans c0, (hb.cell (lt_of_cell c1)).trans c1, (hb.cell (lt_of_cell c2)).trans c2, (hb.cell (lt_of_cell c3)).trans c3, (hb.cell (lt_of_cell c4)).trans c4⟩
/-- The first n of a slice of messages. -/
def MSL (w : World) (ao : Option Addr) (n : Nat) (M : Nat → Mg) : Prop := ∀ i, i < n → ∃ b off, ao = some ⟨b, off, none⟩ ∧ MAt w b (off + i * 5) (M i)
theorem MSL.below {w w' : World} {ao : Option Addr} {n : Nat} {M : Nat → Mg} (h : MSL w ao n M) (hb : Below w.heap.size w w') : MSL w' ao n M := fun i hi => by
  obtain ⟨b, off, e, hm⟩ := h i hi
  exact ⟨b, off, e, hm.below hb⟩

theorem mby_spec {m : Mg} (ro : Option Addr) (rc : Nat) (w : World) (hn : m.g.length ≤ 1048576) (hrc : m.g.length ≤ rc) (hs : SL .i64 w ro m.g.length (fun i => m.g.getD i 0)) :
    Calls Try.prog 21 #[.agg #[.int .i64 m.k, .int .i64 m.c, .int .i64 m.v, .int .i64 m.h, .slice ro m.g.length rc]] w fun e w' => ∃ x, e = .returned x ∧ w'.ownsRow w.heap.size 5 1 x (mby m).length ((mby m).map (.int .u8)) ∧ Below w.heap.size w w' :=
  msgbytes_spec ro m.g.length rc (fun i => m.g.getD i 0) m.k m.c m.v m.h w hn hrc hs
theorem mby_impl {m : Mg} (ro : Option Addr) (rc : Nat) (w : World) (hn : m.g.length ≤ 1048576) (hrc : m.g.length ≤ rc) (hs : SL .i64 w ro m.g.length (fun i => m.g.getD i 0)) :
    Calls Try.prog 11 #[.agg #[.int .i64 m.k, .int .i64 m.c, .int .i64 m.v, .int .i64 m.h, .slice ro m.g.length rc]] w fun e w' => ∃ x, e = .returned x ∧ w'.ownsRow w.heap.size 5 1 x (mby m).length ((mby m).map (.int .u8)) ∧ Below w.heap.size w w' :=
  msgbytes_impl ro m.g.length rc (fun i => m.g.getD i 0) m.k m.c m.v m.h w hn hrc hs
end Go.Proofs.Ythhkmfgccbkkhaa

/- A slice of messages that came in, opened. -/
namespace Go.Proofs.Ythhkmfgccbkkhaa
open Go.ChangeShapes Go.WideShapes Go.ChangeAt Go.RowKit
set_option linter.unusedVariables false
set_option linter.unusedSimpArgs false

theorem open_msgs {H : Type} {enc : TypeId × Value → H} {w : World} {base : Nat} {sp : Nat → Bool} {held : Bool} {fuel : Nat} {cs : List Value} {x : DataW H × List MemPlace}
    (h : DataW.trod enc Try.prog w base sp held fuel 49 cs = some x) :
    ∃ (ao : Option Addr) (n cap : Nat) (M : Nat → Mg), cs = [.slice ao n cap] ∧ n ≤ 9223372036854775807 ∧ MSL w ao n M ∧ ∀ i, i < n → (M i).g.length ≤ 9223372036854775807 := by
  have h5 : Try.prog.cellsOf 41 = 5 := by kernel_rfl
  rcases Deep.open_slice Try.underlying49 h with ⟨rfl, _⟩ | ⟨a, len, cap, m, n, D, Pl, rfl, _, hl, hm, hmm, _, hel⟩
  · exact ⟨none, 0, 0, fun _ => mg0, rfl, by omega, fun i hi => absurd hi (Nat.not_lt_zero _), fun i hi => absurd hi (Nat.not_lt_zero _)⟩
  · have hml : len ≤ m := by rw [hmm]; split <;> omega
    have hcap : cap ≤ 9223372036854775807 := by unfold maxLen at hm; omega
    rw [h5] at hel
    have hone : ∀ i, i < len → ∃ g : Mg, (∃ b off, (some a : Option Addr) = some ⟨b, off, none⟩ ∧ MAt w b (off + i * 5) g) ∧ g.g.length ≤ 9223372036854775807 := fun i hi => by
      obtain ⟨cs', hc, ht⟩ := hel i (by omega)
      obtain ⟨k, c, v, d, ro, l, rc, f, hcs, hlr, hrm, hs⟩ := open_msg ht
      subst hcs
      have hcell := World.cells?_some hc
      have g0 := hcell.2.2 0 (by omega)
      have g1 := hcell.2.2 1 (by omega)
      have g2 := hcell.2.2 2 (by omega)
      have g3 := hcell.2.2 3 (by omega)
      have g4 := hcell.2.2 4 (by omega)
      obtain ⟨cs0, hc0, _⟩ := hel 0 (by omega)
      have hz := (World.cells?_some hc0).2.2 0 (by omega)
      have hl0 := (World.cells?_some hc0).2.1
      obtain ⟨x0, hx0⟩ : ∃ x0, cs0[0]? = some x0 := ⟨cs0[0]'(by omega), List.getElem?_eq_getElem (by omega)⟩
      rw [hx0] at hz
      obtain ⟨b, off, spot⟩ := a
      have hspot : spot = none := by simpa [Addr.add] using World.cell?_spot hz
      subst hspot
      simp only [Addr.add_lit] at g0 g1 g2 g3 g4
      have hlen : ((List.range l).map f).length = l := by simp
      refine ⟨⟨k, c, v, d, (List.range l).map f⟩, ⟨b, off, rfl, ro, rc, by rw [hlen]; exact hlr, ?_, g0, g1, g2, g3, by rw [hlen]; exact g4⟩, by rw [hlen]; unfold maxLen at hrm; omega⟩
      intro j hj
      rw [hlen] at hj
      obtain ⟨b', o', e, hlt, hcj⟩ := hs j hj
      exact ⟨b', o', e, hlt, by rw [hcj]; simp [List.getD, hj]⟩
    have hex : ∃ M : Nat → Mg, ∀ i, i < len → (∃ b off, (some a : Option Addr) = some ⟨b, off, none⟩ ∧ MAt w b (off + i * 5) (M i)) ∧ (M i).g.length ≤ 9223372036854775807 := by
      refine ⟨fun i => if hi : i < len then (hone i hi).choose else mg0, fun i hi => ?_⟩
      simp only [dif_pos hi]
      exact (hone i hi).choose_spec
    obtain ⟨M, hM⟩ := hex
    exact ⟨some a, len, cap, M, rfl, by omega, fun i hi => (hM i hi).1, fun i hi => (hM i hi).2⟩
end Go.Proofs.Ythhkmfgccbkkhaa

/- Squeezed bytes: what Squeeze and Spread tell, as lists, and that what is squeezed spreads to what it was. -/
namespace Go.Proofs.Ythhkmfgccbkkhaa

/-- The first n, as a list. -/
def bl (f : Nat → Int) (n : Nat) : List Int := (List.range n).map f
theorem bl_len (f : Nat → Int) (n : Nat) : (bl f n).length = n := by simp [bl]
theorem bl_getD (f : Nat → Int) (n i : Nat) (h : i < n) : (bl f n).getD i 0 = f i := by simp [bl, List.getD, h]
theorem bl_succ (f : Nat → Int) (n : Nat) : bl f (n + 1) = bl f n ++ [f n] := by simp [bl, List.range_succ]
theorem bl_of (L : List Int) : bl (fun i => L.getD i 0) L.length = L := by
  refine List.ext_getElem? fun j => ?_
  by_cases h : j < L.length
  · simp [bl, h, List.getD]
  · rw [List.getElem?_eq_none (by simp [bl]; omega), List.getElem?_eq_none (by omega)]

/-- Run, from r on, at most fuel more. -/
def runFrom (f : Nat → Int) (n at_ back : Nat) : Nat → Nat → Nat
  | 0, r => r
  | fuel + 1, r => if at_ + r < n ∧ f (at_ + r) = f (at_ + r - back) then runFrom f n at_ back fuel (r + 1) else r
def run (f : Nat → Int) (n at_ back : Nat) : Nat := runFrom f n at_ back 100 0

theorem runFrom_ge (f : Nat → Int) (n at_ back fuel r : Nat) : r ≤ runFrom f n at_ back fuel r ∧ runFrom f n at_ back fuel r ≤ r + fuel := by
  induction fuel generalizing r with
  | zero => simp [runFrom]
  | succ fuel ih =>
    rw [runFrom]
    split
    · have := ih (r + 1); omega
    · omega
theorem runFrom_same (f : Nat → Int) (n at_ back fuel r : Nat) (j : Nat) (h1 : r ≤ j) (h2 : j < runFrom f n at_ back fuel r) : at_ + j < n ∧ f (at_ + j) = f (at_ + j - back) := by
  induction fuel generalizing r with
  | zero => simp [runFrom] at h2; omega
  | succ fuel ih =>
    rw [runFrom] at h2
    split at h2
    · next hc =>
      by_cases e : j = r
      · subst e; exact hc
      · exact ih (r + 1) (by omega) h2
    · omega
theorem run_le (f : Nat → Int) (n at_ back : Nat) : run f n at_ back ≤ 100 := by have := (runFrom_ge f n at_ back 100 0).2; unfold run; omega
theorem run_same (f : Nat → Int) (n at_ back j : Nat) (h : j < run f n at_ back) : at_ + j < n ∧ f (at_ + j) = f (at_ + j - back) := runFrom_same f n at_ back 100 0 j (Nat.zero_le _) h

/-- The longest run of the backs 1 .. k: how far behind, how long. -/
def bst (f : Nat → Int) (n at_ : Nat) : Nat → Nat × Nat
  | 0 => (0, 0)
  | k + 1 => if (bst f n at_ k).2 < run f n at_ (k + 1) then (k + 1, run f n at_ (k + 1)) else bst f n at_ k

theorem bst_is (f : Nat → Int) (n at_ k : Nat) : (bst f n at_ k = (0, 0)) ∨ (1 ≤ (bst f n at_ k).1 ∧ (bst f n at_ k).1 ≤ k ∧ (bst f n at_ k).2 = run f n at_ (bst f n at_ k).1) := by
  induction k with
  | zero => exact .inl rfl
  | succ k ih =>
    rw [bst]
    split
    · exact .inr ⟨by simp, by simp, rfl⟩
    · rcases ih with h | ⟨h1, h2, h3⟩
      · exact .inl h
      · exact .inr ⟨h1, by omega, h3⟩

/-- What is told of the bytes from a place on. -/
def sqz (f : Nat → Int) (n : Nat) : Nat → Nat → List Int
  | 0, _ => []
  | fuel + 1, at_ =>
    if at_ < n then
      (if 3 ≤ (bst f n at_ (min at_ 255)).2 then
        (128 + ((bst f n at_ (min at_ 255)).2 : Int)) :: ((bst f n at_ (min at_ 255)).1 : Int) :: sqz f n fuel (at_ + (bst f n at_ (min at_ 255)).2)
      else if f at_ = 0 ∨ 127 < f at_ then 0 :: f at_ :: sqz f n fuel (at_ + 1)
      else f at_ :: sqz f n fuel (at_ + 1))
    else []
def squeeze (f : Nat → Int) (n : Nat) : List Int := if 3000 < n then [] else sqz f n n 0

theorem sqz_fuel (f : Nat → Int) (n fuel fuel' at_ : Nat) (h : n - at_ ≤ fuel) (h' : n - at_ ≤ fuel') : sqz f n fuel at_ = sqz f n fuel' at_ := by
  induction fuel generalizing fuel' at_ with
  | zero =>
    cases fuel' with
    | zero => rfl
    | succ fuel' => rw [sqz, sqz, if_neg (by omega)]
  | succ fuel ih =>
    cases fuel' with
    | zero => rw [sqz, sqz, if_neg (by omega)]
    | succ fuel' =>
      rw [sqz, sqz]
      by_cases hlt : at_ < n
      · rw [if_pos hlt, if_pos hlt]
        split
        · next h3 => rw [ih fuel' _ (by omega) (by omega)]
        · rw [ih fuel' (at_ + 1) (by omega) (by omega)]
      · rw [if_neg hlt, if_neg hlt]

theorem sqz_len (f : Nat → Int) (n fuel at_ : Nat) (h : n - at_ ≤ fuel) (ha : at_ ≤ n) : (sqz f n fuel at_).length ≤ 2 * (n - at_) := by
  induction fuel generalizing at_ with
  | zero => simp [sqz]
  | succ fuel ih =>
    rw [sqz]
    by_cases hlt : at_ < n
    · rw [if_pos hlt]
      split
      · next h3 =>
        have hle : at_ + (bst f n at_ (min at_ 255)).2 ≤ n := by
          rcases bst_is f n at_ (min at_ 255) with e | ⟨_, _, e⟩
          · rw [e] at h3; simp at h3
          · have := run_same f n at_ (bst f n at_ (min at_ 255)).1 ((bst f n at_ (min at_ 255)).2 - 1) (by rw [← e]; omega)
            omega
        have := ih (at_ + (bst f n at_ (min at_ 255)).2) (by omega) hle
        simp only [List.length_cons]
        omega
      · split
        · have := ih (at_ + 1) (by omega) (by omega)
          simp only [List.length_cons]
          omega
        · have := ih (at_ + 1) (by omega) (by omega)
          simp only [List.length_cons]
          omega
    · rw [if_neg hlt]; simp

/-- k bytes more, each from e behind. -/
def rep (out : List Int) (e : Nat) : Nat → List Int
  | 0 => out
  | k + 1 => rep out e k ++ [(rep out e k).getD ((rep out e k).length - e) 0]
theorem rep_len (out : List Int) (e k : Nat) : (rep out e k).length = out.length + k := by
  induction k with
  | zero => rfl
  | succ k ih => rw [rep, List.length_append, ih]; simp; omega

/-- What such bytes tell of, behind out. -/
def spr : List Int → List Int → Option (List Int)
  | [], out => some out
  | [d], out => if 1 ≤ d ∧ d ≤ 127 then some (out ++ [d]) else none
  | d :: e :: r, out =>
    if 1 ≤ d ∧ d ≤ 127 then spr (e :: r) (out ++ [d])
    else if d = 0 then (if e ≠ 0 ∧ e < 128 then none else spr r (out ++ [e]))
    else if 131 ≤ d ∧ d ≤ 228 ∧ 1 ≤ e ∧ e ≤ out.length then
      (if 3000 < (rep out e.toNat (d - 128).toNat).length then none else spr r (rep out e.toNat (d - 128).toNat))
    else none
def spread (L : List Int) : Option (List Int) :=
  match spr L [] with
  | none => none
  | some out => if 3000 < out.length then none else some out

theorem spread_len {L out : List Int} (h : spread L = some out) : out.length ≤ 3000 := by
  unfold spread at h
  cases hs : spr L [] with
  | none => rw [hs] at h; cases h
  | some o =>
    rw [hs] at h
    simp only at h
    split at h
    · cases h
    · cases h; omega

theorem rep_run (f : Nat → Int) (n at_ back : Nat) (hb : 1 ≤ back) (hba : back ≤ at_) (k : Nat) (hk : k ≤ run f n at_ back) : rep (bl f at_) back k = bl f (at_ + k) := by
  induction k with
  | zero => rfl
  | succ k ih =>
    rw [rep, ih (by omega), bl_len, bl_getD _ _ _ (by omega), ← (run_same f n at_ back k (by omega)).2, ← bl_succ]
    rfl

theorem spr_one (d : Int) (L out : List Int) (h : 1 ≤ d ∧ d ≤ 127) : spr (d :: L) out = spr L (out ++ [d]) := by
  cases L with
  | nil => simp [spr, h]
  | cons e r => rw [spr, if_pos h]

theorem spr_sqz (f : Nat → Int) (n : Nat) (hn : n ≤ 3000) (hf : ∀ i, i < n → 0 ≤ f i ∧ f i ≤ 255) (fuel at_ : Nat) (h : n - at_ ≤ fuel) (ha : at_ ≤ n) : spr (sqz f n fuel at_) (bl f at_) = some (bl f n) := by
  induction fuel generalizing at_ with
  | zero =>
    obtain rfl : at_ = n := by omega
    rfl
  | succ fuel ih =>
    rw [sqz]
    by_cases hlt : at_ < n
    · rw [if_pos hlt]
      split
      · next h3 =>
        rcases bst_is f n at_ (min at_ 255) with e | ⟨hb1, hb2, e⟩
        · rw [e] at h3; simp at h3
        · have hle := run_le f n at_ (bst f n at_ (min at_ 255)).1
          have hsm := run_same f n at_ (bst f n at_ (min at_ 255)).1 ((bst f n at_ (min at_ 255)).2 - 1) (by rw [← e]; omega)
          have hrep := rep_run f n at_ (bst f n at_ (min at_ 255)).1 hb1 (by omega) (bst f n at_ (min at_ 255)).2 (by omega)
          generalize hl : (bst f n at_ (min at_ 255)).2 = l at *
          generalize hk : (bst f n at_ (min at_ 255)).1 = b at *
          rw [spr, if_neg (by omega), if_neg (by omega), if_pos (by rw [bl_len]; omega), show (b : Int).toNat = b by omega, show (128 + (l : Int) - 128).toNat = l by omega, hrep, if_neg (by rw [bl_len]; omega)]
          exact ih (at_ + l) (by omega) (by omega)
      · have hz := hf at_ hlt
        split
        · next h0 =>
          rw [spr, if_neg (by omega), if_pos rfl, if_neg (by omega), ← bl_succ]
          exact ih (at_ + 1) (by omega) (by omega)
        · next h0 =>
          rw [spr_one _ _ _ (by omega), ← bl_succ]
          exact ih (at_ + 1) (by omega) (by omega)
    · obtain rfl : at_ = n := by omega
      rw [if_neg hlt]
      rfl

/-- What is squeezed spreads to what it was. -/
theorem spread_squeeze (f : Nat → Int) (n : Nat) (hn : n ≤ 3000) (hf : ∀ i, i < n → 0 ≤ f i ∧ f i ≤ 255) : spread (squeeze f n) = some (bl f n) := by
  unfold spread squeeze
  rw [if_neg (by omega)]
  have h := spr_sqz f n hn hf n 0 (by omega) (by omega)
  rw [show bl f 0 = [] from rfl] at h
  rw [h]
  show (if 3000 < (bl f n).length then none else some (bl f n)) = some (bl f n)
  rw [if_neg (by rw [bl_len]; omega)]

theorem squeeze_len (f : Nat → Int) (n : Nat) : (squeeze f n).length ≤ 2 * n := by
  unfold squeeze
  split
  · simp
  · have := sqz_len f n n 0 (by omega) (by omega); omega

/-- The bytes of it are bytes. -/
theorem sqz_byte (f : Nat → Int) (n fuel at_ : Nat) (hf : ∀ i, i < n → 0 ≤ f i ∧ f i ≤ 255) : ∀ z ∈ sqz f n fuel at_, 0 ≤ z ∧ z ≤ 255 := by
  induction fuel generalizing at_ with
  | zero => intro z hz; simp [sqz] at hz
  | succ fuel ih =>
    intro z hz
    rw [sqz] at hz
    by_cases hlt : at_ < n
    · rw [if_pos hlt] at hz
      have hb := bst_is f n at_ (min at_ 255)
      have hbb : (bst f n at_ (min at_ 255)).1 ≤ 255 ∧ (bst f n at_ (min at_ 255)).2 ≤ 100 := by
        rcases hb with e | ⟨_, h2, e⟩
        · rw [e]; simp
        · exact ⟨by omega, by rw [e]; exact run_le _ _ _ _⟩
      have hz0 := hf at_ hlt
      split at hz
      · rcases List.mem_cons.1 hz with e | hz
        · omega
        · rcases List.mem_cons.1 hz with e | hz
          · omega
          · exact ih _ z hz
      · split at hz
        · rcases List.mem_cons.1 hz with e | hz
          · omega
          · rcases List.mem_cons.1 hz with e | hz
            · omega
            · exact ih _ z hz
        · rcases List.mem_cons.1 hz with e | hz
          · omega
          · exact ih _ z hz
    · rw [if_neg hlt] at hz; cases hz
end Go.Proofs.Ythhkmfgccbkkhaa

/- Run of the model, and the longest one. -/
namespace Go.Proofs.Ythhkmfgccbkkhaa
open Go.ChangeShapes Go.WideShapes Go.ChangeAt Go.RowKit
set_option linter.unusedVariables false
set_option linter.unusedSimpArgs false

theorem min_any (a b : Int) (w : World) : Calls Try.prog 103 #[.int .i64 a, .int .i64 b] w fun e w' => e = .returned (.int .i64 (min a b)) ∧ w' = w := by
  by_cases h : a < b
  · go_enter Try.func103, Try.ntmps103
    go_wp2
    go_ret
    exact ⟨by rw [Int.min_eq_left (by omega)]; rfl, rfl⟩
  · go_enter Try.func103, Try.ntmps103
    go_wp2
    go_ret
    exact ⟨by rw [Int.min_eq_right (by omega)]; rfl, rfl⟩

/-- Run, at whatever numbers. -/
def rrun (f : Nat → Int) (n : Nat) (at_ back : Int) : Int :=
  if 0 ≤ at_ ∧ at_ ≤ (n : Int) - 1 ∧ 1 ≤ back ∧ back ≤ min at_ 255 then (run f n at_.toNat back.toNat : Nat) else 0

theorem run_spec (ao : Option Addr) (n cap : Nat) (f : Nat → Int) (at_ back : Int) (w : World) (hn : n ≤ 1048576) (hs : SL .u8 w ao n f) :
    Calls Try.prog 104 #[.slice ao n cap, .int .i64 at_, .int .i64 back] w fun e w' => e = .returned (.int .i64 (rrun f n at_ back)) ∧ ∃ q, w' = w.drewN q := by
  by_cases h1 : 0 ≤ at_ ∧ at_ ≤ (n : Int) - 1
  · by_cases h2 : 1 ≤ back ∧ back ≤ min at_ 255
    · obtain ⟨a, rfl⟩ : ∃ a : Nat, at_ = a := ⟨at_.toNat, by omega⟩
      obtain ⟨k0, rfl⟩ : ∃ k : Nat, back = k := ⟨back.toNat, by omega⟩
      have hrr : rrun f n (a : Int) (k0 : Int) = (run f n a k0 : Nat) := by unfold rrun; rw [if_pos ⟨h1.1, h1.2, h2.1, h2.2⟩]; simp
      rw [hrr]
      have ha : a < n := by omega
      have hka : k0 ≤ a := by omega
      have hk1 : 1 ≤ k0 := by omega
      have hk2 : k0 ≤ 255 := by omega
      clear hrr
      go_enter Try.func104, Try.ntmps104
      go_wp2_with (first
        | (go_at_call 103; refine (min_any _ _ _).mono ?_; rintro e w9 ⟨rfl, hw9⟩; rw [hw9]; clear hw9)
        | (go_at_call 70; refine (in_yes _ _ _ _ (by omega) (by omega)).mono ?_; rintro e w9 ⟨rfl, hw9⟩; rw [hw9]; clear hw9))
      clear h1 h2
      go_loopw [7] (fun i wr => ∃ k : Nat, k ≤ 100 ∧ a + k ≤ n ∧ i = .int .i64 k ∧ Hid (runFrom f n a k0 (100 - k) k = run f n a k0) ∧ ∃ q, wr = w.drewN q) (fun i _ => 100 - (intOf i).toNat)
      case atStart => exact ⟨0, by omega, by omega, rfl, rfl, 0, rfl⟩
      case round =>
        obtain ⟨k, hk, hkn, rfl, A, q, rfl⟩ := hrel
        by_cases h100 : k < 100
        · have d1 : decide ((k : Int) < 100) = true := by simp; omega
          obtain ⟨m, hm⟩ : ∃ m, 100 - k = m + 1 := ⟨100 - k - 1, by omega⟩
          by_cases hlt : a + k < n
          · have d2 : decide ((a : Int) + (k : Int) < (n : Int)) = true := by simp; omega
            obtain ⟨b, off, rfl, hb, hc⟩ := hs (a + k) hlt
            obtain ⟨b', off', e', hb', hc'⟩ := hs (a + k - k0) (by omega)
            simp only [Option.some.injEq, Addr.mk.injEq] at e'
            obtain ⟨rfl, rfl, _⟩ := e'
            have t1 : ((a : Int) + (k : Int)).toNat = a + k := by omega
            have t2 : ((a : Int) + (k : Int) - (k0 : Int)).toNat = a + k - k0 := by omega
            have t3 : (0 : Int) ≤ (a : Int) + (k : Int) := by omega
            have t4 : (0 : Int) ≤ (a : Int) + (k : Int) - (k0 : Int) := by omega
            have t5 : (a : Int) + (k : Int) < (n : Int) := by omega
            have t6 : (a : Int) + (k : Int) - (k0 : Int) < (n : Int) := by omega
            clear hs
            generalize hy : f (a + k) = y at *
            generalize hx : f (a + k - k0) = x at *
            have B : Hid (f (a + k) = y ∧ f (a + k - k0) = x) := ⟨hy, hx⟩
            clear hy hx
            by_cases he : y = x
            · have hd : decide (y = x) = true := by simpa using he
              subst he
              go_wp2
              go_quiet (fail)
              go_wp2
              go_roundw
              case rel => exact ⟨k + 1, by omega, by omega, by go_num, (show _ = _ by rw [← A.out, hm, runFrom, if_pos ⟨hlt, by rw [B.out.1, B.out.2]⟩, show 100 - (k + 1) = m by omega]), _, rfl⟩
              case measure => simp [intOf]; omega
            · have hd : decide (y = x) = false := by simpa using he
              go_wp2
              go_quiet (fail)
              go_wp2
              go_ret
              refine ⟨?_, _, World.drewN_drewN ..⟩
              rw [← A.out, hm, runFrom, if_neg (fun h => he (by rw [← B.out.1, ← B.out.2]; exact h.2))]
              rfl
          · have d2 : decide ((a : Int) + (k : Int) < (n : Int)) = false := by simp; omega
            clear hs
            go_wp2
            go_quiet (fail)
            go_wp2
            go_ret
            refine ⟨?_, _, World.drewN_drewN ..⟩
            rw [← A.out, hm, runFrom, if_neg (fun h => hlt h.1)]
            rfl
        · have d1 : decide ((k : Int) < 100) = false := by simp; omega
          obtain rfl : k = 100 := by omega
          clear hs
          go_wp2
          go_quiet (fail)
          go_wp2
          go_ret
          refine ⟨?_, _, World.drewN_drewN ..⟩
          rw [← A.out]
          rfl
    · have hrr : rrun f n at_ back = 0 := by unfold rrun; rw [if_neg (fun h => h2 h.2.2)]
      rw [hrr]
      clear hs hrr
      go_enter Try.func104, Try.ntmps104
      go_wp2_with fail
      refine (in_yes _ _ _ _ (by omega) (by omega)).mono ?_
      rintro e w8 ⟨rfl, hw8⟩
      rw [hw8]
      go_wp2_with fail
      refine (min_any _ _ _).mono ?_
      rintro e w9 ⟨rfl, hw9⟩
      rw [hw9]
      go_wp2_with fail
      refine (in_no _ _ _ _ (by omega)).mono ?_
      rintro e w10 ⟨rfl, hw10⟩
      rw [hw10]
      clear hw8 hw9 hw10
      go_wp2
      go_ret
      exact ⟨rfl, 0, rfl⟩
  · have hrr : rrun f n at_ back = 0 := by unfold rrun; rw [if_neg (fun h => h1 ⟨h.1, h.2.1⟩)]
    rw [hrr]
    clear hs hrr
    go_enter Try.func104, Try.ntmps104
    go_wp2_with fail
    refine (in_no _ _ _ _ (by omega)).mono ?_
    rintro e w8 ⟨rfl, hw8⟩
    rw [hw8]
    clear hw8
    go_wp2
    go_ret
    exact ⟨rfl, 0, rfl⟩

theorem best_spec (ao : Option Addr) (n cap a : Nat) (f : Nat → Int) (w : World) (hn : n ≤ 1048576) (ha : a < n) (hs : SL .u8 w ao n f) :
    Calls Try.prog 96 #[.slice ao n cap, .int .i64 (a : Int)] w fun e w' => e = .returned (.tuple #[.int .i64 ((bst f n a (min a 255)).1 : Nat), .int .i64 ((bst f n a (min a 255)).2 : Nat)]) ∧ ∃ q, w' = w.drewN q := by
  have hrun : Hid (∀ (k q : Nat), 1 ≤ k → k ≤ min a 255 → Calls Try.prog 104 #[.slice ao n cap, .int .i64 (a : Int), .int .i64 (k : Int)] (w.drewN q) fun e w' => e = .returned (.int .i64 (run f n a k : Nat)) ∧ ∃ q', w' = (w.drewN q).drewN q') := fun k q h1 h2 => by
    have h := run_spec ao n cap f (a : Int) (k : Int) (w.drewN q) hn hs
    rw [show rrun f n (a : Int) (k : Int) = (run f n a k : Nat) by unfold rrun; rw [if_pos ⟨by omega, by omega, by omega, by omega⟩]; simp] at h
    exact h
  have hmin : min (a : Int) 255 = ((min a 255 : Nat) : Int) := by omega
  generalize hL : min a 255 = L at *
  have HL := hide hL
  clear hs hL
  go_enter Try.func96, Try.ntmps96
  go_wp2
  go_loopw [6, 7, 8, 9] (fun x y i _ wr => ∃ k : Nat, k ≤ L ∧ i = .int .i64 ((k + 1 : Nat) : Int) ∧ x = .int .i64 ((bst f n a k).1 : Nat) ∧ y = .int .i64 ((bst f n a k).2 : Nat) ∧ ∃ q, wr = w.drewN q) (fun _ _ i _ _ => L + 1 - (intOf i).toNat)
  case atStart => exact ⟨0, by omega, rfl, rfl, rfl, 0, rfl⟩
  case round =>
    obtain ⟨k, hk, rfl, rfl, rfl, q, rfl⟩ := hrel
    go_wp2_with fail
    refine (min_any _ _ _).mono ?_
    rintro e w9 ⟨rfl, hw9⟩
    rw [hw9, hmin]
    clear hw9
    by_cases hlt : k < L
    · go_wp2_with fail
      refine (hrun.out (k + 1) q (by omega) (by have := HL.out; omega)).mono ?_
      rintro e w8 ⟨rfl, q8, hw8⟩
      rw [hw8, World.drewN_drewN]
      clear hw8
      generalize hr : run f n a (k + 1) = r
      have HR := hide hr
      clear hr
      have hl100 : (bst f n a k).2 ≤ 100 := by
        rcases bst_is f n a k with e | ⟨_, _, e⟩
        · rw [e]; simp
        · rw [e]; exact run_le _ _ _ _
      generalize hb : bst f n a k = p at *
      have HB := hide hb
      clear hb
      by_cases hgt : p.2 < r
      · have hd : (p.2 : Int) < (r : Int) := by omega
        go_wp2
        go_roundw
        case rel => exact ⟨k + 1, by omega, by go_num, by rw [bst, HB.out, HR.out, if_pos hgt]; simp, by rw [bst, HB.out, HR.out, if_pos hgt], _, rfl⟩
        case measure => simp [intOf]; omega
      · have hd : ¬ (p.2 : Int) < (r : Int) := by omega
        go_wp2
        go_roundw
        case rel => exact ⟨k + 1, by omega, by go_num, by rw [bst, HB.out, HR.out, if_neg hgt], by rw [bst, HB.out, HR.out, if_neg hgt], _, rfl⟩
        case measure => simp [intOf]; omega
    · obtain rfl : k = L := by omega
      go_wp2
      go_ret2
      exact ⟨rfl, q, rfl⟩
end Go.Proofs.Ythhkmfgccbkkhaa

/- Squeeze of the model. -/
namespace Go.Proofs.Ythhkmfgccbkkhaa
open Go.ChangeShapes Go.WideShapes Go.ChangeAt Go.RowKit
set_option linter.unusedVariables false
set_option linter.unusedSimpArgs false
set_option maxRecDepth 100000

theorem sqz_step (f : Nat → Int) (n a : Nat) (h : a < n) : sqz f n n a =
    (if 3 ≤ (bst f n a (min a 255)).2 then (128 + ((bst f n a (min a 255)).2 : Int)) :: ((bst f n a (min a 255)).1 : Int) :: sqz f n n (a + (bst f n a (min a 255)).2)
      else if f a = 0 ∨ 127 < f a then 0 :: f a :: sqz f n n (a + 1) else f a :: sqz f n n (a + 1)) := by
  obtain ⟨m, rfl⟩ : ∃ m, n = m + 1 := ⟨n - 1, by omega⟩
  have e : ∀ b, a < b → sqz f (m + 1) m b = sqz f (m + 1) (m + 1) b := fun b hb => sqz_fuel f (m + 1) m (m + 1) b (by omega) (by omega)
  conv => lhs; rw [sqz, if_pos h]
  split
  · next h3 => rw [e _ (by omega)]
  · rw [e _ (by omega)]
theorem sqz_end (f : Nat → Int) (n : Nat) : sqz f n n n = [] := by
  cases n with
  | zero => rfl
  | succ n => rw [sqz, if_neg (by omega)]

theorem bst_bd (f : Nat → Int) (n a k : Nat) (hk : k ≤ 255) : (bst f n a k).1 ≤ 255 ∧ (bst f n a k).2 ≤ 100 ∧ (3 ≤ (bst f n a k).2 → a + (bst f n a k).2 ≤ n) := by
  rcases bst_is f n a k with e | ⟨h1, h2, e⟩
  · rw [e]; simp
  · refine ⟨by omega, by rw [e]; exact run_le _ _ _ _, fun h3 => ?_⟩
    have := run_same f n a (bst f n a k).1 ((bst f n a k).2 - 1) (by rw [← e]; omega)
    omega

theorem squeeze_spec (ao : Option Addr) (n cap : Nat) (f : Nat → Int) (w : World) (hn : n ≤ 1073741824) (hs : SL .u8 w ao n f) (hf : ∀ i, i < n → 0 ≤ f i ∧ f i ≤ 255) :
    Calls Try.prog 72 #[.slice ao n cap] w fun e w' => ∃ v, e = .returned v ∧ w'.ownsRow w.heap.size 5 1 v (squeeze f n).length ((squeeze f n).map (.int .u8)) ∧ v ≠ .slice none 0 0 ∧ Below w.heap.size w w' := by
  obtain ⟨i0, hi, hz0, hz1, hz2⟩ := info_parts Try.info5
  by_cases h3 : 3000 < n
  · have hq : squeeze f n = [] := by unfold squeeze; rw [if_pos h3]
    rw [hq]
    clear hs hf hq
    go_enter Try.func72, Try.ntmps72
    go_wp2
    go_ret
    exact ⟨_, rfl, gempty (Nat.le_refl _), (fun e => by cases e), (Below.refl _ _).alloc (Nat.le_refl _) _⟩
  · have hq : squeeze f n = sqz f n n 0 := by unfold squeeze; rw [if_neg h3]
    rw [hq]
    have HS := hide hs
    have HF := hide hf
    clear hs hf hq
    go_enter Try.func72, Try.ntmps72
    go_wp2
    go_loopw [3, 4, 5, 6] (fun v i _ _ wr => ∃ (a r : Nat) (L : List Int), a ≤ n ∧ r ≤ 2 * a ∧ i = .int .i64 a ∧ Hid (L ++ sqz f n n a = sqz f n n 0 ∧ L.length = r) ∧ wr.ownsRow w.heap.size 5 1 v r (L.map (.int .u8)) ∧ Hid (v ≠ .slice none 0 0) ∧ Below w.heap.size w wr) (fun _ i _ _ _ => n - (intOf i).toNat)
    case atStart => exact ⟨0, 0, [], by omega, by omega, rfl, ⟨rfl, rfl⟩, gempty (Nat.le_refl _), (fun e => by cases e), (Below.refl _ _).alloc (Nat.le_refl _) _⟩
    case round =>
      obtain ⟨a, r, L, han, hra, rfl, hL, hown, hnv, hbel⟩ := hrel
      by_cases hlt : a < n
      · obtain ⟨b, off, rfl, hb, hc0⟩ := HS.out a hlt
        have hy := HF.out a hlt
        obtain ⟨hp1, hp2, hp3⟩ := bst_bd f n a (min a 255) (by omega)
        have hstep := hide (sqz_step f n a hlt)
        have hbest := hide (best_spec (some ⟨b, off, none⟩) n cap a f wr (by omega) hlt (HS.out.below hbel))
        have hc1 : ∀ q, (wr.drewN q).cell? ⟨b, off + a, none⟩ = some (.int .u8 (f a)) := fun q => (hbel.cell (p := ⟨b, off + a, none⟩) hb).trans hc0
        generalize hbp : bst f n a (min a 255) = p at *
        obtain ⟨bk, l⟩ := p
        simp only at hp1 hp2 hp3 hstep hbest
        generalize hfa : f a = y at *
        have HOW := hide (And.intro hown hbel)
        have HC := hide hc1
        clear hbp hfa hown hbel hc1
        go_wp2_with fail
        refine hbest.out.mono ?_
        rintro e w2 ⟨rfl, q, hw2⟩
        rw [hw2]
        clear hw2 hbest
        have hown := gdrawn HOW.out.1 q
        have hbel := Below.drawn HOW.out.2 q
        have hc := HC.out q
        clear HOW HC
        generalize wr.drewN q = wq at *
        by_cases hl3 : 3 ≤ l
        · have hw1 : IntKind.u8.wrap (128 + (l : Int)) = 128 + (l : Int) := by rw [IntKind.wrap_u8]; omega
          have hw2 : IntKind.u8.wrap (bk : Int) = (bk : Int) := by rw [IntKind.wrap_u8]; omega
          go_wp2_with (first
            | (at_builtin; refine wpList_append_own _ rfl _ _ 22 rfl w.heap.size 5 i0 (.int .u8 0) 1 1 Try.underlying22 hi hz0 hz1 hz2 rfl (by decide) _ _ _ rfl (hown.alloc _) ⟨wq.heap.size, 0, none⟩ 2 2 ([128 + (l : Int), (bk : Int)].map (.int .u8)) rfl rfl (gcells _ _ _) (gones _ _) (glens (by omega)) (by omega) (by have := hbel.size; simp; omega) ?_; intro v' w3 hown' hgrow hnn))
          have R := hide (gpush (M := [128 + (l : Int), (bk : Int)]) hbel hbel.size hown hown' hgrow)
          have hnv' : Hid (v' ≠ .slice none 0 0) := fun e => hnv.out (hnn.1 e).1
          clear hown' hgrow hnn hown hbel
          go_wp2
          go_roundw
          case rel => exact ⟨a + l, r + 2, L ++ [128 + (l : Int), (bk : Int)], by omega, by omega, by go_num, ⟨by rw [← hL.out.1, hstep.out, if_pos hl3]; simp, by simp [hL.out.2]⟩, R.out.1, hnv', R.out.2⟩
          case measure => simp [intOf]; omega
        · have hl3' : ¬ (3 : Int) ≤ (l : Int) := by omega
          by_cases hy0 : y = 0
          · have hor : y = 0 ∨ 127 < y := .inl hy0
            subst hy0
            go_upto_region 12 with (first
              | (at_builtin; refine wpList_append_own _ rfl _ _ 22 rfl w.heap.size 5 i0 (.int .u8 0) 1 1 Try.underlying22 hi hz0 hz1 hz2 rfl (by decide) _ _ _ rfl (hown.alloc _) ⟨wq.heap.size, 0, none⟩ 1 1 ([(0 : Int)].map (.int .u8)) rfl rfl (gcells _ _ _) (gones _ _) (glens (by omega)) (by omega) (by have := hbel.size; simp; omega) ?_; intro v1 w3 hown1 hgrow1 hnn1))
            obtain ⟨hown3, hbel3⟩ := gpush (M := [(0 : Int)]) hbel hbel.size hown hown1 hgrow1
            have hnv1 : Hid (v1 ≠ .slice none 0 0) := fun e => hnv.out (hnn1.1 e).1
            have hc3 : w3.cell? ⟨b, off + a, none⟩ = some (.int .u8 0) := (hbel3.cell (p := ⟨b, off + a, none⟩) hb).trans hc0
            clear hown1 hgrow1 hnn1 hown hbel hc
            go_wp2_with (first
              | (at_builtin; refine wpList_append_own _ rfl _ _ 22 rfl w.heap.size 5 i0 (.int .u8 0) 1 1 Try.underlying22 hi hz0 hz1 hz2 rfl (by decide) _ _ _ rfl (hown3.alloc _) ⟨w3.heap.size, 0, none⟩ 1 1 ([(0 : Int)].map (.int .u8)) rfl rfl (gcells _ _ _) (gones _ _) (glens (by omega)) (by omega) (by have := hbel3.size; simp; omega) ?_; intro v2 w4 hown2 hgrow2 hnn2))
            have R := hide (gpush (M := [(0 : Int)]) hbel3 hbel3.size hown3 hown2 hgrow2)
            have hnv' : Hid (v2 ≠ .slice none 0 0) := fun e => hnv1.out (hnn2.1 e).1
            clear hown2 hgrow2 hnn2 hown3 hbel3
            go_wp2
            go_roundw
            case rel => exact ⟨a + 1, r + 1 + 1, L ++ [0] ++ [(0 : Int)], by omega, by omega, by go_num, ⟨by rw [← hL.out.1, hstep.out, if_neg hl3, if_pos hor]; simp, by simp [hL.out.2]⟩, R.out.1, hnv', R.out.2⟩
            case measure => simp [intOf]; omega
          · by_cases hy1 : 127 < y
            · have hor : y = 0 ∨ 127 < y := .inr hy1
              have hd0 : decide (y = 0) = false := by simpa using hy0
              go_upto_region 12 with (first
                | (at_builtin; refine wpList_append_own _ rfl _ _ 22 rfl w.heap.size 5 i0 (.int .u8 0) 1 1 Try.underlying22 hi hz0 hz1 hz2 rfl (by decide) _ _ _ rfl (hown.alloc _) ⟨wq.heap.size, 0, none⟩ 1 1 ([(0 : Int)].map (.int .u8)) rfl rfl (gcells _ _ _) (gones _ _) (glens (by omega)) (by omega) (by have := hbel.size; simp; omega) ?_; intro v1 w3 hown1 hgrow1 hnn1))
              obtain ⟨hown3, hbel3⟩ := gpush (M := [(0 : Int)]) hbel hbel.size hown hown1 hgrow1
              have hnv1 : Hid (v1 ≠ .slice none 0 0) := fun e => hnv.out (hnn1.1 e).1
              have hc3 : w3.cell? ⟨b, off + a, none⟩ = some (.int .u8 y) := (hbel3.cell (p := ⟨b, off + a, none⟩) hb).trans hc0
              clear hown1 hgrow1 hnn1 hown hbel hc
              go_wp2_with (first
                | (at_builtin; refine wpList_append_own _ rfl _ _ 22 rfl w.heap.size 5 i0 (.int .u8 0) 1 1 Try.underlying22 hi hz0 hz1 hz2 rfl (by decide) _ _ _ rfl (hown3.alloc _) ⟨w3.heap.size, 0, none⟩ 1 1 ([y].map (.int .u8)) rfl rfl (gcells _ _ _) (gones _ _) (glens (by omega)) (by omega) (by have := hbel3.size; simp; omega) ?_; intro v2 w4 hown2 hgrow2 hnn2))
              have R := hide (gpush (M := [y]) hbel3 hbel3.size hown3 hown2 hgrow2)
              have hnv' : Hid (v2 ≠ .slice none 0 0) := fun e => hnv1.out (hnn2.1 e).1
              clear hown2 hgrow2 hnn2 hown3 hbel3
              go_wp2
              go_roundw
              case rel => exact ⟨a + 1, r + 1 + 1, L ++ [0] ++ [y], by omega, by omega, by go_num, ⟨by rw [← hL.out.1, hstep.out, if_neg hl3, if_pos hor]; simp, by simp [hL.out.2]⟩, R.out.1, hnv', R.out.2⟩
              case measure => simp [intOf]; omega
            · have hor : ¬ (y = 0 ∨ 127 < y) := by omega
              have hd0 : decide (y = 0) = false := by simpa using hy0
              have hd1 : decide (127 < y) = false := by simpa using hy1
              go_wp2_with (first
                | (at_builtin; refine wpList_append_own _ rfl _ _ 22 rfl w.heap.size 5 i0 (.int .u8 0) 1 1 Try.underlying22 hi hz0 hz1 hz2 rfl (by decide) _ _ _ rfl (hown.alloc _) ⟨wq.heap.size, 0, none⟩ 1 1 ([y].map (.int .u8)) rfl rfl (gcells _ _ _) (gones _ _) (glens (by omega)) (by omega) (by have := hbel.size; simp; omega) ?_; intro v2 w4 hown2 hgrow2 hnn2))
              have R := hide (gpush (M := [y]) hbel hbel.size hown hown2 hgrow2)
              have hnv' : Hid (v2 ≠ .slice none 0 0) := fun e => hnv.out (hnn2.1 e).1
              clear hown2 hgrow2 hnn2 hown hbel
              go_wp2
              go_roundw
              case rel => exact ⟨a + 1, r + 1, L ++ [y], by omega, by omega, by go_num, ⟨by rw [← hL.out.1, hstep.out, if_neg hl3, if_neg hor]; simp, by simp [hL.out.2]⟩, R.out.1, hnv', R.out.2⟩
              case measure => simp [intOf]; omega
      · obtain rfl : a = n := by omega
        go_wp2
        go_ret
        refine ⟨_, rfl, ?_, hnv.out, hbel⟩
        have e := hL.out.1
        rw [sqz_end, List.append_nil] at e
        rw [← e, hL.out.2]
        exact hown
end Go.Proofs.Ythhkmfgccbkkhaa

/- Run of the program, and the longest one. -/
namespace Go.Proofs.Ythhkmfgccbkkhaa
open Go.ChangeShapes Go.WideShapes Go.ChangeAt Go.RowKit
set_option linter.unusedVariables false
set_option linter.unusedSimpArgs false

theorem run_impl (ao : Option Addr) (n cap : Nat) (f : Nat → Int) (at_ back : Int) (w : World) (hn : n ≤ 1048576) (hat : at_ < 9223372036854775808) (hs : SL .u8 w ao n f) :
    Calls Try.prog 101 #[.slice ao n cap, .int .i64 at_, .int .i64 back] w fun e w' => e = .returned (.int .i64 (rrun f n at_ back)) ∧ ∃ q, w' = w.drewN q := by
  by_cases h2 : 1 ≤ back ∧ back ≤ min at_ 255
  · by_cases h1 : at_ ≤ (n : Int) - 1
    · obtain ⟨a, rfl⟩ : ∃ a : Nat, at_ = a := ⟨at_.toNat, by omega⟩
      obtain ⟨k0, rfl⟩ : ∃ k : Nat, back = k := ⟨back.toNat, by omega⟩
      have hrr : rrun f n (a : Int) (k0 : Int) = (run f n a k0 : Nat) := by unfold rrun; rw [if_pos ⟨by omega, h1, h2.1, h2.2⟩]; simp
      rw [hrr]
      have ha : a < n := by omega
      have hka : k0 ≤ a := by omega
      have hk1 : 1 ≤ k0 := by omega
      have hk2 : k0 ≤ 255 := by omega
      have g1 : decide ((k0 : Int) < 1) = false := by simp; omega
      have g2 : decide (min (a : Int) 255 < (k0 : Int)) = false := by simp; omega
      clear hrr h1 h2 hat
      go_enter Try.func101, Try.ntmps101
      go_wp2
      clear g1 g2
      go_loopw [7] (fun i wr => ∃ k : Nat, k ≤ 100 ∧ a + k ≤ n ∧ i = .int .i64 k ∧ Hid (runFrom f n a k0 (100 - k) k = run f n a k0) ∧ ∃ q, wr = w.drewN q) (fun i _ => 100 - (intOf i).toNat)
      case atStart => exact ⟨0, by omega, by omega, rfl, rfl, 0, rfl⟩
      case round =>
        obtain ⟨k, hk, hkn, rfl, A, q, rfl⟩ := hrel
        by_cases h100 : k < 100
        · have d1 : decide ((k : Int) < 100) = true := by simp; omega
          obtain ⟨m, hm⟩ : ∃ m, 100 - k = m + 1 := ⟨100 - k - 1, by omega⟩
          by_cases hlt : a + k < n
          · have d2 : decide ((a : Int) + (k : Int) < (n : Int)) = true := by simp; omega
            obtain ⟨b, off, rfl, hb, hc⟩ := hs (a + k) hlt
            obtain ⟨b', off', e', hb', hc'⟩ := hs (a + k - k0) (by omega)
            simp only [Option.some.injEq, Addr.mk.injEq] at e'
            obtain ⟨rfl, rfl, _⟩ := e'
            have t1 : ((a : Int) + (k : Int)).toNat = a + k := by omega
            have t2 : ((a : Int) + (k : Int) - (k0 : Int)).toNat = a + k - k0 := by omega
            have t3 : (0 : Int) ≤ (a : Int) + (k : Int) := by omega
            have t4 : (0 : Int) ≤ (a : Int) + (k : Int) - (k0 : Int) := by omega
            have t5 : (a : Int) + (k : Int) < (n : Int) := by omega
            have t6 : (a : Int) + (k : Int) - (k0 : Int) < (n : Int) := by omega
            clear hs
            generalize hy : f (a + k) = y at *
            generalize hx : f (a + k - k0) = x at *
            have B : Hid (f (a + k) = y ∧ f (a + k - k0) = x) := ⟨hy, hx⟩
            clear hy hx
            by_cases he : y = x
            · have hd : decide (y = x) = true := by simpa using he
              subst he
              go_wp2
              go_quiet (fail)
              go_wp2
              go_roundw
              case rel => exact ⟨k + 1, by omega, by omega, by go_num, (show _ = _ by rw [← A.out, hm, runFrom, if_pos ⟨hlt, by rw [B.out.1, B.out.2]⟩, show 100 - (k + 1) = m by omega]), _, rfl⟩
              case measure => simp [intOf]; omega
            · have hd : decide (y = x) = false := by simpa using he
              go_wp2
              go_quiet (fail)
              go_wp2
              go_ret
              refine ⟨?_, _, World.drewN_drewN ..⟩
              rw [← A.out, hm, runFrom, if_neg (fun h => he (by rw [← B.out.1, ← B.out.2]; exact h.2))]
              rfl
          · have d2 : decide ((a : Int) + (k : Int) < (n : Int)) = false := by simp; omega
            clear hs
            go_wp2
            go_quiet (fail)
            go_wp2
            go_ret
            refine ⟨?_, _, World.drewN_drewN ..⟩
            rw [← A.out, hm, runFrom, if_neg (fun h => hlt h.1)]
            rfl
        · have d1 : decide ((k : Int) < 100) = false := by simp; omega
          obtain rfl : k = 100 := by omega
          clear hs
          go_wp2
          go_quiet (fail)
          go_wp2
          go_ret
          refine ⟨?_, _, World.drewN_drewN ..⟩
          rw [← A.out]
          rfl
    · have hrr : rrun f n at_ back = 0 := by unfold rrun; rw [if_neg (fun h => h1 h.2.1)]
      rw [hrr]
      have g1 : decide (back < 1) = false := by simp; omega
      have g2 : decide (min at_ 255 < back) = false := by simp; omega
      have g3 : decide (at_ < (n : Int)) = false := by simp; omega
      clear hs hrr
      go_enter Try.func101, Try.ntmps101
      go_wp2
      clear g1 g2
      go_loopw [7] (fun i wr => i = .int .i64 0 ∧ wr = w) (fun _ _ => 0)
      case atStart => exact ⟨rfl, rfl⟩
      case round =>
        obtain ⟨rfl, rfl⟩ := hrel
        go_wp2
        go_quiet (fail)
        go_wp2
        go_ret
        exact ⟨rfl, _, rfl⟩
  · have hrr : rrun f n at_ back = 0 := by unfold rrun; rw [if_neg (fun h => h2 h.2.2)]
    rw [hrr]
    clear hs hrr
    by_cases h3 : back < 1
    · go_enter Try.func101, Try.ntmps101
      go_wp2
      go_ret
      exact ⟨rfl, 0, rfl⟩
    · have g2 : decide (min at_ 255 < back) = true := by simp; omega
      go_enter Try.func101, Try.ntmps101
      go_wp2
      go_ret
      exact ⟨rfl, 0, rfl⟩

theorem best_impl (ao : Option Addr) (n cap a : Nat) (f : Nat → Int) (w : World) (hn : n ≤ 1048576) (ha : a < n) (hs : SL .u8 w ao n f) :
    Calls Try.prog 91 #[.slice ao n cap, .int .i64 (a : Int)] w fun e w' => e = .returned (.tuple #[.int .i64 ((bst f n a (min a 255)).2 : Nat), .int .i64 ((bst f n a (min a 255)).1 : Nat)]) ∧ ∃ q, w' = w.drewN q := by
  have hrun : Hid (∀ (k q : Nat), 1 ≤ k → k ≤ min a 255 → Calls Try.prog 101 #[.slice ao n cap, .int .i64 (a : Int), .int .i64 (k : Int)] (w.drewN q) fun e w' => e = .returned (.int .i64 (run f n a k : Nat)) ∧ ∃ q', w' = (w.drewN q).drewN q') := fun k q h1 h2 => by
    have h := run_impl ao n cap f (a : Int) (k : Int) (w.drewN q) hn (by omega) hs
    rw [show rrun f n (a : Int) (k : Int) = (run f n a k : Nat) by unfold rrun; rw [if_pos ⟨by omega, by omega, by omega, by omega⟩]; simp] at h
    exact h
  have hmin : min (a : Int) 255 = ((min a 255 : Nat) : Int) := by omega
  generalize hL : min a 255 = L at *
  have HL := hide hL
  clear hs hL
  go_enter Try.func91, Try.ntmps91
  go_wp2
  go_loopw [6, 7, 8, 9] (fun y x i _ wr => ∃ k : Nat, k ≤ L ∧ i = .int .i64 ((k + 1 : Nat) : Int) ∧ x = .int .i64 ((bst f n a k).1 : Nat) ∧ y = .int .i64 ((bst f n a k).2 : Nat) ∧ ∃ q, wr = w.drewN q) (fun _ _ i _ _ => L + 1 - (intOf i).toNat)
  case atStart => exact ⟨0, by omega, rfl, rfl, rfl, 0, rfl⟩
  case round =>
    obtain ⟨k, hk, rfl, rfl, rfl, q, rfl⟩ := hrel
    by_cases hlt : k < L
    · have hmk : ((k + 1 : Nat) : Int) ≤ min (a : Int) 255 := by omega
      go_wp2_with fail
      refine (hrun.out (k + 1) q (by omega) (by have := HL.out; omega)).mono ?_
      rintro e w8 ⟨rfl, q8, hw8⟩
      rw [hw8, World.drewN_drewN]
      clear hw8 hmk
      generalize hr : run f n a (k + 1) = r
      have HR := hide hr
      clear hr
      have hl100 : (bst f n a k).2 ≤ 100 := by
        rcases bst_is f n a k with e | ⟨_, _, e⟩
        · rw [e]; simp
        · rw [e]; exact run_le _ _ _ _
      generalize hb : bst f n a k = p at *
      have HB := hide hb
      clear hb
      by_cases hgt : p.2 < r
      · have hd : (p.2 : Int) < (r : Int) := by omega
        go_wp2
        go_roundw
        case rel => exact ⟨k + 1, by omega, by go_num, by rw [bst, HB.out, HR.out, if_pos hgt]; simp, by rw [bst, HB.out, HR.out, if_pos hgt], _, rfl⟩
        case measure => simp [intOf]; omega
      · have hd : ¬ (p.2 : Int) < (r : Int) := by omega
        go_wp2
        go_roundw
        case rel => exact ⟨k + 1, by omega, by go_num, by rw [bst, HB.out, HR.out, if_neg hgt], by rw [bst, HB.out, HR.out, if_neg hgt], _, rfl⟩
        case measure => simp [intOf]; omega
    · obtain rfl : k = L := by omega
      have hmk : ¬ ((k + 1 : Nat) : Int) ≤ min (a : Int) 255 := by omega
      go_wp2
      go_ret2
      exact ⟨rfl, q, rfl⟩
end Go.Proofs.Ythhkmfgccbkkhaa

/- Squeeze of the program: a label, and a jump back to it from within its loop. -/
namespace Go.Proofs.Ythhkmfgccbkkhaa
open Go.ChangeShapes Go.WideShapes Go.ChangeAt Go.RowKit
set_option linter.unusedVariables false
set_option linter.unusedSimpArgs false
set_option maxRecDepth 100000

theorem wp_scope_back {P : Program} {a : Act} {w : World} {Q : Exit → Act → World → Prop} {c X : Code} (l : Nat) (J : Act → World → Prop) (m : Act → World → Nat) (hf : findLabel c l = some (Code.seq .skip X))
    (pass : ∀ a w k, J a w → m a w = k → X.wp P (Exit.jump l (fun a' w' => J a' w' ∧ m a' w' < k) Q) a w)
    (first : (∀ a w, J a w → X.wp P (Exit.jump l J Q) a w) → c.wp P (Exit.jump l J Q) a w) : (Code.scope c).wp P Q a w := by
  refine wp_scope_jumps l J m hf (first fun a w h => wp_mono (pass a w _ h rfl) ?_) (fun a w h => wp_seq (wp_skip (pass a w _ h rfl)))
  intro e a' w' hq
  cases e with
  | goto l' => exact ⟨hq.1, hq.2.1⟩
  | normal => exact hq
  | exit id => exact hq
  | ret => exact hq
  | panic ch => exact hq
  | outgrown => exact hq

theorem act_lit (a' : Act) (hd : a'.defers = []) : a' = { tmps := ((List.range a'.tmps.size).map fun i => a'.tmps.getD i undef).toArray, defers := [] } := by
  obtain ⟨t, d⟩ := a'
  simp only at hd
  subst hd
  congr 1
  apply Array.ext
  · simp
  · intro i h1 h2
    simp [Array.getD, h1]
theorem lit52 (a' : Act) (h : a'.tmps.size = 52) (hd : a'.defers = []) : ∃ u : Nat → Value, a' = { tmps := #[u 0, u 1, u 2, u 3, u 4, u 5, u 6, u 7, u 8, u 9, u 10, u 11, u 12, u 13, u 14, u 15, u 16, u 17, u 18, u 19, u 20, u 21, u 22, u 23, u 24, u 25, u 26, u 27, u 28, u 29, u 30, u 31, u 32, u 33, u 34, u 35, u 36, u 37, u 38, u 39, u 40, u 41, u 42, u 43, u 44, u 45, u 46, u 47, u 48, u 49, u 50, u 51], defers := [] } := by
  refine ⟨fun i => a'.tmps.getD i undef, ?_⟩
  have e := act_lit a' hd
  rw [h] at e
  exact e

theorem stands_yes (y : Int) (w : World) (h : 1 ≤ y ∧ y ≤ 127) : Calls Try.prog 92 #[.int .u8 y] w fun e w' => e = .returned (.bool true) ∧ w' = w := by
  have d1 : (y != 0) = true := by simp; omega
  have d2 : decide (y < 128) = true := by simp; omega
  go_enter Try.func92, Try.ntmps92
  go_wp2
  go_ret
  exact ⟨rfl, rfl⟩
theorem stands_no (y : Int) (w : World) (h : y = 0 ∨ 127 < y) : Calls Try.prog 92 #[.int .u8 y] w fun e w' => e = .returned (.bool false) ∧ w' = w := by
  by_cases h0 : y = 0
  · subst h0
    go_enter Try.func92, Try.ntmps92
    go_wp2
    go_ret
    exact ⟨rfl, rfl⟩
  · have d1 : decide (y = 0) = false := by simpa using h0
    have d2 : decide (y < 128) = false := by simp; omega
    go_enter Try.func92, Try.ntmps92
    go_wp2
    go_ret
    exact ⟨rfl, rfl⟩

/-- What holds at the label. -/
def SqJ (ao : Option Addr) (n cap : Nat) (f : Nat → Int) (w : World) (a' : Act) (wr : World) : Prop :=
  a'.tmps.size = 52 ∧ a'.defers = [] ∧ a'.tmps[0]? = some (.slice ao n cap) ∧
  ∃ (a r : Nat) (L : List Int) (v : Value), a'.tmps[3]? = some v ∧ a'.tmps[4]? = some (.int .i64 (a : Int)) ∧ a ≤ n ∧ r ≤ 2 * a ∧ (L ++ sqz f n n a = sqz f n n 0 ∧ L.length = r) ∧ wr.ownsRow w.heap.size 5 1 v r (L.map (.int .u8)) ∧ Below w.heap.size w wr

theorem squeeze_impl (ao : Option Addr) (n cap : Nat) (f : Nat → Int) (w : World) (hn : n ≤ 1073741824) (hs : SL .u8 w ao n f) (hf : ∀ i, i < n → 0 ≤ f i ∧ f i ≤ 255) :
    Calls Try.prog 57 #[.slice ao n cap] w fun e w' => ∃ v, e = .returned v ∧ w'.ownsRow w.heap.size 5 1 v (squeeze f n).length ((squeeze f n).map (.int .u8)) ∧ Below w.heap.size w w' := by
  obtain ⟨i0, hi, hz0, hz1, hz2⟩ := info_parts Try.info5
  by_cases h3 : 3000 < n
  · have hq : squeeze f n = [] := by unfold squeeze; rw [if_pos h3]
    rw [hq]
    clear hs hf hq
    go_enter Try.func57, Try.ntmps57
    go_wp2
    go_step3
    go_wp2
    rw [Exit.noGoto_ret]
    go_ret
    exact ⟨_, rfl, gnil, Below.refl _ _⟩
  · have hq : squeeze f n = sqz f n n 0 := by unfold squeeze; rw [if_neg h3]
    rw [hq]
    have HS := hide hs
    have HF := hide hf
    clear hs hf hq
    go_enter Try.func57, Try.ntmps57
    go_wp2
    refine wp_scope_back 0 (SqJ ao n cap f w) (fun a' _ => n - (intOf (a'.tmps.getD 4 undef)).toNat) rfl ?pass ?first
    case first =>
      intro hp
      have HP := hide hp
      clear hp
      go_wp2
      go_step3
      rename_i hK
      apply hK
      exact HP.out _ _ ⟨rfl, rfl, rfl, 0, 0, [], _, rfl, rfl, by omega, by omega, ⟨rfl, rfl⟩, gnil, Below.refl _ _⟩
    case pass =>
      rintro a' wp0 k0 ⟨hsz, hdf, h0, a0, r0, L0, v0, h3', h4', ha0, hr0, hL0, hown0, hbel0⟩ hk0
      obtain ⟨u, rfl⟩ := lit52 a' hsz hdf
      have e0 : u 0 = _ := Option.some.inj h0
      have e3 : u 3 = _ := Option.some.inj h3'
      have e4 : u 4 = _ := Option.some.inj h4'
      clear hsz hdf h0 h3' h4'
      have HL0 := hide hL0
      clear hL0
      have hk : n - a0 = k0 := by rw [← hk0]; show _ = n - (intOf (u 4)).toNat; rw [e4]; simp [intOf]
      rw [e0, e3, e4]
      clear e0 e3 e4 hk0
      go_wp2
      go_loopw [3, 4, 5, 6] (fun v i _ _ wr => ∃ (a r : Nat) (L : List Int), a0 ≤ a ∧ a ≤ n ∧ r ≤ 2 * a ∧ i = .int .i64 a ∧ Hid (L ++ sqz f n n a = sqz f n n 0 ∧ L.length = r) ∧ wr.ownsRow w.heap.size 5 1 v r (L.map (.int .u8)) ∧ Below w.heap.size w wr) (fun _ i _ _ _ => n - (intOf i).toNat)
      case atStart => exact ⟨a0, r0, L0, by omega, ha0, hr0, rfl, HL0, hown0, hbel0⟩
      case round =>
        clear hown0 hbel0 HL0 hr0
        obtain ⟨a, r, L, hga, han, hra, rfl, hL, hown, hbel⟩ := hrel
        by_cases hlt : a < n
        · obtain ⟨b, off, rfl, hb, hc0⟩ := HS.out a hlt
          have hy := HF.out a hlt
          obtain ⟨hp1, hp2, hp3⟩ := bst_bd f n a (min a 255) (by omega)
          have hstep := hide (sqz_step f n a hlt)
          have hbest := hide (best_impl (some ⟨b, off, none⟩) n cap a f wr (by omega) hlt (HS.out.below hbel))
          have hc1 : ∀ q, (wr.drewN q).cell? ⟨b, off + a, none⟩ = some (.int .u8 (f a)) := fun q => (hbel.cell (p := ⟨b, off + a, none⟩) hb).trans hc0
          generalize hbp : bst f n a (min a 255) = p at *
          obtain ⟨bk, l⟩ := p
          simp only at hp1 hp2 hp3 hstep hbest
          generalize hfa : f a = y at *
          have HOW := hide (And.intro hown hbel)
          have HC := hide hc1
          clear hbp hfa hown hbel hc1
          go_wp2_with fail
          refine hbest.out.mono ?_
          rintro e w2 ⟨rfl, q, hw2⟩
          rw [hw2]
          clear hw2 hbest
          have hown := gdrawn HOW.out.1 q
          have hbel := Below.drawn HOW.out.2 q
          have hc := HC.out q
          clear HOW HC
          generalize wr.drewN q = wq at *
          by_cases hl3 : 3 ≤ l
          · have hw1 : IntKind.u8.wrap (128 + (l : Int)) = 128 + (l : Int) := by rw [IntKind.wrap_u8]; omega
            have hw2 : IntKind.u8.wrap (bk : Int) = (bk : Int) := by rw [IntKind.wrap_u8]; omega
            go_wp2_with (first
              | (at_builtin; refine wpList_append_own _ rfl _ _ 22 rfl w.heap.size 5 i0 (.int .u8 0) 1 1 Try.underlying22 hi hz0 hz1 hz2 rfl (by decide) _ _ _ rfl (hown.alloc _) ⟨wq.heap.size, 0, none⟩ 2 2 ([128 + (l : Int), (bk : Int)].map (.int .u8)) rfl rfl (gcells _ _ _) (gones _ _) (glens (by omega)) (by omega) (by have := hbel.size; simp; omega) ?_; intro v' w3 hown' hgrow hnn))
            have R := hide (gpush (M := [128 + (l : Int), (bk : Int)]) hbel hbel.size hown hown' hgrow)
            clear hown' hgrow hnn hown hbel
            go_wp2
            go_step3
            have hal : (a : Int) + (l : Int) = ((a + l : Nat) : Int) := by omega
            rw [hal]
            refine ⟨rfl, ⟨rfl, rfl, rfl, a + l, r + 2, L ++ [128 + (l : Int), (bk : Int)], v', rfl, rfl, hp3 hl3, by omega, ⟨by rw [← hL.out.1, hstep.out, if_pos hl3]; simp, by simp [hL.out.2]⟩, R.out.1, R.out.2⟩, ?_⟩
            have := hp3 hl3
            simp [intOf]
            omega
          · have hl3' : ¬ (3 : Int) ≤ (l : Int) := by omega
            by_cases hor : y = 0 ∨ 127 < y
            · go_upto_region 12 with (first
                | (go_at_call 92; refine (stands_no _ _ hor).mono ?_; rintro e9 w9 ⟨rfl, hw9⟩; rw [hw9]; clear hw9)
                | (at_builtin; refine wpList_append_own _ rfl _ _ 22 rfl w.heap.size 5 i0 (.int .u8 0) 1 1 Try.underlying22 hi hz0 hz1 hz2 rfl (by decide) _ _ _ rfl (hown.alloc _) ⟨wq.heap.size, 0, none⟩ 1 1 ([(0 : Int)].map (.int .u8)) rfl rfl (gcells _ _ _) (gones _ _) (glens (by omega)) (by omega) (by have := hbel.size; simp; omega) ?_; intro v1 w3 hown1 hgrow1 hnn1))
              obtain ⟨hown3, hbel3⟩ := gpush (M := [(0 : Int)]) hbel hbel.size hown hown1 hgrow1
              have hc3 : w3.cell? ⟨b, off + a, none⟩ = some (.int .u8 y) := (hbel3.cell (p := ⟨b, off + a, none⟩) hb).trans hc0
              clear hown1 hgrow1 hnn1 hown hbel hc
              go_wp2_with (first
                | (at_builtin; refine wpList_append_own _ rfl _ _ 22 rfl w.heap.size 5 i0 (.int .u8 0) 1 1 Try.underlying22 hi hz0 hz1 hz2 rfl (by decide) _ _ _ rfl (hown3.alloc _) ⟨w3.heap.size, 0, none⟩ 1 1 ([y].map (.int .u8)) rfl rfl (gcells _ _ _) (gones _ _) (glens (by omega)) (by omega) (by have := hbel3.size; simp; omega) ?_; intro v2 w4 hown2 hgrow2 hnn2))
              have R := hide (gpush (M := [y]) hbel3 hbel3.size hown3 hown2 hgrow2)
              clear hown2 hgrow2 hnn2 hown3 hbel3
              go_wp2
              go_roundw
              case rel => exact ⟨a + 1, r + 1 + 1, L ++ [0] ++ [y], by omega, by omega, by omega, by go_num, ⟨by rw [← hL.out.1, hstep.out, if_neg hl3, if_pos hor]; simp, by simp [hL.out.2]⟩, R.out.1, R.out.2⟩
              case measure => simp [intOf]; omega
            · go_wp2_with (first
                | (go_at_call 92; refine (stands_yes _ _ (by omega)).mono ?_; rintro e9 w9 ⟨rfl, hw9⟩; rw [hw9]; clear hw9)
                | (at_builtin; refine wpList_append_own _ rfl _ _ 22 rfl w.heap.size 5 i0 (.int .u8 0) 1 1 Try.underlying22 hi hz0 hz1 hz2 rfl (by decide) _ _ _ rfl (hown.alloc _) ⟨wq.heap.size, 0, none⟩ 1 1 ([y].map (.int .u8)) rfl rfl (gcells _ _ _) (gones _ _) (glens (by omega)) (by omega) (by have := hbel.size; simp; omega) ?_; intro v2 w4 hown2 hgrow2 hnn2))
              have R := hide (gpush (M := [y]) hbel hbel.size hown hown2 hgrow2)
              clear hown2 hgrow2 hnn2 hown hbel
              go_wp2
              go_roundw
              case rel => exact ⟨a + 1, r + 1, L ++ [y], by omega, by omega, by omega, by go_num, ⟨by rw [← hL.out.1, hstep.out, if_neg hl3, if_neg hor]; simp, by simp [hL.out.2]⟩, R.out.1, R.out.2⟩
              case measure => simp [intOf]; omega
        · obtain rfl : a = n := by omega
          go_wp2
          simp only [Exit.jump]
          go_ret
          refine ⟨_, rfl, ?_, hbel⟩
          have e := hL.out.1
          rw [sqz_end, List.append_nil] at e
          rw [← e, hL.out.2]
          exact hown
end Go.Proofs.Ythhkmfgccbkkhaa

/- Pack of the model and of the program. -/
namespace Go.Proofs.Ythhkmfgccbkkhaa
open Go.ChangeShapes Go.WideShapes Go.ChangeAt Go.RowKit
set_option linter.unusedVariables false
set_option linter.unusedSimpArgs false
set_option maxRecDepth 100000

/-- The messages packed. -/
def pck (M : Nat → Mg) (n : Nat) : List Int := squeeze (fun i => (frs M n).getD i 0) (frs M n).length

theorem pack_spec (ao : Option Addr) (n cap : Nat) (M : Nat → Mg) (w : World) (hn : n ≤ 1048576) (hg : ∀ i, i < n → (M i).g.length ≤ 1048576) (hs : MSL w ao n M) :
    Calls Try.prog 24 #[.slice ao n cap] w fun e w' => ∃ v, e = .returned v ∧ w'.ownsRow w.heap.size 5 1 v (pck M n).length ((pck M n).map (.int .u8)) ∧ Below w.heap.size w w' := by
  obtain ⟨i0, hi, hz0, hz1, hz2⟩ := info_parts Try.info5
  have HS := hide hs
  have HG := hide hg
  clear hs hg
  go_enter Try.func24, Try.ntmps24
  go_wp2
  go_loopw [3, 4] (fun v i wr => ∃ j : Nat, j ≤ n ∧ i = .int .i64 j ∧ Hid (wr.ownsRow w.heap.size 5 1 v (frs M j).length ((frs M j).map (.int .u8)) ∧ Below w.heap.size w wr)) (fun _ i _ => n - (intOf i).toNat)
  case atStart => exact ⟨0, by omega, rfl, gempty (Nat.le_refl _), (Below.refl _ _).alloc (Nat.le_refl _) _⟩
  case round =>
    obtain ⟨j, hj, rfl, HI⟩ := hrel
    have hFl := frs_len M j
    by_cases hlt : j < n
    · obtain ⟨b, off, rfl, ro, rc, hrc, hsl, c0, c1, c2, c3, c4⟩ := (HS.out.below HI.out.2) j hlt
      have hG := HG.out j hlt
      have E : Hid (frs M (j + 1) = frs M j ++ mby (M j)) := rfl
      have hml := mby_len (M j)
      have HSL := hide hsl
      generalize M j = m at *
      generalize frs M j = F at *
      clear hsl
      go_wp2_with fail
      refine (mby_spec ro rc _ hG hrc HSL.out).mono ?_
      rintro e w3 ⟨v3, rfl, ho3, hb3⟩
      have HSR := hide (Src.of_owns ho3)
      have HI3 : Hid (w3.ownsRow w.heap.size 5 1 u3 F.length (F.map (.int .u8)) ∧ Below w.heap.size w w3) := ⟨gbelow HI.out.1 hb3, HI.out.2.trans (hb3.mono HI.out.2.size)⟩
      have hsz := HI3.out.2.size
      clear ho3 hb3 HI c0 c1 c2 c3 c4 HSL
      generalize mby m = B at *
      go_wp2_with (first
        | (at_builtin; refine wpList_append_src rfl _ _ 22 rfl w.heap.size 5 i0 (.int .u8 0) 1 Try.underlying22 hi hz0 hz1 hz2 rfl .u8 _ F rfl HI3.out.1 _ B rfl HSR.out (by unfold maxLen; omega) (by omega) hsz ?_; intro v' w4 hown' hgrow))
      have R := hide (And.intro hown' (ggrown HI3.out.2 hsz HI3.out.1 hgrow))
      clear hown' hgrow
      go_wp2
      go_roundw
      case rel => exact ⟨j + 1, by omega, by go_num, by rw [E.out]; exact R.out⟩
      case measure => simp [intOf]; omega
    · obtain rfl : j = n := by omega
      obtain ⟨ao', c', rfl⟩ := (Src.of_owns HI.out.1).form
      have hsl := (Src.of_owns HI.out.1).slu
      have hsq := hide (squeeze_spec ao' (frs M j).length c' (fun i => (frs M j).getD i 0) wr (by omega) hsl (fun i hi => frs_byte M j _ (getD_mem _ i hi)))
      clear hsl
      go_wp2_with fail
      refine hsq.out.mono ?_
      rintro e w5 ⟨v5, rfl, o5, _, b5⟩
      have R := hide (And.intro (gmono o5 HI.out.2.size) (HI.out.2.trans (b5.mono HI.out.2.size)))
      clear o5 b5 hsq
      go_wp2
      go_ret
      exact ⟨_, rfl, R.out⟩
theorem pack_impl (ao : Option Addr) (n cap : Nat) (M : Nat → Mg) (w : World) (hn : n ≤ 1048576) (hg : ∀ i, i < n → (M i).g.length ≤ 1048576) (hs : MSL w ao n M) :
    Calls Try.prog 17 #[.slice ao n cap] w fun e w' => ∃ v, e = .returned v ∧ w'.ownsRow w.heap.size 5 1 v (pck M n).length ((pck M n).map (.int .u8)) ∧ Below w.heap.size w w' := by
  obtain ⟨i0, hi, hz0, hz1, hz2⟩ := info_parts Try.info5
  have HS := hide hs
  have HG := hide hg
  clear hs hg
  go_enter Try.func17, Try.ntmps17
  go_wp2
  go_loopw [3, 5, 8] (fun v _ i wr => ∃ j : Nat, j ≤ n ∧ i = .int .i64 j ∧ Hid (wr.ownsRow w.heap.size 5 1 v (frs M j).length ((frs M j).map (.int .u8)) ∧ Below w.heap.size w wr)) (fun _ _ i _ => n - (intOf i).toNat)
  case atStart => exact ⟨0, by omega, rfl, gnil, Below.refl _ _⟩
  case round =>
    obtain ⟨j, hj, rfl, HI⟩ := hrel
    have hFl := frs_len M j
    by_cases hlt : j < n
    · obtain ⟨b, off, rfl, ro, rc, hrc, hsl, c0, c1, c2, c3, c4⟩ := (HS.out.below HI.out.2) j hlt
      have hG := HG.out j hlt
      have E : Hid (frs M (j + 1) = frs M j ++ mby (M j)) := rfl
      have hml := mby_len (M j)
      have HSL := hide hsl
      generalize M j = m at *
      generalize frs M j = F at *
      clear hsl
      go_wp2_with fail
      have hbA : Below wr.heap.size wr (wr.alloc (.cells #[.int .i64 m.k, .int .i64 m.c, .int .i64 m.v, .int .i64 m.h, .slice ro m.g.length rc] 26)) := (Below.refl _ _).alloc (Nat.le_refl _) _
      refine (mby_impl ro rc _ hG hrc (HSL.out.below hbA)).mono ?_
      rintro e w3 ⟨v3, rfl, ho3, hb3'⟩
      have hb3 := hbA.trans (hb3'.mono hbA.size)
      clear hb3' hbA
      have HSR := hide (Src.of_owns ho3)
      have HI3 : Hid (w3.ownsRow w.heap.size 5 1 u3 F.length (F.map (.int .u8)) ∧ Below w.heap.size w w3) := ⟨gbelow HI.out.1 hb3, HI.out.2.trans (hb3.mono HI.out.2.size)⟩
      have hsz := HI3.out.2.size
      clear ho3 hb3 HI c0 c1 c2 c3 c4 HSL
      generalize mby m = B at *
      go_wp2_with (first
        | (at_builtin; refine wpList_append_src rfl _ _ 22 rfl w.heap.size 5 i0 (.int .u8 0) 1 Try.underlying22 hi hz0 hz1 hz2 rfl .u8 _ F rfl HI3.out.1 _ B rfl HSR.out (by unfold maxLen; omega) (by omega) hsz ?_; intro v' w4 hown' hgrow))
      have R := hide (And.intro hown' (ggrown HI3.out.2 hsz HI3.out.1 hgrow))
      clear hown' hgrow
      go_wp2
      go_roundw
      case rel => exact ⟨j + 1, by omega, by go_num, by rw [E.out]; exact R.out⟩
      case measure => simp [intOf]; omega
    · obtain rfl : j = n := by omega
      obtain ⟨ao', c', rfl⟩ := (Src.of_owns HI.out.1).form
      have hsl := (Src.of_owns HI.out.1).slu
      have hsq := hide (squeeze_impl ao' (frs M j).length c' (fun i => (frs M j).getD i 0) wr (by omega) hsl (fun i hi => frs_byte M j _ (getD_mem _ i hi)))
      clear hsl
      go_wp2_with fail
      refine hsq.out.mono ?_
      rintro e w5 ⟨v5, rfl, o5, b5⟩
      have R := hide (And.intro (gmono o5 HI.out.2.size) (HI.out.2.trans (b5.mono HI.out.2.size)))
      clear o5 b5 hsq
      go_wp2
      go_ret
      exact ⟨_, rfl, R.out⟩
end Go.Proofs.Ythhkmfgccbkkhaa

/- Lists of messages as the laws hand them on. -/
namespace Go.Proofs.Ythhkmfgccbkkhaa
open Go.ChangeShapes Go.WideShapes Go.ChangeAt Go.RowKit
set_option linter.unusedVariables false
set_option linter.unusedSimpArgs false
set_option maxRecDepth 100000

/-- How many numbers stand in the first n. -/
def gsum (M : Nat → Mg) : Nat → Nat
  | 0 => 0
  | j + 1 => gsum M j + (M j).g.length
theorem gsum_le (M : Nat → Mg) (j n : Nat) (h : j ≤ n) : gsum M j ≤ gsum M n := by
  induction n with
  | zero => obtain rfl : j = 0 := by omega
            exact Nat.le_refl _
  | succ n ih =>
    by_cases e : j = n + 1
    · subst e; exact Nat.le_refl _
    · have := ih (by omega); simp only [gsum]; omega
theorem gsum_one (M : Nat → Mg) (j n : Nat) (h : j < n) : (M j).g.length ≤ gsum M n := by
  have := gsum_le M (j + 1) n h
  simp only [gsum] at this
  omega

/-- n messages in a row of their own at g, each with its numbers in a row of its own; all of it lies from B on and below T. -/
def OM (w : World) (B T g n : Nat) (M : Nat → Mg) (c : Array Value) (R : Nat → Option Addr × Nat) : Prop :=
  (B ≤ g ∧ g < T ∧ T ≤ w.heap.size) ∧ w.heap[g]? = some (.cells c 26 (0, 0)) ∧ n * 5 ≤ c.size ∧
  ∀ i, i < n → (c[i * 5]? = some (.int .i64 (M i).k) ∧ c[i * 5 + 1]? = some (.int .i64 (M i).c) ∧ c[i * 5 + 2]? = some (.int .i64 (M i).v) ∧ c[i * 5 + 3]? = some (.int .i64 (M i).h) ∧ c[i * 5 + 4]? = some (.slice (R i).1 (M i).g.length (R i).2)) ∧
    (M i).g.length ≤ (R i).2 ∧ Own w B 3 (R i).1 (M i).g.length (fun j => .int .i64 ((M i).g.getD j 0)) ∧
    ∀ γ, (R i).1 = some ⟨γ, 0, none⟩ → 0 < (M i).g.length → (γ < T ∧ γ ≠ g) ∧ ∀ j, j < n → j ≠ i → 0 < (M j).g.length → (R j).1 ≠ some ⟨γ, 0, none⟩
theorem OM.lt {w : World} {B T g n : Nat} {M : Nat → Mg} {c : Array Value} {R : Nat → Option Addr × Nat} (h : OM w B T g n M c R) : g < w.heap.size := by have := h.1; omega
theorem OM.msl {w : World} {B T g n : Nat} {M : Nat → Mg} {c : Array Value} {R : Nat → Option Addr × Nat} (h : OM w B T g n M c R) : MSL w (some ⟨g, 0, none⟩) n M := fun i hi => by
  obtain ⟨⟨c0, c1, c2, c3, c4⟩, hrc, ho, _⟩ := h.2.2.2 i hi
  refine ⟨g, 0, rfl, (R i).1, (R i).2, hrc, ho.sl, ?_, ?_, ?_, ?_, ?_⟩
  · simp only [World.cell?, h.2.1, Nat.zero_add]; exact c0
  · simp only [World.cell?, h.2.1, Nat.zero_add]; exact c1
  · simp only [World.cell?, h.2.1, Nat.zero_add]; exact c2
  · simp only [World.cell?, h.2.1, Nat.zero_add]; exact c3
  · simp only [World.cell?, h.2.1, Nat.zero_add]; exact c4
/-- What leaves all blocks from B on below T as they were leaves the messages. -/
theorem OM.kept {w w' : World} {B T g n : Nat} {M : Nat → Mg} {c : Array Value} {R : Nat → Option Addr × Nat} (h : OM w B T g n M c R) (hk : ∀ j, B ≤ j → j < T → w'.heap[j]? = w.heap[j]?) (hs : w.heap.size ≤ w'.heap.size) : OM w' B T g n M c R := by
  obtain ⟨hb, hg, hsz, hm⟩ := h
  refine ⟨by omega, (hk g (by omega) (by omega)).trans hg, hsz, fun i hi => ?_⟩
  obtain ⟨h1, h2, h3, h4⟩ := hm i hi
  refine ⟨h1, h2, ?_, h4⟩
  rcases h3 with h3 | ⟨γ, e, hB, cs, hc, hl, hF⟩
  · exact .inl h3
  · by_cases h0 : (M i).g.length = 0
    · exact .inl h0
    · exact .inr ⟨γ, e, hB, cs, (hk γ hB ((h4 γ e (by omega)).1.1)).trans hc, hl, hF⟩
theorem OM.below {w w' : World} {B T g n : Nat} {M : Nat → Mg} {c : Array Value} {R : Nat → Option Addr × Nat} (h : OM w B T g n M c R) (hb : Below w.heap.size w w') : OM w' B T g n M c R :=
  h.kept (fun j _ hj => hb.block j (by have := h.1; omega)) hb.size
/-- Five cells written, one behind the other. -/
def put5 (w : World) (g o : Nat) (a b c d e : Value) : World := ((((w.setCell ⟨g, o, none⟩ a).setCell ⟨g, o + 1, none⟩ b).setCell ⟨g, o + 2, none⟩ c).setCell ⟨g, o + 3, none⟩ d).setCell ⟨g, o + 4, none⟩ e
def arr5 (x : Array Value) (o : Nat) (a b c d e : Value) : Array Value := ((((x.setIfInBounds o a).setIfInBounds (o + 1) b).setIfInBounds (o + 2) c).setIfInBounds (o + 3) d).setIfInBounds (o + 4) e
theorem set_blk {w : World} {g o : Nat} {x : Array Value} {t : TypeId} (v : Value) (h : w.heap[g]? = some (.cells x t (0, 0))) : (w.setCell ⟨g, o, none⟩ v).heap[g]? = some (.cells (x.setIfInBounds o v) t (0, 0)) := by
  simp [World.setCell, Array.getElem?_modify, h]
theorem put5_blk {w : World} {g o : Nat} {x : Array Value} {t : TypeId} (a b c d e : Value) (h : w.heap[g]? = some (.cells x t (0, 0))) : (put5 w g o a b c d e).heap[g]? = some (.cells (arr5 x o a b c d e) t (0, 0)) :=
  set_blk e (set_blk d (set_blk c (set_blk b (set_blk a h))))
theorem put5_far {w : World} {g o j : Nat} (a b c d e : Value) (h : ¬ j = g) : (put5 w g o a b c d e).heap[j]? = w.heap[j]? :=
  (heap_far h e).trans ((heap_far h d).trans ((heap_far h c).trans ((heap_far h b).trans (heap_far h a))))
theorem put5_size {w : World} {g o : Nat} (a b c d e : Value) : (put5 w g o a b c d e).heap.size = w.heap.size := by simp [put5, World.setCell]
theorem put5_below {w0 w : World} {B g o : Nat} (a b c d e : Value) (h : Below B w0 w) (hg : B ≤ g) : Below B w0 (put5 w g o a b c d e) :=
  ((((h.setCell (p := ⟨g, o, none⟩) hg a).setCell (p := ⟨g, o + 1, none⟩) hg b).setCell (p := ⟨g, o + 2, none⟩) hg c).setCell (p := ⟨g, o + 3, none⟩) hg d).setCell (p := ⟨g, o + 4, none⟩) hg e
theorem arr5_size (x : Array Value) (o : Nat) (a b c d e : Value) : (arr5 x o a b c d e).size = x.size := by simp [arr5]
theorem arr5_far (x : Array Value) (o j : Nat) (a b c d e : Value) (h : j < o ∨ o + 4 < j) : (arr5 x o a b c d e)[j]? = x[j]? := by
  unfold arr5
  rw [Array.getElem?_setIfInBounds, if_neg (by omega), Array.getElem?_setIfInBounds, if_neg (by omega), Array.getElem?_setIfInBounds, if_neg (by omega), Array.getElem?_setIfInBounds, if_neg (by omega), Array.getElem?_setIfInBounds, if_neg (by omega)]
theorem arr5_at (x : Array Value) (o : Nat) (a b c d e : Value) (h : o + 4 < x.size) : (arr5 x o a b c d e)[o]? = some a ∧ (arr5 x o a b c d e)[o + 1]? = some b ∧ (arr5 x o a b c d e)[o + 2]? = some c ∧ (arr5 x o a b c d e)[o + 3]? = some d ∧ (arr5 x o a b c d e)[o + 4]? = some e := by
  have h0 : o < x.size := by omega
  have h1 : o + 1 < x.size := by omega
  have h2 : o + 2 < x.size := by omega
  have h3 : o + 3 < x.size := by omega
  refine ⟨?_, ?_, ?_, ?_, ?_⟩ <;> simp [arr5, Array.getElem?_setIfInBounds, h, h0, h1, h2, h3]

theorem OM.put {w : World} {B T T' g k γ rc : Nat} {M : Nat → Mg} {c : Array Value} {R : Nat → Option Addr × Nat} (h : OM w B T g k M c R) (hT : T ≤ T') (hT' : T' ≤ w.heap.size) (hc : (k + 1) * 5 ≤ c.size) (hγ : T ≤ γ ∧ γ < T') (hrc : (M k).g.length ≤ rc)
    (ho : Own w B 3 (some ⟨γ, 0, none⟩) (M k).g.length (fun j => .int .i64 ((M k).g.getD j 0))) :
    OM (put5 w g (k * 5) (.int .i64 (M k).k) (.int .i64 (M k).c) (.int .i64 (M k).v) (.int .i64 (M k).h) (.slice (some ⟨γ, 0, none⟩) (M k).g.length rc)) B T' g (k + 1) M (arr5 c (k * 5) (.int .i64 (M k).k) (.int .i64 (M k).c) (.int .i64 (M k).v) (.int .i64 (M k).h) (.slice (some ⟨γ, 0, none⟩) (M k).g.length rc)) (fun i => if i = k then (some ⟨γ, 0, none⟩, rc) else R i) := by
  obtain ⟨hb, hg, hsz, hm⟩ := h
  have keepO : ∀ {ao : Option Addr} {n : Nat} {F : Nat → Value}, Own w B 3 ao n F → (∀ γ', ao = some ⟨γ', 0, none⟩ → 0 < n → γ' ≠ g) → Own (put5 w g (k * 5) (.int .i64 (M k).k) (.int .i64 (M k).c) (.int .i64 (M k).v) (.int .i64 (M k).h) (.slice (some ⟨γ, 0, none⟩) (M k).g.length rc)) B 3 ao n F := by
    intro ao n F ho hne
    rcases ho with h0 | ⟨γ', e, hB, cs, hcs, hl, hF⟩
    · exact .inl h0
    · by_cases h0 : n = 0
      · exact .inl h0
      · exact .inr ⟨γ', e, hB, cs, (put5_far _ _ _ _ _ (hne γ' e (by omega))).trans hcs, hl, hF⟩
  refine ⟨⟨by omega, by omega, by rw [put5_size]; exact hT'⟩, put5_blk _ _ _ _ _ hg, by rw [arr5_size]; omega, fun i hi => ?_⟩
  by_cases e : i = k
  · subst e
    simp only [if_true]
    refine ⟨arr5_at c (i * 5) _ _ _ _ _ (by omega), hrc, keepO ho (fun γ' e' _ => by cases e'; omega), fun γ' e' hpos => ?_⟩
    cases e'
    refine ⟨by omega, fun j hj hji hpj => ?_⟩
    rw [if_neg hji]
    intro e2
    have := ((hm j (by omega)).2.2.2 γ e2 hpj).1.1
    omega
  · obtain ⟨⟨c0, c1, c2, c3, c4⟩, h2, h3, h4⟩ := hm i (by omega)
    simp only [if_neg e]
    refine ⟨⟨(arr5_far c _ _ _ _ _ _ _ (by omega)).trans c0, (arr5_far c _ _ _ _ _ _ _ (by omega)).trans c1, (arr5_far c _ _ _ _ _ _ _ (by omega)).trans c2, (arr5_far c _ _ _ _ _ _ _ (by omega)).trans c3, (arr5_far c _ _ _ _ _ _ _ (by omega)).trans c4⟩, h2, keepO h3 (fun γ' e' hpos => (h4 γ' e' hpos).1.2), fun γ' e' hpos => ?_⟩
    have h5 := h4 γ' e' hpos
    refine ⟨⟨by have := h5.1.1; omega, h5.1.2⟩, fun j hj hji hpj => ?_⟩
    by_cases ej : j = k
    · rw [if_pos ej]
      intro e2
      simp only [Option.some.injEq, Addr.mk.injEq, and_true] at e2
      have := h5.1.1
      omega
    · rw [if_neg ej]
      exact h5.2 j (by omega) hji hpj
theorem Try.info26 : (Try.prog.info? 26).map (fun i => (i.zero, i.size, i.bytes)) = some (some (.agg #[.int .i64 0, .int .i64 0, .int .i64 0, .int .i64 0, .slice none 0 0]), 5, 56) := by kernel_rfl
theorem make_msgs (n : Nat) (w : World) (h : n ≤ 1048576) : ∃ c : Array Value, c.size = n * 5 ∧ (Instr.makeSlice 33 (.int .i64 (n : Int)) (.int .i64 (n : Int))).run Try.prog w = .ok (.slice (some ⟨w.heap.size, 0, none⟩) n n) (w.alloc (.cells c 26)) := by
  obtain ⟨i, hi, hzz⟩ := Option.map_eq_some_iff.1 Try.info26
  simp only [Prod.mk.injEq] at hzz
  obtain ⟨hz, hs, hb⟩ := hzz
  refine ⟨madeCells (Value.agg #[.int .i64 0, .int .i64 0, .int .i64 0, .int .i64 0, .slice none 0 0]).cells (n * 5), size_madeCells _ _, ?_⟩
  have := run_make (P := Try.prog) w 33 26 i _ Try.underlying33 hi hz .i64 .i64 (n : Int) (n : Int) (by omega) (by omega) (by rw [hb]; omega) (by omega)
  rw [hs] at this
  simpa using this
theorem tos_any (ao : Option Addr) (n cap : Nat) (M : Nat → Mg) (w : World) (hs : MSL w ao n M) (h : n + gsum M n ≤ 1048576) :
    Calls Try.prog 36 #[.slice ao n cap] w fun e w' => e = .returned (.slice (some ⟨w.heap.size, 0, none⟩) n n) ∧ (∃ c R, OM w' w.heap.size w'.heap.size w.heap.size n M c R) ∧ Below w.heap.size w w' := by
  obtain ⟨c0, hc0, hmk⟩ := make_msgs n w (by omega)
  have HS := hide hs
  clear hs
  go_enter Try.func36, Try.ntmps36
  go_wp2
  go_loopw [4] (fun i wr => ∃ k : Nat, k ≤ n ∧ i = .int .i64 k ∧ Hid ((∃ c R, c.size = n * 5 ∧ OM wr w.heap.size wr.heap.size w.heap.size k M c R) ∧ Below w.heap.size w wr)) (fun i _ => n - (intOf i).toNat)
  case atStart => exact ⟨0, by omega, rfl, ⟨c0, fun _ => (none, 0), hc0, ⟨by simp, Deep.blk_alloc_new _ _, by omega, fun i hi => absurd hi (Nat.not_lt_zero _)⟩⟩, (Below.refl _ _).alloc (Nat.le_refl _) _⟩
  case round =>
    obtain ⟨k, hk, rfl, HI⟩ := hrel
    clear hmk hc0
    by_cases hlt : k < n
    · obtain ⟨b, off, rfl, ro, rc, hrc, hsl, d0, d1, d2, d3, d4⟩ := (HS.out.below HI.out.2) k hlt
      have hG := gsum_one M k n hlt
      have HSL := hide hsl
      obtain ⟨c, R, hcs, hOM⟩ := HI.out.1
      have HOM := hide hOM
      generalize hm : M k = m at *
      have HM := hide hm
      clear hsl hm hOM
      go_wp2_with fail
      refine (to_msg ro m.g.length rc (fun i => m.g.getD i 0) m.k m.c m.v m.h _ (by omega) HSL.out).mono ?_
      rintro e w3 ⟨γ, rfl, hγ, hrow, hb3⟩
      have hblk := (hb3.block w.heap.size HOM.out.lt).trans HOM.out.2.1
      have hz : ∀ i, w3.frozen? ⟨w.heap.size, i, none⟩ = false := fun i => by simp [World.frozen?, hblk]
      have e0 : w3.cell? ⟨w.heap.size, k * 5, none⟩ = some (c[k * 5]'(by omega)) := by simp [World.cell?, hblk]
      have e1 : w3.cell? ⟨w.heap.size, k * 5 + 1, none⟩ = some (c[k * 5 + 1]'(by omega)) := by simp [World.cell?, hblk]
      have e2 : w3.cell? ⟨w.heap.size, k * 5 + 2, none⟩ = some (c[k * 5 + 2]'(by omega)) := by simp [World.cell?, hblk]
      have e3 : w3.cell? ⟨w.heap.size, k * 5 + 3, none⟩ = some (c[k * 5 + 3]'(by omega)) := by simp [World.cell?, hblk]
      have e4 : w3.cell? ⟨w.heap.size, k * 5 + 4, none⟩ = some (c[k * 5 + 4]'(by omega)) := by simp [World.cell?, hblk]
      have HB3 := hide hb3
      have HR := hide (And.intro hγ hrow)
      clear hblk d0 d1 d2 d3 d4 hb3 hrow hγ HSL
      have HSZ := hide HI.out.2
      clear HI HS
      go_wp2
      go_roundw
      case rel =>
        have hl3 : γ < w3.heap.size := HR.out.2.lt
        have hO : Own w3 w.heap.size 3 (some ⟨γ, 0, none⟩) (M k).g.length (fun j => .int .i64 ((M k).g.getD j 0)) := by
          rw [HM.out]
          exact Own.of_row HR.out.2 (Nat.le_trans HSZ.out.size HR.out.1)
        have hP := (HOM.out.below HB3.out).put (T' := w3.heap.size) (rc := m.g.length) (γ := γ) HB3.out.size (Nat.le_refl _) (by omega) ⟨HR.out.1, hl3⟩ (by rw [HM.out]; exact Nat.le_refl _) hO
        rw [HM.out] at hP
        refine ⟨k + 1, by omega, by go_num, ⟨arr5 c (k * 5) (.int .i64 m.k) (.int .i64 m.c) (.int .i64 m.v) (.int .i64 m.h) (.slice (some ⟨γ, 0, none⟩) m.g.length m.g.length), fun i => if i = k then (some ⟨γ, 0, none⟩, m.g.length) else R i, ?_, ?_⟩, ?_⟩
        · rw [arr5_size]; exact hcs
        · show OM (put5 w3 w.heap.size (k * 5) (.int .i64 m.k) (.int .i64 m.c) (.int .i64 m.v) (.int .i64 m.h) (.slice (some ⟨γ, 0, none⟩) m.g.length m.g.length)) _ (put5 w3 w.heap.size (k * 5) (.int .i64 m.k) (.int .i64 m.c) (.int .i64 m.v) (.int .i64 m.h) (.slice (some ⟨γ, 0, none⟩) m.g.length m.g.length)).heap.size _ _ _ _ _
          rw [put5_size]
          exact hP
        · exact put5_below _ _ _ _ _ (HSZ.out.trans (HB3.out.mono HSZ.out.size)) (Nat.le_refl _)
      case measure => simp [intOf]; omega
    · obtain rfl : k = n := by omega
      go_wp2
      go_ret
      obtain ⟨⟨c, R, _, h1⟩, h2⟩ := HI.out
      exact ⟨rfl, ⟨c, R, h1⟩, h2⟩
end Go.Proofs.Ythhkmfgccbkkhaa

/- Lists of messages: their size, held against each other. -/
namespace Go.Proofs.Ythhkmfgccbkkhaa
open Go.ChangeShapes Go.WideShapes Go.ChangeAt Go.RowKit
set_option linter.unusedVariables false
set_option linter.unusedSimpArgs false
set_option maxRecDepth 100000

theorem szi_no2 (ao : Option Addr) (n cap : Nat) (x : Int) (w : World) (h0 : x < (n : Int)) (h1 : 0 ≤ x) (h3 : n ≤ 9223372036854775807) :
    Calls Try.prog 74 #[.slice ao n cap, .int .i64 x] w fun e w' => e = .returned (.int .i64 (-1)) ∧ w' = w := by
  have hd : x - (n : Int) < 0 := by omega
  go_enter Try.func74, Try.ntmps74
  go_wp2
  go_ret
  exact ⟨rfl, rfl⟩
theorem sz_no2 (ao : Option Addr) (n cap : Nat) (k c v h x : Int) (w : World) (h0 : x < (n : Int)) (h1 : 0 ≤ x) (h3 : n ≤ 9223372036854775807) :
    Calls Try.prog 26 #[.agg #[.int .i64 k, .int .i64 c, .int .i64 v, .int .i64 h, .slice ao n cap], .int .i64 x] w fun e w' => e = .returned (.int .i64 (-1)) ∧ Below w.heap.size w w' := by
  go_enter Try.func26, Try.ntmps26
  go_wp2_with (first
    | (go_at_call 74; refine (szi_no2 _ _ _ _ _ h0 h1 h3).mono ?_; rintro e9 w9 ⟨rfl, hw9⟩; rw [hw9]; clear hw9))
  go_ret
  exact ⟨rfl, (Below.refl _ _).alloc (Nat.le_refl _) _⟩

/-- What szMsgS tells. -/
theorem szs_any (ao : Option Addr) (n cap : Nat) (M : Nat → Mg) (w : World) (hs : MSL w ao n M) (hn : n ≤ 9223372036854775807) (hg : ∀ i, i < n → (M i).g.length ≤ 9223372036854775807) :
    Calls Try.prog 35 #[.slice ao n cap, .int .i64 1048576] w fun e w' => ((n + gsum M n ≤ 1048576 ∧ e = .returned (.int .i64 (1048576 - n - gsum M n))) ∨ (¬ n + gsum M n ≤ 1048576 ∧ e = .returned (.int .i64 (-1)))) ∧ Below w.heap.size w w' := by
  have HS := hide hs
  have HG := hide hg
  clear hs hg
  by_cases h1 : n ≤ 1048576
  · have hd0 : ¬ (1048576 : Int) - (n : Int) < 0 := by omega
    go_enter Try.func35, Try.ntmps35
    go_wp2
    go_loopw [1, 5] (fun l i wr => ∃ j : Nat, j ≤ n ∧ i = .int .i64 j ∧ l = .int .i64 (1048576 - n - gsum M j) ∧ n + gsum M j ≤ 1048576 ∧ Hid (Below w.heap.size w wr)) (fun _ i _ => n - (intOf i).toNat)
    case atStart => exact ⟨0, by omega, rfl, by simp [gsum], by simp [gsum]; omega, Below.refl _ _⟩
    case round =>
      obtain ⟨j, hj, rfl, rfl, hle, HB⟩ := hrel
      by_cases hlt : j < n
      · obtain ⟨b, off, rfl, ro, rc, hrc, hsl, d0, d1, d2, d3, d4⟩ := (HS.out.below HB.out) j hlt
        have hG := HG.out j hlt
        have E : Hid (gsum M (j + 1) = gsum M j + (M j).g.length) := rfl
        have hmono := gsum_le M (j + 1) n hlt
        rw [E.out] at hmono
        generalize hm : M j = m at *
        generalize gsum M j = s at *
        clear hsl hm HS
        by_cases h2 : n + s + m.g.length ≤ 1048576
        · have hd : ¬ (1048576 : Int) - n - s - m.g.length < 0 := by omega
          go_wp2_with fail
          refine (sz_yes ro m.g.length rc m.k m.c m.v m.h (1048576 - n - s) _ (by omega) (by omega)).mono ?_
          rintro e w3 ⟨rfl, b3⟩
          have HB3 := hide (HB.out.trans (b3.mono HB.out.size))
          clear b3 d0 d1 d2 d3 d4
          go_wp2
          go_roundw
          case rel => exact ⟨j + 1, by omega, by go_num, by rw [E.out]; congr 1; omega, by rw [E.out]; omega, HB3.out⟩
          case measure => simp [intOf]; omega
        · go_wp2_with fail
          refine (sz_no2 ro m.g.length rc m.k m.c m.v m.h (1048576 - n - s) _ (by omega) (by omega) hG).mono ?_
          rintro e w3 ⟨rfl, b3⟩
          have HB3 := hide (HB.out.trans (b3.mono HB.out.size))
          clear b3 d0 d1 d2 d3 d4
          go_wp2
          go_ret
          exact ⟨.inr ⟨by omega, rfl⟩, HB3.out⟩
      · obtain rfl : j = n := by omega
        go_wp2
        go_ret
        exact ⟨.inl ⟨hle, rfl⟩, HB.out⟩
  · have hd0 : (1048576 : Int) - (n : Int) < 0 := by omega
    have hbad : ¬ n + gsum M n ≤ 1048576 := by omega
    go_enter Try.func35, Try.ntmps35
    go_wp2
    go_ret
    exact ⟨.inr ⟨hbad, rfl⟩, Below.refl _ _⟩

theorem ten_kept {w w' : World} (hb : Below w.heap.size w w') {a0 a1 a2 a3 a4 b0 b1 b2 b3 b4 : Addr} {x0 x1 x2 x3 x4 y0 y1 y2 y3 y4 : Value}
    (h : (w.cell? a0 = some x0 ∧ w.cell? a1 = some x1 ∧ w.cell? a2 = some x2 ∧ w.cell? a3 = some x3 ∧ w.cell? a4 = some x4) ∧ (w.cell? b0 = some y0 ∧ w.cell? b1 = some y1 ∧ w.cell? b2 = some y2 ∧ w.cell? b3 = some y3 ∧ w.cell? b4 = some y4)) :
    (w'.cell? a0 = some x0 ∧ w'.cell? a1 = some x1 ∧ w'.cell? a2 = some x2 ∧ w'.cell? a3 = some x3 ∧ w'.cell? a4 = some x4) ∧ (w'.cell? b0 = some y0 ∧ w'.cell? b1 = some y1 ∧ w'.cell? b2 = some y2 ∧ w'.cell? b3 = some y3 ∧ w'.cell? b4 = some y4) := by
  have k : ∀ {a : Addr} {x : Value}, w.cell? a = some x → w'.cell? a = some x := fun h => (hb.cell (lt_of_cell h)).trans h
  obtain ⟨⟨h0, h1, h2, h3, h4⟩, g0, g1, g2, g3, g4⟩ := h
  exact ⟨⟨k h0, k h1, k h2, k h3, k h4⟩, k g0, k g1, k g2, k g3, k g4⟩
theorem eqs_any (ao bo : Option Addr) (n ca cb : Nat) (M : Nat → Mg) (w : World) (hn : n ≤ 1048576) (hg : ∀ i, i < n → (M i).g.length ≤ 1048576) (hA : MSL w ao n M) (hB : MSL w bo n M) :
    Calls Try.prog 37 #[.slice ao n ca, .slice bo n cb] w fun e w' => e = .returned (.bool true) ∧ Below w.heap.size w w' := by
  have HA := hide hA
  have HB := hide hB
  have HG := hide hg
  clear hA hB hg
  go_enter Try.func37, Try.ntmps37
  go_wp2
  go_loopw [5] (fun i wr => ∃ j : Nat, j ≤ n ∧ i = .int .i64 j ∧ Hid (Below w.heap.size w wr)) (fun i _ => n - (intOf i).toNat)
  case atStart => exact ⟨0, by omega, rfl, Below.refl _ _⟩
  case round =>
    obtain ⟨j, hj, rfl, HI⟩ := hrel
    by_cases hlt : j < n
    · have bD : Below w.heap.size w wr.drew := Below.drawn HI.out 1
      obtain ⟨b, off, rfl, ro, rc, hrc, hsl, d0, d1, d2, d3, d4⟩ := (HA.out.below bD) j hlt
      obtain ⟨b', off', rfl, ro', rc', hrc', hsl', d0', d1', d2', d3', d4'⟩ := (HB.out.below bD) j hlt
      have hG := HG.out j hlt
      have hj0 : (0 : Int) ≤ (j : Int) := by omega
      have hjn : (j : Int) < (n : Int) := by omega
      generalize M j = m at *
      have D := And.intro (And.intro d0 (And.intro d1 (And.intro d2 (And.intro d3 d4)))) (And.intro d0' (And.intro d1' (And.intro d2' (And.intro d3' d4'))))
      have HSL := hide (And.intro hsl hsl')
      have HD := hide D
      have HBD := hide bD
      clear hsl hsl' d0 d1 d2 d3 d4 d0' d1' d2' d3' d4' HA HB bD
      go_wp2_with fail
      go_region_held3 (fun w' => (w'.cell? ⟨b, off + j * 5, none⟩ = some (.int .i64 m.k) ∧ w'.cell? ⟨b, off + j * 5 + 1, none⟩ = some (.int .i64 m.c) ∧ w'.cell? ⟨b, off + j * 5 + 2, none⟩ = some (.int .i64 m.v) ∧ w'.cell? ⟨b, off + j * 5 + 3, none⟩ = some (.int .i64 m.h) ∧ w'.cell? ⟨b, off + j * 5 + 4, none⟩ = some (.slice ro m.g.length rc)) ∧ (w'.cell? ⟨b', off' + j * 5, none⟩ = some (.int .i64 m.k) ∧ w'.cell? ⟨b', off' + j * 5 + 1, none⟩ = some (.int .i64 m.c) ∧ w'.cell? ⟨b', off' + j * 5 + 2, none⟩ = some (.int .i64 m.v) ∧ w'.cell? ⟨b', off' + j * 5 + 3, none⟩ = some (.int .i64 m.h) ∧ w'.cell? ⟨b', off' + j * 5 + 4, none⟩ = some (.slice ro' m.g.length rc'))) (first | with_reducible assumption) (first
        | (go_at_call 28; refine (eq_msg ro ro' m.g.length rc rc' (fun i => m.g.getD i 0) (fun i => m.g.getD i 0) m.k m.c m.v m.h _ hG HSL.out.1 HSL.out.2 (fun _ _ => rfl)).mono ?_; rintro e w3 ⟨rfl, b3⟩; have hk3 := ten_kept b3 HD.out; have HB3 := hide (HBD.out.trans (b3.mono HBD.out.size)); clear b3))
      go_wp2
      go_roundw
      case rel => exact ⟨j + 1, by omega, by go_num, HB3.out⟩
      case measure => simp [intOf]; omega
    · obtain rfl : j = n := by omega
      go_wp2
      go_ret
      exact ⟨rfl, HI.out⟩
end Go.Proofs.Ythhkmfgccbkkhaa

/- Lists of messages: marked, and found so. -/
namespace Go.Proofs.Ythhkmfgccbkkhaa
open Go.ChangeShapes Go.WideShapes Go.ChangeAt Go.RowKit
set_option linter.unusedVariables false
set_option linter.unusedSimpArgs false
set_option maxRecDepth 100000

/-- A message of m's length, marked from K on. -/
def mkd (m : Mg) (K : Int) : Mg := ⟨K, K + 1, K + 1 + 1, K + 1 + 1 + 1, (List.range m.g.length).map (fun t : Nat => K + 1 + 1 + 1 + 1 + (t : Int))⟩
theorem mkd_len (m : Mg) (K : Int) : (mkd m K).g.length = m.g.length := by simp [mkd]
theorem mkd_get (m : Mg) (K : Int) (t : Nat) (h : t < m.g.length) : (mkd m K).g.getD t 0 = K + 1 + 1 + 1 + 1 + t := by simp [mkd, List.getD, h]
/-- The first j of them marked. -/
def mkp (M : Nat → Mg) (k0 : Int) (j : Nat) (i : Nat) : Mg := if i < j then mkd (M i) (k0 + 4 * i + gsum M i) else M i

theorem mkp_zero (M : Nat → Mg) (k0 : Int) : mkp M k0 0 = M := by funext i; simp [mkp]
theorem imark_zero (ao : Option Addr) (cap : Nat) (k0 : Int) (w : World) :
    Calls Try.prog 77 #[.slice ao 0 cap, .int .i64 k0] w fun e w' => e = .returned (.int .i64 k0) ∧ w' = w := by
  go_enter Try.func77, Try.ntmps77
  go_wp2
  refine wp_loop_rounds 1 ?_
  rw [rounds_succ]
  go_wp2
  go_ret
  exact ⟨rfl, rfl⟩

/-- Of what was there nothing but blocks from B on below T was written. -/
def OnlyBT (B T : Nat) (w w' : World) : Prop := Below B w w' ∧ w'.heap.size = w.heap.size ∧ ∀ j, ¬ (B ≤ j ∧ j < T) → w'.heap[j]? = w.heap[j]?
theorem OnlyBT.refl (B T : Nat) (w : World) : OnlyBT B T w w := ⟨Below.refl _ _, rfl, fun _ _ => rfl⟩
theorem OnlyBT.set {B T g i : Nat} {w w' : World} (h : OnlyBT B T w w') (hg : B ≤ g ∧ g < T) (v : Value) : OnlyBT B T w (w'.setCell ⟨g, i, none⟩ v) :=
  ⟨h.1.setCell (p := ⟨g, i, none⟩) hg.1 v, by simpa [World.setCell] using h.2.1, fun j hj => (heap_far (fun e => hj (by rw [e]; exact hg)) v).trans (h.2.2 j hj)⟩
theorem OnlyBT.only {B T g : Nat} {w w' w'' : World} (h : OnlyBT B T w w') (hg : B ≤ g ∧ g < T) (ho : Only g w' w'') : OnlyBT B T w w'' :=
  ⟨h.1.trans (ho.1.mono hg.1), ho.2.1.trans h.2.1, fun j hj => (ho.2.2 j (fun e => hj (by rw [e]; exact hg))).trans (h.2.2 j hj)⟩

/-- One more marked: first the four numbers. -/
def put4 (w : World) (g o : Nat) (a b c d : Value) : World := (((w.setCell ⟨g, o, none⟩ a).setCell ⟨g, o + 1, none⟩ b).setCell ⟨g, o + 2, none⟩ c).setCell ⟨g, o + 3, none⟩ d
def arr4 (x : Array Value) (o : Nat) (a b c d : Value) : Array Value := (((x.setIfInBounds o a).setIfInBounds (o + 1) b).setIfInBounds (o + 2) c).setIfInBounds (o + 3) d
theorem put4_blk {w : World} {g o : Nat} {x : Array Value} {t : TypeId} (a b c d : Value) (h : w.heap[g]? = some (.cells x t (0, 0))) : (put4 w g o a b c d).heap[g]? = some (.cells (arr4 x o a b c d) t (0, 0)) :=
  set_blk d (set_blk c (set_blk b (set_blk a h)))
theorem put4_far {w : World} {g o j : Nat} (a b c d : Value) (h : ¬ j = g) : (put4 w g o a b c d).heap[j]? = w.heap[j]? :=
  (heap_far h d).trans ((heap_far h c).trans ((heap_far h b).trans (heap_far h a)))
theorem put4_size {w : World} {g o : Nat} (a b c d : Value) : (put4 w g o a b c d).heap.size = w.heap.size := by simp [put4, World.setCell]
theorem arr4_size (x : Array Value) (o : Nat) (a b c d : Value) : (arr4 x o a b c d).size = x.size := by simp [arr4]
theorem arr4_far (x : Array Value) (o j : Nat) (a b c d : Value) (h : j < o ∨ o + 3 < j) : (arr4 x o a b c d)[j]? = x[j]? := by
  unfold arr4
  rw [Array.getElem?_setIfInBounds, if_neg (by omega), Array.getElem?_setIfInBounds, if_neg (by omega), Array.getElem?_setIfInBounds, if_neg (by omega), Array.getElem?_setIfInBounds, if_neg (by omega)]
theorem arr4_at (x : Array Value) (o : Nat) (a b c d : Value) (h : o + 3 < x.size) : (arr4 x o a b c d)[o]? = some a ∧ (arr4 x o a b c d)[o + 1]? = some b ∧ (arr4 x o a b c d)[o + 2]? = some c ∧ (arr4 x o a b c d)[o + 3]? = some d := by
  have h0 : o < x.size := by omega
  have h1 : o + 1 < x.size := by omega
  have h2 : o + 2 < x.size := by omega
  refine ⟨?_, ?_, ?_, ?_⟩ <;> simp [arr4, Array.getElem?_setIfInBounds, h, h0, h1, h2]

theorem OM.mark {w w' : World} {B T g n j : Nat} {M M' : Nat → Mg} {c : Array Value} {R : Nat → Option Addr × Nat} {K : Int} (h : OM w B T g n M c R) (hj : j < n)
    (hM : ∀ i, M' i = if i = j then mkd (M j) K else M i)
    (hw : (M j).g.length = 0 ∧ w' = put4 w g (j * 5) (.int .i64 K) (.int .i64 (K + 1)) (.int .i64 (K + 1 + 1)) (.int .i64 (K + 1 + 1 + 1)) ∨
      ∃ γ, (R j).1 = some ⟨γ, 0, none⟩ ∧ 0 < (M j).g.length ∧ Only γ (put4 w g (j * 5) (.int .i64 K) (.int .i64 (K + 1)) (.int .i64 (K + 1 + 1)) (.int .i64 (K + 1 + 1 + 1))) w' ∧ Own w' B 3 (R j).1 (M j).g.length (fun t => .int .i64 (K + 1 + 1 + 1 + 1 + t))) :
    OM w' B T g n M' (arr4 c (j * 5) (.int .i64 K) (.int .i64 (K + 1)) (.int .i64 (K + 1 + 1)) (.int .i64 (K + 1 + 1 + 1))) R := by
  obtain ⟨hb, hg, hsz, hm⟩ := h
  have hlen : ∀ i, (M' i).g.length = (M i).g.length := fun i => by
    rw [hM]
    by_cases e : i = j
    · rw [if_pos e, mkd_len, e]
    · rw [if_neg e]
  have hfar : ∀ b, b ≠ g → (∀ γ, (R j).1 = some ⟨γ, 0, none⟩ → 0 < (M j).g.length → b ≠ γ) → w'.heap[b]? = w.heap[b]? := fun b h1 h2 => by
    rcases hw with ⟨_, rfl⟩ | ⟨γ, e, hp, ho, _⟩
    · exact put4_far _ _ _ _ h1
    · exact (ho.2.2 b (h2 γ e hp)).trans (put4_far _ _ _ _ h1)
  have hsize : w'.heap.size = w.heap.size := by
    rcases hw with ⟨_, rfl⟩ | ⟨γ, e, hp, ho, _⟩
    · exact put4_size _ _ _ _
    · rw [ho.2.1, put4_size]
  have hgb : w'.heap[g]? = some (.cells (arr4 c (j * 5) (.int .i64 K) (.int .i64 (K + 1)) (.int .i64 (K + 1 + 1)) (.int .i64 (K + 1 + 1 + 1))) 26 (0, 0)) := by
    rcases hw with ⟨_, rfl⟩ | ⟨γ, e, hp, ho, _⟩
    · exact put4_blk _ _ _ _ hg
    · exact (ho.2.2 g (fun e2 => ((hm j hj).2.2.2 γ e hp).1.2 e2.symm)).trans (put4_blk _ _ _ _ hg)
  refine ⟨by rw [hsize]; exact hb, hgb, by rw [arr4_size]; exact hsz, fun i hi => ?_⟩
  obtain ⟨⟨c0, c1, c2, c3, c4⟩, h2, h3, h4⟩ := hm i hi
  rw [hlen i]
  refine ⟨?_, h2, ?_, fun γ e hp => ⟨(h4 γ e hp).1, fun j' hj' hne hp' => (h4 γ e hp).2 j' hj' hne (by rw [← hlen]; exact hp')⟩⟩
  · by_cases e : i = j
    · subst e
      obtain ⟨a0, a1, a2, a3⟩ := arr4_at c (i * 5) (.int .i64 K) (.int .i64 (K + 1)) (.int .i64 (K + 1 + 1)) (.int .i64 (K + 1 + 1 + 1)) (by omega)
      rw [hM, if_pos rfl]
      exact ⟨a0, a1, a2, a3, (arr4_far c _ _ _ _ _ _ (by omega)).trans c4⟩
    · rw [hM, if_neg e]
      exact ⟨(arr4_far c _ _ _ _ _ _ (by omega)).trans c0, (arr4_far c _ _ _ _ _ _ (by omega)).trans c1, (arr4_far c _ _ _ _ _ _ (by omega)).trans c2, (arr4_far c _ _ _ _ _ _ (by omega)).trans c3, (arr4_far c _ _ _ _ _ _ (by omega)).trans c4⟩
  · by_cases e : i = j
    · subst e
      rcases hw with ⟨h0, rfl⟩ | ⟨γ, e, hp, ho, hO⟩
      · exact .inl h0
      · refine hO.congr fun t ht => ?_
        rw [hM, if_pos rfl, mkd_get _ _ _ ht]
    · rcases h3 with h3 | ⟨γ', e', hB, cs, hcs, hl, hF⟩
      · exact .inl h3
      · by_cases h0 : (M i).g.length = 0
        · exact .inl h0
        · refine .inr ⟨γ', e', hB, cs, (hfar γ' (h4 γ' e' (by omega)).1.2 (fun γ e2 hp2 e3 => ?_)).trans hcs, hl, fun t ht => ?_⟩
          · subst e3
            exact (h4 γ' e' (by omega)).2 j hj (fun e4 => e e4.symm) hp2 e2
          · rw [hM, if_neg e]; exact hF t ht

theorem marks_any (g n cap B T : Nat) (k0 : Int) (M : Nat → Mg) (c : Array Value) (R : Nat → Option Addr × Nat) (w : World) (h : n + gsum M n ≤ 1048576) (h0 : 0 ≤ k0) (h1 : k0 ≤ 1000) (ho : OM w B T g n M c R) :
    Calls Try.prog 38 #[.slice (some ⟨g, 0, none⟩) n cap, .int .i64 k0] w fun e w' => e = .returned (.int .i64 (k0 + 4 * n + gsum M n)) ∧ (∃ c', OM w' B T g n (mkp M k0 n) c' R) ∧ OnlyBT B T w w' := by
  have hgB : B ≤ g ∧ g < T := by have := ho.1; omega
  have HO := hide ho
  clear ho
  go_enter Try.func38, Try.ntmps38
  go_wp2
  go_loopw [1, 5] (fun m i wr => ∃ j : Nat, j ≤ n ∧ i = .int .i64 j ∧ m = .int .i64 (k0 + 4 * j + gsum M j) ∧ Hid ((∃ c', OM wr B T g n (mkp M k0 j) c' R) ∧ OnlyBT B T w wr)) (fun _ i _ => n - (intOf i).toNat)
  case atStart => exact ⟨0, by omega, rfl, by simp [gsum], ⟨c, (mkp_zero M k0).symm ▸ HO.out⟩, OnlyBT.refl _ _ _⟩
  case round =>
    obtain ⟨j, hj, rfl, rfl, HI⟩ := hrel
    by_cases hlt : j < n
    · obtain ⟨c', hOM⟩ := HI.out.1
      obtain ⟨⟨c0, c1, c2, c3, c4⟩, hrc, hown, hdis⟩ := hOM.2.2.2 j hlt
      have hcs := hOM.2.2.1
      have hblk := hOM.2.1
      have hMj : mkp M k0 j j = M j := by simp [mkp]
      have E : Hid (gsum M (j + 1) = gsum M j + (M j).g.length) := rfl
      have hmono := gsum_le M (j + 1) n hlt
      rw [E.out] at hmono
      rw [hMj] at c0 c1 c2 c3 c4 hrc hown hdis
      have d0 : wr.cell? ⟨g, j * 5, none⟩ = some (.int .i64 (M j).k) := by simp only [World.cell?, hblk]; exact c0
      have d1 : wr.cell? ⟨g, j * 5 + 1, none⟩ = some (.int .i64 (M j).c) := by simp only [World.cell?, hblk]; exact c1
      have d2 : wr.cell? ⟨g, j * 5 + 2, none⟩ = some (.int .i64 (M j).v) := by simp only [World.cell?, hblk]; exact c2
      have d3 : wr.cell? ⟨g, j * 5 + 3, none⟩ = some (.int .i64 (M j).h) := by simp only [World.cell?, hblk]; exact c3
      have d4 : wr.cell? ⟨g, j * 5 + 4, none⟩ = some (.slice (R j).1 (M j).g.length (R j).2) := by simp only [World.cell?, hblk]; exact c4
      have hz : ∀ i, wr.frozen? ⟨g, i, none⟩ = false := fun i => by simp [World.frozen?, hblk]
      clear hblk c0 c1 c2 c3 c4
      have hbj : 0 ≤ gsum M j := Nat.zero_le _
      obtain ⟨K, hK⟩ : ∃ K : Int, K = k0 + 4 * (j : Int) + (gsum M j : Int) := ⟨_, rfl⟩
      have hKb : 0 ≤ K ∧ K ≤ 8388608 := by omega
      have HK := hide hK
      have hstep : Hid (∀ w', ((M j).g.length = 0 ∧ w' = put4 wr g (j * 5) (.int .i64 K) (.int .i64 (K + 1)) (.int .i64 (K + 1 + 1)) (.int .i64 (K + 1 + 1 + 1)) ∨
          ∃ γ, (R j).1 = some ⟨γ, 0, none⟩ ∧ 0 < (M j).g.length ∧ Only γ (put4 wr g (j * 5) (.int .i64 K) (.int .i64 (K + 1)) (.int .i64 (K + 1 + 1)) (.int .i64 (K + 1 + 1 + 1))) w' ∧ Own w' B 3 (R j).1 (M j).g.length (fun t => .int .i64 (K + 1 + 1 + 1 + 1 + t))) → (∃ c', OM w' B T g n (mkp M k0 (j + 1)) c' R) ∧ OnlyBT B T w w') := fun w' hw => by
        refine ⟨⟨_, hOM.mark (M' := mkp M k0 (j + 1)) (K := K) hlt (fun i => ?_) (by rw [hMj]; exact hw)⟩, ?_⟩
        · rw [hMj, hK]
          unfold mkp
          by_cases e : i = j
          · subst e; rw [if_pos (by omega), if_pos rfl]
          · rw [if_neg e]
            by_cases e2 : i < j
            · rw [if_pos (by omega), if_pos e2]
            · rw [if_neg (by omega), if_neg e2]
        · have h4 : OnlyBT B T w (put4 wr g (j * 5) (.int .i64 K) (.int .i64 (K + 1)) (.int .i64 (K + 1 + 1)) (.int .i64 (K + 1 + 1 + 1))) := (((HI.out.2.set hgB _).set hgB _).set hgB _).set hgB _
          rcases hw with ⟨_, rfl⟩ | ⟨γ, e, hp, ho, hO⟩
          · exact h4
          · have h5 := (hdis γ e hp).1.1
            have h6 : B ≤ γ := by
              obtain ⟨γ', e', hB, _⟩ := hO.at hp
              rw [e] at e'
              cases e'
              exact hB
            exact h4.only ⟨h6, h5⟩ ho
      rw [← hK]
      rcases Nat.eq_zero_or_pos (M j).g.length with hl0 | hl0
      · rw [hl0] at d4
        have E' : Hid (gsum M (j + 1) = gsum M j) := (show _ = _ by rw [E.out, hl0]; rfl)
        have HST := hide (hstep.out (put4 wr g (j * 5) (.int .i64 K) (.int .i64 (K + 1)) (.int .i64 (K + 1 + 1)) (.int .i64 (K + 1 + 1 + 1))) (.inl ⟨hl0, rfl⟩))
        clear hK hdis hown hOM hstep hl0 hmono hrc HI E
        go_wp2_with fail
        refine (imark_zero (R j).1 (R j).2 _ _).mono ?_
        rintro e w3 ⟨rfl, hw⟩
        rw [hw]
        clear hw
        go_wp2
        go_roundw
        case rel => exact ⟨j + 1, by omega, by go_num, by rw [E'.out]; have := HK.out; congr 1; omega, HST.out⟩
        case measure => simp [intOf]; omega
      · obtain ⟨γ, eγ, hBγ, _⟩ := hown.at hl0
        have hne := (hdis γ eγ hl0).1.2
        have hownp : Own (put4 wr g (j * 5) (.int .i64 K) (.int .i64 (K + 1)) (.int .i64 (K + 1 + 1)) (.int .i64 (K + 1 + 1 + 1))) B 3 (some ⟨γ, 0, none⟩) (M j).g.length (fun t => .int .i64 ((M j).g.getD t 0)) := by
          rw [eγ] at hown
          rcases hown with h0 | ⟨γ', e, hB, cs, hcs, hl, hF⟩
          · exact .inl h0
          · cases e
            exact .inr ⟨γ, rfl, hB, cs, (put4_far _ _ _ _ hne).trans hcs, hl, hF⟩
        have hcall := hide (imark_own γ (M j).g.length (R j).2 B (K + 1 + 1 + 1 + 1) _ _ (by omega) (by omega) (by omega) hownp)
        rw [eγ] at d4
        have hlen : (M j).g.length ≤ 1048576 := by omega
        clear hK hdis hown hOM hmono hrc HI hownp
        generalize hL : (M j).g.length = len at *
        go_wp2_with fail
        refine hcall.out.mono ?_
        rintro e w3 ⟨rfl, ho3, hy3⟩
        have HST := hide (hstep.out w3 (.inr ⟨γ, eγ, hl0, hy3, by rw [eγ]; exact ho3⟩))
        clear hcall ho3 hy3 hstep
        go_wp2
        go_roundw
        case rel => exact ⟨j + 1, by omega, by go_num, by rw [E.out]; have := HK.out; congr 1; omega, HST.out⟩
        case measure => simp [intOf]; omega
    · obtain rfl : j = n := by omega
      go_wp2
      go_ret
      exact ⟨rfl, HI.out⟩
end Go.Proofs.Ythhkmfgccbkkhaa

/- Lists of messages: marked, and found so. -/
namespace Go.Proofs.Ythhkmfgccbkkhaa
open Go.ChangeShapes Go.WideShapes Go.ChangeAt Go.RowKit
set_option linter.unusedVariables false
set_option linter.unusedSimpArgs false
set_option maxRecDepth 100000

theorem helds_any (ao : Option Addr) (n cap : Nat) (k0 : Int) (M : Nat → Mg) (w : World) (h : n + gsum M n ≤ 1048576) (h0 : 0 ≤ k0) (h1 : k0 ≤ 1000) (hs : MSL w ao n (mkp M k0 n)) :
    Calls Try.prog 39 #[.slice ao n cap, .int .i64 k0] w fun e w' => e = .returned (.int .i64 (k0 + 4 * n + gsum M n)) ∧ w' = w := by
  have HS := hide hs
  clear hs
  go_enter Try.func39, Try.ntmps39
  go_wp2
  go_loop [1, 5] (fun m i => ∃ j : Nat, j ≤ n ∧ i = .int .i64 j ∧ m = .int .i64 (k0 + 4 * j + gsum M j)) (fun _ i => n - (intOf i).toNat)
  case atStart => exact ⟨0, by omega, rfl, by simp [gsum]⟩
  case round =>
    obtain ⟨j, hj, rfl, rfl⟩ := hrel
    by_cases hlt : j < n
    · obtain ⟨b, off, rfl, ro, rc, hrc, hsl, d0, d1, d2, d3, d4⟩ := HS.out j hlt
      have hMj : mkp M k0 n j = mkd (M j) (k0 + 4 * j + gsum M j) := by unfold mkp; rw [if_pos hlt]
      have E : Hid (gsum M (j + 1) = gsum M j + (M j).g.length) := rfl
      have hmono := gsum_le M (j + 1) n hlt
      rw [E.out] at hmono
      rw [hMj] at d0 d1 d2 d3 d4 hrc hsl
      obtain ⟨K, hK⟩ : ∃ K : Int, K = k0 + 4 * (j : Int) + (gsum M j : Int) := ⟨_, rfl⟩
      have hKb : 0 ≤ K ∧ K ≤ 8388608 := by omega
      have HK := hide hK
      rw [← hK] at d0 d1 d2 d3 d4 hrc hsl ⊢
      have hsl' : Hid (SL .i64 w ro (M j).g.length (fun t => K + 1 + 1 + 1 + 1 + t)) := fun t ht => by
        obtain ⟨b, o, e, hl, hc⟩ := hsl t (by rw [mkd_len]; exact ht)
        exact ⟨b, o, e, hl, by rw [hc]; simp only [mkd_get _ _ _ ht]⟩
      rw [mkd_len] at d4
      change w.cell? _ = some (.int .i64 K) at d0
      change w.cell? _ = some (.int .i64 (K + 1)) at d1
      change w.cell? _ = some (.int .i64 (K + 1 + 1)) at d2
      change w.cell? _ = some (.int .i64 (K + 1 + 1 + 1)) at d3
      generalize (M j).g.length = len at *
      have hd : ¬ K + 1 + 1 + 1 + 1 + (len : Int) < 0 := by omega
      clear hK hMj hsl hrc HS
      go_wp2_with fail
      refine (iheld_any ro len rc (K + 1 + 1 + 1 + 1) _ (by omega) (by omega) (by omega) hsl'.out).mono ?_
      rintro e w3 ⟨rfl, hw⟩
      rw [hw]
      clear hw
      go_wp2
      go_round
      case rel => exact ⟨j + 1, by omega, by go_num, by rw [E.out]; have := HK.out; congr 1; omega⟩
      case measure => simp [intOf]; omega
    · obtain rfl : j = n := by omega
      go_wp2
      go_ret
      exact ⟨rfl, rfl⟩
end Go.Proofs.Ythhkmfgccbkkhaa

/- Memory of a call's own, between two marks of the heap. -/
namespace Go.Proofs.Ythhkmfgccbkkhaa
open Go.ChangeShapes Go.WideShapes Go.ChangeAt Go.RowKit
set_option linter.unusedVariables false
set_option linter.unusedSimpArgs false

def OwnT (w : World) (B T : Nat) (t : TypeId) (ao : Option Addr) (n : Nat) (F : Nat → Value) : Prop :=
  n = 0 ∨ ∃ g, ao = some ⟨g, 0, none⟩ ∧ (B ≤ g ∧ g < T) ∧ ∃ c : Array Value, w.heap[g]? = some (.cells c t (0, 0)) ∧ n ≤ c.size ∧ ∀ i, i < n → c[i]? = some (F i)
theorem OwnT.of {w : World} {B : Nat} {t : TypeId} {ao : Option Addr} {n : Nat} {F : Nat → Value} (h : Own w B t ao n F) : OwnT w B w.heap.size t ao n F := by
  rcases h with h | ⟨g, e, hB, c, hc, r⟩
  · exact .inl h
  · exact .inr ⟨g, e, ⟨hB, (Array.getElem?_eq_some_iff.1 hc).1⟩, c, hc, r⟩
theorem OwnT.own {w : World} {B T : Nat} {t : TypeId} {ao : Option Addr} {n : Nat} {F : Nat → Value} (h : OwnT w B T t ao n F) : Own w B t ao n F := by
  rcases h with h | ⟨g, e, hB, c, r⟩
  · exact .inl h
  · exact .inr ⟨g, e, hB.1, c, r⟩
theorem OwnT.kept {w w' : World} {B T : Nat} {t : TypeId} {ao : Option Addr} {n : Nat} {F : Nat → Value} (h : OwnT w B T t ao n F) (hk : ∀ j, B ≤ j → j < T → w'.heap[j]? = w.heap[j]?) : OwnT w' B T t ao n F := by
  rcases h with h | ⟨g, e, hB, c, hc, r⟩
  · exact .inl h
  · exact .inr ⟨g, e, hB, c, (hk g hB.1 hB.2).trans hc, r⟩
theorem OwnT.below {w w' : World} {B T X : Nat} {t : TypeId} {ao : Option Addr} {n : Nat} {F : Nat → Value} (h : OwnT w B T t ao n F) (hb : Below X w w') (hT : T ≤ X) : OwnT w' B T t ao n F :=
  h.kept fun j _ hj => hb.block j (by omega)
theorem OwnT.only {w w' : World} {B T B' T' : Nat} {t : TypeId} {ao : Option Addr} {n : Nat} {F : Nat → Value} (h : OwnT w B T t ao n F) (ho : OnlyBT B' T' w w') (hd : T ≤ B' ∨ T' ≤ B) : OwnT w' B T t ao n F :=
  h.kept fun j h1 h2 => ho.2.2 j (by omega)
/-- What was written anew within. -/
theorem OwnT.again {w w' : World} {B T : Nat} {t : TypeId} {ao : Option Addr} {n : Nat} {F G : Nat → Value} (h : OwnT w B T t ao n F) (ho : Own w' B t ao n G) : OwnT w' B T t ao n G := by
  rcases h with h | ⟨g, e, hB, c, hc, r⟩
  · exact .inl h
  · rcases ho with h | ⟨g', e', hB', c', r'⟩
    · exact .inl h
    · rw [e] at e'
      cases e'
      exact .inr ⟨g, e, hB, c', r'⟩
theorem OM.below' {w w' : World} {B T X g n : Nat} {M : Nat → Mg} {c : Array Value} {R : Nat → Option Addr × Nat} (h : OM w B T g n M c R) (hb : Below X w w') (hT : T ≤ X) : OM w' B T g n M c R :=
  h.kept (fun j _ hj => hb.block j (by omega)) hb.size
end Go.Proofs.Ythhkmfgccbkkhaa

/- Lists of messages. -/
import Derived.Test.YtkeojhnifnkpiaaMofI3Z

namespace Go.Proofs.Ytkeojhnifnkpiaa
open Go.ChangeShapes Go.WideShapes Go.ChangeAt Go.RowKit
set_option linter.unusedVariables false
set_option linter.unusedSimpArgs false
set_option maxRecDepth 100000

/-- A message, told apart from memory. -/
structure Mg where
  k : Int
  c : Int
  v : Int
  h : Int
  g : List Int
def mg0 : Mg := ⟨0, 0, 0, 0, []⟩
/-- Its bytes; nothing where it is none. -/
def mby (m : Mg) : List Int := mb m.k m.c m.v m.h (fun i => m.g.getD i 0) m.g.length
def MgOk (m : Mg) : Prop := MOk m.k m.c m.v m.h (fun i => m.g.getD i 0) m.g.length
/-- Of n messages, one behind the other. -/
def frs (M : Nat → Mg) : Nat → List Int
  | 0 => []
  | j + 1 => frs M j ++ mby (M j)

theorem mby_len (m : Mg) : (mby m).length ≤ 100 := by
  unfold mby mb
  split
  · next hok =>
    have h1 := mbody_len (k := m.k) (c := m.c) (v := m.v) (h := m.h) (f := fun i => m.g.getD i 0) (mok_bd hok).1
    have h2 := pb_len 4 ((mbody m.k m.c m.v m.h (fun i => m.g.getD i 0) m.g.length).length : Int)
    have h4 : (s4 (asum (mbody m.k m.c m.v m.h (fun i => m.g.getD i 0) m.g.length))).length = 4 := rfl
    unfold framed
    rw [List.length_append, List.length_append]
    omega
  · simp
theorem mby_byte (m : Mg) : ∀ z ∈ mby m, 0 ≤ z ∧ z ≤ 255 := by
  by_cases h : MgOk m
  · exact mbi_byte h
  · have : mby m = [] := by unfold mby mb; exact if_neg h
    rw [this]; intro z hz; cases hz
theorem frs_len (M : Nat → Mg) (j : Nat) : (frs M j).length ≤ 100 * j := by
  induction j with
  | zero => exact Nat.le_refl _
  | succ j ih => have := mby_len (M j); simp only [frs, List.length_append]; omega
theorem frs_byte (M : Nat → Mg) (j : Nat) : ∀ z ∈ frs M j, 0 ≤ z ∧ z ≤ 255 := by
  induction j with
  | zero => intro z hz; cases hz
  | succ j ih =>
    intro z hz
    simp only [frs, List.mem_append] at hz
    rcases hz with hz | hz
    · exact ih z hz
    · exact mby_byte _ z hz

/-- A message lies at b, o. -/
def MAt (w : World) (b o : Nat) (m : Mg) : Prop :=
  ∃ ro rc, m.g.length ≤ rc ∧ SL .i64 w ro m.g.length (fun i => m.g.getD i 0) ∧ w.cell? ⟨b, o, none⟩ = some (.int .i64 m.k) ∧ w.cell? ⟨b, o + 1, none⟩ = some (.int .i64 m.c) ∧ w.cell? ⟨b, o + 2, none⟩ = some (.int .i64 m.v) ∧ w.cell? ⟨b, o + 3, none⟩ = some (.int .i64 m.h) ∧ w.cell? ⟨b, o + 4, none⟩ = some (.slice ro m.g.length rc)
theorem MAt.below {w w' : World} {b o : Nat} {m : Mg} (h : MAt w b o m) (hb : Below w.heap.size w w') : MAt w' b o m := by
  obtain ⟨ro, rc, h1, h2, c0, c1, c2, c3, c4⟩ := h
  exact ⟨ro, rc, h1, h2.below hb, (hb.cell (lt_of_cell c0)).trans c0, (hb.cell (lt_of_cell c1)).trans c1, (hb.cell (lt_of_cell c2)).trans c2, (hb.cell (lt_of_cell c3)).trans c3, (hb.cell (lt_of_cell c4)).trans c4⟩
/-- The first n of a slice of messages. -/
def MSL (w : World) (ao : Option Addr) (n : Nat) (M : Nat → Mg) : Prop := ∀ i, i < n → ∃ b off, ao = some ⟨b, off, none⟩ ∧ MAt w b (off + i * 5) (M i)
theorem MSL.below {w w' : World} {ao : Option Addr} {n : Nat} {M : Nat → Mg} (h : MSL w ao n M) (hb : Below w.heap.size w w') : MSL w' ao n M := fun i hi => by
  obtain ⟨b, off, e, hm⟩ := h i hi
  exact ⟨b, off, e, hm.below hb⟩

theorem mby_spec {m : Mg} (ro : Option Addr) (rc : Nat) (w : World) (hn : m.g.length ≤ 1048576) (hrc : m.g.length ≤ rc) (hs : SL .i64 w ro m.g.length (fun i => m.g.getD i 0)) :
    Calls Try.prog 36 #[.agg #[.int .i64 m.k, .int .i64 m.c, .int .i64 m.v, .int .i64 m.h, .slice ro m.g.length rc]] w fun e w' => ∃ x, e = .returned x ∧ w'.ownsRow w.heap.size 5 1 x (mby m).length ((mby m).map (.int .u8)) ∧ Below w.heap.size w w' :=
  msgbytes_spec ro m.g.length rc (fun i => m.g.getD i 0) m.k m.c m.v m.h w hn hrc hs
theorem mby_impl {m : Mg} (ro : Option Addr) (rc : Nat) (w : World) (hn : m.g.length ≤ 1048576) (hrc : m.g.length ≤ rc) (hs : SL .i64 w ro m.g.length (fun i => m.g.getD i 0)) :
    Calls Try.prog 26 #[.agg #[.int .i64 m.k, .int .i64 m.c, .int .i64 m.v, .int .i64 m.h, .slice ro m.g.length rc]] w fun e w' => ∃ x, e = .returned x ∧ w'.ownsRow w.heap.size 5 1 x (mby m).length ((mby m).map (.int .u8)) ∧ Below w.heap.size w w' :=
  msgbytes_impl ro m.g.length rc (fun i => m.g.getD i 0) m.k m.c m.v m.h w hn hrc hs
end Go.Proofs.Ytkeojhnifnkpiaa

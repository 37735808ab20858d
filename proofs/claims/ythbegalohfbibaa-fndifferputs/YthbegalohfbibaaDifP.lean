/- What is put of one list into another at the places at which they differ. -/
import Derived.Test.YthbegalohfbibaaDrawDif
import Derived.Test.YthbegalohfbibaaDifferI
import Derived.Test.YthbegalohfbibaaImageOk
import Derived.Deep.RegionHeld3
import Derived.Deep.Cut
import Derived.Deep.CutRange
namespace Go.Proofs.Ythbegalohfbibaa
open Go.ChangeShapes Go.WideShapes Go.ChangeAt Go.RowKit

theorem mem_dif {s : Nat → Bool} {k : Nat} {d : Int} : d ∈ dif s k ↔ ∃ j, j < k ∧ d = (j : Int) ∧ s j = false := by
  induction k with
  | zero => simp [dif]
  | succ k ih =>
    rw [dif]
    by_cases h : s k = true
    · rw [if_pos h, ih]
      constructor
      · rintro ⟨j, hj, h1, h2⟩; exact ⟨j, by omega, h1, h2⟩
      · rintro ⟨j, hj, h1, h2⟩
        refine ⟨j, ?_, h1, h2⟩
        by_cases e : j = k
        · subst e; rw [h] at h2; cases h2
        · omega
    · rw [if_neg h, List.mem_append, ih]
      constructor
      · rintro (⟨j, hj, h1, h2⟩ | h1)
        · exact ⟨j, by omega, h1, h2⟩
        · exact ⟨k, by omega, by simpa using h1, by simpa using h⟩
      · rintro ⟨j, hj, h1, h2⟩
        by_cases e : j = k
        · subst e; right; simpa using h1
        · left; exact ⟨j, by omega, h1, h2⟩

/-- The first k places of D taken from g. -/
def PutUp (D : List Int) (f g F : Nat → Int) (k : Nat) : Prop := ∀ j, j < 8 → F j = if (j : Int) ∈ D.take k then g j else f j

theorem PutUp.zero {D : List Int} {f g F : Nat → Int} (h : ∀ j, j < 8 → F j = f j) : PutUp D f g F 0 := fun j hj => by simp [h j hj]

theorem PutUp.step {D : List Int} {f g F : Nat → Int} {k d : Nat} (h : PutUp D f g F k) (hd : D[k]? = some (d : Int)) : PutUp D f g (putAt F (d : Int) (g d)) (k + 1) := by
  intro j hj
  have hm : ((j : Int) ∈ D.take (k + 1)) ↔ ((j : Int) ∈ D.take k ∨ j = d) := by
    rw [List.take_add_one, hd, List.mem_append]
    have e : ((j : Int) = (d : Int)) ↔ j = d := by omega
    simp [e]
  unfold putAt
  by_cases e : j = d
  · subst e
    rw [if_pos rfl, if_pos (hm.2 (.inr rfl))]
  · rw [if_neg (by omega), h j hj]
    by_cases e2 : (j : Int) ∈ D.take k
    · rw [if_pos e2, if_pos (hm.2 (.inl e2))]
    · rw [if_neg e2, if_neg (fun h => (hm.1 h).elim e2 e)]

theorem PutUp.done {f g F : Nat → Int} {r : Nat} (h : PutUp (dif (alike f g 8 8) 8) f g F r) (hr : (dif (alike f g 8 8) 8).length = r) : ∀ j, j < 8 → F j = g j := by
  intro j hj
  rw [h j hj, List.take_of_length_le (by omega)]
  split
  · rfl
  · next hn =>
    have h1 : alike f g 8 8 j = true := by
      cases e : alike f g 8 8 j with
      | true => rfl
      | false => exact absurd (mem_dif.2 ⟨j, hj, rfl, e⟩) hn
    simpa [alike, hj] using h1

theorem alike_comm (f g : Nat → Int) (n m i : Nat) : alike f g n m i = alike g f m n i := by
  unfold alike
  rw [Bool.beq_comm (a := decide (i < n)), Bool.beq_comm (a := (if i < n then f i else 0))]

theorem dif_comm (f g : Nat → Int) (n m k : Nat) : dif (alike f g n m) k = dif (alike g f m n) k := dif_congr fun i _ => alike_comm f g n m i

theorem dif_same {f g : Nat → Int} (h : ∀ j, j < 8 → f j = g j) : dif (alike f g 8 8) 8 = [] := dif_nil fun i hi => by simp [alike, hi, h i hi]

theorem dif_min (f g : Nat → Int) (n m : Nat) : dif (alike f g (min n 8) (min m 8)) 8 = dif (alike f g n m) 8 := dif_congr fun i hi => by
  have h1 : (i < min n 8) ↔ i < n := by omega
  have h2 : (i < min m 8) ↔ i < m := by omega
  simp only [alike, h1, h2]

theorem big_no (ao : Option Addr) (n cap : Nat) (w : World) (hn : n ≤ 1048576) : Calls Try.prog 7 #[.slice ao n cap] w fun e w' => e = .returned (.bool false) ∧ w' = w := by
  have hd : decide ((1048576 : Int) < (n : Int)) = false := by simp; omega
  go_enter Try.func7, Try.ntmps7
  go_wp2
  go_ret
  exact ⟨rfl, rfl⟩
theorem big_yes (ao : Option Addr) (n cap : Nat) (w : World) (hn : ¬ n ≤ 1048576) : Calls Try.prog 7 #[.slice ao n cap] w fun e w' => e = .returned (.bool true) ∧ w' = w := by
  go_enter Try.func7, Try.ntmps7
  go_wp2
  go_ret
  exact ⟨by simp; omega, rfl⟩

theorem cell_drew {w W : World} {a : Addr} {v : Value} (h : w.cell? a = some v) (hb : Below w.drew.heap.size w.drew W) (hl : a.block < w.heap.size) : W.cell? a = some v := (hb.cell (p := a) hl).trans h

/-- Differ of both, over whatever two lists, in one form. -/
theorem differ_both (ao bo : Option Addr) (n m ca cb : Nat) (f g : Nat → Int) (w : World) (hn : n ≤ 9) (hm : m ≤ 9) (hA : SL .i64 w ao n f) (hB : SL .i64 w bo m g) :
    (Calls Try.prog 9 #[.slice ao n ca, .slice bo m cb] w fun e w' => ∃ ro rc, e = .returned (.slice ro (dif (alike f g n m) 8).length rc) ∧ SL .i64 w' ro (dif (alike f g n m) 8).length (fun i => (dif (alike f g n m) 8).getD i 0) ∧ Below w.heap.size w w') ∧
    (Calls Try.prog 11 #[.slice ao n ca, .slice bo m cb] w fun e w' => ∃ ro rc, e = .returned (.slice ro (dif (alike f g n m) 8).length rc) ∧ SL .i64 w' ro (dif (alike f g n m) 8).length (fun i => (dif (alike f g n m) 8).getD i 0) ∧ Below w.heap.size w w') := by
  constructor
  · refine (differ_impl ao bo n m ca cb f g w (by omega) (by omega) hA hB).mono fun e' w' => ?_
    rintro ⟨v, rfl, ho, hb⟩
    rw [dif_min] at ho
    obtain ⟨ro, rc, rfl, _, ho'⟩ := Own.of_owns ho
    exact ⟨_, _, rfl, ho'.sl, hb⟩
  · refine (differ_spec ao bo n m ca cb f g w (by omega) (by omega) hA hB).mono fun e' w' => ?_
    rintro ⟨v, rfl, ho, hb⟩
    obtain ⟨ro, rc, rfl, _, ho'⟩ := Own.of_owns ho
    exact ⟨_, _, rfl, ho'.sl, hb⟩
end Go.Proofs.Ythbegalohfbibaa

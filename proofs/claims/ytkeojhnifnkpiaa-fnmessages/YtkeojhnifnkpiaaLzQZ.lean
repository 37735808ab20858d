/- What spreads is bytes. -/
import Derived.Test.YtkeojhnifnkpiaaSprSZ

namespace Go.Proofs.Ytkeojhnifnkpiaa
open Go.ChangeShapes Go.WideShapes Go.ChangeAt Go.RowKit
set_option linter.unusedVariables false
set_option linter.unusedSimpArgs false
set_option maxRecDepth 100000

def Byts (L : List Int) : Prop := ∀ z ∈ L, 0 ≤ z ∧ z ≤ 255

theorem rep_byte {out : List Int} {e : Nat} (h : Byts out) (k : Nat) : Byts (rep out e k) := by
  induction k with
  | zero => exact h
  | succ k ih =>
    intro z hz
    rw [rep] at hz
    rcases List.mem_append.1 hz with hz | hz
    · exact ih z hz
    · have hz' : z = (rep out e k).getD ((rep out e k).length - e) 0 := by simpa using hz
      rw [hz', List.getD_eq_getElem?_getD]
      cases hg : (rep out e k)[(rep out e k).length - e]? with
      | none => simp
      | some y => exact ih y (List.mem_of_getElem? hg)

theorem spr_byte (L out : List Int) (hL : Byts L) (ho : Byts out) : ∀ o, spr L out = some o → Byts o := by
  have app : ∀ {out : List Int} {d : Int}, Byts out → 0 ≤ d ∧ d ≤ 255 → Byts (out ++ [d]) := fun h hd z hz => by
    rcases List.mem_append.1 hz with hz | hz
    · exact h z hz
    · rw [List.mem_singleton] at hz
      subst hz; exact hd
  induction L, out using spr.induct with
  | case1 out => intro o h; simp [spr] at h; subst h; exact ho
  | case2 d out h => intro o hh; rw [spr, if_pos h] at hh; cases hh; exact app ho (hL d (by simp))
  | case3 d out h => intro o hh; rw [spr, if_neg h] at hh; cases hh
  | case4 d e r out h ih => intro o hh; rw [spr, if_pos h] at hh; exact ih (fun z hz => hL z (by simp at hz ⊢; rcases hz with hz | hz <;> simp [hz])) (app ho (hL d (by simp))) o hh
  | case5 e r out h h1 => intro o hh; rw [spr, if_neg h1, if_pos rfl, if_pos h] at hh; cases hh
  | case6 e r out h h1 ih => intro o hh; rw [spr, if_neg h1, if_pos rfl, if_neg h] at hh; exact ih (fun z hz => hL z (by simp [hz])) (app ho (hL e (by simp))) o hh
  | case7 d e r out h1 h2 h h3 => intro o hh; rw [spr, if_neg h1, if_neg h2, if_pos h, if_pos h3] at hh; cases hh
  | case8 d e r out h1 h2 h h3 ih => intro o hh; rw [spr, if_neg h1, if_neg h2, if_pos h, if_neg h3] at hh; exact ih (fun z hz => hL z (by simp [hz])) (rep_byte ho _) o hh
  | case9 d e r out h1 h2 h => intro o hh; rw [spr, if_neg h1, if_neg h2, if_neg h] at hh; cases hh

theorem spread_byte {L : List Int} (hL : Byts L) : Byts ((spread L).getD []) := by
  unfold spread
  cases h : spr L [] with
  | none => intro z hz; simp at hz
  | some o =>
    have hb := spr_byte L [] hL (fun z hz => by cases hz) o h
    show Byts ((if 3000 < o.length then none else some o : Option (List Int)).getD [])
    split
    · intro z hz; simp at hz
    · exact hb

theorem spread_bytes {f : Nat → Int} {n : Nat} {F : List Int} (hf : ∀ i, i < n → 0 ≤ f i ∧ f i ≤ 255) (h : spread (bl f n) = some F) : ∀ z ∈ F, 0 ≤ z ∧ z ≤ 255 := by
  have := spread_byte (L := bl f n) (fun z hz => by
    simp only [bl, List.mem_map, List.mem_range] at hz
    obtain ⟨i, hi, rfl⟩ := hz
    exact hf i hi)
  rw [h] at this
  exact this
end Go.Proofs.Ytkeojhnifnkpiaa

/- (Beside the bytes' own.) markIntS writes a running number into memory that was handed back, heldIntS finds it there. -/
import Derived.Test.YtjbhgedbkajmdabMarkB
namespace Go.Proofs.Ytjbhgedbkajmdab
open Go.ChangeShapes Go.WideShapes Go.ChangeAt Go.RowKit
set_option linter.unusedVariables false
set_option linter.unusedSimpArgs false

theorem imark_step {wr : World} {B g n k : Nat} {k0 : Int} {t : TypeId} {F : Nat → Value} (h : Own wr B t (some ⟨g, 0, none⟩) n (fun j => if j < k then .int .i64 (k0 + j) else F j)) :
    Own (wr.setCell ⟨g, k, none⟩ (.int .i64 (k0 + k))) B t (some ⟨g, 0, none⟩) n (fun j => if j < k + 1 then .int .i64 (k0 + j) else F j) := by
  refine (h.set k _).congr fun j hj => ?_
  by_cases e : j = k
  · subst e; simp
  · simp only [if_neg e]
    by_cases e2 : j < k
    · rw [if_pos e2, if_pos (by omega)]
    · rw [if_neg e2, if_neg (by omega)]

theorem imark_row_step {wr : World} {g n k : Nat} {k0 : Int} {t : TypeId} {F : Nat → Value} (h : wr.rowIs g t n (fun j => if j < k then .int .i64 (k0 + j) else F j)) :
    (wr.setCell ⟨g, k, none⟩ (.int .i64 (k0 + k))).rowIs g t n (fun j => if j < k + 1 then .int .i64 (k0 + j) else F j) := by
  refine (h.set k _).congr fun j hj => ?_
  by_cases e : j = k
  · subst e; simp
  · simp only [if_neg e]
    by_cases e2 : j < k
    · rw [if_pos e2, if_pos (by omega)]
    · rw [if_neg e2, if_neg (by omega)]

end Go.Proofs.Ytjbhgedbkajmdab

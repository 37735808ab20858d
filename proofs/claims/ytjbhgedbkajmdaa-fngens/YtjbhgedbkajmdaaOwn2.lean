/- Memory that a call made itself and handed back. -/
import Derived.Test.YtjbhgedbkajmdaaBase2
namespace Go.Proofs.Ytjbhgedbkajmdaa
open Go.ChangeShapes Go.WideShapes Go.ChangeAt Go.RowKit
set_option linter.unusedVariables false
set_option linter.unusedSimpArgs false

/-- A slice of n cells that lies at the head of a block from B on, which may be written; cell i holds F i. -/
def Own (w : World) (B : Nat) (t : TypeId) (ao : Option Addr) (n : Nat) (F : Nat → Value) : Prop :=
  n = 0 ∨ ∃ g, ao = some ⟨g, 0, none⟩ ∧ B ≤ g ∧ ∃ c : Array Value, w.heap[g]? = some (.cells c t (0, 0)) ∧ n ≤ c.size ∧ ∀ i, i < n → c[i]? = some (F i)

theorem Own.at {w : World} {B : Nat} {t : TypeId} {ao : Option Addr} {n : Nat} {F : Nat → Value} (h : Own w B t ao n F) {i : Nat} (hi : i < n) :
    ∃ g, ao = some ⟨g, 0, none⟩ ∧ B ≤ g ∧ g < w.heap.size ∧ w.cell? ⟨g, i, none⟩ = some (F i) ∧ w.frozen? ⟨g, i, none⟩ = false := by
  rcases h with rfl | ⟨g, e, hB, c, hc, hs, hF⟩
  · omega
  · exact ⟨g, e, hB, (Array.getElem?_eq_some_iff.1 hc).1, by simp [World.cell?, hc, hF i hi], by simp [World.frozen?, hc]⟩

theorem Own.congr {w : World} {B : Nat} {t : TypeId} {ao : Option Addr} {n : Nat} {F G : Nat → Value} (h : Own w B t ao n F) (e : ∀ i, i < n → F i = G i) : Own w B t ao n G := by
  rcases h with h | ⟨g, ea, hB, c, hc, hs, hF⟩
  · exact .inl h
  · exact .inr ⟨g, ea, hB, c, hc, hs, fun i hi => by rw [hF i hi, e i hi]⟩

theorem Own.set {w : World} {B : Nat} {t : TypeId} {g n : Nat} {F : Nat → Value} (h : Own w B t (some ⟨g, 0, none⟩) n F) (i : Nat) (v : Value) :
    Own (w.setCell ⟨g, i, none⟩ v) B t (some ⟨g, 0, none⟩) n (fun j => if j = i then v else F j) := by
  rcases h with h | ⟨g', ea, hB, c, hc, hs, hF⟩
  · exact .inl h
  · simp at ea
    subst ea
    refine .inr ⟨g, rfl, hB, c.setIfInBounds i v, ?_, by simpa using hs, fun j hj => ?_⟩
    · simp [World.setCell, Array.getElem?_modify, hc]
    · show (c.setIfInBounds i v)[j]? = some (if j = i then v else F j)
      rw [Array.getElem?_setIfInBounds]
      by_cases e : j = i
      · subst e
        rw [if_pos rfl, if_pos rfl, if_pos (by omega)]
      · rw [if_neg (fun h => e h.symm), if_neg e]
        exact hF j hj

theorem Own.below {w w' : World} {B : Nat} {t : TypeId} {ao : Option Addr} {n : Nat} {F : Nat → Value} (h : Own w B t ao n F) (hb : Below w.heap.size w w') : Own w' B t ao n F := by
  rcases h with h | ⟨g, ea, hB, c, hc, hs, hF⟩
  · exact .inl h
  · exact .inr ⟨g, ea, hB, c, (hb.block g (Array.getElem?_eq_some_iff.1 hc).1).trans hc, hs, hF⟩

theorem Own.drawn {w : World} {B : Nat} {t : TypeId} {ao : Option Addr} {n : Nat} {F : Nat → Value} (h : Own w B t ao n F) (q : Nat) : Own (w.drewN q) B t ao n F := h

theorem Own.sl {w : World} {B : Nat} {t : TypeId} {ao : Option Addr} {n : Nat} {k : IntKind} {f : Nat → Int} (h : Own w B t ao n (fun i => .int k (f i))) : SL k w ao n f := by
  intro i hi
  obtain ⟨g, e, _, hlt, hc, _⟩ := h.at hi
  exact ⟨g, 0, e, hlt, by simpa using hc⟩

theorem Own.of_row {w : World} {B g n : Nat} {t : TypeId} {F : Nat → Value} (h : w.rowIs g t n F) (hB : B ≤ g) : Own w B t (some ⟨g, 0, none⟩) n F := by
  obtain ⟨c, hc, hn, hF⟩ := h
  exact .inr ⟨g, rfl, hB, c, hc, by omega, hF⟩

/-- What append has built. -/
theorem Own.of_owns {w : World} {B : Nat} {t : TypeId} {v : Value} {n : Nat} {k : IntKind} {L : List Int} (h : w.ownsRow B t 1 v n (L.map (.int k))) :
    ∃ ao cap, v = .slice ao n cap ∧ (n = L.length ∧ n ≤ cap ∧ cap ≤ maxLen) ∧ Own w B t ao n (fun i => .int k (L.getD i 0)) := by
  obtain ⟨hl, h⟩ := h
  have hl' : L.length = n := by simpa using hl
  rcases h with ⟨rfl, rfl⟩ | ⟨g, cap, cur, rfl, hB, hc, hn, hm, hs, ht⟩
  · exact ⟨none, 0, rfl, ⟨hl'.symm, Nat.le_refl _, Nat.zero_le _⟩, .inl rfl⟩
  · refine ⟨_, cap, rfl, ⟨hl'.symm, hn, hm⟩, .inr ⟨g, rfl, hB, cur, hc, by omega, fun i hi => ?_⟩⟩
    have e : (cur.toList.take (n * 1))[i]? = (L.map (Value.int k))[i]? := by rw [ht]
    rw [List.getElem?_take, if_pos (by omega)] at e
    have hi' : i < L.length := by omega
    simpa [List.getD, hi'] using e

end Go.Proofs.Ytjbhgedbkajmdaa

/- append to a row of the call's own, of whatever integers. -/
import Derived.Test.YtjbhgedbkajmdaaOwn2
namespace Go.Proofs.Ytjbhgedbkajmdaa
open Go.ChangeShapes Go.WideShapes Go.ChangeAt Go.RowKit
set_option linter.unusedVariables false
set_option linter.unusedSimpArgs false

theorem hide {p : Prop} (h : p) : Hid p := h
theorem gcells (wr : World) (us : List Value) (t : TypeId) : ∀ j u', us[j]? = some u' → (wr.alloc (.cells us.toArray t)).cell? ((⟨wr.heap.size, 0, none⟩ : Addr).add j) = some u' := by
  intro j u' hj
  have hb : (wr.alloc (.cells us.toArray t)).heap[wr.heap.size]? = some (.cells us.toArray t (0, 0)) := Deep.blk_alloc_new _ _
  rw [Addr.add_lit, Nat.zero_add]
  simp only [World.cell?, hb]
  simpa using hj
theorem gones (k : IntKind) (L : List Int) : ∀ u ∈ L.map (Value.int k), u.oneCell' = true := by
  intro u hu; simp at hu; obtain ⟨x, _, rfl⟩ := hu; rfl
theorem glens {k m : Nat} (h : k + m ≤ 8388608) : k + m ≤ maxLen := by unfold maxLen; omega
theorem ggrown {B : Nat} {w wr w0 w1 : World} {v : Value} {k : Nat} {e : TypeId} {xs : List Value} (hb : Below B w w0) (hw : B ≤ w0.heap.size) (ho : wr.ownsRow B e 1 v k xs) (hg : w0.grownBy w1 v.ownBlock) : Below B w w1 := by
  refine hb.grown hg hw ?_
  intro g hgv
  rcases ho.2 with ⟨rfl, _⟩ | ⟨g', cap, cur, rfl, hge, _⟩
  · simp [Value.ownBlock] at hgv
  · simp [Value.ownBlock] at hgv; omega
/-- Behind an append of what was just laid. -/
theorem gpush {B : Nat} {w wr w1 : World} {v v' : Value} {k m : Nat} {ik : IntKind} {t : TypeId} {L M : List Int} {o : Obj} (hb : Below B w wr) (hw : B ≤ wr.heap.size) (ho : wr.ownsRow B t 1 v k (L.map (.int ik)))
    (h1 : w1.ownsRow B t 1 v' (k + m) (L.map (.int ik) ++ M.map (.int ik))) (hg : (wr.alloc o).grownBy w1 v.ownBlock) :
    w1.ownsRow B t 1 v' (k + m) ((L ++ M).map (.int ik)) ∧ Below B w w1 :=
  ⟨by simpa using h1, ggrown (hb.alloc hw _) (by simp; omega) ho hg⟩
theorem gnil {B : Nat} {w : World} {t : TypeId} {ik : IntKind} : w.ownsRow B t 1 (.slice none 0 0) 0 (([] : List Int).map (.int ik)) := ⟨rfl, .inl ⟨rfl, rfl⟩⟩
theorem gempty {B : Nat} {w : World} {t : TypeId} {ik : IntKind} (hB : B ≤ w.heap.size) : (w.alloc (.cells #[] t)).ownsRow B t 1 (.slice (some ⟨w.heap.size, 0, none⟩) 0 0) 0 (([] : List Int).map (.int ik)) :=
  ⟨rfl, .inr ⟨_, _, #[], rfl, hB, Deep.blk_alloc_new _ _, by simp, by simp, by simp, by simp⟩⟩
theorem gmono {B B' n s : Nat} {w : World} {e : TypeId} {v : Value} {xs : List Value} (h : w.ownsRow B e s v n xs) (hB : B' ≤ B) : w.ownsRow B' e s v n xs := by
  refine ⟨h.1, ?_⟩
  rcases h.2 with h | ⟨g, cap, cur, e1, hge, h⟩
  · exact .inl h
  · exact .inr ⟨g, cap, cur, e1, Nat.le_trans hB hge, h⟩
theorem gdrawn {B n s : Nat} {w : World} {e : TypeId} {v : Value} {xs : List Value} (h : w.ownsRow B e s v n xs) (q : Nat) : (w.drewN q).ownsRow B e s v n xs := h
end Go.Proofs.Ytjbhgedbkajmdaa

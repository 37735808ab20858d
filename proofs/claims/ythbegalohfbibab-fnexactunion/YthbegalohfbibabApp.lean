/- append of one int to a row of the call's own. -/
import Derived.Test.YthbegalohfbibabOwn2
import Derived.Test.YthbegalohfbibabInt
namespace Go.Proofs.Ythbegalohfbibab
open Go.ChangeShapes Go.WideShapes Go.ChangeAt Go.RowKit

theorem hide {p : Prop} (h : p) : Hid p := h
theorem app_cell (wr : World) (u : Value) (t : TypeId) : ∀ j u', [u][j]? = some u' → (wr.alloc (.cells #[u] t)).cell? ((⟨wr.heap.size, 0, none⟩ : Addr).add j) = some u' := by
  intro j u' hj
  match j, hj with
  | 0, hj => simp at hj; subst hj; simp [Addr.add]
theorem app_one (k : IntKind) (x : Int) : ∀ u ∈ [Value.int k x], u.oneCell' = true := by
  intro u hu; simp at hu; subst hu; rfl
theorem app_ones (k : IntKind) (L : List Int) : ∀ u ∈ L.map (Value.int k), u.oneCell' = true := by
  intro u hu; simp at hu; obtain ⟨x, _, rfl⟩ := hu; rfl
theorem app_len {k : Nat} (h : k ≤ 8388608) : k + 1 ≤ maxLen := by unfold maxLen; omega
theorem app_lens {k m : Nat} (h : k + m ≤ 8388608) : k + m ≤ maxLen := by unfold maxLen; omega

theorem grown_below {B : Nat} {w wr w0 w1 : World} {v : Value} {k : Nat} {e : TypeId} {xs : List Value} (hb : Below B w w0) (hw : B ≤ w0.heap.size) (ho : wr.ownsRow B e 1 v k xs) (hg : w0.grownBy w1 v.ownBlock) : Below B w w1 := by
  refine hb.grown hg hw ?_
  intro g hgv
  rcases ho.2 with ⟨rfl, _⟩ | ⟨g', cap, cur, rfl, hge, _⟩
  · simp [Value.ownBlock] at hgv
  · simp [Value.ownBlock] at hgv; omega

/-- Behind 'append(out, x)'. -/
theorem push {B : Nat} {w wr w1 : World} {v v' : Value} {k : Nat} {x : Int} {L : List Int} (hb : Below B w wr) (hw : B ≤ wr.heap.size) (ho : wr.ownsRow B 3 1 v k (L.map (.int .i64)))
    (h1 : w1.ownsRow B 3 1 v' (k + 1) (L.map (.int .i64) ++ [.int .i64 x])) (hg : (wr.alloc (.cells #[.int .i64 x] 3)).grownBy w1 v.ownBlock) :
    w1.ownsRow B 3 1 v' (k + 1) ((L ++ [x]).map (.int .i64)) ∧ Below B w w1 :=
  ⟨by simpa using h1, grown_below (hb.alloc hw _) (by simp; omega) ho hg⟩

/-- A row that was laid whole, as append takes it. -/
theorem owns_nil {B : Nat} {w : World} : w.ownsRow B 3 1 (.slice none 0 0) 0 (([] : List Int).map (.int .i64)) := ⟨rfl, .inl ⟨rfl, rfl⟩⟩
theorem owns_empty {B : Nat} {w : World} (hB : B ≤ w.heap.size) : (w.alloc (.cells #[] 3)).ownsRow B 3 1 (.slice (some ⟨w.heap.size, 0, none⟩) 0 0) 0 (([] : List Int).map (.int .i64)) :=
  ⟨rfl, .inr ⟨_, _, #[], rfl, hB, Deep.blk_alloc_new _ _, by simp, by simp, by simp, by simp⟩⟩
theorem owns_mono {B B' n s : Nat} {w : World} {e : TypeId} {v : Value} {xs : List Value} (h : w.ownsRow B e s v n xs) (hB : B' ≤ B) : w.ownsRow B' e s v n xs := by
  refine ⟨h.1, ?_⟩
  rcases h.2 with h | ⟨g, cap, cur, e1, hge, h⟩
  · exact .inl h
  · exact .inr ⟨g, cap, cur, e1, Nat.le_trans hB hge, h⟩
theorem owns_drawn {B n s : Nat} {w : World} {e : TypeId} {v : Value} {xs : List Value} (h : w.ownsRow B e s v n xs) (q : Nat) : (w.drewN q).ownsRow B e s v n xs := h
end Go.Proofs.Ythbegalohfbibab

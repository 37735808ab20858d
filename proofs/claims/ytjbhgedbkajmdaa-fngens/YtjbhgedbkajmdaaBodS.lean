/- The body of a message: its numbers as bytes, one behind the other. -/
import Derived.Test.YtjbhgedbkajmdaaMokSA
import Derived.Test.YtjbhgedbkajmdaaPut
import Derived.Test.YtjbhgedbkajmdaaAppG
import Derived.Deep.AppendLies
namespace Go.Proofs.Ytjbhgedbkajmdaa
open Go.ChangeShapes Go.WideShapes Go.ChangeAt Go.RowKit
set_option linter.unusedVariables false
set_option linter.unusedSimpArgs false

/-- Numbers as bytes, one behind the other. -/
def nums (l : List Int) : List Int := (l.map (pb 4)).flatten
theorem nums_nil : nums [] = [] := rfl
theorem nums_cons (x : Int) (l : List Int) : nums (x :: l) = pb 4 x ++ nums l := by simp [nums]
theorem nums_app (l m : List Int) : nums (l ++ m) = nums l ++ nums m := by simp [nums]
theorem nums_one (x : Int) : nums [x] = pb 4 x := by simp [nums]
theorem nums_len (l : List Int) : (nums l).length ≤ 5 * l.length := by
  induction l with
  | nil => simp [nums]
  | cons x l ih =>
    have := pb_len 4 x
    rw [nums_cons, List.length_append, List.length_cons]
    omega

theorem mpb_pos (fuel : Nat) (x : Int) : 0 < (pb fuel x).length := by
  cases fuel with
  | zero => simp [pb]
  | succ f => rw [pb]; split <;> simp
theorem mpb_255 (fuel : Nat) (x : Int) (k : Nat) (hk : k + fuel = 4) (h0 : 0 ≤ x) (h1 : x < lim k) : ∀ z ∈ pb fuel x, 0 ≤ z ∧ z ≤ 255 := by
  induction fuel generalizing x k with
  | zero =>
    intro z hz
    simp [pb] at hz
    subst hz
    have : k = 4 := by omega
    subst this
    simp [lim] at h1
    omega
  | succ f ih =>
    intro z hz
    rw [pb] at hz
    split at hz
    · simp at hz; omega
    · next h =>
      obtain ⟨_, g0, g1⟩ := lim_step k x (by omega) h1
      rcases List.mem_cons.1 hz with rfl | hz
      · omega
      · exact ih (x / 128) (k + 1) (by omega) g0 g1 z hz
theorem pb_byte (x : Int) (h0 : 0 ≤ x) (h1 : x ≤ 2147483647) : ∀ z ∈ pb 4 x, 0 ≤ z ∧ z ≤ 255 := mpb_255 4 x 0 rfl h0 (by simp [lim]; omega)
theorem nums_byte (l : List Int) (h : ∀ x ∈ l, 0 ≤ x ∧ x ≤ 2147483647) : ∀ z ∈ nums l, 0 ≤ z ∧ z ≤ 255 := by
  intro z hz
  simp only [nums, List.mem_flatten, List.mem_map] at hz
  obtain ⟨_, ⟨x, hx, rfl⟩, hz⟩ := hz
  exact pb_byte x (h x hx).1 (h x hx).2 z hz

theorem gbelow {B n s : Nat} {w w' : World} {e : TypeId} {v : Value} {xs : List Value} (h : w.ownsRow B e s v n xs) (hb : Below w.heap.size w w') : w'.ownsRow B e s v n xs := by
  refine ⟨h.1, ?_⟩
  rcases h.2 with h | ⟨g, cap, cur, e1, hge, hc, r⟩
  · exact .inl h
  · exact .inr ⟨g, cap, cur, e1, hge, (hb.block g (Array.getElem?_eq_some_iff.1 hc).1).trans hc, r⟩
theorem msrc {w : World} {B : Nat} {v : Value} {L : List Int} {k : IntKind} {t : TypeId} (h : w.ownsRow B t 1 v L.length (L.map (.int k))) (hne : 0 < L.length) :
    ∃ g cap, v = .slice (some ⟨g, 0, none⟩) L.length cap ∧ g < w.heap.size ∧ B ≤ g ∧ ∀ j u, (L.map (Value.int k))[j]? = some u → w.cell? ((⟨g, 0, none⟩ : Addr).add j) = some u := by
  rcases h.2 with ⟨_, h0⟩ | ⟨g, cap, cur, e, hge, hc, _⟩
  · omega
  · exact ⟨g, cap, e, (Array.getElem?_eq_some_iff.1 hc).1, hge, h.cells (by rw [e]; rfl)⟩

/-- Bytes that are built beside a list of numbers at block q, and a message at block p. -/
def Bo (w0 w : World) (p q : Nat) (v : Value) (L : List Int) : Prop :=
  w.ownsRow w0.heap.size 5 1 v L.length (L.map (.int .u8)) ∧ v.ownBlock ≠ some p ∧ v.ownBlock ≠ some q ∧ p < w.heap.size ∧ q < w.heap.size ∧ Below w0.heap.size w0 w

theorem Bo.step {w0 w w' : World} {p q : Nat} {v : Value} {L : List Int} (h : Bo w0 w p q v L) (hb : Below w.heap.size w w') : Bo w0 w' p q v L :=
  ⟨gbelow h.1 hb, h.2.1, h.2.2.1, Nat.lt_of_lt_of_le h.2.2.2.1 hb.size, Nat.lt_of_lt_of_le h.2.2.2.2.1 hb.size, h.2.2.2.2.2.trans (hb.mono h.2.2.2.2.2.size)⟩
theorem Bo.app {w0 w w' : World} {p q g cap : Nat} {v : Value} {L M : List Int} (h : Bo w0 w p q v L)
    (h1 : w'.ownsRow w0.heap.size 5 1 (.slice (some ⟨g, 0, none⟩) (L.length + M.length) cap) (L.length + M.length) (L.map (.int .u8) ++ M.map (.int .u8))) (hg : w.grownBy w' v.ownBlock) (hat : v.ownBlock = some g ∨ g = w.heap.size) :
    Bo w0 w' p q (.slice (some ⟨g, 0, none⟩) (L.length + M.length) cap) (L ++ M) := by
  obtain ⟨ho, hp, hq, lp, lq, hb⟩ := h
  refine ⟨by simpa using h1, ?_, ?_, Nat.lt_of_lt_of_le lp hg.size, Nat.lt_of_lt_of_le lq hg.size, ggrown hb hb.size ho hg⟩
  · rcases hat with e | e
    · intro c; exact hp (e.trans (by simpa [Value.ownBlock] using c))
    · intro c; simp [Value.ownBlock] at c; omega
  · rcases hat with e | e
    · intro c; exact hq (e.trans (by simpa [Value.ownBlock] using c))
    · intro c; simp [Value.ownBlock] at c; omega
theorem Bo.keep {w0 w w' : World} {p q : Nat} {v : Value} {L : List Int} (h : Bo w0 w p q v L) (hg : w.grownBy w' v.ownBlock) (a : Addr) (ha : a.block = p ∨ a.block = q) : w'.cell? a = w.cell? a := by
  rcases ha with e | e
  · exact hg.cell_far a (by rw [e]; exact h.2.2.2.1) (by rw [e]; exact fun c => h.2.1 c.symm)
  · exact hg.cell_far a (by rw [e]; exact h.2.2.2.2.1) (by rw [e]; exact fun c => h.2.2.1 c.symm)

theorem al3 (w : World) (o1 o2 o3 : Obj) : (((w.alloc o1).alloc o2).alloc o3).heap[w.heap.size]? = some o1 ∧ (((w.alloc o1).alloc o2).alloc o3).heap[w.heap.size + 1]? = some o2 ∧ (((w.alloc o1).alloc o2).alloc o3).heap[w.heap.size + 1 + 1]? = some o3 ∧ (((w.alloc o1).alloc o2).alloc o3).heap.size = w.heap.size + 1 + 1 + 1 := by
  have e : ∀ (w : World) (o : Obj), (w.alloc o).heap = w.heap.push o := fun _ _ => rfl
  refine ⟨?_, ?_, ?_, ?_⟩
  · simp only [e, Array.getElem?_push, Array.size_push]
    rw [if_neg (by omega), if_neg (by omega), if_pos trivial]
  · simp only [e, Array.getElem?_push, Array.size_push]
    rw [if_neg (by omega), if_pos trivial]
  · simp only [e, Array.getElem?_push, Array.size_push]
    rw [if_pos trivial]
  · simp only [e, Array.size_push]
theorem bo_start (w : World) (m l : Array Value) (t : TypeId) : Bo w (((w.alloc (.cells m t)).alloc (.cells #[] 5)).alloc (.cells l 3)) w.heap.size (w.heap.size + 1 + 1) (.slice (some ⟨w.heap.size + 1, 0, none⟩) 0 0) [] := by
  obtain ⟨h1, h2, h3, h4⟩ := al3 w (.cells m t) (.cells #[] 5) (.cells l 3)
  refine ⟨⟨rfl, .inr ⟨_, _, #[], rfl, by omega, h2, by simp, by simp, by simp, by simp⟩⟩, by simp [Value.ownBlock], by simp [Value.ownBlock], by omega, by omega, ?_⟩
  exact (((Below.refl _ _).alloc (Nat.le_refl _) _).alloc (by simp) _).alloc (by simp; omega) _
theorem blk_cell {w : World} {g i : Nat} {cs : Array Value} {t : TypeId} {fr : Nat × Nat} {v : Value} (h : w.heap[g]? = some (.cells cs t fr)) (hv : cs[i]? = some v) : w.cell? ⟨g, i, none⟩ = some v := by
  simp [World.cell?, h, hv]

end Go.Proofs.Ytjbhgedbkajmdaa

/- Lists of messages as the laws hand them on. -/
import Derived.Test.YtkeojhnifnkpiaaMsLZ

namespace Go.Proofs.Ytkeojhnifnkpiaa
open Go.ChangeShapes Go.WideShapes Go.ChangeAt Go.RowKit
set_option linter.unusedVariables false
set_option linter.unusedSimpArgs false
set_option maxRecDepth 100000

/-- How many numbers stand in the first n. -/
def gsum (M : Nat → Mg) : Nat → Nat
  | 0 => 0
  | j + 1 => gsum M j + (M j).g.length
theorem gsum_le (M : Nat → Mg) (j n : Nat) (h : j ≤ n) : gsum M j ≤ gsum M n := by
  induction n with
  | zero => obtain rfl : j = 0 := by omega
            exact Nat.le_refl _
  | succ n ih =>
    by_cases e : j = n + 1
    · subst e; exact Nat.le_refl _
    · have := ih (by omega); simp only [gsum]; omega
theorem gsum_one (M : Nat → Mg) (j n : Nat) (h : j < n) : (M j).g.length ≤ gsum M n := by
  have := gsum_le M (j + 1) n h
  simp only [gsum] at this
  omega

/-- n messages in a row of their own at g, each with its numbers in a row of its own; all of it lies from B on and below T. -/
def OM (w : World) (B T g n : Nat) (M : Nat → Mg) (c : Array Value) (R : Nat → Option Addr × Nat) : Prop :=
  (B ≤ g ∧ g < T ∧ T ≤ w.heap.size) ∧ w.heap[g]? = some (.cells c 40 (0, 0)) ∧ n * 5 ≤ c.size ∧
  ∀ i, i < n → (c[i * 5]? = some (.int .i64 (M i).k) ∧ c[i * 5 + 1]? = some (.int .i64 (M i).c) ∧ c[i * 5 + 2]? = some (.int .i64 (M i).v) ∧ c[i * 5 + 3]? = some (.int .i64 (M i).h) ∧ c[i * 5 + 4]? = some (.slice (R i).1 (M i).g.length (R i).2)) ∧
    (M i).g.length ≤ (R i).2 ∧ Own w B 3 (R i).1 (M i).g.length (fun j => .int .i64 ((M i).g.getD j 0)) ∧
    ∀ γ, (R i).1 = some ⟨γ, 0, none⟩ → 0 < (M i).g.length → (γ < T ∧ γ ≠ g) ∧ ∀ j, j < n → j ≠ i → 0 < (M j).g.length → (R j).1 ≠ some ⟨γ, 0, none⟩
theorem OM.lt {w : World} {B T g n : Nat} {M : Nat → Mg} {c : Array Value} {R : Nat → Option Addr × Nat} (h : OM w B T g n M c R) : g < w.heap.size := by have := h.1; omega
theorem OM.msl {w : World} {B T g n : Nat} {M : Nat → Mg} {c : Array Value} {R : Nat → Option Addr × Nat} (h : OM w B T g n M c R) : MSL w (some ⟨g, 0, none⟩) n M := fun i hi => by
  obtain ⟨⟨c0, c1, c2, c3, c4⟩, hrc, ho, _⟩ := h.2.2.2 i hi
  refine ⟨g, 0, rfl, (R i).1, (R i).2, hrc, ho.sl, ?_, ?_, ?_, ?_, ?_⟩
  · simp only [World.cell?, h.2.1, Nat.zero_add]; exact c0
  · simp only [World.cell?, h.2.1, Nat.zero_add]; exact c1
  · simp only [World.cell?, h.2.1, Nat.zero_add]; exact c2
  · simp only [World.cell?, h.2.1, Nat.zero_add]; exact c3
  · simp only [World.cell?, h.2.1, Nat.zero_add]; exact c4
/-- What leaves all blocks from B on below T as they were leaves the messages. -/
theorem OM.kept {w w' : World} {B T g n : Nat} {M : Nat → Mg} {c : Array Value} {R : Nat → Option Addr × Nat} (h : OM w B T g n M c R) (hk : ∀ j, B ≤ j → j < T → w'.heap[j]? = w.heap[j]?) (hs : w.heap.size ≤ w'.heap.size) : OM w' B T g n M c R := by
  obtain ⟨hb, hg, hsz, hm⟩ := h
  refine ⟨by omega, (hk g (by omega) (by omega)).trans hg, hsz, fun i hi => ?_⟩
  obtain ⟨h1, h2, h3, h4⟩ := hm i hi
  refine ⟨h1, h2, ?_, h4⟩
  rcases h3 with h3 | ⟨γ, e, hB, cs, hc, hl, hF⟩
  · exact .inl h3
  · by_cases h0 : (M i).g.length = 0
    · exact .inl h0
    · exact .inr ⟨γ, e, hB, cs, (hk γ hB ((h4 γ e (by omega)).1.1)).trans hc, hl, hF⟩
theorem OM.below {w w' : World} {B T g n : Nat} {M : Nat → Mg} {c : Array Value} {R : Nat → Option Addr × Nat} (h : OM w B T g n M c R) (hb : Below w.heap.size w w') : OM w' B T g n M c R :=
  h.kept (fun j _ hj => hb.block j (by have := h.1; omega)) hb.size
/-- Five cells written, one behind the other. -/
def put5 (w : World) (g o : Nat) (a b c d e : Value) : World := ((((w.setCell ⟨g, o, none⟩ a).setCell ⟨g, o + 1, none⟩ b).setCell ⟨g, o + 2, none⟩ c).setCell ⟨g, o + 3, none⟩ d).setCell ⟨g, o + 4, none⟩ e
def arr5 (x : Array Value) (o : Nat) (a b c d e : Value) : Array Value := ((((x.setIfInBounds o a).setIfInBounds (o + 1) b).setIfInBounds (o + 2) c).setIfInBounds (o + 3) d).setIfInBounds (o + 4) e
theorem set_blk {w : World} {g o : Nat} {x : Array Value} {t : TypeId} (v : Value) (h : w.heap[g]? = some (.cells x t (0, 0))) : (w.setCell ⟨g, o, none⟩ v).heap[g]? = some (.cells (x.setIfInBounds o v) t (0, 0)) := by
  simp [World.setCell, Array.getElem?_modify, h]
theorem put5_blk {w : World} {g o : Nat} {x : Array Value} {t : TypeId} (a b c d e : Value) (h : w.heap[g]? = some (.cells x t (0, 0))) : (put5 w g o a b c d e).heap[g]? = some (.cells (arr5 x o a b c d e) t (0, 0)) :=
  set_blk e (set_blk d (set_blk c (set_blk b (set_blk a h))))
theorem put5_far {w : World} {g o j : Nat} (a b c d e : Value) (h : ¬ j = g) : (put5 w g o a b c d e).heap[j]? = w.heap[j]? :=
  (heap_far h e).trans ((heap_far h d).trans ((heap_far h c).trans ((heap_far h b).trans (heap_far h a))))
theorem put5_size {w : World} {g o : Nat} (a b c d e : Value) : (put5 w g o a b c d e).heap.size = w.heap.size := by simp [put5, World.setCell]
theorem put5_below {w0 w : World} {B g o : Nat} (a b c d e : Value) (h : Below B w0 w) (hg : B ≤ g) : Below B w0 (put5 w g o a b c d e) :=
  ((((h.setCell (p := ⟨g, o, none⟩) hg a).setCell (p := ⟨g, o + 1, none⟩) hg b).setCell (p := ⟨g, o + 2, none⟩) hg c).setCell (p := ⟨g, o + 3, none⟩) hg d).setCell (p := ⟨g, o + 4, none⟩) hg e
theorem arr5_size (x : Array Value) (o : Nat) (a b c d e : Value) : (arr5 x o a b c d e).size = x.size := by simp [arr5]
theorem arr5_far (x : Array Value) (o j : Nat) (a b c d e : Value) (h : j < o ∨ o + 4 < j) : (arr5 x o a b c d e)[j]? = x[j]? := by
  unfold arr5
  rw [Array.getElem?_setIfInBounds, if_neg (by omega), Array.getElem?_setIfInBounds, if_neg (by omega), Array.getElem?_setIfInBounds, if_neg (by omega), Array.getElem?_setIfInBounds, if_neg (by omega), Array.getElem?_setIfInBounds, if_neg (by omega)]
theorem arr5_at (x : Array Value) (o : Nat) (a b c d e : Value) (h : o + 4 < x.size) : (arr5 x o a b c d e)[o]? = some a ∧ (arr5 x o a b c d e)[o + 1]? = some b ∧ (arr5 x o a b c d e)[o + 2]? = some c ∧ (arr5 x o a b c d e)[o + 3]? = some d ∧ (arr5 x o a b c d e)[o + 4]? = some e := by
  have h0 : o < x.size := by omega
  have h1 : o + 1 < x.size := by omega
  have h2 : o + 2 < x.size := by omega
  have h3 : o + 3 < x.size := by omega
  refine ⟨?_, ?_, ?_, ?_, ?_⟩ <;> simp [arr5, Array.getElem?_setIfInBounds, h, h0, h1, h2, h3]

theorem OM.put {w : World} {B T T' g k γ rc : Nat} {M : Nat → Mg} {c : Array Value} {R : Nat → Option Addr × Nat} (h : OM w B T g k M c R) (hT : T ≤ T') (hT' : T' ≤ w.heap.size) (hc : (k + 1) * 5 ≤ c.size) (hγ : T ≤ γ ∧ γ < T') (hrc : (M k).g.length ≤ rc)
    (ho : Own w B 3 (some ⟨γ, 0, none⟩) (M k).g.length (fun j => .int .i64 ((M k).g.getD j 0))) :
    OM (put5 w g (k * 5) (.int .i64 (M k).k) (.int .i64 (M k).c) (.int .i64 (M k).v) (.int .i64 (M k).h) (.slice (some ⟨γ, 0, none⟩) (M k).g.length rc)) B T' g (k + 1) M (arr5 c (k * 5) (.int .i64 (M k).k) (.int .i64 (M k).c) (.int .i64 (M k).v) (.int .i64 (M k).h) (.slice (some ⟨γ, 0, none⟩) (M k).g.length rc)) (fun i => if i = k then (some ⟨γ, 0, none⟩, rc) else R i) := by
  obtain ⟨hb, hg, hsz, hm⟩ := h
  have keepO : ∀ {ao : Option Addr} {n : Nat} {F : Nat → Value}, Own w B 3 ao n F → (∀ γ', ao = some ⟨γ', 0, none⟩ → 0 < n → γ' ≠ g) → Own (put5 w g (k * 5) (.int .i64 (M k).k) (.int .i64 (M k).c) (.int .i64 (M k).v) (.int .i64 (M k).h) (.slice (some ⟨γ, 0, none⟩) (M k).g.length rc)) B 3 ao n F := by
    intro ao n F ho hne
    rcases ho with h0 | ⟨γ', e, hB, cs, hcs, hl, hF⟩
    · exact .inl h0
    · by_cases h0 : n = 0
      · exact .inl h0
      · exact .inr ⟨γ', e, hB, cs, (put5_far _ _ _ _ _ (hne γ' e (by omega))).trans hcs, hl, hF⟩
  refine ⟨⟨by omega, by omega, by rw [put5_size]; exact hT'⟩, put5_blk _ _ _ _ _ hg, by rw [arr5_size]; omega, fun i hi => ?_⟩
  by_cases e : i = k
  · subst e
    simp only [if_true]
    refine ⟨arr5_at c (i * 5) _ _ _ _ _ (by omega), hrc, keepO ho (fun γ' e' _ => by cases e'; omega), fun γ' e' hpos => ?_⟩
    cases e'
    refine ⟨by omega, fun j hj hji hpj => ?_⟩
    rw [if_neg hji]
    intro e2
    have := ((hm j (by omega)).2.2.2 γ e2 hpj).1.1
    omega
  · obtain ⟨⟨c0, c1, c2, c3, c4⟩, h2, h3, h4⟩ := hm i (by omega)
    simp only [if_neg e]
    refine ⟨⟨(arr5_far c _ _ _ _ _ _ _ (by omega)).trans c0, (arr5_far c _ _ _ _ _ _ _ (by omega)).trans c1, (arr5_far c _ _ _ _ _ _ _ (by omega)).trans c2, (arr5_far c _ _ _ _ _ _ _ (by omega)).trans c3, (arr5_far c _ _ _ _ _ _ _ (by omega)).trans c4⟩, h2, keepO h3 (fun γ' e' hpos => (h4 γ' e' hpos).1.2), fun γ' e' hpos => ?_⟩
    have h5 := h4 γ' e' hpos
    refine ⟨⟨by have := h5.1.1; omega, h5.1.2⟩, fun j hj hji hpj => ?_⟩
    by_cases ej : j = k
    · rw [if_pos ej]
      intro e2
      simp only [Option.some.injEq, Addr.mk.injEq, and_true] at e2
      have := h5.1.1
      omega
    · rw [if_neg ej]
      exact h5.2 j (by omega) hji hpj
theorem Try.info26 : (Try.prog.info? 40).map (fun i => (i.zero, i.size, i.bytes)) = some (some (.agg #[.int .i64 0, .int .i64 0, .int .i64 0, .int .i64 0, .slice none 0 0]), 5, 56) := by kernel_rfl
theorem make_msgs (n : Nat) (w : World) (h : n ≤ 1048576) : ∃ c : Array Value, c.size = n * 5 ∧ (Instr.makeSlice 47 (.int .i64 (n : Int)) (.int .i64 (n : Int))).run Try.prog w = .ok (.slice (some ⟨w.heap.size, 0, none⟩) n n) (w.alloc (.cells c 40)) := by
  obtain ⟨i, hi, hzz⟩ := Option.map_eq_some_iff.1 Try.info26
  simp only [Prod.mk.injEq] at hzz
  obtain ⟨hz, hs, hb⟩ := hzz
  refine ⟨madeCells (Value.agg #[.int .i64 0, .int .i64 0, .int .i64 0, .int .i64 0, .slice none 0 0]).cells (n * 5), size_madeCells _ _, ?_⟩
  have := run_make (P := Try.prog) w 47 40 i _ Try.underlying47 hi hz .i64 .i64 (n : Int) (n : Int) (by omega) (by omega) (by rw [hb]; omega) (by omega)
  rw [hs] at this
  simpa using this
end Go.Proofs.Ytkeojhnifnkpiaa

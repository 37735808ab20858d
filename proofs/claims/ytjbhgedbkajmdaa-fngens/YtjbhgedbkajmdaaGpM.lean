/- Generations in a map: what it holds (pure). -/
import Derived.Test.YtjbhgedbkajmdaaAppG
import Derived.Maps.RangeWalk
import Derived.Maps.OwnSet
import Derived.Maps.Ext
namespace Go.Proofs.Ytjbhgedbkajmdaa
open Go.ChangeShapes Go.WideShapes Go.ChangeAt Go.RowKit
set_option linter.unusedVariables false
set_option linter.unusedSimpArgs false

/-- Place i is the first one of its number. -/
def Fst (f : Nat → Int) (i : Nat) : Prop := ∀ j, j < i → f j ≠ f i
/-- A map from numbers to places: it holds i at x just where S tells so. -/
def PlIs (D : DataW Unit) (S : Int → Nat → Prop) : Prop :=
  (∀ x, Maps.has D (.int .i64 x) = true ↔ ∃ i, S x i) ∧ ∀ x i, S x i → ∀ z, D.atKey (.int .i64 x) z = .lit (.int .i64 (i : Int))
/-- The first places of the first k numbers. -/
def Plk (f : Nat → Int) (k : Nat) (x : Int) (i : Nat) : Prop := i < k ∧ f i = x ∧ Fst f i

theorem PlIs.congr {D : DataW Unit} {S T : Int → Nat → Prop} (h : PlIs D S) (e : ∀ x i, S x i ↔ T x i) : PlIs D T :=
  ⟨fun x => (h.1 x).trans ⟨fun ⟨i, hi⟩ => ⟨i, (e x i).1 hi⟩, fun ⟨i, hi⟩ => ⟨i, (e x i).2 hi⟩⟩, fun x i hi => h.2 x i ((e x i).2 hi)⟩

theorem Plk.uniq {f : Nat → Int} {k : Nat} {x : Int} {i j : Nat} (h : Plk f k x i) (h' : Plk f k x j) : i = j := by
  rcases Nat.lt_trichotomy i j with h1 | h1 | h1
  · exact absurd (h.2.1.trans h'.2.1.symm) (h'.2.2 i h1)
  · exact h1
  · exact absurd (h'.2.1.trans h.2.1.symm) (h.2.2 j h1)

theorem pl_start (f : Nat → Int) : PlIs (.map []) (Plk f 0) :=
  ⟨fun x => ⟨fun h => by simp [Maps.has] at h, fun ⟨i, hi, _⟩ => absurd hi (Nat.not_lt_zero _)⟩, fun x i h => absurd h.1 (Nat.not_lt_zero _)⟩

theorem pl_have {f : Nat → Int} {k : Nat} {D : DataW Unit} (h : PlIs D (Plk f k)) (hh : Maps.has D (.int .i64 (f k)) = true) : PlIs D (Plk f (k + 1)) := by
  obtain ⟨i0, h0, e0, _⟩ := (h.1 (f k)).1 hh
  refine h.congr fun x i => ⟨fun ⟨a, b, c⟩ => ⟨by omega, b, c⟩, fun ⟨a, b, c⟩ => ⟨?_, b, c⟩⟩
  by_cases e : i = k
  · subst e; exact absurd e0 (c i0 h0)
  · omega

theorem int_ne {x y : Int} (h : x ≠ y) : (Lit.int .i64 x) ≠ .int .i64 y := fun e => h (by cases e; rfl)

theorem pl_put {f : Nat → Int} {k : Nat} {D : DataW Unit} (h : PlIs D (Plk f k)) (hm : Maps.IsMap D) (hh : Maps.has D (.int .i64 (f k)) = false) : PlIs (D.put (.int .i64 (f k)) (.lit (.int .i64 (k : Int)))) (Plk f (k + 1)) := by
  have hfst : Fst f k := fun j hj e => by
    have : ∃ i, i ≤ j ∧ f i = f k ∧ Fst f i := by
      induction j using Nat.strongRecOn with
      | ind j ih =>
        by_cases hF : Fst f j
        · exact ⟨j, Nat.le_refl _, e, hF⟩
        · have : ∃ i, i < j ∧ f i = f j := Classical.byContradiction fun hc => hF fun i hi e => hc ⟨i, hi, e⟩
          obtain ⟨i, hi, ei⟩ := this
          obtain ⟨i', h1, h2, h3⟩ := ih i hi (by omega) (ei.trans e)
          exact ⟨i', by omega, h2, h3⟩
    obtain ⟨i, h1, h2, h3⟩ := this
    have := (h.1 (f k)).2 ⟨i, by omega, h2, h3⟩
    rw [hh] at this; cases this
  constructor
  · intro x
    by_cases e : x = f k
    · subst e
      exact ⟨fun _ => ⟨k, by omega, rfl, hfst⟩, fun _ => Maps.has_put_same (k := .int .i64 (f k)) hm trivial _⟩
    · rw [Maps.has_put_other (int_ne e), h.1 x]
      refine ⟨fun ⟨i, a, b, c⟩ => ⟨i, by omega, b, c⟩, fun ⟨i, a, b, c⟩ => ⟨i, ?_, b, c⟩⟩
      by_cases e' : i = k
      · subst e'; exact absurd b.symm e
      · omega
  · rintro x i ⟨a, b, c⟩ z
    by_cases e : x = f k
    · subst e
      have : i = k := Plk.uniq (f := f) (k := k + 1) (x := f k) ⟨a, b, c⟩ ⟨by omega, rfl, hfst⟩
      subst this
      exact Maps.atKey_put_same (k := .int .i64 (f i)) hm trivial _ _
    · rw [Maps.atKey_put_other (int_ne e)]
      refine h.2 x i ⟨?_, b, c⟩ z
      by_cases e' : i = k
      · subst e'; exact absurd b.symm e
      · omega

/-- What is left of them while those from m on are struck. -/
def Plm (f : Nat → Int) (n m : Nat) (left : Lit → Bool) (x : Int) (i : Nat) : Prop := Plk f n x i ∧ (i < m ∨ left (.int .i64 x) = true)

theorem same_int (x y : Int) : (Lit.int .i64 x).sameKey (.int .i64 y) = decide (x = y) := by
  by_cases e : x = y
  · subst e; simp [Lit.sameKey]
  · rw [Maps.sameKey_ne (int_ne e)]; simp [e]

theorem pl_at {f : Nat → Int} {n m : Nat} {left : Lit → Bool} {D : DataW Unit} {x c : Int} (h : PlIs D (Plm f n m left)) (hat : ∀ zd, D.atKey (.int .i64 x) zd = .lit (.int .i64 c)) : ∃ i : Nat, c = i ∧ Plk f n x i := by
  obtain ⟨i, hi⟩ := (h.1 x).1 (Maps.has_true_of_atKey hat)
  have := (hat (.map [])).symm.trans (h.2 x i hi (.map []))
  cases this
  exact ⟨i, rfl, hi.1⟩

theorem pl_del {f : Nat → Int} {n m : Nat} {left : Lit → Bool} {D : DataW Unit} {x : Int} {i : Nat} (h : PlIs D (Plm f n m left)) (hi : Plk f n x i) (hm : m ≤ i) : PlIs (D.del (.int .i64 x)) (Plm f n m fun z => left z && !z.sameKey (.int .i64 x)) := by
  constructor
  · intro y
    by_cases e : y = x
    · subst e
      rw [Maps.has_del_same]
      refine ⟨fun h => (by cases h), fun ⟨j, a, b⟩ => ?_⟩
      have := a.uniq hi
      subst this
      rcases b with b | b
      · omega
      · simp [same_int] at b
    · rw [Maps.has_del_other (int_ne e), h.1 y]
      refine ⟨fun ⟨j, a, b⟩ => ⟨j, a, ?_⟩, fun ⟨j, a, b⟩ => ⟨j, a, ?_⟩⟩
      · simpa [same_int, e] using b
      · simpa [same_int, e] using b
  · rintro y j ⟨a, b⟩ z
    by_cases e : y = x
    · subst e
      have := a.uniq hi
      subst this
      rcases b with b | b
      · omega
      · simp [same_int] at b
    · rw [Maps.atKey_del_other (int_ne e)]
      exact h.2 y j ⟨a, by simpa [same_int, e] using b⟩ z

theorem pl_stay {f : Nat → Int} {n m : Nat} {left : Lit → Bool} {D : DataW Unit} {x : Int} {i : Nat} (h : PlIs D (Plm f n m left)) (hi : Plk f n x i) (hm : i < m) : PlIs D (Plm f n m fun z => left z && !z.sameKey (.int .i64 x)) := by
  refine h.congr fun y j => ⟨fun ⟨a, b⟩ => ⟨a, ?_⟩, fun ⟨a, b⟩ => ⟨a, ?_⟩⟩
  · by_cases e : y = x
    · subst e
      have := a.uniq hi
      subst this
      exact .inl hm
    · simpa [same_int, e] using b
  · rcases b with b | b
    · exact .inl b
    · simp at b; exact .inr b.1

theorem pl_all {f : Nat → Int} {n m : Nat} {D : DataW Unit} (h : PlIs D (Plk f n)) : PlIs D (Plm f n m (Maps.has D)) :=
  h.congr fun x i => ⟨fun a => ⟨a, .inr ((h.1 x).2 ⟨i, a⟩)⟩, fun a => a.1⟩
theorem pl_end {f : Nat → Int} {n m : Nat} {left : Lit → Bool} {D : DataW Unit} (h : PlIs D (Plm f n m left)) (hl : ∀ k, left k = false) : PlIs D (Plk f (min n m)) := by
  refine h.congr fun x i => ⟨fun ⟨a, b⟩ => ⟨?_, a.2⟩, fun a => ⟨⟨by have := a.1; omega, a.2⟩, .inl (by have := a.1; omega)⟩⟩
  rcases b with b | b
  · have := a.1; omega
  · rw [hl] at b; cases b

/-- What has been laid into the row while it is told in order. -/
def Laid (f F : Nat → Int) (m : Nat) (left : Lit → Bool) : Prop := ∀ i, i < m → ((Fst f i ∧ left (.int .i64 (f i)) = false → F i = f i) ∧ (¬ (Fst f i ∧ left (.int .i64 (f i)) = false) → F i = 0))
theorem laid_start {f : Nat → Int} {m : Nat} {D : DataW Unit} (h : PlIs D (Plk f m)) : Laid f (fun _ => 0) m (Maps.has D) := fun i hi =>
  ⟨fun ab => by have b := ab.2; rw [(h.1 (f i)).2 ⟨i, hi, rfl, ab.1⟩] at b; exact absurd b (by simp), fun _ => rfl⟩
theorem laid_step {f F : Nat → Int} {m : Nat} {left : Lit → Bool} {x : Int} {i : Nat} (h : Laid f F m left) (hi : Plk f m x i) :
    Laid f (fun j => if j = i then x else F j) m (fun z => left z && !z.sameKey (.int .i64 x)) := by
  intro j hj
  obtain ⟨a, b, c⟩ := hi
  subst b
  by_cases e : j = i
  · subst e
    refine ⟨fun _ => by simp, fun hn => absurd ⟨c, ?_⟩ hn⟩
    simp [same_int]
  · obtain ⟨h1, h2⟩ := h j hj
    by_cases hF : Fst f j
    · have hne : f j ≠ f i := fun e' => e (Plk.uniq (f := f) (k := m) (x := f j) ⟨hj, rfl, hF⟩ ⟨a, e'.symm, c⟩)
      simp only [e, if_false, same_int, hne, decide_false, Bool.not_false, Bool.and_true]
      exact ⟨h1, h2⟩
    · simp only [e, if_false]
      exact ⟨fun h => absurd h.1 hF, fun _ => h2 fun h => hF h.1⟩
theorem laid_end {f F : Nat → Int} {m : Nat} {left : Lit → Bool} (h : Laid f F m left) (hl : ∀ k, left k = false) : ∀ i, i < m → ((Fst f i → F i = f i) ∧ (¬ Fst f i → F i = 0)) := fun i hi =>
  ⟨fun a => (h i hi).1 ⟨a, hl _⟩, fun a => (h i hi).2 fun b => a b.1⟩
end Go.Proofs.Ytjbhgedbkajmdaa

/- Rows of numbers, each in memory of its own between two marks of the heap. -/
import Derived.Test.YtkeojhnifnkpiabMtV
namespace Go.Proofs.Ytkeojhnifnkpiab
open Go.ChangeShapes Go.WideShapes Go.ChangeAt Go.RowKit
set_option linter.unusedVariables false
set_option linter.unusedSimpArgs false

def Rt (w : World) (B T : Nat) (ao : Option Addr) (n : Nat) (F : Nat → Value) : Prop :=
  n = 0 ∨ ∃ g, ao = some ⟨g, 0, none⟩ ∧ (B ≤ g ∧ g < T) ∧ ∃ c : Array Value, w.heap[g]? = some (.cells c 3 (0, 0)) ∧ n ≤ c.size ∧ ∀ i, i < n → c[i]? = some (F i)
theorem Rt.own {w : World} {B T : Nat} {ao : Option Addr} {n : Nat} {F : Nat → Value} (h : Rt w B T ao n F) : Own w B 3 ao n F := by
  rcases h with h | ⟨g, e, hB, c, r⟩
  · exact .inl h
  · exact .inr ⟨g, e, hB.1, c, r⟩
theorem Rt.of {w : World} {B : Nat} {ao : Option Addr} {n : Nat} {F : Nat → Value} (h : Own w B 3 ao n F) : Rt w B w.heap.size ao n F := by
  rcases h with h | ⟨g, e, hB, c, hc, r⟩
  · exact .inl h
  · exact .inr ⟨g, e, ⟨hB, (Array.getElem?_eq_some_iff.1 hc).1⟩, c, hc, r⟩
theorem Rt.kept {w w' : World} {B T : Nat} {ao : Option Addr} {n : Nat} {F : Nat → Value} (h : Rt w B T ao n F) (hk : ∀ j, B ≤ j → j < T → w'.heap[j]? = w.heap[j]?) : Rt w' B T ao n F := by
  rcases h with h | ⟨g, e, hB, c, hc, r⟩
  · exact .inl h
  · exact .inr ⟨g, e, hB, c, (hk g hB.1 hB.2).trans hc, r⟩
theorem Rt.wide {w : World} {B T B' T' : Nat} {ao : Option Addr} {n : Nat} {F : Nat → Value} (h : Rt w B T ao n F) (hB : B' ≤ B) (hT : T ≤ T') : Rt w B' T' ao n F := by
  rcases h with h | ⟨g, e, hg, r⟩
  · exact .inl h
  · exact .inr ⟨g, e, by omega, r⟩
theorem Rt.congr {w : World} {B T : Nat} {ao : Option Addr} {n : Nat} {F G : Nat → Value} (h : Rt w B T ao n F) (e : ∀ i, i < n → F i = G i) : Rt w B T ao n G := by
  rcases h with h | ⟨g, ea, hB, c, hc, hs, hF⟩
  · exact .inl h
  · exact .inr ⟨g, ea, hB, c, hc, hs, fun i hi => by rw [hF i hi, e i hi]⟩
theorem Rt.at {w : World} {B T : Nat} {ao : Option Addr} {n : Nat} {F : Nat → Value} (h : Rt w B T ao n F) (hn : 0 < n) : ∃ g, ao = some ⟨g, 0, none⟩ ∧ B ≤ g ∧ g < T := by
  rcases h with h | ⟨g, e, hg, _⟩
  · omega
  · exact ⟨g, e, hg.1, hg.2⟩

/-- The numbers of a row. -/
def lv (l : List Int) (j : Nat) : Value := .int .i64 (l.getD j 0)
def OR (w : World) (B T n : Nat) (L : Nat → List Int) (R : Nat → Option Addr × Nat) : Prop :=
  ∀ i, i < n → (L i).length ≤ (R i).2 ∧ Rt w B T (R i).1 (L i).length (lv (L i)) ∧
    ∀ γ, (R i).1 = some ⟨γ, 0, none⟩ → 0 < (L i).length → ∀ j, j < n → j ≠ i → 0 < (L j).length → (R j).1 ≠ some ⟨γ, 0, none⟩
theorem OR.kept {w w' : World} {B T n : Nat} {L : Nat → List Int} {R : Nat → Option Addr × Nat} (h : OR w B T n L R) (hk : ∀ j, B ≤ j → j < T → w'.heap[j]? = w.heap[j]?) : OR w' B T n L R := fun i hi =>
  ⟨(h i hi).1, (h i hi).2.1.kept hk, (h i hi).2.2⟩
theorem OR.wide {w : World} {B T B' T' n : Nat} {L : Nat → List Int} {R : Nat → Option Addr × Nat} (h : OR w B T n L R) (hB : B' ≤ B) (hT : T ≤ T') : OR w B' T' n L R := fun i hi =>
  ⟨(h i hi).1, (h i hi).2.1.wide hB hT, (h i hi).2.2⟩
theorem OR.nil {w : World} {B T : Nat} {L : Nat → List Int} {R : Nat → Option Addr × Nat} : OR w B T 0 L R := fun i hi => absurd hi (Nat.not_lt_zero _)
theorem OR.sl {w : World} {B T n : Nat} {L : Nat → List Int} {R : Nat → Option Addr × Nat} (h : OR w B T n L R) {i : Nat} (hi : i < n) : SL .i64 w (R i).1 (L i).length (fun j => (L i).getD j 0) :=
  (h i hi).2.1.own.sl
def setr (R : Nat → Option Addr × Nat) (j : Nat) (r : Option Addr × Nat) (i : Nat) : Option Addr × Nat := if i = j then r else R i
theorem setr_at (R : Nat → Option Addr × Nat) (j : Nat) (r : Option Addr × Nat) : setr R j r j = r := if_pos rfl
theorem setr_ne (R : Nat → Option Addr × Nat) (j : Nat) (r : Option Addr × Nat) {i : Nat} (h : i ≠ j) : setr R j r i = R i := if_neg h
/-- One more row, behind T. -/
theorem OR.push {w : World} {B T T' n : Nat} {L : Nat → List Int} {R : Nat → Option Addr × Nat} {r : Option Addr × Nat} (h : OR w B T n L R) (hB : B ≤ T) (hT : T ≤ T') (hr : (L n).length ≤ r.2) (hR : Rt w T T' r.1 (L n).length (lv (L n))) : OR w B T' (n + 1) L (setr R n r) := by
  intro i hi
  by_cases e : i = n
  · subst e
    rw [setr_at]
    refine ⟨hr, hR.wide hB (Nat.le_refl _), fun γ eγ hp j hj hne hpj => ?_⟩
    rw [setr_ne _ _ _ hne]
    intro e2
    obtain ⟨g, e3, h3, h4⟩ := hR.at hp
    obtain ⟨g', e5, h5, h6⟩ := (h j (by omega)).2.1.at hpj
    rw [eγ] at e3
    rw [e2] at e5
    cases e3; cases e5
    omega
  · rw [setr_ne _ _ _ e]
    obtain ⟨h1, h2, h3⟩ := h i (by omega)
    refine ⟨h1, h2.wide (Nat.le_refl _) hT, fun γ eγ hp j hj hne hpj => ?_⟩
    by_cases ej : j = n
    · subst ej
      rw [setr_at]
      intro e2
      obtain ⟨g, e3, h3, h4⟩ := hR.at hpj
      obtain ⟨g', e5, h5, h6⟩ := h2.at hp
      rw [e2] at e3
      rw [eγ] at e5
      cases e3; cases e5
      omega
    · rw [setr_ne _ _ _ ej]
      exact h3 γ eγ hp j (by omega) hne hpj
/-- A row ahead of all. -/
def rows (g : List Int) (L : Nat → List Int) : Nat → List Int
  | 0 => g
  | i + 1 => L i
def rws (r : Option Addr × Nat) (R : Nat → Option Addr × Nat) : Nat → Option Addr × Nat
  | 0 => r
  | i + 1 => R i
theorem OR.cons {w : World} {B T T' n : Nat} {g : List Int} {L : Nat → List Int} {R : Nat → Option Addr × Nat} {r : Option Addr × Nat} (h : OR w T T' n L R) (hB : B ≤ T) (hT : T ≤ T') (hr : g.length ≤ r.2) (hR : Rt w B T r.1 g.length (lv g)) : OR w B T' (n + 1) (rows g L) (rws r R) := by
  intro i hi
  match i, hi with
  | 0, _ =>
    refine ⟨hr, hR.wide (Nat.le_refl _) hT, fun γ eγ hp j hj hne hpj => ?_⟩
    match j, hj, hne, hpj with
    | j + 1, hj, _, hpj =>
      intro e2
      obtain ⟨a, e3, h3, h4⟩ := hR.at hp
      obtain ⟨a', e5, h5, h6⟩ := (h j (by omega)).2.1.at hpj
      have e2' : (R j).1 = some ⟨γ, 0, none⟩ := e2
      have eγ' : r.1 = some ⟨γ, 0, none⟩ := eγ
      rw [eγ'] at e3
      rw [e2'] at e5
      cases e3; cases e5
      omega
  | i + 1, hi =>
    obtain ⟨h1, h2, h3⟩ := h i (by omega)
    refine ⟨h1, h2.wide hB (Nat.le_refl _), fun γ eγ hp j hj hne hpj => ?_⟩
    match j, hj, hne, hpj with
    | 0, _, _, hpj =>
      intro e2
      obtain ⟨a, e3, h3, h4⟩ := hR.at hpj
      obtain ⟨a', e5, h5, h6⟩ := h2.at hp
      have e2' : r.1 = some ⟨γ, 0, none⟩ := e2
      have eγ' : (R i).1 = some ⟨γ, 0, none⟩ := eγ
      rw [e2'] at e3
      rw [eγ'] at e5
      cases e3; cases e5
      omega
    | j + 1, hj, hne, hpj => exact h3 γ eγ hp j (by omega) (by omega) hpj
theorem OR.congr {w : World} {B T n : Nat} {L L' : Nat → List Int} {R : Nat → Option Addr × Nat} (h : OR w B T n L R) (e : ∀ i, i < n → L i = L' i) : OR w B T n L' R := by
  intro i hi
  obtain ⟨h1, h2, h3⟩ := h i hi
  rw [← e i hi]
  exact ⟨h1, h2, fun γ eγ hp j hj hne hpj => h3 γ eγ hp j hj hne (by rw [e j hj]; exact hpj)⟩

/-- Running numbers. -/
def mkl (k : Int) (n : Nat) : List Int := (List.range n).map (fun t : Nat => k + (t : Int))
theorem mkl_len (k : Int) (n : Nat) : (mkl k n).length = n := by simp [mkl]
theorem mkl_get (k : Int) (n t : Nat) (h : t < n) : (mkl k n).getD t 0 = k + t := by simp [mkl, List.getD, h]
/-- A row written anew. -/
theorem OR.mark {w w' : World} {B T n j : Nat} {k : Int} {L : Nat → List Int} {R : Nat → Option Addr × Nat} (h : OR w B T n L R) (hj : j < n)
    (hw : ((L j).length = 0 ∧ w' = w) ∨ ∃ γ, (R j).1 = some ⟨γ, 0, none⟩ ∧ 0 < (L j).length ∧ Only γ w w' ∧ Rt w' B T (R j).1 (L j).length (fun t => .int .i64 (k + t))) :
    OR w' B T n (fun i => if i = j then mkl k (L j).length else L i) R := by
  have hlen : ∀ i, (if i = j then mkl k (L j).length else L i).length = (L i).length := fun i => by
    by_cases e : i = j
    · subst e; rw [if_pos rfl, mkl_len]
    · rw [if_neg e]
  intro i hi
  obtain ⟨h1, h2, h3⟩ := h i hi
  refine ⟨by rw [hlen]; exact h1, ?_, fun γ eγ hp t ht hne hpt => h3 γ eγ (by rw [hlen] at hp; exact hp) t ht hne (by rw [hlen] at hpt; exact hpt)⟩
  show Rt w' B T (R i).1 (if i = j then mkl k (L j).length else L i).length (lv (if i = j then mkl k (L j).length else L i))
  rw [hlen]
  rcases hw with ⟨h0, rfl⟩ | ⟨γ, eγ, hp, ho, hr⟩
  · by_cases e : i = j
    · subst e; exact .inl h0
    · rw [if_neg e]; exact h2
  · by_cases e : i = j
    · subst e
      rw [if_pos rfl]
      exact hr.congr fun t ht => by show _ = Value.int .i64 _; rw [mkl_get _ _ _ ht]
    · rw [if_neg e]
      rcases h2 with h2 | ⟨γ', e', hg', c, hc, hs, hF⟩
      · exact .inl h2
      · by_cases h0 : (L i).length = 0
        · exact .inl h0
        · exact .inr ⟨γ', e', hg', c, (ho.2.2 γ' (fun e2 => (h j hj).2.2 γ eγ hp i hi e (by omega) (by rw [e', e2]))).trans hc, hs, hF⟩

/-- How many numbers stand ahead of row i. -/
def psum (L : Nat → List Int) : Nat → Nat
  | 0 => 0
  | i + 1 => psum L i + (L i).length
theorem psum_le (L : Nat → List Int) (i n : Nat) (h : i ≤ n) : psum L i ≤ psum L n := by
  induction n with
  | zero => obtain rfl : i = 0 := by omega
            exact Nat.le_refl _
  | succ n ih =>
    by_cases e : i = n + 1
    · subst e; exact Nat.le_refl _
    · have := ih (by omega); simp only [psum]; omega
theorem psum_one (L : Nat → List Int) (i n : Nat) (h : i < n) : psum L i + (L i).length ≤ psum L n := psum_le L (i + 1) n h
theorem psum_rows (g : List Int) (L : Nat → List Int) (n : Nat) : psum (rows g L) (n + 1) = g.length + psum L n := by
  induction n with
  | zero => simp [psum, rows]
  | succ n ih => rw [psum, ih]; simp only [psum, rows]; omega
/-- The first j rows marked from k on. -/
def mrk (L : Nat → List Int) (k : Int) (j i : Nat) : List Int := if i < j then mkl (k + psum L i) (L i).length else L i
theorem mrk_len (L : Nat → List Int) (k : Int) (j i : Nat) : (mrk L k j i).length = (L i).length := by
  unfold mrk; split
  · rw [mkl_len]
  · rfl
theorem mrk_zero (L : Nat → List Int) (k : Int) : mrk L k 0 = L := by funext i; simp [mrk]
theorem mrk_step (L : Nat → List Int) (k : Int) (j : Nat) : (fun i => if i = j then mkl (k + psum L j) (mrk L k j j).length else mrk L k j i) = mrk L k (j + 1) := by
  funext i
  by_cases e : i = j
  · subst e; rw [if_pos rfl, mrk_len]; unfold mrk; rw [if_pos (by omega)]
  · rw [if_neg e]; unfold mrk
    by_cases e2 : i < j
    · rw [if_pos e2, if_pos (by omega)]
    · rw [if_neg e2, if_neg (by omega)]

/-- Slices of numbers in a row of slices. -/
def SR (w : World) (B T : Nat) (bo : Option Addr) (n : Nat) (L : Nat → List Int) (R : Nat → Option Addr × Nat) : Prop :=
  n = 0 ∨ ∃ h c, bo = some ⟨h, 0, none⟩ ∧ (B ≤ h ∧ h < T) ∧ w.heap[h]? = some (.cells c 22 (0, 0)) ∧ n ≤ c.size ∧ ∀ i, i < n → c[i]? = some (.slice (R i).1 (L i).length (R i).2)
theorem SR.kept {w w' : World} {B T n : Nat} {bo : Option Addr} {L : Nat → List Int} {R : Nat → Option Addr × Nat} (h : SR w B T bo n L R) (hk : ∀ j, B ≤ j → j < T → w'.heap[j]? = w.heap[j]?) : SR w' B T bo n L R := by
  rcases h with h | ⟨b, c, e, hb, hc, r⟩
  · exact .inl h
  · exact .inr ⟨b, c, e, hb, (hk b hb.1 hb.2).trans hc, r⟩
theorem SR.wide {w : World} {B T B' T' n : Nat} {bo : Option Addr} {L : Nat → List Int} {R : Nat → Option Addr × Nat} (h : SR w B T bo n L R) (hB : B' ≤ B) (hT : T ≤ T') : SR w B' T' bo n L R := by
  rcases h with h | ⟨b, c, e, hb, r⟩
  · exact .inl h
  · exact .inr ⟨b, c, e, by omega, r⟩
theorem SR.lens {w : World} {B T n : Nat} {bo : Option Addr} {L L' : Nat → List Int} {R : Nat → Option Addr × Nat} (h : SR w B T bo n L R) (e : ∀ i, i < n → (L i).length = (L' i).length) : SR w B T bo n L' R := by
  rcases h with h | ⟨b, c, e', hb, hc, hs, hF⟩
  · exact .inl h
  · exact .inr ⟨b, c, e', hb, hc, hs, fun i hi => by rw [hF i hi, e i hi]⟩
/-- A row of numbers is no row of slices: what writes one alone leaves the other. -/
theorem SR.only {w w' : World} {B T n γ : Nat} {bo : Option Addr} {L : Nat → List Int} {R : Nat → Option Addr × Nat} {c3 : Array Value} (h : SR w B T bo n L R) (hγ : w.heap[γ]? = some (.cells c3 3 (0, 0))) (ho : Only γ w w') : SR w' B T bo n L R := by
  rcases h with h | ⟨b, c, e, hb, hc, r⟩
  · exact .inl h
  · refine .inr ⟨b, c, e, hb, (ho.2.2 b (fun e2 => ?_)).trans hc, r⟩
    subst e2
    rw [hγ] at hc
    simp at hc
theorem bv_of {w : World} {B T B' T' n : Nat} {bo : Option Addr} {L : Nat → List Int} {R : Nat → Option Addr × Nat} (h : SR w B T bo n L R) (ho : OR w B' T' n L R) : BV w bo n L := by
  intro i hi
  rcases h with h | ⟨b, c, e, hb, hc, hs, hF⟩
  · omega
  · exact ⟨b, 0, (R i).1, (R i).2, e, by simp only [World.cell?, hc, Nat.zero_add]; exact hF i hi, (ho i hi).1, ho.sl hi⟩

/-- What is known, in memory of its own. -/
def OKm (w : World) (B T : Nat) (go : Option Addr) (gc : Nat) (bo : Option Addr) (bc : Nat) (g : List Int) (n : Nat) (L : Nat → List Int) : Prop :=
  (B ≤ T ∧ T ≤ w.heap.size) ∧ n ≤ bc ∧ ∃ R, OR w B T (n + 1) (rows g L) (rws (go, gc) R) ∧ SR w B T bo n L R
theorem OR.tail {w : World} {B T n : Nat} {g : List Int} {L : Nat → List Int} {r : Option Addr × Nat} {R : Nat → Option Addr × Nat} (h : OR w B T (n + 1) (rows g L) (rws r R)) : OR w B T n L R := fun i hi => by
  obtain ⟨h1, h2, h3⟩ := h (i + 1) (by omega)
  exact ⟨h1, h2, fun γ e hp j hj hne hpj => h3 γ e hp (j + 1) (by omega) (by omega) hpj⟩
theorem OKm.mv {w : World} {B T : Nat} {go : Option Addr} {gc : Nat} {bo : Option Addr} {bc : Nat} {g : List Int} {n : Nat} {L : Nat → List Int} (h : OKm w B T go gc bo bc g n L) : MV w go gc bo bc g n L := by
  obtain ⟨_, hb, R, ho, hs⟩ := h
  exact ⟨⟨(ho 0 (by omega)).1, hb⟩, ho.sl (i := 0) (by omega), bv_of hs ho.tail⟩
theorem OKm.kept {w w' : World} {B T : Nat} {go : Option Addr} {gc : Nat} {bo : Option Addr} {bc : Nat} {g : List Int} {n : Nat} {L : Nat → List Int} (h : OKm w B T go gc bo bc g n L) (hk : ∀ j, B ≤ j → j < T → w'.heap[j]? = w.heap[j]?) (hs : w.heap.size ≤ w'.heap.size) : OKm w' B T go gc bo bc g n L := by
  obtain ⟨⟨hB, hT⟩, hb, R, ho, hs'⟩ := h
  exact ⟨⟨hB, by omega⟩, hb, R, ho.kept hk, hs'.kept hk⟩
theorem OKm.below {w w' : World} {B T X : Nat} {go : Option Addr} {gc : Nat} {bo : Option Addr} {bc : Nat} {g : List Int} {n : Nat} {L : Nat → List Int} (h : OKm w B T go gc bo bc g n L) (hb : Below X w w') (hX : T ≤ X) : OKm w' B T go gc bo bc g n L :=
  h.kept (fun j _ hj => hb.block j (by omega)) hb.size
theorem OKm.wide {w : World} {B T B' : Nat} {go : Option Addr} {gc : Nat} {bo : Option Addr} {bc : Nat} {g : List Int} {n : Nat} {L : Nat → List Int} (h : OKm w B T go gc bo bc g n L) (hB : B' ≤ B) : OKm w B' T go gc bo bc g n L := by
  obtain ⟨⟨h1, hT⟩, hb, R, ho, hs'⟩ := h
  exact ⟨⟨by omega, hT⟩, hb, R, ho.wide hB (Nat.le_refl _), hs'.wide hB (Nat.le_refl _)⟩
end Go.Proofs.Ytkeojhnifnkpiab

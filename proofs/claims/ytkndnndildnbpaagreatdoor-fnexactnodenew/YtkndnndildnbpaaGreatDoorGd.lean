/- Rows of numbers, each in memory of its own between two marks of the heap. -/
import Derived.Test.YtkndnndildnbpaaGreatDoorGb

namespace Go.Proofs.YtkndnndildnbpaaGreatDoor
open Go.ChangeShapes Go.WideShapes Go.ChangeAt Go.RowKit
set_option linter.unusedVariables false
set_option linter.unusedSimpArgs false

def Rt (w : World) (B T : Nat) (ao : Option Addr) (n : Nat) (F : Nat → Value) : Prop :=
  n = 0 ∨ ∃ g, ao = some ⟨g, 0, none⟩ ∧ (B ≤ g ∧ g < T) ∧ ∃ c : Array Value, w.heap[g]? = some (.cells c 3 (0, 0)) ∧ n ≤ c.size ∧ ∀ i, i < n → c[i]? = some (F i)
theorem Rt.own {w : World} {B T : Nat} {ao : Option Addr} {n : Nat} {F : Nat → Value} (h : Rt w B T ao n F) : Own w B 3 ao n F := by
  rcases h with h | ⟨g, e, hB, c, r⟩
  · exact .inl h
  · exact .inr ⟨g, e, hB.1, c, r⟩
theorem Rt.of {w : World} {B : Nat} {ao : Option Addr} {n : Nat} {F : Nat → Value} (h : Own w B 3 ao n F) : Rt w B w.heap.size ao n F := by
  rcases h with h | ⟨g, e, hB, c, hc, r⟩
  · exact .inl h
  · exact .inr ⟨g, e, ⟨hB, (Array.getElem?_eq_some_iff.1 hc).1⟩, c, hc, r⟩
theorem Rt.kept {w w' : World} {B T : Nat} {ao : Option Addr} {n : Nat} {F : Nat → Value} (h : Rt w B T ao n F) (hk : ∀ j, B ≤ j → j < T → w'.heap[j]? = w.heap[j]?) : Rt w' B T ao n F := by
  rcases h with h | ⟨g, e, hB, c, hc, r⟩
  · exact .inl h
  · exact .inr ⟨g, e, hB, c, (hk g hB.1 hB.2).trans hc, r⟩
theorem Rt.wide {w : World} {B T B' T' : Nat} {ao : Option Addr} {n : Nat} {F : Nat → Value} (h : Rt w B T ao n F) (hB : B' ≤ B) (hT : T ≤ T') : Rt w B' T' ao n F := by
  rcases h with h | ⟨g, e, hg, r⟩
  · exact .inl h
  · exact .inr ⟨g, e, by omega, r⟩
theorem Rt.congr {w : World} {B T : Nat} {ao : Option Addr} {n : Nat} {F G : Nat → Value} (h : Rt w B T ao n F) (e : ∀ i, i < n → F i = G i) : Rt w B T ao n G := by
  rcases h with h | ⟨g, ea, hB, c, hc, hs, hF⟩
  · exact .inl h
  · exact .inr ⟨g, ea, hB, c, hc, hs, fun i hi => by rw [hF i hi, e i hi]⟩
theorem Rt.at {w : World} {B T : Nat} {ao : Option Addr} {n : Nat} {F : Nat → Value} (h : Rt w B T ao n F) (hn : 0 < n) : ∃ g, ao = some ⟨g, 0, none⟩ ∧ B ≤ g ∧ g < T := by
  rcases h with h | ⟨g, e, hg, _⟩
  · omega
  · exact ⟨g, e, hg.1, hg.2⟩

/-- The numbers of a row. -/
def lv (l : List Int) (j : Nat) : Value := .int .i64 (l.getD j 0)
def OR (w : World) (B T n : Nat) (L : Nat → List Int) (R : Nat → Option Addr × Nat) : Prop :=
  ∀ i, i < n → (L i).length ≤ (R i).2 ∧ Rt w B T (R i).1 (L i).length (lv (L i)) ∧
    ∀ γ, (R i).1 = some ⟨γ, 0, none⟩ → 0 < (L i).length → ∀ j, j < n → j ≠ i → 0 < (L j).length → (R j).1 ≠ some ⟨γ, 0, none⟩
theorem OR.kept {w w' : World} {B T n : Nat} {L : Nat → List Int} {R : Nat → Option Addr × Nat} (h : OR w B T n L R) (hk : ∀ j, B ≤ j → j < T → w'.heap[j]? = w.heap[j]?) : OR w' B T n L R := fun i hi =>
  ⟨(h i hi).1, (h i hi).2.1.kept hk, (h i hi).2.2⟩
theorem OR.wide {w : World} {B T B' T' n : Nat} {L : Nat → List Int} {R : Nat → Option Addr × Nat} (h : OR w B T n L R) (hB : B' ≤ B) (hT : T ≤ T') : OR w B' T' n L R := fun i hi =>
  ⟨(h i hi).1, (h i hi).2.1.wide hB hT, (h i hi).2.2⟩
theorem OR.nil {w : World} {B T : Nat} {L : Nat → List Int} {R : Nat → Option Addr × Nat} : OR w B T 0 L R := fun i hi => absurd hi (Nat.not_lt_zero _)
theorem OR.sl {w : World} {B T n : Nat} {L : Nat → List Int} {R : Nat → Option Addr × Nat} (h : OR w B T n L R) {i : Nat} (hi : i < n) : SL .i64 w (R i).1 (L i).length (fun j => (L i).getD j 0) :=
  (h i hi).2.1.own.sl
def setr (R : Nat → Option Addr × Nat) (j : Nat) (r : Option Addr × Nat) (i : Nat) : Option Addr × Nat := if i = j then r else R i
theorem setr_at (R : Nat → Option Addr × Nat) (j : Nat) (r : Option Addr × Nat) : setr R j r j = r := if_pos rfl
theorem setr_ne (R : Nat → Option Addr × Nat) (j : Nat) (r : Option Addr × Nat) {i : Nat} (h : i ≠ j) : setr R j r i = R i := if_neg h
/-- One more row, behind T. -/
theorem OR.push {w : World} {B T T' n : Nat} {L : Nat → List Int} {R : Nat → Option Addr × Nat} {r : Option Addr × Nat} (h : OR w B T n L R) (hB : B ≤ T) (hT : T ≤ T') (hr : (L n).length ≤ r.2) (hR : Rt w T T' r.1 (L n).length (lv (L n))) : OR w B T' (n + 1) L (setr R n r) := by
  intro i hi
  by_cases e : i = n
  · subst e
    rw [setr_at]
    refine ⟨hr, hR.wide hB (Nat.le_refl _), fun γ eγ hp j hj hne hpj => ?_⟩
    rw [setr_ne _ _ _ hne]
    intro e2
    obtain ⟨g, e3, h3, h4⟩ := hR.at hp
    obtain ⟨g', e5, h5, h6⟩ := (h j (by omega)).2.1.at hpj
    rw [eγ] at e3
    rw [e2] at e5
    cases e3; cases e5
    omega
  · rw [setr_ne _ _ _ e]
    obtain ⟨h1, h2, h3⟩ := h i (by omega)
    refine ⟨h1, h2.wide (Nat.le_refl _) hT, fun γ eγ hp j hj hne hpj => ?_⟩
    by_cases ej : j = n
    · subst ej
      rw [setr_at]
      intro e2
      obtain ⟨g, e3, h3, h4⟩ := hR.at hpj
      obtain ⟨g', e5, h5, h6⟩ := h2.at hp
      rw [e2] at e3
      rw [eγ] at e5
      cases e3; cases e5
      omega
    · rw [setr_ne _ _ _ ej]
      exact h3 γ eγ hp j (by omega) hne hpj
/-- A row ahead of all. -/
def rows (g : List Int) (L : Nat → List Int) : Nat → List Int
  | 0 => g
  | i + 1 => L i
def rws (r : Option Addr × Nat) (R : Nat → Option Addr × Nat) : Nat → Option Addr × Nat
  | 0 => r
  | i + 1 => R i
theorem OR.cons {w : World} {B T T' n : Nat} {g : List Int} {L : Nat → List Int} {R : Nat → Option Addr × Nat} {r : Option Addr × Nat} (h : OR w T T' n L R) (hB : B ≤ T) (hT : T ≤ T') (hr : g.length ≤ r.2) (hR : Rt w B T r.1 g.length (lv g)) : OR w B T' (n + 1) (rows g L) (rws r R) := by
  intro i hi
  match i, hi with
  | 0, _ =>
    refine ⟨hr, hR.wide (Nat.le_refl _) hT, fun γ eγ hp j hj hne hpj => ?_⟩
    match j, hj, hne, hpj with
    | j + 1, hj, _, hpj =>
      intro e2
      obtain ⟨a, e3, h3, h4⟩ := hR.at hp
      obtain ⟨a', e5, h5, h6⟩ := (h j (by omega)).2.1.at hpj
      have e2' : (R j).1 = some ⟨γ, 0, none⟩ := e2
      have eγ' : r.1 = some ⟨γ, 0, none⟩ := eγ
      rw [eγ'] at e3
      rw [e2'] at e5
      cases e3; cases e5
      omega
  | i + 1, hi =>
    obtain ⟨h1, h2, h3⟩ := h i (by omega)
    refine ⟨h1, h2.wide hB (Nat.le_refl _), fun γ eγ hp j hj hne hpj => ?_⟩
    match j, hj, hne, hpj with
    | 0, _, _, hpj =>
      intro e2
      obtain ⟨a, e3, h3, h4⟩ := hR.at hpj
      obtain ⟨a', e5, h5, h6⟩ := h2.at hp
      have e2' : r.1 = some ⟨γ, 0, none⟩ := e2
      have eγ' : (R i).1 = some ⟨γ, 0, none⟩ := eγ
      rw [e2'] at e3
      rw [eγ'] at e5
      cases e3; cases e5
      omega
    | j + 1, hj, hne, hpj => exact h3 γ eγ hp j (by omega) (by omega) hpj
theorem OR.congr {w : World} {B T n : Nat} {L L' : Nat → List Int} {R : Nat → Option Addr × Nat} (h : OR w B T n L R) (e : ∀ i, i < n → L i = L' i) : OR w B T n L' R := by
  intro i hi
  obtain ⟨h1, h2, h3⟩ := h i hi
  rw [← e i hi]
  exact ⟨h1, h2, fun γ eγ hp j hj hne hpj => h3 γ eγ hp j hj hne (by rw [e j hj]; exact hpj)⟩

/-- Running numbers. -/
def mkl (k : Int) (n : Nat) : List Int := (List.range n).map (fun t : Nat => k + (t : Int))
theorem mkl_len (k : Int) (n : Nat) : (mkl k n).length = n := by simp [mkl]
theorem mkl_get (k : Int) (n t : Nat) (h : t < n) : (mkl k n).getD t 0 = k + t := by simp [mkl, List.getD, h]
/-- A row written anew. -/
theorem OR.mark {w w' : World} {B T n j : Nat} {k : Int} {L : Nat → List Int} {R : Nat → Option Addr × Nat} (h : OR w B T n L R) (hj : j < n)
    (hw : ((L j).length = 0 ∧ w' = w) ∨ ∃ γ, (R j).1 = some ⟨γ, 0, none⟩ ∧ 0 < (L j).length ∧ Only γ w w' ∧ Rt w' B T (R j).1 (L j).length (fun t => .int .i64 (k + t))) :
    OR w' B T n (fun i => if i = j then mkl k (L j).length else L i) R := by
  have hlen : ∀ i, (if i = j then mkl k (L j).length else L i).length = (L i).length := fun i => by
    by_cases e : i = j
    · subst e; rw [if_pos rfl, mkl_len]
    · rw [if_neg e]
  intro i hi
  obtain ⟨h1, h2, h3⟩ := h i hi
  refine ⟨by rw [hlen]; exact h1, ?_, fun γ eγ hp t ht hne hpt => h3 γ eγ (by rw [hlen] at hp; exact hp) t ht hne (by rw [hlen] at hpt; exact hpt)⟩
  show Rt w' B T (R i).1 (if i = j then mkl k (L j).length else L i).length (lv (if i = j then mkl k (L j).length else L i))
  rw [hlen]
  rcases hw with ⟨h0, rfl⟩ | ⟨γ, eγ, hp, ho, hr⟩
  · by_cases e : i = j
    · subst e; exact .inl h0
    · rw [if_neg e]; exact h2
  · by_cases e : i = j
    · subst e
      rw [if_pos rfl]
      exact hr.congr fun t ht => by show _ = Value.int .i64 _; rw [mkl_get _ _ _ ht]
    · rw [if_neg e]
      rcases h2 with h2 | ⟨γ', e', hg', c, hc, hs, hF⟩
      · exact .inl h2
      · by_cases h0 : (L i).length = 0
        · exact .inl h0
        · exact .inr ⟨γ', e', hg', c, (ho.2.2 γ' (fun e2 => (h j hj).2.2 γ eγ hp i hi e (by omega) (by rw [e', e2]))).trans hc, hs, hF⟩

/-- How many numbers stand ahead of row i. -/
def psum (L : Nat → List Int) : Nat → Nat
  | 0 => 0
  | i + 1 => psum L i + (L i).length
theorem psum_le (L : Nat → List Int) (i n : Nat) (h : i ≤ n) : psum L i ≤ psum L n := by
  induction n with
  | zero => obtain rfl : i = 0 := by omega
            exact Nat.le_refl _
  | succ n ih =>
    by_cases e : i = n + 1
    · subst e; exact Nat.le_refl _
    · have := ih (by omega); simp only [psum]; omega
theorem psum_one (L : Nat → List Int) (i n : Nat) (h : i < n) : psum L i + (L i).length ≤ psum L n := psum_le L (i + 1) n h
/-- The first j rows marked from k on. -/
def mrk (L : Nat → List Int) (k : Int) (j i : Nat) : List Int := if i < j then mkl (k + psum L i) (L i).length else L i
theorem mrk_len (L : Nat → List Int) (k : Int) (j i : Nat) : (mrk L k j i).length = (L i).length := by
  unfold mrk; split
  · rw [mkl_len]
  · rfl
theorem mrk_zero (L : Nat → List Int) (k : Int) : mrk L k 0 = L := by funext i; simp [mrk]
theorem mrk_step (L : Nat → List Int) (k : Int) (j : Nat) : (fun i => if i = j then mkl (k + psum L j) (mrk L k j j).length else mrk L k j i) = mrk L k (j + 1) := by
  funext i
  by_cases e : i = j
  · subst e; rw [if_pos rfl, mrk_len]; unfold mrk; rw [if_pos (by omega)]
  · rw [if_neg e]; unfold mrk
    by_cases e2 : i < j
    · rw [if_pos e2, if_pos (by omega)]
    · rw [if_neg e2, if_neg (by omega)]

/-- Slices of numbers in a row of slices. -/
def SR (w : World) (B T : Nat) (bo : Option Addr) (n : Nat) (L : Nat → List Int) (R : Nat → Option Addr × Nat) : Prop :=
  n = 0 ∨ ∃ h c, bo = some ⟨h, 0, none⟩ ∧ (B ≤ h ∧ h < T) ∧ w.heap[h]? = some (.cells c 22 (0, 0)) ∧ n ≤ c.size ∧ ∀ i, i < n → c[i]? = some (.slice (R i).1 (L i).length (R i).2)
theorem SR.kept {w w' : World} {B T n : Nat} {bo : Option Addr} {L : Nat → List Int} {R : Nat → Option Addr × Nat} (h : SR w B T bo n L R) (hk : ∀ j, B ≤ j → j < T → w'.heap[j]? = w.heap[j]?) : SR w' B T bo n L R := by
  rcases h with h | ⟨b, c, e, hb, hc, r⟩
  · exact .inl h
  · exact .inr ⟨b, c, e, hb, (hk b hb.1 hb.2).trans hc, r⟩
theorem SR.wide {w : World} {B T B' T' n : Nat} {bo : Option Addr} {L : Nat → List Int} {R : Nat → Option Addr × Nat} (h : SR w B T bo n L R) (hB : B' ≤ B) (hT : T ≤ T') : SR w B' T' bo n L R := by
  rcases h with h | ⟨b, c, e, hb, r⟩
  · exact .inl h
  · exact .inr ⟨b, c, e, by omega, r⟩
theorem SR.lens {w : World} {B T n : Nat} {bo : Option Addr} {L L' : Nat → List Int} {R : Nat → Option Addr × Nat} (h : SR w B T bo n L R) (e : ∀ i, i < n → (L i).length = (L' i).length) : SR w B T bo n L' R := by
  rcases h with h | ⟨b, c, e', hb, hc, hs, hF⟩
  · exact .inl h
  · exact .inr ⟨b, c, e', hb, hc, hs, fun i hi => by rw [hF i hi, e i hi]⟩
/-- A row of numbers is no row of slices: what writes one alone leaves the other. -/
theorem SR.only {w w' : World} {B T n γ : Nat} {bo : Option Addr} {L : Nat → List Int} {R : Nat → Option Addr × Nat} {c3 : Array Value} (h : SR w B T bo n L R) (hγ : w.heap[γ]? = some (.cells c3 3 (0, 0))) (ho : Only γ w w') : SR w' B T bo n L R := by
  rcases h with h | ⟨b, c, e, hb, hc, r⟩
  · exact .inl h
  · refine .inr ⟨b, c, e, hb, (ho.2.2 b (fun e2 => ?_)).trans hc, r⟩
    subst e2
    rw [hγ] at hc
    simp at hc
theorem bv_of {w : World} {B T B' T' n : Nat} {bo : Option Addr} {L : Nat → List Int} {R : Nat → Option Addr × Nat} (h : SR w B T bo n L R) (ho : OR w B' T' n L R) : BV w bo n L := by
  intro i hi
  rcases h with h | ⟨b, c, e, hb, hc, hs, hF⟩
  · omega
  · exact ⟨b, 0, (R i).1, (R i).2, e, by simp only [World.cell?, hc, Nat.zero_add]; exact hF i hi, (ho i hi).1, ho.sl hi⟩

/-- What is known, in memory of its own. -/
def OKm (w : World) (B T : Nat) (go : Option Addr) (gc : Nat) (bo : Option Addr) (bc : Nat) (g : List Int) (n : Nat) (L : Nat → List Int) : Prop :=
  (B ≤ T ∧ T ≤ w.heap.size) ∧ n ≤ bc ∧ ∃ R, OR w B T (n + 1) (rows g L) (rws (go, gc) R) ∧ SR w B T bo n L R
theorem OR.tail {w : World} {B T n : Nat} {g : List Int} {L : Nat → List Int} {r : Option Addr × Nat} {R : Nat → Option Addr × Nat} (h : OR w B T (n + 1) (rows g L) (rws r R)) : OR w B T n L R := fun i hi => by
  obtain ⟨h1, h2, h3⟩ := h (i + 1) (by omega)
  exact ⟨h1, h2, fun γ e hp j hj hne hpj => h3 γ e hp (j + 1) (by omega) (by omega) hpj⟩
theorem OKm.mv {w : World} {B T : Nat} {go : Option Addr} {gc : Nat} {bo : Option Addr} {bc : Nat} {g : List Int} {n : Nat} {L : Nat → List Int} (h : OKm w B T go gc bo bc g n L) : MV w go gc bo bc g n L := by
  obtain ⟨_, hb, R, ho, hs⟩ := h
  exact ⟨⟨(ho 0 (by omega)).1, hb⟩, ho.sl (i := 0) (by omega), bv_of hs ho.tail⟩
theorem OKm.kept {w w' : World} {B T : Nat} {go : Option Addr} {gc : Nat} {bo : Option Addr} {bc : Nat} {g : List Int} {n : Nat} {L : Nat → List Int} (h : OKm w B T go gc bo bc g n L) (hk : ∀ j, B ≤ j → j < T → w'.heap[j]? = w.heap[j]?) (hs : w.heap.size ≤ w'.heap.size) : OKm w' B T go gc bo bc g n L := by
  obtain ⟨⟨hB, hT⟩, hb, R, ho, hs'⟩ := h
  exact ⟨⟨hB, by omega⟩, hb, R, ho.kept hk, hs'.kept hk⟩
theorem OKm.below {w w' : World} {B T X : Nat} {go : Option Addr} {gc : Nat} {bo : Option Addr} {bc : Nat} {g : List Int} {n : Nat} {L : Nat → List Int} (h : OKm w B T go gc bo bc g n L) (hb : Below X w w') (hX : T ≤ X) : OKm w' B T go gc bo bc g n L :=
  h.kept (fun j _ hj => hb.block j (by omega)) hb.size
theorem OKm.wide {w : World} {B T B' : Nat} {go : Option Addr} {gc : Nat} {bo : Option Addr} {bc : Nat} {g : List Int} {n : Nat} {L : Nat → List Int} (h : OKm w B T go gc bo bc g n L) (hB : B' ≤ B) : OKm w B' T go gc bo bc g n L := by
  obtain ⟨⟨h1, hT⟩, hb, R, ho, hs'⟩ := h
  exact ⟨⟨by omega, hT⟩, hb, R, ho.wide hB (Nat.le_refl _), hs'.wide hB (Nat.le_refl _)⟩
/-- How much is left, or that it is too much. -/
def Sz (tot x : Int) (e : Ending) : Prop := (tot ≤ x ∧ e = .returned (.int .i64 (x - tot))) ∨ e = .returned (.int .i64 (-1))
theorem Sz.yes {tot x y : Int} (h : tot ≤ x) (hy : y = x - tot) : Sz tot x (.returned (.int .i64 y)) := .inl ⟨h, by rw [hy]⟩
theorem Sz.no {tot x : Int} : Sz tot x (.returned (.int .i64 (-1))) := .inr rfl

theorem szis_any (ao : Option Addr) (n cap : Nat) (x : Int) (w : World) (hn : n ≤ 9223372036854775807) (h0 : 0 ≤ x) (h1 : x ≤ 1048576) :
    Calls Tryz.prog 74 #[.slice ao n cap, .int .i64 x] w fun e w' => Sz n x e ∧ w' = w := by
  by_cases h : (n : Int) ≤ x
  · have hd : ¬ x - (n : Int) < 0 := by omega
    go_enter Tryz.func74, Tryz.ntmps74
    go_wp2
    go_ret
    exact ⟨Sz.yes h rfl, rfl⟩
  · have hd : x - (n : Int) < 0 := by omega
    go_enter Tryz.func74, Tryz.ntmps74
    go_wp2
    go_ret
    exact ⟨Sz.no, rfl⟩

theorem szss_any (bo : Option Addr) (n bc : Nat) (L : Nat → List Int) (x : Int) (w : World) (hn : n ≤ 9223372036854775807) (hL : ∀ i, i < n → (L i).length ≤ 9223372036854775807) (h0 : 0 ≤ x) (h1 : x ≤ 1048576) (hv : BV w bo n L) :
    Calls Tryz.prog 78 #[.slice bo n bc, .int .i64 x] w fun e w' => Sz (n + psum L n) x e ∧ w' = w := by
  have HV := hide hv
  have HL := hide hL
  clear hv hL
  by_cases h : (n : Int) ≤ x
  · have hd : ¬ x - (n : Int) < 0 := by omega
    go_enter Tryz.func78, Tryz.ntmps78
    go_wp2
    go_loop [1, 5] (fun y i => ∃ k : Nat, k ≤ n ∧ i = .int .i64 k ∧ y = .int .i64 (x - n - psum L k) ∧ (n : Int) + psum L k ≤ x) (fun _ i => n - (intOf i).toNat)
    case atStart => exact ⟨0, by omega, rfl, by simp [psum], by simpa [psum] using h⟩
    case round =>
      obtain ⟨k, hk, rfl, rfl, hle⟩ := hrel
      by_cases hlt : k < n
      · obtain ⟨b, off, ro, rc, rfl, hc, hrc, hsl⟩ := HV.out k hlt
        have E : Hid (psum L (k + 1) = psum L k + (L k).length) := rfl
        have hcall := hide (szis_any ro (L k).length rc (x - n - psum L k) w (HL.out k hlt) (by omega) (by omega))
        clear hsl hrc
        generalize (L k).length = l at *
        generalize psum L k = p at *
        go_wp2_with fail
        refine hcall.out.mono ?_
        rintro e w1 ⟨h2, hw⟩
        rw [hw]
        clear hcall hw
        rcases h2 with ⟨h3, rfl⟩ | rfl
        · have hd2 : ¬ x - (n : Int) - (p : Int) - (l : Int) < 0 := by omega
          go_wp2
          go_round
          case rel => exact ⟨k + 1, by omega, by go_num, by rw [E.out]; congr 1; omega, by rw [E.out]; omega⟩
          case measure => simp [intOf]; omega
        · go_wp2
          go_ret
          exact ⟨Sz.no, rfl⟩
      · obtain rfl : k = n := by omega
        go_wp2
        go_ret
        exact ⟨Sz.yes hle (by omega), rfl⟩
  · have hd : x - (n : Int) < 0 := by omega
    go_enter Tryz.func78, Tryz.ntmps78
    go_wp2
    go_ret
    exact ⟨Sz.no, rfl⟩

/-- How much there is of it. -/
theorem szm_any (go bo : Option Addr) (gc bc : Nat) (g : List Int) (n : Nat) (L : Nat → List Int) (fi ol he : Bool) (la x : Int) (w : World) (hg : g.length ≤ 9223372036854775807) (hn : n ≤ 9223372036854775807) (hL : ∀ i, i < n → (L i).length ≤ 9223372036854775807) (h0 : 0 ≤ x) (h1 : x ≤ 1048576) (hv : MV w go gc bo bc g n L) :
    Calls Tryz.prog 75 #[.agg #[.slice go g.length gc, .slice bo n bc, .bool fi, .bool ol, .bool he, .int .i64 la], .int .i64 x] w fun e w' => Sz (g.length + (n + psum L n)) x e ∧ Below w.heap.size w w' := by
  have hb : Below w.heap.size w (w.alloc (.cells #[.slice go g.length gc, .slice bo n bc, .bool fi, .bool ol, .bool he, .int .i64 la] 36)) := (Below.refl _ _).alloc (Nat.le_refl _) _
  have hcG := hide (szis_any go g.length gc x (w.alloc (.cells #[.slice go g.length gc, .slice bo n bc, .bool fi, .bool ol, .bool he, .int .i64 la] 36)) hg h0 h1)
  have hcB : Hid (∀ y : Int, 0 ≤ y → y ≤ 1048576 → _) := fun y y0 y1 => szss_any bo n bc L y (w.alloc (.cells #[.slice go g.length gc, .slice bo n bc, .bool fi, .bool ol, .bool he, .int .i64 la] 36)) hn hL y0 y1 (hv.2.2.below hb)
  have HB := hide hb
  clear hv hb hL
  generalize psum L n = p at *
  go_enter Tryz.func75, Tryz.ntmps75
  go_wp2_with fail
  refine hcG.out.mono ?_
  rintro e w1 ⟨h2, hw⟩
  rw [hw]
  clear hw hcG
  rcases h2 with ⟨h3, rfl⟩ | rfl
  · have hd : ¬ x - (g.length : Int) < 0 := by omega
    go_wp2_with fail
    refine (hcB.out (x - (g.length : Int)) (by omega) (by omega)).mono ?_
    rintro e w1 ⟨h2, hw⟩
    rw [hw]
    clear hw hcB
    rcases h2 with ⟨h4, rfl⟩ | rfl
    · have hd : ¬ x - (g.length : Int) - (n + p) < 0 := by omega
      go_wp2
      go_ret
      exact ⟨Sz.yes (by omega) (by omega), HB.out⟩
    · go_wp2
      go_ret
      exact ⟨Sz.no, HB.out⟩
  · go_wp2
    go_ret
    exact ⟨Sz.no, HB.out⟩
theorem Tryz.infoSl : (Tryz.prog.info? 22).map (fun i => (i.zero, i.size, i.bytes)) = some (some (.slice none 0 0), 1, 24) := by kernel_rfl
theorem al2 (w : World) (o1 o2 : Obj) : ((w.alloc o1).alloc o2).heap[w.heap.size]? = some o1 ∧ ((w.alloc o1).alloc o2).heap[w.heap.size + 1]? = some o2 ∧ ((w.alloc o1).alloc o2).heap.size = w.heap.size + 1 + 1 := by
  have e : ∀ (w : World) (o : Obj), (w.alloc o).heap = w.heap.push o := fun _ _ => rfl
  refine ⟨?_, ?_, ?_⟩
  · simp only [e, Array.getElem?_push, Array.size_push]
    rw [if_neg (by omega), if_pos trivial]
  · simp only [e, Array.getElem?_push, Array.size_push]
    rw [if_pos trivial]
  · simp only [e, Array.size_push]
theorem hfar {w : World} {R g j : Nat} (h : ¬ g = R) (v : Value) : (w.setCell ⟨R, j, none⟩ v).heap[g]? = w.heap[g]? := by
  simp only [World.setCell, Array.getElem?_modify]; rw [if_neg (fun e => h e.symm)]
theorem sblk {w : World} {g o : Nat} {x : Array Value} {t : TypeId} (v : Value) (h : w.heap[g]? = some (.cells x t (0, 0))) : (w.setCell ⟨g, o, none⟩ v).heap[g]? = some (.cells (x.setIfInBounds o v) t (0, 0)) := by
  simp [World.setCell, Array.getElem?_modify, h]

theorem toss_any (bo : Option Addr) (n bc : Nat) (L : Nat → List Int) (w : World) (hn : n ≤ 1048576) (hL : ∀ i, i < n → (L i).length ≤ 1048576) (hv : BV w bo n L) :
    Calls Tryz.prog 86 #[.slice bo n bc] w fun e w' => e = .returned (.slice (some ⟨w.heap.size, 0, none⟩) n n) ∧ (∃ R, OR w' w.heap.size w'.heap.size n L R ∧ SR w' w.heap.size w'.heap.size (some ⟨w.heap.size, 0, none⟩) n L R) ∧ Below w.heap.size w w' := by
  have hmk := run_make_row' (P := Tryz.prog) 23 22 (.slice none 0 0) 24 Tryz.underlying23 Tryz.infoSl rfl .i64 .i64 n (by omega) (by omega)
  have HV := hide hv
  have HL := hide hL
  clear hv hL
  go_enter Tryz.func86, Tryz.ntmps86
  go_wp2
  go_loopw [4] (fun i wr => ∃ (k : Nat) (R : Nat → Option Addr × Nat), k ≤ n ∧ i = .int .i64 k ∧ Hid (wr.rowIs w.heap.size 22 n (fun j => if j < k then .slice (R j).1 (L j).length (R j).2 else .slice none 0 0) ∧ OR wr (w.heap.size + 1) wr.heap.size k L R ∧ Below w.heap.size w wr)) (fun i _ => n - (intOf i).toNat)
  case atStart => exact ⟨0, fun _ => (none, 0), Nat.zero_le _, rfl, (World.rowIs_made _ _ _ _).congr (by intro i _; simp), OR.nil, (Below.refl _ _).alloc (Nat.le_refl _) _⟩
  case round =>
    obtain ⟨k, R, hk, rfl, HI⟩ := hrel
    clear hmk
    by_cases hlt : k < n
    · obtain ⟨b, off, ro, rc, rfl, hc, hrc, hsl⟩ := HV.out.below HI.out.2.2 k hlt
      have hcall := hide (ito_any ro (L k).length rc (fun j => (L k).getD j 0) wr (HL.out k hlt) hsl)
      have hgl : w.heap.size < wr.heap.size := HI.out.1.lt
      clear hsl hrc
      generalize hl : (L k).length = l at *
      have EL := hide hl
      clear hl
      go_wp2_with fail
      refine hcall.out.mono ?_
      rintro e w1 ⟨rfl, hrow, hb1⟩
      have r1 := row_below HI.out.1 hb1 hgl
      have hf := r1.frozen k
      have hcl := r1.cell hlt
      have HN : Hid ((w1.setCell ⟨w.heap.size, k, none⟩ (.slice (some ⟨wr.heap.size, 0, none⟩) l l)).rowIs w.heap.size 22 n (fun j => if j < k + 1 then .slice (setr R k (some ⟨wr.heap.size, 0, none⟩, l) j).1 (L j).length (setr R k (some ⟨wr.heap.size, 0, none⟩, l) j).2 else .slice none 0 0) ∧
          OR (w1.setCell ⟨w.heap.size, k, none⟩ (.slice (some ⟨wr.heap.size, 0, none⟩) l l)) (w.heap.size + 1) (w1.setCell ⟨w.heap.size, k, none⟩ (.slice (some ⟨wr.heap.size, 0, none⟩) l l)).heap.size (k + 1) L (setr R k (some ⟨wr.heap.size, 0, none⟩, l)) ∧ Below w.heap.size w (w1.setCell ⟨w.heap.size, k, none⟩ (.slice (some ⟨wr.heap.size, 0, none⟩) l l))) := by
        refine ⟨?_, ?_, (HI.out.2.2.trans (hb1.mono HI.out.2.2.size)).setCell (p := ⟨w.heap.size, k, none⟩) (Nat.le_refl _) _⟩
        · refine (r1.set k _).congr fun j hj => ?_
          by_cases e : j = k
          · subst e; rw [if_pos rfl, if_pos (by omega), setr_at, EL.out]
          · rw [if_neg e, setr_ne _ _ _ e]
            by_cases e2 : j < k
            · rw [if_pos e2, if_pos (by omega)]
            · rw [if_neg e2, if_neg (by omega)]
        · have o1 : OR (w1.setCell ⟨w.heap.size, k, none⟩ (.slice (some ⟨wr.heap.size, 0, none⟩) l l)) (w.heap.size + 1) wr.heap.size k L R := HI.out.2.1.kept fun j h1 h2 => (hfar (by omega) _).trans (hb1.block j h2)
          refine o1.push (by omega) (by simp [World.setCell]; exact hb1.size) (by rw [EL.out]; exact Nat.le_refl _) ?_
          rw [EL.out]
          have o2 := Rt.of (Own.of_row (row_set hrow ⟨w.heap.size, k, none⟩ (by simp; omega) (.slice (some ⟨wr.heap.size, 0, none⟩) l l)) (Nat.le_refl _))
          exact o2
      clear hcall hrow hb1 r1 HI hc
      go_wp2
      go_roundw
      case rel => exact ⟨k + 1, _, by omega, by go_num, HN.out⟩
      case measure => simp [intOf]; omega
    · obtain rfl : k = n := by omega
      go_wp2
      go_ret
      refine ⟨rfl, ⟨R, HI.out.2.1.wide (by omega) (Nat.le_refl _), ?_⟩, HI.out.2.2⟩
      obtain ⟨c, hc, hs, hF⟩ := HI.out.1
      exact .inr ⟨w.heap.size, c, rfl, ⟨Nat.le_refl _, (Array.getElem?_eq_some_iff.1 hc).1⟩, hc, by omega, fun i hi => by rw [hF i hi]; exact congrArg some (if_pos hi)⟩

theorem eqss_yes (ao bo : Option Addr) (n ca cb : Nat) (L : Nat → List Int) (w : World) (hn : n ≤ 1048576) (hL : ∀ i, i < n → (L i).length ≤ 1048576) (hA : BV w ao n L) (hB : BV w bo n L) :
    Calls Tryz.prog 63 #[.slice ao n ca, .slice bo n cb] w fun e w' => e = .returned (.bool true) ∧ ∃ q, w' = w.drewN q := by
  have HA := hide hA
  have HB := hide hB
  have HL := hide hL
  clear hA hB hL
  go_enter Tryz.func63, Tryz.ntmps63
  go_wp2
  go_loopw [5] (fun i wr => ∃ k : Nat, k ≤ n ∧ i = .int .i64 k ∧ ∃ q, wr = w.drewN q) (fun i _ => n - (intOf i).toNat)
  case atStart => exact ⟨0, Nat.zero_le _, rfl, 0, rfl⟩
  case round =>
    obtain ⟨k, hk, rfl, q, rfl⟩ := hrel
    by_cases hlt : k < n
    · obtain ⟨b, off, ro, rc, rfl, hc, hrc, hsl⟩ := HA.out k hlt
      obtain ⟨b', off', ro', rc', rfl, hc', hrc', hsl'⟩ := HB.out k hlt
      have hcall : Hid (∀ q, Calls Tryz.prog 59 #[.slice ro (L k).length rc, .slice ro' (L k).length rc'] (w.drewN q) fun e w' => e = .returned (.bool true) ∧ ∃ m, w' = (w.drewN q).drewN m) := fun q => ieq_yes ro ro' (L k).length rc rc' (fun j => (L k).getD j 0) (fun j => (L k).getD j 0) (w.drewN q) (HL.out k hlt) hsl hsl' (fun _ _ => rfl)
      clear hsl hsl' hrc hrc'
      generalize (L k).length = l at *
      go_wp2
      go_quiet (first | (go_at_call 59; refine quiet_qq (hcall.out _)))
      go_wp2
      go_roundw
      case rel => exact ⟨k + 1, by omega, by go_num, _, rfl⟩
      case measure => simp [intOf]; omega
    · go_wp2
      go_ret
      exact ⟨rfl, q, rfl⟩

theorem eqm_yes (go bo go' bo' : Option Addr) (gc bc gc' bc' : Nat) (g : List Int) (n : Nat) (L : Nat → List Int) (fi ol he : Bool) (la : Int) (w : World) (hd : Bd g n L) (hA : MV w go gc bo bc g n L) (hB : MV w go' gc' bo' bc' g n L) :
    Calls Tryz.prog 60 #[.agg #[.slice go g.length gc, .slice bo n bc, .bool fi, .bool ol, .bool he, .int .i64 la], .agg #[.slice go' g.length gc', .slice bo' n bc', .bool fi, .bool ol, .bool he, .int .i64 la]] w fun e w' => e = .returned (.bool true) ∧ Below w.heap.size w w' := by
  have hb : Below w.heap.size w ((w.alloc (.cells #[.slice go g.length gc, .slice bo n bc, .bool fi, .bool ol, .bool he, .int .i64 la] 25)).alloc (.cells #[.slice go' g.length gc', .slice bo' n bc', .bool fi, .bool ol, .bool he, .int .i64 la] 25)) := ((Below.refl _ _).alloc (Nat.le_refl _) _).alloc (by simp) _
  obtain ⟨W, hW⟩ : ∃ W, W = ((w.alloc (.cells #[.slice go g.length gc, .slice bo n bc, .bool fi, .bool ol, .bool he, .int .i64 la] 25)).alloc (.cells #[.slice go' g.length gc', .slice bo' n bc', .bool fi, .bool ol, .bool he, .int .i64 la] 25)) := ⟨_, rfl⟩
  rw [← hW] at hb
  have b1 : W.heap[w.heap.size]? = some (.cells #[.slice go g.length gc, .slice bo n bc, .bool fi, .bool ol, .bool he, .int .i64 la] 25 (0, 0)) := by
    rw [hW]; exact (al2 w _ _).1
  have b2 : W.heap[w.heap.size + 1]? = some (.cells #[.slice go' g.length gc', .slice bo' n bc', .bool fi, .bool ol, .bool he, .int .i64 la] 25 (0, 0)) := by
    rw [hW]; exact (al2 w _ _).2.1
  have hc1 := hide (ieq_yes go go' g.length gc gc' (fun i => g.getD i 0) (fun i => g.getD i 0) W hd.1 (hA.below hb).2.1 (hB.below hb).2.1 (fun _ _ => rfl))
  have hc2 : Hid (∀ q, Calls Tryz.prog 63 #[.slice bo n bc, .slice bo' n bc'] (W.drewN q) fun e w' => e = .returned (.bool true) ∧ ∃ m, w' = (W.drewN q).drewN m) := fun q => eqss_yes bo bo' n bc bc' L (W.drewN q) hd.2.1 hd.2.2 (hA.below hb).2.2 (hB.below hb).2.2
  have HB : Hid (∀ q, Below w.heap.size w (W.drewN q)) := fun q => Below.drawn hb q
  have p0 : W.cell? ⟨w.heap.size, 0, none⟩ = some (.slice go g.length gc) := mblk b1 rfl
  have p1 : W.cell? ⟨w.heap.size, 1, none⟩ = some (.slice bo n bc) := mblk b1 rfl
  have p2 : W.cell? ⟨w.heap.size, 2, none⟩ = some (.bool fi) := mblk b1 rfl
  have p3 : W.cell? ⟨w.heap.size, 3, none⟩ = some (.bool ol) := mblk b1 rfl
  have p4 : W.cell? ⟨w.heap.size, 4, none⟩ = some (.bool he) := mblk b1 rfl
  have p5 : W.cell? ⟨w.heap.size, 5, none⟩ = some (.int .i64 la) := mblk b1 rfl
  have q0 : W.cell? ⟨w.heap.size + 1, 0, none⟩ = some (.slice go' g.length gc') := mblk b2 rfl
  have q1 : W.cell? ⟨w.heap.size + 1, 1, none⟩ = some (.slice bo' n bc') := mblk b2 rfl
  have q2 : W.cell? ⟨w.heap.size + 1, 2, none⟩ = some (.bool fi) := mblk b2 rfl
  have q3 : W.cell? ⟨w.heap.size + 1, 3, none⟩ = some (.bool ol) := mblk b2 rfl
  have q4 : W.cell? ⟨w.heap.size + 1, 4, none⟩ = some (.bool he) := mblk b2 rfl
  have q5 : W.cell? ⟨w.heap.size + 1, 5, none⟩ = some (.int .i64 la) := mblk b2 rfl
  have s1 : w.heap.size < W.heap.size := (Array.getElem?_eq_some_iff.1 b1).1
  clear hA hB hd hb b1 b2
  go_enter Tryz.func60, Tryz.ntmps60
  go_wp2_with fail
  rw [← hW]
  clear hW
  refine hc1.out.mono ?_
  rintro e w1 ⟨rfl, q, rfl⟩
  go_wp2_with fail
  refine (hc2.out _).mono ?_
  rintro e w2 ⟨rfl, q', rfl⟩
  go_wp2
  go_ret
  exact ⟨rfl, HB.out _⟩
theorem bal3 (w : World) (o1 o2 o3 : Obj) : (((w.alloc o1).alloc o2).alloc o3).heap[w.heap.size]? = some o1 ∧ (((w.alloc o1).alloc o2).alloc o3).heap[w.heap.size + 1]? = some o2 ∧ (((w.alloc o1).alloc o2).alloc o3).heap[w.heap.size + 1 + 1]? = some o3 ∧ (((w.alloc o1).alloc o2).alloc o3).heap.size = w.heap.size + 1 + 1 + 1 := by
  have e : ∀ (w : World) (o : Obj), (w.alloc o).heap = w.heap.push o := fun _ _ => rfl
  refine ⟨?_, ?_, ?_, ?_⟩
  · simp only [e, Array.getElem?_push, Array.size_push]
    rw [if_neg (by omega), if_neg (by omega), if_pos trivial]
  · simp only [e, Array.getElem?_push, Array.size_push]
    rw [if_neg (by omega), if_pos trivial]
  · simp only [e, Array.getElem?_push, Array.size_push]
    rw [if_pos trivial]
  · simp only [e, Array.size_push]
set_option maxHeartbeats 1000000 in
theorem tom_any (go bo : Option Addr) (gc bc : Nat) (g : List Int) (n : Nat) (L : Nat → List Int) (fi ol he : Bool) (la : Int) (w : World) (hd : Bd g n L) (hv : MV w go gc bo bc g n L) :
    Calls Tryz.prog 83 #[.agg #[.slice go g.length gc, .slice bo n bc, .bool fi, .bool ol, .bool he, .int .i64 la]] w fun e w' => ∃ go' bo' gc' bc', e = .returned (.agg #[.slice go' g.length gc', .slice bo' n bc', .bool fi, .bool ol, .bool he, .int .i64 la]) ∧ OKm w' w.heap.size w'.heap.size go' gc' bo' bc' g n L ∧ Below w.heap.size w w' := by
  obtain ⟨hg, hn, hL⟩ := hd
  have HV := hide hv
  have HL := hide hL
  clear hv hL
  go_enter Tryz.func83, Tryz.ntmps83
  go_wp2_with fail
  obtain ⟨W, hW⟩ : ∃ W, W = (((w.alloc (.cells #[.slice go g.length gc, .slice bo n bc, .bool fi, .bool ol, .bool he, .int .i64 la] 36)).alloc (.cells #[.slice none 0 0, .slice none 0 0, .bool false, .bool false, .bool false, .int .i64 0] 25)).alloc (.cells #[.slice none 0 0, .slice none 0 0, .bool false, .bool false, .bool false, .int .i64 0] 25)) := ⟨_, rfl⟩
  obtain ⟨b1, b2, b3, b4⟩ := bal3 w (.cells #[.slice go g.length gc, .slice bo n bc, .bool fi, .bool ol, .bool he, .int .i64 la] 36) (.cells #[.slice none 0 0, .slice none 0 0, .bool false, .bool false, .bool false, .int .i64 0] 25) (.cells #[.slice none 0 0, .slice none 0 0, .bool false, .bool false, .bool false, .int .i64 0] 25)
  have hB : Below w.heap.size w W := by rw [hW]; exact (((Below.refl _ _).alloc (Nat.le_refl _) _).alloc (by simp) _).alloc (by simp; omega) _
  rw [← hW] at b1 b2 b3 b4 ⊢
  clear hW
  refine (ito_any go g.length gc (fun i => g.getD i 0) W hg (HV.out.below hB).2.1).mono ?_
  rintro e w1 ⟨rfl, hrow, hb⟩
  have HB1 := hide (hB.trans (hb.mono hB.size))
  have HR := hide hrow
  have f1 := (hb.block w.heap.size (by omega)).trans b1
  have f2 := (hb.block (w.heap.size + 1) (by omega)).trans b2
  have f3 := (hb.block (w.heap.size + 1 + 1) (by omega)).trans b3
  have hs1 := hb.size
  have hlt1 : W.heap.size < w1.heap.size := hrow.lt
  clear hrow hb hB b1 b2 b3
  have p1 : w1.cell? ⟨w.heap.size, 1, none⟩ = some (.slice bo n bc) := mblk f1 rfl
  have o0 : w1.cell? ⟨w.heap.size + 1 + 1, 0, none⟩ = some (.slice none 0 0) := mblk f3 rfl
  have z3 : ∀ i, w1.frozen? ⟨w.heap.size + 1 + 1, i, none⟩ = false := fun i => by simp [World.frozen?, f3]
  rw [b4] at hlt1 HR
  rw [b4]
  clear hs1
  go_wp2_with fail
  obtain ⟨W2, hW2⟩ : ∃ W2, W2 = w1.setCell ⟨w.heap.size + 1 + 1, 0, none⟩ (.slice (some ⟨w.heap.size + 1 + 1 + 1, 0, none⟩) g.length g.length) := ⟨_, rfl⟩
  rw [← hW2]
  have f1' := (hfar (R := w.heap.size + 1 + 1) (j := 0) (show ¬ w.heap.size = w.heap.size + 1 + 1 by omega) (.slice (some ⟨w.heap.size + 1 + 1 + 1, 0, none⟩) g.length g.length)).trans f1
  have f2' := (hfar (R := w.heap.size + 1 + 1) (j := 0) (show ¬ w.heap.size + 1 = w.heap.size + 1 + 1 by omega) (.slice (some ⟨w.heap.size + 1 + 1 + 1, 0, none⟩) g.length g.length)).trans f2
  have f3' := sblk (o := 0) (.slice (some ⟨w.heap.size + 1 + 1 + 1, 0, none⟩) g.length g.length) f3
  rw [← hW2] at f1' f2' f3'
  have HB2 : Hid (Below w.heap.size w W2) := by rw [hW2]; exact HB1.out.setCell (p := ⟨w.heap.size + 1 + 1, 0, none⟩) (by simp; omega) _
  have HR2 : Hid (W2.rowIs (w.heap.size + 1 + 1 + 1) 3 g.length (fun i => .int .i64 (g.getD i 0))) := by rw [hW2]; exact row_set HR.out _ (by simp) _
  have hs2 : w1.heap.size = W2.heap.size := by rw [hW2]; simp [World.setCell]
  rw [hs2] at hlt1
  clear hW2 HR HB1 p1 o0 z3 f1 f2 f3 hs2
  refine (toss_any bo n bc L W2 hn HL.out (HV.out.below HB2.out).2.2).mono ?_
  rintro e w2 ⟨rfl, ⟨R, hO, hS⟩, hb2⟩
  have e1 := (hb2.block w.heap.size (by omega)).trans f1'
  have e2 := (hb2.block (w.heap.size + 1) (by omega)).trans f2'
  have e3 := (hb2.block (w.heap.size + 1 + 1) (by omega)).trans f3'
  have HG3 := hide (row_below HR2.out hb2 hlt1)
  have HB3 := hide (HB2.out.trans (hb2.mono HB2.out.size))
  have hsz := hb2.size
  have HOS := hide (And.intro hO hS)
  clear hO hS hb2 f1' f2' f3' HR2 HB2 HV HL
  have p2 : w2.cell? ⟨w.heap.size, 2, none⟩ = some (.bool fi) := mblk e1 rfl
  have p3 : w2.cell? ⟨w.heap.size, 3, none⟩ = some (.bool ol) := mblk e1 rfl
  have p4 : w2.cell? ⟨w.heap.size, 4, none⟩ = some (.bool he) := mblk e1 rfl
  have p5 : w2.cell? ⟨w.heap.size, 5, none⟩ = some (.int .i64 la) := mblk e1 rfl
  have r0 : w2.cell? ⟨w.heap.size + 1, 0, none⟩ = some (.slice none 0 0) := mblk e2 rfl
  have r1 : w2.cell? ⟨w.heap.size + 1, 1, none⟩ = some (.slice none 0 0) := mblk e2 rfl
  have r2 : w2.cell? ⟨w.heap.size + 1, 2, none⟩ = some (.bool false) := mblk e2 rfl
  have r3 : w2.cell? ⟨w.heap.size + 1, 3, none⟩ = some (.bool false) := mblk e2 rfl
  have r4 : w2.cell? ⟨w.heap.size + 1, 4, none⟩ = some (.bool false) := mblk e2 rfl
  have r5 : w2.cell? ⟨w.heap.size + 1, 5, none⟩ = some (.int .i64 0) := mblk e2 rfl
  have o0 : w2.cell? ⟨w.heap.size + 1 + 1, 0, none⟩ = some (.slice (some ⟨w.heap.size + 1 + 1 + 1, 0, none⟩) g.length g.length) := mblk e3 rfl
  have o1 : w2.cell? ⟨w.heap.size + 1 + 1, 1, none⟩ = some (.slice none 0 0) := mblk e3 rfl
  have o2 : w2.cell? ⟨w.heap.size + 1 + 1, 2, none⟩ = some (.bool false) := mblk e3 rfl
  have o3 : w2.cell? ⟨w.heap.size + 1 + 1, 3, none⟩ = some (.bool false) := mblk e3 rfl
  have o4 : w2.cell? ⟨w.heap.size + 1 + 1, 4, none⟩ = some (.bool false) := mblk e3 rfl
  have o5 : w2.cell? ⟨w.heap.size + 1 + 1, 5, none⟩ = some (.int .i64 0) := mblk e3 rfl
  have z2 : ∀ i, w2.frozen? ⟨w.heap.size + 1, i, none⟩ = false := fun i => by simp [World.frozen?, e2]
  have z3 : ∀ i, w2.frozen? ⟨w.heap.size + 1 + 1, i, none⟩ = false := fun i => by simp [World.frozen?, e3]
  have hlt2 : w.heap.size + 1 + 1 + 1 < w2.heap.size := by omega
  clear e1 e2 e3
  go_wp2
  refine bodyPost_ret (v := .agg #[.slice (some ⟨w.heap.size + 1 + 1 + 1, 0, none⟩) g.length g.length, .slice (some ⟨W2.heap.size, 0, none⟩) n n, .bool fi, .bool ol, .bool he, .int .i64 la]) (by simp [results, Tryz.results83, go_sem, r0, r1, r2, r3, r4, r5]) rfl ⟨_, _, _, _, rfl, ?_, ?_⟩
  · have hfin : ∀ F : World, F.heap.size = w2.heap.size → (∀ j, w.heap.size + 1 + 1 + 1 ≤ j → F.heap[j]? = w2.heap[j]?) → OKm F w.heap.size F.heap.size (some ⟨w.heap.size + 1 + 1 + 1, 0, none⟩) g.length (some ⟨W2.heap.size, 0, none⟩) n g n L := fun F hs hk => by
      rw [hs]
      refine ⟨⟨by omega, by omega⟩, Nat.le_refl _, R, ?_, (HOS.out.2.kept (fun j h1 h2 => hk j (by omega))).wide (by omega) (Nat.le_refl _)⟩
      refine ((OR.cons (r := (some ⟨w.heap.size + 1 + 1 + 1, 0, none⟩, g.length)) (B := w.heap.size + 1 + 1 + 1) HOS.out.1 (by omega) (by omega) (Nat.le_refl _) ?_).kept (fun j h1 h2 => hk j h1)).wide (by omega) (Nat.le_refl _)
      exact .inr ⟨_, rfl, ⟨Nat.le_refl _, hlt1⟩, HG3.out.choose, HG3.out.choose_spec.1, by rw [HG3.out.choose_spec.2.1]; exact Nat.le_refl _, HG3.out.choose_spec.2.2⟩
    refine hfin _ (by simp [World.setCell]) ?_
    intro j hj
    simp only [World.setCell, Array.getElem?_modify]
    repeat rw [if_neg (by omega)]
  · repeat (refine Below.setCell ?_ (by first | (show w.heap.size ≤ w.heap.size + 1; omega) | (show w.heap.size ≤ w.heap.size + 1 + 1; omega)) _)
    exact HB3.out
theorem kmark_own (g n cap B : Nat) (k0 : Int) (F : Nat → Value) (w : World) (hn : n ≤ 1048576) (h0 : 0 ≤ k0) (h1 : k0 ≤ 1099511627776) (ho : Own w B 3 (some ⟨g, 0, none⟩) n F) :
    Calls Tryz.prog 64 #[.slice (some ⟨g, 0, none⟩) n cap, .int .i64 k0] w fun e w' => e = .returned (.int .i64 (k0 + n)) ∧ Own w' B 3 (some ⟨g, 0, none⟩) n (fun j => .int .i64 (k0 + j)) ∧ Only g w w' := by
  go_enter Tryz.func64, Tryz.ntmps64
  go_wp2
  go_loopw [1, 5] (fun m i wr => ∃ k : Nat, k ≤ n ∧ i = .int .i64 k ∧ m = .int .i64 (k0 + k) ∧ Own wr B 3 (some ⟨g, 0, none⟩) n (fun j => if j < k then .int .i64 (k0 + j) else F j) ∧ Only g w wr) (fun _ i _ => n - (intOf i).toNat)
  case atStart => exact ⟨0, Nat.zero_le _, rfl, by simp, ho.congr (by intro i _; simp), Only.refl _ _⟩
  case round =>
    obtain ⟨k, hk, rfl, rfl, hrow, hbel⟩ := hrel
    by_cases hlt : k < n
    · obtain ⟨g', e, hB, hg, hc, hf⟩ := hrow.at hlt
      cases e
      have R := imark_step hrow
      have R2 := hbel.setCell (i := k) (.int .i64 (k0 + k))
      clear hrow ho
      go_wp2
      go_roundw
      case rel => exact ⟨k + 1, by omega, by go_num, by go_num, R, R2⟩
      case measure => simp [intOf]; omega
    · have hkn : k = n := by omega
      subst hkn
      go_wp2
      go_ret
      exact ⟨rfl, hrow.congr (by intro i hi; rw [if_pos (by omega)]), hbel⟩
theorem kmark_zero (ao : Option Addr) (cap : Nat) (k0 : Int) (w : World) :
    Calls Tryz.prog 64 #[.slice ao 0 cap, .int .i64 k0] w fun e w' => e = .returned (.int .i64 k0) ∧ w' = w := by
  go_enter Tryz.func64, Tryz.ntmps64
  go_wp2
  refine wp_loop_rounds 1 ?_
  rw [rounds_succ]
  go_wp2
  go_ret
  exact ⟨rfl, rfl⟩
/-- A row marked: what else there is stays as it was. -/
def Mkd (w w' : World) (B T n : Nat) (ao : Option Addr) (k : Int) : Prop :=
  (n = 0 ∧ w' = w) ∨ ∃ γ, ao = some ⟨γ, 0, none⟩ ∧ 0 < n ∧ Only γ w w' ∧ Rt w' B T ao n (fun t => .int .i64 (k + t))
theorem kmark_any (ao : Option Addr) (n cap B T : Nat) (k0 : Int) (F : Nat → Value) (w : World) (hn : n ≤ 1048576) (h0 : 0 ≤ k0) (h1 : k0 ≤ 1099511627776) (ho : Rt w B T ao n F) :
    Calls Tryz.prog 64 #[.slice ao n cap, .int .i64 k0] w fun e w' => e = .returned (.int .i64 (k0 + n)) ∧ Mkd w w' B T n ao k0 := by
  rcases Nat.eq_zero_or_pos n with rfl | hp
  · refine (kmark_zero ao cap k0 w).mono ?_
    rintro e w' ⟨rfl, rfl⟩
    exact ⟨by simp, .inl ⟨rfl, rfl⟩⟩
  · obtain ⟨γ, rfl, hB, hT⟩ := ho.at hp
    refine (kmark_own γ n cap B k0 F w hn h0 h1 ho.own).mono ?_
    rintro e w' ⟨rfl, h2, h3⟩
    refine ⟨rfl, .inr ⟨γ, rfl, hp, h3, ?_⟩⟩
    rcases h2 with h2 | ⟨γ', e, hB', r⟩
    · exact .inl h2
    · cases e
      exact .inr ⟨γ, rfl, ⟨hB, hT⟩, r⟩
/-- Of what there was, blocks from B on below T alone were written. -/
def OnB (B T : Nat) (w w' : World) : Prop := Below B w w' ∧ ∀ j, j < w.heap.size → T ≤ j → w'.heap[j]? = w.heap[j]?
theorem OnB.refl (B T : Nat) (w : World) : OnB B T w w := ⟨Below.refl _ _, fun _ _ _ => rfl⟩
theorem OnB.trans {B T : Nat} {w w1 w2 : World} (h : OnB B T w w1) (h' : OnB B T w1 w2) : OnB B T w w2 :=
  ⟨h.1.trans h'.1, fun j h1 h2 => (h'.2 j (Nat.lt_of_lt_of_le h1 h.1.size) h2).trans (h.2 j h1 h2)⟩
theorem OnB.of_below {B T : Nat} {w w1 : World} (h : Below w.heap.size w w1) (hB : B ≤ w.heap.size) : OnB B T w w1 := ⟨h.mono hB, fun j h1 _ => h.block j h1⟩
theorem OnB.only {B T γ : Nat} {w w1 : World} (h : Only γ w w1) (hγ : B ≤ γ ∧ γ < T) : OnB B T w w1 := ⟨h.1.mono hγ.1, fun j _ h2 => h.2.2 j (by omega)⟩
theorem Mkd.onb {w w' : World} {B T n : Nat} {ao : Option Addr} {k : Int} (h : Mkd w w' B T n ao k) : OnB B T w w' := by
  rcases h with ⟨_, rfl⟩ | ⟨γ, e, hp, ho, hr⟩
  · exact OnB.refl _ _ _
  · obtain ⟨γ', e', hg⟩ := hr.at hp
    rw [e] at e'
    cases e'
    exact OnB.only ho hg
/-- .. also what it was marked by. -/
def mgs (g : List Int) (k : Int) : List Int := mkl k g.length
def mbs (g : List Int) (L : Nat → List Int) (n : Nat) (k : Int) : Nat → List Int := mrk L (k + g.length) n

theorem heldss_any (bo : Option Addr) (n bc : Nat) (k0 : Int) (L : Nat → List Int) (w : World) (hb : n + psum L n ≤ 1048576) (h0 : 0 ≤ k0) (h1 : k0 ≤ 1099511627) (hv : BV w bo n (mrk L k0 n)) :
    Calls Tryz.prog 73 #[.slice bo n bc, .int .i64 k0] w fun e w' => e = .returned (.int .i64 (k0 + psum L n)) ∧ w' = w := by
  have HV := hide hv
  clear hv
  go_enter Tryz.func73, Tryz.ntmps73
  go_wp2
  go_loop [1, 5] (fun m i => ∃ j : Nat, j ≤ n ∧ i = .int .i64 j ∧ m = .int .i64 (k0 + psum L j)) (fun _ i => n - (intOf i).toNat)
  case atStart => exact ⟨0, by omega, rfl, by simp [psum]⟩
  case round =>
    obtain ⟨j, hj, rfl, rfl⟩ := hrel
    by_cases hlt : j < n
    · obtain ⟨b, off, ro, rc, rfl, hc, hrc, hsl⟩ := HV.out j hlt
      rw [mrk_len] at hc hsl
      have hsl' : SL .i64 w ro (L j).length (fun t => k0 + psum L j + t) := fun t ht => by
        obtain ⟨b, o, e, hl, hcc⟩ := hsl t ht
        refine ⟨b, o, e, hl, ?_⟩
        rw [hcc]
        unfold mrk
        simp only [if_pos hlt, mkl_get _ _ _ ht]
      have hps := psum_one L j n hlt
      have E : Hid (psum L (j + 1) = psum L j + (L j).length) := rfl
      have hcall := hide (iheld_any ro (L j).length rc (k0 + psum L j) w (by omega) (by omega) (by omega) hsl')
      clear hsl hsl' hrc HV
      generalize (L j).length = l at *
      generalize psum L j = p at *
      have hd : ¬ k0 + (p : Int) + (l : Int) < 0 := by omega
      go_wp2_with fail
      refine hcall.out.mono ?_
      rintro e w1 ⟨rfl, hw⟩
      rw [hw]
      clear hw hcall
      go_wp2
      go_round
      case rel => exact ⟨j + 1, by omega, by go_num, by rw [E.out]; congr 1; omega⟩
      case measure => simp [intOf]; omega
    · obtain rfl : j = n := by omega
      go_wp2
      go_ret
      exact ⟨rfl, rfl⟩

def KB (w : World) (b : Nat) (t : TypeId) (go : Option Addr) (gl gc : Nat) (bo : Option Addr) (n bc : Nat) (fi ol he : Bool) (la : Int) : Prop :=
  w.heap[b]? = some (.cells #[.slice go gl gc, .slice bo n bc, .bool fi, .bool ol, .bool he, .int .i64 la] t (0, 0))
theorem KB.lt {w : World} {b : Nat} {t : TypeId} {go : Option Addr} {gl gc : Nat} {bo : Option Addr} {n bc : Nat} {fi ol he : Bool} {la : Int} (h : KB w b t go gl gc bo n bc fi ol he la) : b < w.heap.size := (Array.getElem?_eq_some_iff.1 h).1
theorem KB.new (w : World) (t : TypeId) (go : Option Addr) (gl gc : Nat) (bo : Option Addr) (n bc : Nat) (fi ol he : Bool) (la : Int) : KB (w.alloc (.cells #[.slice go gl gc, .slice bo n bc, .bool fi, .bool ol, .bool he, .int .i64 la] t)) w.heap.size t go gl gc bo n bc fi ol he la := Deep.blk_alloc_new _ _
theorem KB.below {w w' : World} {b X : Nat} {t : TypeId} {go : Option Addr} {gl gc : Nat} {bo : Option Addr} {n bc : Nat} {fi ol he : Bool} {la : Int} (h : KB w b t go gl gc bo n bc fi ol he la) (hb : Below X w w') (hg : b < X) : KB w' b t go gl gc bo n bc fi ol he la := (hb.block b hg).trans h
theorem KB.b {w w' : World} {b : Nat} {t : TypeId} {go : Option Addr} {gl gc : Nat} {bo : Option Addr} {n bc : Nat} {fi ol he : Bool} {la : Int} (h : KB w b t go gl gc bo n bc fi ol he la) (hb : Below w.heap.size w w') : KB w' b t go gl gc bo n bc fi ol he la := (hb.block b h.lt).trans h
theorem KB.cells {w : World} {b : Nat} {t : TypeId} {go : Option Addr} {gl gc : Nat} {bo : Option Addr} {n bc : Nat} {fi ol he : Bool} {la : Int} (h : KB w b t go gl gc bo n bc fi ol he la) :
    w.cell? ⟨b, 0, none⟩ = some (.slice go gl gc) ∧ w.cell? ⟨b, 1, none⟩ = some (.slice bo n bc) ∧ w.cell? ⟨b, 2, none⟩ = some (.bool fi) ∧ w.cell? ⟨b, 3, none⟩ = some (.bool ol) ∧ w.cell? ⟨b, 4, none⟩ = some (.bool he) ∧ w.cell? ⟨b, 5, none⟩ = some (.int .i64 la) :=
  ⟨mblk h rfl, mblk h rfl, mblk h rfl, mblk h rfl, mblk h rfl, mblk h rfl⟩
theorem KB.froz {w : World} {b : Nat} {t : TypeId} {go : Option Addr} {gl gc : Nat} {bo : Option Addr} {n bc : Nat} {fi ol he : Bool} {la : Int} (h : KB w b t go gl gc bo n bc fi ol he la) : ∀ i, w.frozen? ⟨b, i, none⟩ = false := fun i => by
  unfold KB at h; simp [World.frozen?, h]
/-- What the laws take is not too long. -/
theorem bd_of {g : List Int} {n : Nat} {L : Nat → List Int} (h : (g.length : Int) + ((n : Int) + (psum L n : Int)) ≤ 1048576) : Bd g n L := by
  refine ⟨by omega, by omega, fun i hi => ?_⟩
  have := psum_one L i n hi
  omega
theorem bal1 (w : World) (o : Obj) : Below w.heap.size w (w.alloc o) := (Below.refl _ _).alloc (Nat.le_refl _) _
theorem alsz (w : World) (o : Obj) : (w.alloc o).heap.size = w.heap.size + 1 := by simp
end Go.Proofs.YtkndnndildnbpaaGreatDoor

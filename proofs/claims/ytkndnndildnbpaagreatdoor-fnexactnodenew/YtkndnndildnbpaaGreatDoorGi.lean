/- A list of numbers with how many there are, read by the model. -/
import Derived.Test.YtkndnndildnbpaaGreatDoorGo
import Derived.Test.YtkndnndildnbpaaGreatDoorMtNZ
import Derived.Deep.AppendLies

namespace Go.Proofs.YtkndnndildnbpaaGreatDoor
open Go.ChangeShapes Go.WideShapes Go.ChangeAt Go.RowKit
set_option linter.unusedVariables false
set_option linter.unusedSimpArgs false
set_option maxRecDepth 100000

theorem ksts_pos {n : Nat} {f : Nat → Int} {p : Int} (j : Nat) : ∀ {q : Int}, sts n f (some p) j = some q → p + j ≤ q ∧ (0 < j → q ≤ n) := by
  induction j with
  | zero => intro q h; cases h; exact ⟨by omega, fun h => absurd h (by omega)⟩
  | succ j ih =>
    intro q h
    rw [sts] at h
    cases hs : sts n f (some p) j with
    | none => rw [hs] at h; cases h
    | some q' =>
      rw [hs] at h
      have h1 := (ih hs).1
      simp only [nx] at h
      cases hr : rdI n f q' with
      | none => rw [hr] at h; cases h
      | some xy =>
        rw [hr] at h
        simp at h
        obtain ⟨x, y⟩ := xy
        have := rdI_pos hr
        simp at h
        omega
theorem krdv_pos (n : Nat) (f : Nat → Int) (st : Option Int) : 0 ≤ rdv n f st ∧ rdv n f st ≤ 2147483647 := by
  cases st with
  | none => simp [rdv]
  | some p =>
    simp only [rdv]
    cases hr : rdI n f p with
    | none => simp
    | some xy => obtain ⟨x, y⟩ := xy; have := rdI_pos hr; simp; omega
/-- The first k that are read. -/
def rdk (n : Nat) (f : Nat → Int) (st : Option Int) (k : Nat) : List Int := (List.range k).map fun i => rdv n f (sts n f st (1 + i))
theorem rdk_len (n : Nat) (f : Nat → Int) (st : Option Int) (k : Nat) : (rdk n f st k).length = k := by simp [rdk]
theorem rdk_succ (n : Nat) (f : Nat → Int) (st : Option Int) (k : Nat) : rdk n f st (k + 1) = rdk n f st k ++ [rdv n f (sts n f st (1 + k))] := by simp [rdk, List.range_succ]
theorem rdk_get (n : Nat) (f : Nat → Int) (st : Option Int) (k i : Nat) (h : i < k) : (rdk n f st k).getD i 0 = rdv n f (sts n f st (1 + i)) := by simp [rdk, List.getD, h]
theorem OnlyG.refl (g : Nat) (w : World) : OnlyG g w w := ⟨Below.refl _ _, fun _ _ _ => rfl⟩
theorem OnlyG.trans {g : Nat} {w w1 w2 : World} (h : OnlyG g w w1) (h' : OnlyG g w1 w2) : OnlyG g w w2 := ⟨h.1.trans h'.1, fun j h1 h2 => (h'.2 j (Nat.lt_of_lt_of_le h1 h.1.size) h2).trans (h.2 j h1 h2)⟩
theorem OnlyG.of_only {g : Nat} {w w1 : World} (h : Only g w w1) : OnlyG g w w1 := ⟨h.1, fun j _ h2 => h.2.2 j h2⟩
theorem OnlyG.of_below {g : Nat} {w w1 : World} (h : Below w.heap.size w w1) (hg : g ≤ w.heap.size) : OnlyG g w w1 := ⟨h.mono hg, fun j h1 _ => h.block j h1⟩
theorem Cu.lt {w : World} {g : Nat} {ao : Option Addr} {n cap : Nat} {st : Option Int} (h : Cu w g ao n cap st) : g < w.heap.size := by obtain ⟨p, hb, _⟩ := h; exact (Array.getElem?_eq_some_iff.1 hb).1
theorem Cu.kept {w w' : World} {g : Nat} {ao : Option Addr} {n cap : Nat} {st : Option Int} (h : Cu w g ao n cap st) (hk : w'.heap[g]? = w.heap[g]?) : Cu w' g ao n cap st := by obtain ⟨p, hb, r⟩ := h; exact ⟨p, hk.trans hb, r⟩
/-- The bytes are not touched where the cursor alone is written. -/
theorem SL.onlyg {k : IntKind} {w w' : World} {ao : Option Addr} {n g : Nat} {f : Nat → Int} (h : SL k w ao n f) (ho : OnlyG g w w') (hne : ∀ b off, ao = some ⟨b, off, none⟩ → b < g) : SL k w' ao n f := fun i hi => by
  obtain ⟨b, off, e, hlt, hc⟩ := h i hi
  have hb := hne b off e
  exact ⟨b, off, e, Nat.lt_of_lt_of_le hlt ho.1.size, (ho.1.cell (p := ⟨b, off + i, none⟩) hb).trans hc⟩

set_option maxHeartbeats 600000 in
theorem l5nums (g : Nat) (ao : Option Addr) (n cap : Nat) (f : Nat → Int) (st : Option Int) (w : World) (hn : n ≤ 1048576) (hs : SL .u8 w ao n f) (hao : n = 0 ∨ ∀ b off, ao = some ⟨b, off, none⟩ → b < g) (hf : ∀ i, i < n → 0 ≤ f i ∧ f i ≤ 255) (hst : ∀ p, st = some p → 0 ≤ p) (hc : Cu w g ao n cap st) :
    Calls Tryz.prog 247 #[.pointer (some ⟨g, 0, none⟩)] w fun e w' => ∃ x G st', e = .returned x ∧ LR n f st G st' ∧ G.length ≤ 1048576 ∧ (∀ p, st' = some p → 0 ≤ p) ∧ w'.ownsRow w.heap.size 3 1 x G.length (G.map (.int .i64)) ∧ Cu w' g ao n cap st' ∧ OnlyG g w w' := by
  obtain ⟨i0, hi, hz0, hz1, hz2⟩ := info_parts Tryz.info3
  have hgw := hc.lt
  have HSL : Hid (∀ wr, OnlyG g w wr → SL .u8 wr ao n f) := fun wr ho => by
    rcases hao with h0 | h0
    · intro i hi; omega
    · exact hs.onlyg ho h0
  have HF := hide hf
  have HST := hide hst
  have hal : OnlyG g w (w.alloc (.cells #[] 3)) := OnlyG.of_below (bal1 _ _) (Nat.le_of_lt hgw)
  have HC0 := hide (hc.kept (hal.2 g hgw |> fun _ => (bal1 w (.cells #[] 3)).block g hgw))
  have HAL := hide hal
  have HOW : Hid ((w.alloc (.cells #[] 3)).ownsRow w.heap.size 3 1 (.slice (some ⟨w.heap.size, 0, none⟩) 0 0) 0 (([] : List Int).map (.int .i64))) := gempty (Nat.le_refl _)
  clear hs hao hf hst hc hal
  go_enter Tryz.func247, Tryz.ntmps247
  go_wp2_with fail
  refine (num_any g ao n cap f st _ hn (HSL.out _ HAL.out) HF.out HC0.out).mono ?_
  rintro e w1 ⟨rfl, hc1, ho1⟩
  have hN := krdv_pos n f st
  obtain ⟨N, hNe⟩ : ∃ N : Nat, rdv n f st = N := ⟨(rdv n f st).toNat, by omega⟩
  have HNE := hide hNe
  rw [hNe]
  have H1 : Hid (Cu w1 g ao n cap (sts n f st (1 + 0)) ∧ OnlyG g w w1 ∧ w1.ownsRow w.heap.size 3 1 (.slice (some ⟨w.heap.size, 0, none⟩) 0 0) (rdk n f st 0).length ((rdk n f st 0).map (.int .i64))) :=
    ⟨hc1, HAL.out.trans (OnlyG.of_only ho1), by
      refine ⟨rfl, ?_⟩
      rcases HOW.out.2 with h | ⟨γ, cp, cur, e, hge, hh, r⟩
      · exact .inl h
      · exact .inr ⟨γ, cp, cur, e, hge, (ho1.2.2 γ (by omega)).trans hh, r⟩⟩
  have hNle : N ≤ 2147483647 := by omega
  clear hc1 ho1 HC0 HAL HOW hN hNe
  go_wp2
  go_loopw [3, 5, 6] (fun v i _ wr => ∃ k : Nat, (k ≤ N ∧ k ≤ n) ∧ i = .int .i64 k ∧ Hid (Cu wr g ao n cap (sts n f st (1 + k)) ∧ OnlyG g w wr ∧ wr.ownsRow w.heap.size 3 1 v (rdk n f st k).length ((rdk n f st k).map (.int .i64)))) (fun _ i _ _ => N - (intOf i).toNat)
  case atStart => exact ⟨0, by omega, rfl, H1.out⟩
  case round =>
    clear H1
    obtain ⟨k, ⟨hkN, hkn⟩, rfl, HI⟩ := hrel
    obtain ⟨p, hblk, hpq, hple⟩ := HI.out.1
    have c2 : wr.cell? ⟨g, 2, none⟩ = some (.bool (sts n f st (1 + k)).isSome) := mblk hblk rfl
    have hdone : Hid (∀ w', w' = wr → (k = N ∨ (sts n f st (1 + k)).isSome = false) → ∃ G st', u3 = u3 ∧ LR n f st G st' ∧ G.length ≤ 1048576 ∧ (∀ p, st' = some p → 0 ≤ p) ∧ wr.ownsRow w.heap.size 3 1 u3 G.length (G.map (.int .i64)) ∧ Cu wr g ao n cap st' ∧ OnlyG g w wr) := fun w' _ hex => by
      refine ⟨rdk n f st k, sts n f st (1 + k), rfl, ?_, by rw [rdk_len]; omega, ?_, HI.out.2.2, HI.out.1, HI.out.2.1⟩
      · cases hsome : (sts n f st (1 + k)).isSome with
        | true =>
          have hkN' : k = N := by
            rcases hex with h | h
            · exact h
            · rw [hsome] at h; cases h
          refine .inl ⟨hsome, ⟨by rw [rdk_len, HNE.out, hkN'], fun i hi => ?_, by rw [rdk_len]; exact hsome⟩, by rw [rdk_len]⟩
          rw [rdk_len] at hi
          rw [rdk_get _ _ _ _ _ hi]
        | false =>
          have hnone : sts n f st (1 + k) = none := by cases h : sts n f st (1 + k) with
            | none => rfl
            | some _ => rw [h] at hsome; cases hsome
          refine .inr ⟨hnone, ?_⟩
          rintro ⟨G', h1, h2, h3⟩
          have hl : G'.length = N := by rw [HNE.out] at h1; omega
          rw [kts_le n f st (1 + k) (1 + G'.length) hnone (by omega)] at h3
          cases h3
      · intro p' hp'
        cases hst0 : st with
        | none => rw [hst0, sts_none] at hp'; cases hp'
        | some p0 =>
          rw [hst0] at hp'
          have h1 := (ksts_pos _ hp').1
          have h2 := HST.out p0 hst0
          omega
    have hsz : w.heap.size ≤ wr.heap.size := HI.out.2.1.1.size
    by_cases hlt : k < N
    · have d1 : decide ((k : Int) < (N : Int)) = true := decide_eq_true (by omega)
      cases hsome : (sts n f st (1 + k)).isSome with
      | true =>
        rw [hsome] at c2
        have hkn1 : k + 1 ≤ n := by
          cases hst0 : st with
          | none => rw [hst0, sts_none] at hsome; cases hsome
          | some p0 =>
            rw [hst0] at hsome
            obtain ⟨q, hq⟩ := Option.isSome_iff_exists.1 hsome
            have h1 := ksts_pos _ hq
            have h2 := HST.out p0 hst0
            have := h1.2 (by omega)
            omega
        clear hblk hpq
        go_wp2_with fail
        refine (num_any g ao n cap f (sts n f st (1 + k)) _ hn (HSL.out _ HI.out.2.1) HF.out HI.out.1).mono ?_
        rintro e w2 ⟨rfl, hc2, ho2⟩
        have HE : Hid (rdk n f st (k + 1) = rdk n f st k ++ [rdv n f (sts n f st (1 + k))]) := rdk_succ _ _ _ _
        have hkl := rdk_len n f st k
        have hx := krdv_pos n f (sts n f st (1 + k))
        have H2 : Hid (Cu w2 g ao n cap (sts n f st (1 + (k + 1))) ∧ OnlyG g w w2 ∧ w2.ownsRow w.heap.size 3 1 u3 (rdk n f st k).length ((rdk n f st k).map (.int .i64))) := by
          refine ⟨hc2, HI.out.2.1.trans (OnlyG.of_only ho2), HI.out.2.2.1, ?_⟩
          rcases HI.out.2.2.2 with h | ⟨γ, cp, cur, e, hge, hh, r⟩
          · exact .inl h
          · exact .inr ⟨γ, cp, cur, e, hge, (ho2.2.2 γ (by omega)).trans hh, r⟩
        generalize rdv n f (sts n f st (1 + k)) = x at *
        generalize rdk n f st k = M at *
        clear hc2 ho2 HI hsome c2
        have HA2 : Hid ((w2.alloc (.cells #[.int .i64 x] 3)).ownsRow w.heap.size 3 1 u3 M.length (M.map (.int .i64))) := H2.out.2.2.alloc _
        have HSR : Hid (Src .i64 (w2.alloc (.cells #[.int .i64 x] 3)) (.slice (some ⟨w2.heap.size, 0, none⟩) 1 1) [x]) := .inr ⟨⟨w2.heap.size, 0, none⟩, 1, rfl, gcells w2 [.int .i64 x] 3⟩
        have hsz2 : w.heap.size ≤ (w2.alloc (.cells #[.int .i64 x] 3)).heap.size := by simp; have := H2.out.2.1.1.size; omega
        go_wp2_with (first
          | (at_builtin; refine wpList_append_src rfl _ _ 22 rfl w.heap.size 3 i0 (.int .i64 0) 8 Tryz.underlying22 hi hz0 hz1 hz2 rfl .i64 _ M rfl HA2.out _ [x] rfl HSR.out (glens (by simp; omega)) (by simp; omega) hsz2 ?_; intro v' w4 hown' hgrow))
        have R : Hid (Cu w4 g ao n cap (sts n f st (1 + (k + 1))) ∧ OnlyG g w w4 ∧ w4.ownsRow w.heap.size 3 1 v' (rdk n f st (k + 1)).length ((rdk n f st (k + 1)).map (.int .i64))) := by
          have hne : ∀ j, j < w.heap.size → some j ≠ u3.ownBlock := fun j hj e => by have := (World.ownsRow.lt HA2.out) j e.symm; omega
          have hb2 := bal1 w2 (.cells #[.int .i64 x] 3)
          have hblk : ∀ j, j < w.heap.size → w4.heap[j]? = w2.heap[j]? := fun j hj => (hgrow.block j (by omega) (hne j hj)).trans (hb2.block j (by have := H2.out.2.1.1.size; omega))
          refine ⟨H2.out.1.kept (hblk g hgw), ⟨H2.out.2.1.1.trans ((hb2.mono (by have := H2.out.1.lt; omega)).grown hgrow (by have := H2.out.1.lt; have := hb2.size; omega) (fun j hj => by have := (World.ownsRow.lt HA2.out) j hj; omega)), fun j h1 h2 => (hblk j h1).trans (H2.out.2.1.2 j h1 h2)⟩, by rw [HE.out]; exact hown'⟩
        clear hown' hgrow HA2 HSR H2 HE hdone
        go_wp2
        go_roundw
        case rel => exact ⟨k + 1, by omega, by go_num, R.out⟩
        case measure => simp [intOf]; omega
      | false =>
        rw [hsome] at c2
        obtain ⟨G, st', _, h1, h2, h3, h4, h5, h6⟩ := hdone.out wr rfl (.inr hsome)
        have HD := hide (And.intro h1 (And.intro h2 (And.intro h3 (And.intro h4 (And.intro h5 h6)))))
        clear hdone hblk hpq h1 h2 h3 h4 h5 h6 HI
        go_wp2
        go_ret
        exact ⟨_, rfl, G, st', HD.out⟩
    · obtain rfl : k = N := by omega
      have d1 : decide ((k : Int) < (k : Int)) = false := decide_eq_false (by omega)
      obtain ⟨G, st', _, h1, h2, h3, h4, h5, h6⟩ := hdone.out wr rfl (.inl rfl)
      have HD := hide (And.intro h1 (And.intro h2 (And.intro h3 (And.intro h4 (And.intro h5 h6)))))
      clear hdone hblk hpq h1 h2 h3 h4 h5 h6 HI c2
      go_wp2
      go_ret
      exact ⟨_, rfl, G, st', HD.out⟩
theorem Rt.grown {w w' : World} {B T : Nat} {ao : Option Addr} {n : Nat} {F : Nat → Value} {ob : Option Nat} (h : Rt w B T ao n F) (hT : T ≤ w.heap.size) (hg : w.grownBy w' ob) (hb : ∀ β, ob = some β → ∃ c : Array Value, w.heap[β]? = some (.cells c 22 (0, 0))) : Rt w' B T ao n F := by
  rcases h with h | ⟨g, e, hB, c, hc, r⟩
  · exact .inl h
  · refine .inr ⟨g, e, hB, c, (hg.block g (by omega) (fun e2 => ?_)).trans hc, r⟩
    obtain ⟨c', hc'⟩ := hb g e2.symm
    rw [hc] at hc'
    simp at hc'
theorem OR.grown {w w' : World} {B T n : Nat} {L : Nat → List Int} {R : Nat → Option Addr × Nat} {ob : Option Nat} (h : OR w B T n L R) (hT : T ≤ w.heap.size) (hg : w.grownBy w' ob) (hb : ∀ β, ob = some β → ∃ c : Array Value, w.heap[β]? = some (.cells c 22 (0, 0))) : OR w' B T n L R := fun i hi =>
  ⟨(h i hi).1, (h i hi).2.1.grown hT hg hb, (h i hi).2.2⟩
def scs (L : Nat → List Int) (R : Nat → Option Addr × Nat) (k : Nat) : List Value := (List.range k).map fun i => .slice (R i).1 (L i).length (R i).2
theorem scs_len (L : Nat → List Int) (R : Nat → Option Addr × Nat) (k : Nat) : (scs L R k).length = k := by simp [scs]
def setl (L : Nat → List Int) (k : Nat) (l : List Int) (i : Nat) : List Int := if i = k then l else L i
theorem setl_at (L : Nat → List Int) (k : Nat) (l : List Int) : setl L k l k = l := if_pos rfl
theorem setl_ne (L : Nat → List Int) (k : Nat) (l : List Int) {i : Nat} (h : i ≠ k) : setl L k l i = L i := if_neg h
theorem scs_set (L : Nat → List Int) (R : Nat → Option Addr × Nat) (k : Nat) (l : List Int) (r : Option Addr × Nat) : scs (setl L k l) (setr R k r) (k + 1) = scs L R k ++ [.slice r.1 l.length r.2] := by
  unfold scs
  rw [List.range_succ, List.map_append]
  congr 1
  · refine List.map_congr_left fun i hi => ?_
    have : i < k := by simpa using hi
    rw [setl_ne _ _ _ (by omega), setr_ne _ _ _ (by omega)]
  · simp [setl_at, setr_at]

/-- The result's block, a cursor behind it, what is read behind that; marks for k nodes. -/
def MoK (w wr : World) (ao : Option Addr) (n cap : Nat) (st : Option Int) (go : Option Addr) (gc : Nat) (G : List Int) (k : Nat) (L : Nat → List Int) (R : Nat → Option Addr × Nat) (bv : Value) (fi ol he : Bool) (la : Int) : Prop :=
  KB wr w.heap.size 25 none 0 0 none 0 0 false false false 0 ∧ Cu wr (w.heap.size + 1) ao n cap st ∧
  wr.heap[w.heap.size + 1 + 1]? = some (.cells #[.slice go G.length gc, bv, .bool fi, .bool ol, .bool he, .int .i64 la] 25 (0, 0)) ∧
  OR wr (w.heap.size + 1 + 1 + 1) wr.heap.size (k + 1) (rows G L) (rws (go, gc) R) ∧ wr.ownsRow (w.heap.size + 1 + 1 + 1) 22 1 bv k (scs L R k) ∧
  w.heap.size + 1 + 1 + 1 ≤ wr.heap.size ∧ Below w.heap.size w wr
section
variable {w wr w' : World} {ao : Option Addr} {n cap : Nat} {st st' : Option Int} {go : Option Addr} {gc : Nat} {G : List Int} {k : Nat} {L : Nat → List Int} {R : Nat → Option Addr × Nat} {bv : Value} {fi ol he : Bool} {la : Int}
theorem owns_far {B s m : Nat} {t : TypeId} {v : Value} {xs : List Value} {g : Nat} (h : wr.ownsRow B t s v m xs) (ho : OnlyG g wr w') (hg : g < B) : w'.ownsRow B t s v m xs := by
  refine ⟨h.1, ?_⟩
  rcases h.2 with h | ⟨γ, cp, cur, e, hge, hh, r⟩
  · exact .inl h
  · exact .inr ⟨γ, cp, cur, e, hge, (ho.2 γ (Array.getElem?_eq_some_iff.1 hh).1 (by omega)).trans hh, r⟩
theorem MoK.read (h : MoK w wr ao n cap st go gc G k L R bv fi ol he la) (ho : OnlyG (w.heap.size + 1) wr w') (hc : Cu w' (w.heap.size + 1) ao n cap st') : MoK w w' ao n cap st' go gc G k L R bv fi ol he la := by
  obtain ⟨h1, h2, h3, h4, h5, h6, h7⟩ := h
  refine ⟨(ho.2 _ (by omega) (by omega)).trans h1, hc, (ho.2 _ (by omega) (by omega)).trans h3, (h4.kept (fun j a b => ho.2 j b (by omega))).wide (Nat.le_refl _) ho.1.size, owns_far h5 ho (by omega), Nat.le_trans h6 ho.1.size, h7.trans (ho.1.mono (by omega))⟩
theorem MoK.below (h : MoK w wr ao n cap st go gc G k L R bv fi ol he la) (hb : Below wr.heap.size wr w') : MoK w w' ao n cap st go gc G k L R bv fi ol he la := by
  have hl : w.heap.size + 1 < wr.heap.size := by have := h.2.2.2.2.2.1; omega
  exact h.read (OnlyG.of_below hb (by omega)) (h.2.1.kept (hb.block _ hl))
theorem MoK.cells (h : MoK w wr ao n cap st go gc G k L R bv fi ol he la) : (wr.cell? ⟨w.heap.size + 1 + 1, 0, none⟩ = some (.slice go G.length gc) ∧ wr.cell? ⟨w.heap.size + 1 + 1, 1, none⟩ = some bv ∧ wr.cell? ⟨w.heap.size + 1 + 1, 2, none⟩ = some (.bool fi) ∧ wr.cell? ⟨w.heap.size + 1 + 1, 3, none⟩ = some (.bool ol) ∧ wr.cell? ⟨w.heap.size + 1 + 1, 4, none⟩ = some (.bool he) ∧ wr.cell? ⟨w.heap.size + 1 + 1, 5, none⟩ = some (.int .i64 la)) ∧ (∀ i, wr.frozen? ⟨w.heap.size + 1 + 1, i, none⟩ = false) :=
  ⟨⟨mblk h.2.2.1 rfl, mblk h.2.2.1 rfl, mblk h.2.2.1 rfl, mblk h.2.2.1 rfl, mblk h.2.2.1 rfl, mblk h.2.2.1 rfl⟩, fun i => by simp [World.frozen?, h.2.2.1]⟩
theorem MoK.cur (h : MoK w wr ao n cap st go gc G k L R bv fi ol he la) : wr.cell? ⟨w.heap.size + 1, 2, none⟩ = some (.bool st.isSome) := by
  obtain ⟨_, ⟨p, h2, _⟩, _⟩ := h
  exact mblk h2 rfl
/-- A cell of what is read, written. -/
theorem mok_set {fi' ol' he' : Bool} {la' : Int} (h : MoK w wr ao n cap st go gc G k L R bv fi ol he la) (i : Nat) (x : Value) (hx : (#[.slice go G.length gc, bv, .bool fi, .bool ol, .bool he, .int .i64 la] : Array Value).setIfInBounds i x = #[.slice go G.length gc, bv, .bool fi', .bool ol', .bool he', .int .i64 la']) :
    MoK w (wr.setCell ⟨w.heap.size + 1 + 1, i, none⟩ x) ao n cap st go gc G k L R bv fi' ol' he' la' := by
  obtain ⟨h1, h2, h3, h4, h5, h6, h7⟩ := h
  have hs : (wr.setCell ⟨w.heap.size + 1 + 1, i, none⟩ x).heap.size = wr.heap.size := by simp [World.setCell]
  refine ⟨(hfar (by omega) _).trans h1, h2.kept (hfar (by omega) _), ?_, ?_, ⟨h5.1, ?_⟩, by rw [hs]; exact h6, h7.setCell (p := ⟨w.heap.size + 1 + 1, i, none⟩) (by simp; omega) _⟩
  · rw [sblk x h3, hx]
  · rw [hs]; exact h4.kept (fun j a _ => hfar (by omega) _)
  · rcases h5.2 with h | ⟨γ, cp, cur, e, hge, hh, r⟩
    · exact .inl h
    · exact .inr ⟨γ, cp, cur, e, hge, (hfar (by omega) _).trans hh, r⟩
theorem rws_set (r0 : Option Addr × Nat) (R : Nat → Option Addr × Nat) (k : Nat) (r : Option Addr × Nat) : rws r0 (setr R k r) = setr (rws r0 R) (k + 1) r := by
  funext i
  match i with
  | 0 => unfold setr; rw [if_neg (by omega)]; rfl
  | i + 1 =>
    unfold setr
    by_cases e : i = k
    · subst e; rw [if_pos rfl]; simp [rws]
    · rw [if_neg (by omega)]; simp [rws, e]
theorem mok_start (ro : Option Addr) (rc : Nat) {W w1 : World} (b0 : KB W w.heap.size 25 none 0 0 none 0 0 false false false 0) (b2 : KB W (w.heap.size + 1 + 1) 25 none 0 0 none 0 0 false false false 0) (b4 : W.heap.size = w.heap.size + 1 + 1 + 1) (hB : Below w.heap.size w W) (ho : OnlyG (w.heap.size + 1) W w1) (hc : Cu w1 (w.heap.size + 1) ao n cap st) (hO : Own w1 W.heap.size 3 ro G.length (fun j => .int .i64 (G.getD j 0))) (hrc : G.length ≤ rc) :
    MoK w (w1.setCell ⟨w.heap.size + 1 + 1, 0, none⟩ (.slice ro G.length rc)) ao n cap st ro rc G 0 (fun _ => []) (fun _ => (none, 0)) (.slice none 0 0) false false false 0 := by
  have hs : (w1.setCell ⟨w.heap.size + 1 + 1, 0, none⟩ (.slice ro G.length rc)).heap.size = w1.heap.size := by simp [World.setCell]
  have hz := ho.1.size
  have h2 := (ho.2 (w.heap.size + 1 + 1) (by omega) (by omega)).trans b2
  refine ⟨(hfar (by omega) _).trans ((ho.2 _ (by omega) (by omega)).trans b0), hc.kept (hfar (by omega) _), ?_, ?_, ⟨rfl, .inl ⟨rfl, rfl⟩⟩, by rw [hs]; omega, (hB.trans (ho.1.mono (by omega))).setCell (p := ⟨w.heap.size + 1 + 1, 0, none⟩) (by simp; omega) _⟩
  · rw [sblk _ h2]; rfl
  · rw [hs]
    intro i hi
    obtain rfl : i = 0 := by omega
    refine ⟨hrc, ?_, fun γ e hp j hj hne => absurd hne (by omega)⟩
    rw [b4] at hO
    exact (Rt.of hO).kept (fun j a _ => hfar (by omega) _)
theorem mok_app {w1 w4 : World} {ro : Option Addr} {rc g4 c4 : Nat} {G' : List Int} (h : MoK w wr ao n cap st go gc G k L R bv fi ol he la) (ho : OnlyG (w.heap.size + 1) wr w1) (hc : Cu w1 (w.heap.size + 1) ao n cap st') (hO : Own w1 wr.heap.size 3 ro G'.length (fun j => .int .i64 (G'.getD j 0))) (hrc : G'.length ≤ rc)
    (hown : w4.ownsRow (w.heap.size + 1 + 1 + 1) 22 1 (.slice (some ⟨g4, 0, none⟩) (k + 1) c4) (k + 1) (scs L R k ++ [.slice ro G'.length rc])) (hg : (w1.alloc (.cells #[.slice ro G'.length rc] 22)).grownBy w4 bv.ownBlock) :
    MoK w (w4.setCell ⟨w.heap.size + 1 + 1, 1, none⟩ (.slice (some ⟨g4, 0, none⟩) (k + 1) c4)) ao n cap st' go gc G (k + 1) (setl L k G') (setr R k (ro, rc)) (.slice (some ⟨g4, 0, none⟩) (k + 1) c4) fi ol he la := by
  have hq := h.read ho hc
  have hb2 := bal1 w1 (.cells #[.slice ro G'.length rc] 22)
  have hq2 := hq.below hb2
  have e2 := alsz w1 (.cells #[.slice ro G'.length rc] 22)
  have hz1 := ho.1.size
  have hz0 := h.2.2.2.2.2.1
  have hz4 := hg.size
  have hlo : ∀ j, j < w.heap.size + 1 + 1 + 1 → some j ≠ bv.ownBlock := fun j hj e => by have := (World.ownsRow.lt hq2.2.2.2.2.1) j e.symm; omega
  have hblk : ∀ j, j < w.heap.size + 1 + 1 + 1 → w4.heap[j]? = (w1.alloc (.cells #[.slice ro G'.length rc] 22)).heap[j]? := fun j hj => hg.block j (by omega) (hlo j hj)
  have hty : ∀ β, bv.ownBlock = some β → ∃ c : Array Value, (w1.alloc (.cells #[.slice ro G'.length rc] 22)).heap[β]? = some (.cells c 22 (0, 0)) := fun β e => by
    rcases hq2.2.2.2.2.1.2 with ⟨e1, _⟩ | ⟨γ, cp, cur, e1, hge, hh, r⟩
    · rw [e1] at e; cases e
    · rw [e1] at e; simp [Value.ownBlock] at e; subst e; exact ⟨cur, hh⟩
  have hs : (w4.setCell ⟨w.heap.size + 1 + 1, 1, none⟩ (.slice (some ⟨g4, 0, none⟩) (k + 1) c4)).heap.size = w4.heap.size := by simp [World.setCell]
  have o1 : OR w1 (w.heap.size + 1 + 1 + 1) wr.heap.size (k + 1) (rows G (setl L k G')) (rws (go, gc) R) := (h.2.2.2.1.kept (fun j a b => ho.2 j b (by omega))).congr fun i hi => by
    match i with
    | 0 => rfl
    | i + 1 => show L i = setl L k G' i; rw [setl_ne _ _ _ (by omega)]
  have o2 : OR w1 (w.heap.size + 1 + 1 + 1) w1.heap.size (k + 1 + 1) (rows G (setl L k G')) (rws (go, gc) (setr R k (ro, rc))) := by
    rw [rws_set]
    refine o1.push (by omega) hz1 ?_ ?_
    · show (setl L k G' k).length ≤ rc; rw [setl_at]; exact hrc
    · show Rt w1 wr.heap.size w1.heap.size ro (setl L k G' k).length (lv (setl L k G' k)); rw [setl_at]; exact Rt.of hO
  have o3 := ((o2.kept (w' := w1.alloc (.cells #[.slice ro G'.length rc] 22)) (fun j _ b => hb2.block j b)).wide (B' := w.heap.size + 1 + 1 + 1) (T' := (w1.alloc (.cells #[.slice ro G'.length rc] 22)).heap.size) (Nat.le_refl _) (by omega)).grown (Nat.le_refl _) hg hty
  refine ⟨(hfar (by omega) _).trans ((hblk _ (by omega)).trans hq2.1), (hq2.2.1.kept (hblk _ (by omega))).kept (hfar (by omega) _), ?_, ?_, ?_, by rw [hs]; omega, ?_⟩
  · rw [sblk _ ((hblk _ (by omega)).trans hq2.2.2.1)]; rfl
  · rw [hs]; exact (o3.wide (Nat.le_refl _) hz4).kept (fun j a _ => hfar (by omega) _)
  · rw [scs_set]
    refine ⟨hown.1, ?_⟩
    rcases hown.2 with h | ⟨γ, cp, cur, e, hge, hh, r⟩
    · exact .inl h
    · exact .inr ⟨γ, cp, cur, e, hge, (hfar (by omega) _).trans hh, r⟩
  · exact (hq2.2.2.2.2.2.2.grown hg hq2.2.2.2.2.2.2.size (fun j hj => by have := (World.ownsRow.lt hq2.2.2.2.2.1) j hj; omega)).setCell (p := ⟨w.heap.size + 1 + 1, 1, none⟩) (by simp; omega) _
/-- What was read, as a whole. -/
theorem MoK.okm {bo : Option Addr} {bc : Nat} (h : MoK w wr ao n cap st go gc G k L R (.slice bo k bc) fi ol he la) : OKm wr (w.heap.size + 1 + 1 + 1) wr.heap.size go gc bo bc G k L := by
  obtain ⟨h1, h2, h3, h4, h5, h6, h7⟩ := h
  rcases h5.2 with ⟨e, h0⟩ | ⟨γ, cp, cur, e, hge, hh, hn, hm, hsz, ht⟩
  · cases e
    exact ⟨⟨h6, Nat.le_refl _⟩, Nat.le_refl _, R, h4, .inl h0⟩
  · cases e
    refine ⟨⟨h6, Nat.le_refl _⟩, hn, R, h4, .inr ⟨γ, cur, rfl, ⟨hge, (Array.getElem?_eq_some_iff.1 hh).1⟩, hh, by omega, fun i hi => ?_⟩⟩
    have e : (cur.toList.take (k * 1))[i]? = (scs L R k)[i]? := by rw [ht]
    rw [List.getElem?_take, if_pos (by omega)] at e
    rw [← Array.getElem?_toList, e]
    simp [scs, hi]
theorem MoK.form (h : MoK w wr ao n cap st go gc G k L R bv fi ol he la) : ∃ bo bc, bv = .slice bo k bc := by
  rcases h.2.2.2.2.1.2 with ⟨e, h0⟩ | ⟨γ, cp, cur, e, _⟩
  · exact ⟨none, 0, by rw [e, h0]⟩
  · exact ⟨_, _, e⟩
end
end Go.Proofs.YtkndnndildnbpaaGreatDoor

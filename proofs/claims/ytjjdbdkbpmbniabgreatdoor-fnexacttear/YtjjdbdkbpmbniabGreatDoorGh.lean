/- What is torn, of both. -/
import Derived.Test.YtjjdbdkbpmbniabGreatDoorSlW3Z
import Derived.Lib.MinMax

namespace Go.Proofs.YtjjdbdkbpmbniabGreatDoor
open Go.ChangeShapes Go.WideShapes Go.ChangeAt Go.RowKit
set_option linter.unusedVariables false
set_option linter.unusedSimpArgs false
set_option maxRecDepth 100000

/-- How many bytes are new. -/
def tk (y : Int) (m : Nat) : Nat := if y < 0 then 0 else if (m : Int) ≤ y then m else y.toNat
theorem tk_le (y : Int) (m : Nat) : tk y m ≤ m := by unfold tk; split; omega; split <;> omega
theorem tk_max (y : Int) (m : Nat) : max 0 (min y (m : Int)) = (tk y m : Int) := by unfold tk; split; omega; split <;> omega
/-- Bytes of which only the first ones are new. -/
def trn (D X : List Int) (y : Int) : List Int := X.take (tk y X.length) ++ D.drop (tk y X.length)
theorem trn_len (D X : List Int) (y : Int) : (trn D X y).length = tk y X.length + (D.length - tk y X.length) := by
  have := tk_le y X.length
  simp [trn]; omega
theorem sl_drop {w : World} {b off cap k : Nat} {D : List Int} (h : VBy w (some ⟨b, off, none⟩) cap D) : SL .u8 w (some ⟨b, off + k, none⟩) (D.length - k) (fun i => (D.drop k).getD i 0) := by
  intro i hi
  obtain ⟨b', off', e, hl, hc⟩ := h.1 (k + i) (by omega)
  cases e
  refine ⟨b, off + k, rfl, hl, ?_⟩
  rw [Nat.add_assoc, hc]
  simp [List.getD]

theorem lmin_any (a b : Int) (w : World) : Calls Tryz.prog 44 #[.int .i64 a, .int .i64 b] w fun e w' => e = .returned (.int .i64 (min a b)) ∧ w' = w := by
  by_cases h : a < b
  · go_enter Tryz.func44, Tryz.ntmps44
    go_wp2
    go_ret
    exact ⟨by rw [show min a b = a by omega]; rfl, rfl⟩
  · go_enter Tryz.func44, Tryz.ntmps44
    go_wp2
    go_ret
    exact ⟨by rw [show min a b = b by omega]; rfl, rfl⟩
theorem lmax_any (a b : Int) (w : World) : Calls Tryz.prog 43 #[.int .i64 a, .int .i64 b] w fun e w' => e = .returned (.int .i64 (max a b)) ∧ w' = w := by
  by_cases h : b < a
  · go_enter Tryz.func43, Tryz.ntmps43
    go_wp2
    go_ret
    exact ⟨by rw [show max a b = a by omega]; rfl, rfl⟩
  · go_enter Tryz.func43, Tryz.ntmps43
    go_wp2
    go_ret
    exact ⟨by rw [show max a b = b by omega]; rfl, rfl⟩
theorem src_take {w : World} {b off cap k : Nat} {X : List Int} (h : VBy w (some ⟨b, off, none⟩) cap X) (hk : k ≤ X.length) : Src .u8 w (.slice (some ⟨b, off, none⟩) k cap) (X.take k) := by
  refine .inr ⟨⟨b, off, none⟩, cap, by simp [Nat.min_eq_left hk], fun j u hu => ?_⟩
  have hj : j < k := by
    by_cases hj : j < k
    · exact hj
    · rw [List.getElem?_eq_none (by simp; omega)] at hu; cases hu
  obtain ⟨b', off', e, hl, hc⟩ := h.1 j (by omega)
  cases e
  rw [Addr.add_lit, hc]
  simpa [List.getD, List.getElem?_take, hj, show j < X.length by omega] using hu
theorem src_drop {w : World} {b off cap k c : Nat} {D : List Int} (h : VBy w (some ⟨b, off, none⟩) cap D) : Src .u8 w (.slice (some ⟨b, off + k, none⟩) (D.length - k) c) (D.drop k) := by
  refine .inr ⟨⟨b, off + k, none⟩, c, by simp, fun j u hu => ?_⟩
  have hj : j < D.length - k := by
    by_cases hj : j < D.length - k
    · exact hj
    · rw [List.getElem?_eq_none (by simp; omega)] at hu; cases hu
  obtain ⟨b', off', e, hl, hc⟩ := h.1 (k + j) (by omega)
  cases e
  rw [Addr.add_lit, Nat.add_assoc, hc]
  simpa [List.getD, show k + j < D.length by omega] using hu

set_option maxHeartbeats 1000000 in
theorem torn_spec (ao bo : Option Addr) (ca cb : Nat) (D X : List Int) (y : Int) (w : World) (hD : VBy w ao ca D) (hX : VBy w bo cb X) (hX0 : 0 < X.length) :
    Calls Tryz.prog 23 #[.slice ao D.length ca, .slice bo X.length cb, .int .i64 y] w fun e w' => ∃ x, e = .returned x ∧ w'.ownsRow w.heap.size 5 1 x (trn D X y).length ((trn D X y).map (.int .u8)) ∧ Below w.heap.size w w' := by
  obtain ⟨i0, hi, hz0, hz1, hz2⟩ := info_parts Tryz.info5
  obtain ⟨b, off, rfl, _, _⟩ := hX.1 0 hX0
  have hkm := tk_max y X.length
  have hkl := tk_le y X.length
  have HT : Hid (trn D X y = X.take (tk y X.length) ++ D.drop (tk y X.length)) := rfl
  generalize tk y X.length = k at *
  have hXl := hX.2.2.1
  have hXc := hX.2.1
  have hDl := hD.2.2.1
  have hDc := hD.2.1
  have HX := hide hX
  have HD := hide hD
  have ba := bal1 w (.cells #[] 5)
  have S1 := hide (src_take (HX.out.below ba) hkl)
  have HB := hide ba
  have hk0 : (0 : Int) ≤ (k : Int) := by omega
  have hkc : (k : Int) ≤ (cb : Int) := by omega
  have htl : (X.take k).length = k := by simp; omega
  clear hX hD ba
  go_enter Tryz.func23, Tryz.ntmps23
  go_wp2_with fail
  refine (lmin_any y X.length w).mono ?_
  rintro e w1 ⟨rfl, hw⟩
  rw [hw]
  clear hw
  go_wp2_with fail
  refine (lmax_any 0 (min y X.length) w).mono ?_
  rintro e w1 ⟨rfl, hw⟩
  rw [hw, hkm]
  clear hw hkm
  by_cases hlt : k < D.length
  · obtain ⟨d, doff, rfl, _, _⟩ := HD.out.1 0 (by omega)
    have hne : ¬ ca = k := by omega
    have hltI : (k : Int) < (D.length : Int) := by omega
    have hkca : (k : Int) ≤ (ca : Int) := by omega
    have hdl : (D.drop k).length = D.length - k := by simp
    have S3 : Hid (∀ W, Below w.heap.size w W → Src .u8 W (.slice (some ⟨d, doff + k, none⟩) (D.length - k) (ca - k)) (D.drop k)) := fun W hb => src_drop (HD.out.below hb)
    go_wp2_with (first
      | (at_builtin; refine wpList_append_src rfl _ _ 22 rfl w.heap.size 5 i0 (.int .u8 0) 1 Tryz.underlying22 hi hz0 hz1 hz2 rfl .u8 _ [] rfl (gempty (Nat.le_refl _)) _ (X.take k) rfl S1.out (glens (by rw [htl]; simp; omega)) (by rw [htl]; simp; omega) HB.out.size ?_; intro v3 w3 ho3 hg3; have H3 : Hid (w3.ownsRow w.heap.size 5 1 v3 (X.take k).length ((X.take k).map (.int .u8)) ∧ Below w.heap.size w w3) := ⟨(by rw [List.nil_append] at ho3; exact ho3), ggrown HB.out HB.out.size (gempty (ik := .u8) (t := 5) (Nat.le_refl _)) hg3⟩; clear ho3 hg3)
      | (at_builtin; refine wpList_append_src rfl _ _ 22 rfl w.heap.size 5 i0 (.int .u8 0) 1 Tryz.underlying22 hi hz0 hz1 hz2 rfl .u8 _ (X.take k) rfl H3.out.1 _ (D.drop k) rfl (S3.out _ H3.out.2) (glens (by rw [htl, hdl]; omega)) (by rw [htl, hdl]; omega) H3.out.2.size ?_; intro v4 w4 ho4 hg4))
    go_ret
    rw [HT.out]
    exact ⟨_, rfl, ho4, ggrown H3.out.2 H3.out.2.size H3.out.1 hg4⟩
  · have hltI : ¬ (k : Int) < (D.length : Int) := by omega
    have hdn : D.drop k = [] := List.drop_of_length_le (by omega)
    go_wp2_with (first
      | (at_builtin; refine wpList_append_src rfl _ _ 22 rfl w.heap.size 5 i0 (.int .u8 0) 1 Tryz.underlying22 hi hz0 hz1 hz2 rfl .u8 _ [] rfl (gempty (Nat.le_refl _)) _ (X.take k) rfl S1.out (glens (by rw [htl]; simp; omega)) (by rw [htl]; simp; omega) HB.out.size ?_; intro v3 w3 ho3 hg3; have H3 : Hid (w3.ownsRow w.heap.size 5 1 v3 (X.take k).length ((X.take k).map (.int .u8)) ∧ Below w.heap.size w w3) := ⟨(by rw [List.nil_append] at ho3; exact ho3), ggrown HB.out HB.out.size (gempty (ik := .u8) (t := 5) (Nat.le_refl _)) hg3⟩; clear ho3 hg3))
    go_ret
    rw [HT.out, hdn, List.append_nil]
    exact ⟨_, rfl, H3.out⟩

theorem bconcat2 (vb : Nat) (a0 a1 : Option Addr) (c0 c1 : Nat) (L0 L1 : List Int) (w : World) (hlen : L0.length + L1.length ≤ 1048576) (hv : w.heap[vb]? = some (.cells #[.slice a0 L0.length c0, .slice a1 L1.length c1] 22 (0, 0)))
    (h0 : Src .u8 w (.slice a0 L0.length c0) L0) (h1 : Src .u8 w (.slice a1 L1.length c1) L1) :
    Calls Tryz.prog 48 #[.slice (some ⟨vb, 0, none⟩) 2 2] w fun e w' => ∃ v, e = .returned v ∧ w'.ownsRow w.heap.size 5 1 v (L0 ++ L1).length ((L0 ++ L1).map (.int .u8)) ∧ Below w.heap.size w w' := by
  have h := bconcat_any vb 2 (fun k => if k = 0 then a0 else a1) (fun k => if k = 0 then c0 else c1) (fun k => if k = 0 then L0 else L1) w (by omega) (by simp [catk]; omega) (Array.getElem?_eq_some_iff.1 hv).1
    (fun k hk => by
      obtain rfl | rfl : k = 0 ∨ k = 1 := by omega
      · exact blk_cell hv rfl
      · exact blk_cell hv rfl)
    (fun k hk => by
      obtain rfl | rfl : k = 0 ∨ k = 1 := by omega
      · exact h0
      · exact h1)
  simpa [catk] using h
/-- The two, put together in a block just built. -/
theorem cat_new (w : World) (a0 a1 : Option Addr) (n0 n1 c0 c1 : Nat) (L0 L1 : List Int) (h0l : L0.length = n0) (h1l : L1.length = n1) (hlen : n0 + n1 ≤ 1048576) (h0 : Src .u8 w (.slice a0 n0 c0) L0) (h1 : Src .u8 w (.slice a1 n1 c1) L1) :
    Calls Tryz.prog 48 #[.slice (some ⟨w.heap.size, 0, none⟩) 2 2] (w.alloc (.cells #[.slice a0 n0 c0, .slice a1 n1 c1] 22)).drew fun e w' => ∃ xo xc, e = .returned (.slice xo (L0 ++ L1).length xc) ∧ (L0 ++ L1).length ≤ xc ∧ NC xo xc ∧ Rb w' w.heap.size w'.heap.size xo (L0 ++ L1).length (bv (L0 ++ L1)) ∧ Below w.heap.size w w' := by
  subst h0l h1l
  have ba : Below w.heap.size w (w.alloc (.cells #[.slice a0 L0.length c0, .slice a1 L1.length c1] 22)).drew := Below.drawn (bal1 _ _) 1
  refine (bconcat2 w.heap.size a0 a1 c0 c1 L0 L1 (w.alloc (.cells #[.slice a0 L0.length c0, .slice a1 L1.length c1] 22)).drew hlen (Deep.blk_alloc_new w _) (h0.below ba) (h1.below ba)).mono ?_
  rintro e w' ⟨v, rfl, ho, hb⟩
  obtain ⟨xo, xc, rfl, h1, h2⟩ := rb_owns ho
  exact ⟨xo, xc, rfl, h1, nc_owns ho, h2.wide ba.size (Nat.le_refl _), ba.trans (hb.mono ba.size)⟩
theorem frz_below {w w' : World} {X i : Nat} (hb : Below w.heap.size w w') (hX : X < w.heap.size) (hf : w.frozen? ⟨X, i, none⟩ = false) : w'.frozen? ⟨X, i, none⟩ = false := (World.frozen?_of_block (hb.block X hX)).trans hf

set_option maxHeartbeats 1000000 in
theorem wfirst_impl (X1 i : Nat) (ao bo : Option Addr) (ca cb : Nat) (D X : List Int) (y : Int) (w : World) (hD : VBy w ao ca D) (hX : VBy w bo cb X) (hX0 : 0 < X.length) (nD : NC ao ca) (hy : -9223372036854775808 ≤ y ∧ y ≤ 9223372036854775807) (hc : w.cell? ⟨X1, i, none⟩ = some (.slice ao D.length ca)) (hf : w.frozen? ⟨X1, i, none⟩ = false) :
    Calls Tryz.prog 30 #[.pointer (some ⟨X1, i, none⟩), .slice bo X.length cb, .int .i64 y] w fun e w' => ∃ W xo xc, e = .returned (.tuple #[]) ∧ w' = W.setCell ⟨X1, i, none⟩ (.slice xo (trn D X y).length xc) ∧ (trn D X y).length ≤ xc ∧ NC xo xc ∧ Rb W w.heap.size W.heap.size xo (trn D X y).length (bv (trn D X y)) ∧ Below w.heap.size w W := by
  obtain ⟨b, off, rfl, _, _⟩ := hX.1 0 hX0
  have hkm := tk_max y X.length
  have hkl := tk_le y X.length
  have HT : Hid (trn D X y = X.take (tk y X.length) ++ D.drop (tk y X.length)) := rfl
  generalize tk y X.length = k at *
  have hXl := hX.2.2.1
  have hXc := hX.2.1
  have hDl := hD.2.2.1
  have hDc := hD.2.1
  have HX := hide hX
  have HD := hide hD
  obtain ⟨hy0, hy1⟩ := hy
  have hk0 : (0 : Int) ≤ (k : Int) := by omega
  have hkc : (k : Int) ≤ (cb : Int) := by omega
  clear hX hD
  have hX1 : X1 < w.heap.size := lt_of_cell hc
  go_enter Tryz.func30, Tryz.ntmps30
  by_cases hlt : k < D.length
  · obtain ⟨d, doff, rfl, _, _⟩ := HD.out.1 0 (by omega)
    have hne : ¬ ca = k := by omega
    have hmn : min (k : Int) (D.length : Int) = (k : Int) := by omega
    have hkca : (k : Int) ≤ (ca : Int) := by omega
    have hkD : (k : Int) ≤ (D.length : Int) := by omega
    have hct := hide (cat_new w _ _ k (D.length - k) cb (ca - k) (X.take k) (D.drop k) (by simp; omega) (by simp) (by omega) (src_take HX.out hkl) (src_drop HD.out))
    go_wp2_with fail
    try rw [hkm]
    go_region_held3 (fun _ => True) (trivial) (first
      | (go_at_call 48; refine hct.out.mono ?_; rintro e w5 ⟨xo, xc, rfl, q1, q2, q3, q4⟩; have hc5 := (q4.cell (p := ⟨X1, i, none⟩) hX1).trans hc; have hf5 := frz_below q4 hX1 hf; have H5 := hide (And.intro q1 (And.intro q2 (And.intro q3 q4))); clear q1 q2 q3 q4))
    go_wp2
    refine bodyPost_end (v := .tuple #[]) (by simp [results, Tryz.results30, go_sem]) rfl ?_
    rw [HT.out]
    exact ⟨w5, xo, xc, rfl, by rw [show (X.take k ++ D.drop k).length = k + (D.length - k) by simp; omega], H5.out⟩
  · have hmn : min (k : Int) (D.length : Int) = (D.length : Int) := by omega
    have hdn : D.drop k = [] := List.drop_of_length_le (by omega)
    cases ao with
    | none =>
      have hD0 : D.length = 0 := by
        by_cases h : D.length = 0
        · exact h
        · obtain ⟨_, _, e, _⟩ := HD.out.1 0 (by omega); cases e
      obtain rfl := nD rfl
      obtain rfl : D = [] := List.length_eq_zero_iff.1 hD0
      have hm0 : min (k : Int) 0 = 0 := by omega
      have hct := hide (cat_new w _ none k 0 cb 0 (X.take k) [] (by simp; omega) rfl (by omega) (src_take HX.out hkl) (.inl ⟨rfl, rfl⟩))
      go_wp2_with fail
      try rw [hkm]
      go_region_held3 (fun _ => True) (trivial) (first
        | (go_at_call 48; refine hct.out.mono ?_; rintro e w5 ⟨xo, xc, rfl, q1, q2, q3, q4⟩; have hc5 := (q4.cell (p := ⟨X1, i, none⟩) hX1).trans hc; have hf5 := frz_below q4 hX1 hf; have H5 := hide (And.intro q1 (And.intro q2 (And.intro q3 q4))); clear q1 q2 q3 q4))
      go_wp2
      refine bodyPost_end (v := .tuple #[]) (by simp [results, Tryz.results30, go_sem]) rfl ?_
      rw [HT.out, hdn]
      exact ⟨w5, xo, xc, rfl, by rw [show (X.take k ++ ([] : List Int)).length = k by simp; omega], H5.out⟩
    | some ad =>
      have hD0 : (0 : Int) ≤ (D.length : Int) := by omega
      have hDcI : (D.length : Int) ≤ (ca : Int) := by omega
      by_cases hcd : ca = D.length
      · subst hcd
        have hct := hide (fun (a1 : Addr) (c1 : Nat) => cat_new w _ (some a1) k 0 cb c1 (X.take k) [] (by simp; omega) rfl (by omega) (src_take HX.out hkl) (.inr ⟨a1, c1, rfl, fun j u hu => by simp at hu⟩))
        go_wp2_with fail
        try rw [hkm]
        go_region_held3 (fun _ => True) (trivial) (first
          | (go_at_call 48; refine (hct.out _ _).mono ?_; rintro e w5 ⟨xo, xc, rfl, q1, q2, q3, q4⟩; have hc5 := (q4.cell (p := ⟨X1, i, none⟩) hX1).trans hc; have hf5 := frz_below q4 hX1 hf; have H5 := hide (And.intro q1 (And.intro q2 (And.intro q3 q4))); clear q1 q2 q3 q4))
        go_wp2
        refine bodyPost_end (v := .tuple #[]) (by simp [results, Tryz.results30, go_sem]) rfl ?_
        rw [HT.out, hdn]
        exact ⟨w5, xo, xc, rfl, by rw [show (X.take k ++ ([] : List Int)).length = k by simp; omega], H5.out⟩
      · have hcd' : ¬ D.length = ca := fun e => hcd e.symm
        have hct := hide (fun (a1 : Addr) (c1 : Nat) => cat_new w _ (some a1) k 0 cb c1 (X.take k) [] (by simp; omega) rfl (by omega) (src_take HX.out hkl) (.inr ⟨a1, c1, rfl, fun j u hu => by simp at hu⟩))
        go_wp2_with fail
        try rw [hkm]
        go_region_held3 (fun _ => True) (trivial) (first
          | (go_at_call 48; refine (hct.out _ _).mono ?_; rintro e w5 ⟨xo, xc, rfl, q1, q2, q3, q4⟩; have hc5 := (q4.cell (p := ⟨X1, i, none⟩) hX1).trans hc; have hf5 := frz_below q4 hX1 hf; have H5 := hide (And.intro q1 (And.intro q2 (And.intro q3 q4))); clear q1 q2 q3 q4))
        go_wp2
        refine bodyPost_end (v := .tuple #[]) (by simp [results, Tryz.results30, go_sem]) rfl ?_
        rw [HT.out, hdn]
        exact ⟨w5, xo, xc, rfl, by rw [show (X.take k ++ ([] : List Int)).length = k by simp; omega], H5.out⟩
end Go.Proofs.YtjjdbdkbpmbniabGreatDoor

/- Tear of both. -/
namespace Go.Proofs.YtjjdbdkbpmbniabGreatDoor
open Go.ChangeShapes Go.WideShapes Go.ChangeAt Go.RowKit
set_option linter.unusedVariables false
set_option linter.unusedSimpArgs false
set_option maxRecDepth 100000

/-- The slots behind a tear. -/
def trA (D : (p : Prop) → Decidable p) (A C X : List Int) (y : Int) : List Int := @ite (List Int) (X = [] ∨ Lat A C) (D _) A (trn A X y)
def trB (D : (p : Prop) → Decidable p) (A C X : List Int) (y : Int) : List Int := @ite (List Int) (X = [] ∨ ¬ Lat A C) (D _) C (trn C X y)
theorem trA_nil (A C : List Int) (y : Int) : (trA Classical.propDecidable) A C [] y = A := by unfold trA; rw [if_pos (.inl rfl)]
theorem trB_nil (A C : List Int) (y : Int) : (trB Classical.propDecidable) A C [] y = C := by unfold trB; rw [if_pos (.inl rfl)]
theorem trA_lat {A C X : List Int} {y : Int} (h : Lat A C) : (trA Classical.propDecidable) A C X y = A := by unfold trA; rw [if_pos (.inr h)]
theorem trB_lat {A C X : List Int} {y : Int} (h : Lat A C) (hX : X ≠ []) : (trB Classical.propDecidable) A C X y = trn C X y := by unfold trB; rw [if_neg (fun e => e.elim hX (fun e => e h))]
theorem trA_not {A C X : List Int} {y : Int} (h : ¬ Lat A C) (hX : X ≠ []) : (trA Classical.propDecidable) A C X y = trn A X y := by unfold trA; rw [if_neg (fun e => e.elim hX h)]
theorem trB_not {A C X : List Int} {y : Int} (h : ¬ Lat A C) : (trB Classical.propDecidable) A C X y = C := by unfold trB; rw [if_pos (.inr h)]
theorem trn_by {D X : List Int} {y : Int} (hD : By D) (hX : By X) : By (trn D X y) := by
  have h1 := tk_le y X.length
  refine by_of (by rw [trn_len]; have := hD.1; have := hX.1; omega) (fun z hz => ?_)
  have hm : ∀ {A : List Int}, By A → ∀ z ∈ A, 0 ≤ z ∧ z ≤ 255 := fun {A} h z hz => by
    obtain ⟨i, hi, rfl⟩ := List.getElem_of_mem hz
    have := h.2 i hi
    simpa [List.getD, hi] using this
  simp only [trn, List.mem_append] at hz
  rcases hz with hz | hz
  · exact hm hX z (List.mem_of_mem_take hz)
  · exact hm hD z (List.mem_of_mem_drop hz)
theorem trA_by {A C X : List Int} {y : Int} (hA : By A) (hX : By X) : By ((trA Classical.propDecidable) A C X y) := by unfold trA; split; exact hA; exact trn_by hA hX
theorem trB_by {A C X : List Int} {y : Int} (hC : By C) (hX : By X) : By ((trB Classical.propDecidable) A C X y) := by unfold trB; split; exact hC; exact trn_by hC hX

set_option maxHeartbeats 2000000 in
theorem tear_impl (aA aB : Option Addr) (cA cB : Nat) (A C : List Int) (go bo : Option Addr) (gc bc : Nat) (g : List Int) (n : Nat) (L : Nat → List Int) (fi ol he : Bool) (la y : Int) (w : World) (hy : -9223372036854775808 ≤ y ∧ y ≤ 9223372036854775807) (hg : ErrT w) (hA : VBy w aA cA A) (hB : VBy w aB cB C) (nA : NC aA cA) (nB : NC aB cB) (hd : Bd g n L) (hv : MV w go gc bo bc g n L) :
    Calls Tryz.prog 9 #[.agg #[.slice aA A.length cA, .slice aB C.length cB], .agg #[.slice go g.length gc, .slice bo n bc, .bool fi, .bool ol, .bool he, .int .i64 la], .int .i64 y] w fun e w' => PtOut w w' ((trA Classical.propDecidable) A C ((slm Classical.propDecidable) g n L fi ol he la ((sqv Classical.propDecidable) ((latL Classical.propDecidable) A C) + 1)) y) ((trB Classical.propDecidable) A C ((slm Classical.propDecidable) g n L fi ol he la ((sqv Classical.propDecidable) ((latL Classical.propDecidable) A C) + 1)) y) e := by
  obtain ⟨W, hW⟩ : ∃ W, W = (((w.alloc (.cells #[.slice aA A.length cA, .slice aB C.length cB] 31)).alloc (.cells #[.slice go g.length gc, .slice bo n bc, .bool fi, .bool ol, .bool he, .int .i64 la] 34)).alloc (.cells #[.slice none 0 0, .slice none 0 0] 31)) := ⟨_, rfl⟩
  have hk : PuK w W aA aB cA cB A C go gc bo bc g n L fi ol he la := by rw [hW]; exact puk_new w aA aB cA cB A C go gc bo bc g n L fi ol he la
  have hcall := hide (clones_impl aA aB cA cB A C W (hA.below hk.1) (hB.below hk.1) nA nB)
  have HK := hide hk
  have HG := hide hg
  have HBA := hide hA.by
  have HBB := hide hB.by
  have HD := hide hd
  have HV := hide hv
  clear hA hB hd hv hk nA nB hg
  have hq := sqv_bd ((latL Classical.propDecidable) A C)
  go_enter Tryz.func9, Tryz.ntmps9
  go_wp2_with fail
  rw [← hW]
  clear hW
  refine hcall.out.mono ?_
  rintro e w1 ⟨bA, bB, dA, dB, rfl, o1, b1, n1, n2⟩
  have bX := bal1 w1 (.cells #[.slice bA A.length dA, .slice bB C.length dB] 31)
  have H1 : Hid ((PuK w (w1.alloc (.cells #[.slice bA A.length dA, .slice bB C.length dB] 31)) aA aB cA cB A C go gc bo bc g n L fi ol he la) ∧ SB (w1.alloc (.cells #[.slice bA A.length dA, .slice bB C.length dB] 31)) w1.heap.size 31 bA A.length dA bB C.length dB ∧ OSl (w1.alloc (.cells #[.slice bA A.length dA, .slice bB C.length dB] 31)) W.heap.size w1.heap.size bA dA bB dB A C ∧ (w.heap.size + 1 + 1 + 1 ≤ W.heap.size ∧ W.heap.size ≤ w1.heap.size)) := ⟨(HK.out.b b1).b bX, SB.new w1 _ _ _ _ _ _ _, o1.below bX (Nat.le_refl _), HK.out.2.2.2.2, b1.size⟩
  have HN := hide (And.intro n1 n2)
  clear o1 b1 bX n1 n2 hcall HK
  go_wp2_with fail
  generalize w1.alloc (.cells #[.slice bA A.length dA, .slice bB C.length dB] 31) = W1 at *
  generalize w1.heap.size = X1 at *
  refine (latest_impl X1 bA bB dA dB A C W1 (HG.out.below H1.out.1.1) H1.out.2.1 (H1.out.2.2.1.va HBA.out) (H1.out.2.2.1.vb HBB.out)).mono ?_
  rintro e w2 ⟨rfl, b2⟩
  have hX1 := H1.out.2.1.lt
  have H2 : Hid ((PuK w w2 aA aB cA cB A C go gc bo bc g n L fi ol he la) ∧ SB w2 X1 31 bA A.length dA bB C.length dB ∧ OSl w2 W.heap.size X1 bA dA bB dB A C ∧ (w.heap.size + 1 + 1 + 1 ≤ W.heap.size ∧ W.heap.size ≤ X1)) := ⟨H1.out.1.b b2, H1.out.2.1.b b2, H1.out.2.2.1.below b2 (by omega), H1.out.2.2.2⟩
  have bd : Below w2.heap.size w2 w2.drew := Below.drawn (Below.refl _ _) 1
  have hX2 := H2.out.2.1.lt
  have H2d : Hid ((PuK w w2.drew aA aB cA cB A C go gc bo bc g n L fi ol he la) ∧ SB w2.drew X1 31 bA A.length dA bB C.length dB ∧ OSl w2.drew W.heap.size X1 bA dA bB dB A C ∧ (w.heap.size + 1 + 1 + 1 ≤ W.heap.size ∧ W.heap.size ≤ X1)) := ⟨H2.out.1.b bd, H2.out.2.1.b bd, H2.out.2.2.1.below bd (by omega), H2.out.2.2.2⟩
  clear b2 H1 hX1 H2
  obtain ⟨ao, cap, hc, hvl⟩ := lat_cell H2d.out.2.1 (H2d.out.2.2.1.va HBA.out) (H2d.out.2.2.1.vb HBB.out)
  have hnx := hide (next_impl ao cap ((latL Classical.propDecidable) A C) go bo gc bc g n L fi ol he la w2.drew (HG.out.below H2d.out.1.1) hvl HD.out (HV.out.below H2d.out.1.1))
  obtain ⟨X, hX⟩ : ∃ X, X = (slm Classical.propDecidable) g n L fi ol he la ((sqv Classical.propDecidable) ((latL Classical.propDecidable) A C) + 1) := ⟨_, rfl⟩
  rw [← hX] at hnx
  have HX := hide hX
  have hS := And.intro hc H2d.out.1.2.2.1.cells
  have hX4d : X1 < w2.drew.heap.size := hX2
  have HLC : Hid (∀ w', SB w' X1 31 bA A.length dA bB C.length dB → w'.cell? ⟨X1, (latN Classical.propDecidable) A C, none⟩ = some (.slice ao ((latL Classical.propDecidable) A C).length cap)) := fun w' h => by
    have h0 := H2d.out.2.1.cells
    by_cases hl : Lat A C
    · rw [latN_yes hl] at hc ⊢
      rw [h.cells.1, ← hc, h0.1]
    · rw [latN_no hl] at hc ⊢
      rw [h.cells.2, ← hc, h0.2]
  clear hX hvl bd hc
  go_wp2_with fail
  go_region_held3 (fun w' => w'.cell? ⟨X1, (latN Classical.propDecidable) A C, none⟩ = some (.slice ao ((latL Classical.propDecidable) A C).length cap) ∧ (w'.cell? ⟨w.heap.size + 1, 0, none⟩ = some (.slice go g.length gc) ∧ w'.cell? ⟨w.heap.size + 1, 1, none⟩ = some (.slice bo n bc) ∧ w'.cell? ⟨w.heap.size + 1, 2, none⟩ = some (.bool fi) ∧ w'.cell? ⟨w.heap.size + 1, 3, none⟩ = some (.bool ol) ∧ w'.cell? ⟨w.heap.size + 1, 4, none⟩ = some (.bool he) ∧ w'.cell? ⟨w.heap.size + 1, 5, none⟩ = some (.int .i64 la))) (first | with_reducible assumption | exact hS) (first
    | (go_at_call 29; refine hnx.out.mono ?_; rintro e w5 ⟨v5, rfl, ho5, b5⟩; obtain ⟨xo, xc, rfl, hxc, hr5⟩ := rb_owns ho5; have H5a : Hid ((PuK w w5 aA aB cA cB A C go gc bo bc g n L fi ol he la) ∧ SB w5 X1 31 bA A.length dA bB C.length dB ∧ OSl w5 W.heap.size X1 bA dA bB dB A C ∧ (w.heap.size + 1 + 1 + 1 ≤ W.heap.size ∧ W.heap.size ≤ X1)) := ⟨H2d.out.1.b b5, H2d.out.2.1.b b5, H2d.out.2.2.1.below b5 (by omega), H2d.out.2.2.2⟩; have hk5 := And.intro (HLC.out w5 H5a.out.2.1) H5a.out.1.2.2.1.cells; have hx5 : NC xo xc := nc_owns ho5; clear ho5 b5))
  have hX4 : X1 < w2.drew.heap.size := hX4d
  clear hS hk5 hnx H2d HLC
  by_cases hX0 : X.length = 0
  · have HE : Hid ((slm Classical.propDecidable) g n L fi ol he la ((sqv Classical.propDecidable) ((latL Classical.propDecidable) A C) + 1) = []) := by rw [← HX.out]; exact List.length_eq_zero_iff.1 hX0
    have hl0 : ¬ (0 : Int) < (X.length : Int) := by omega
    obtain ⟨o0, o1⟩ := H5a.out.2.1.cells
    obtain ⟨r0, r1⟩ := H5a.out.1.2.2.2.1.cells
    have rz := H5a.out.1.2.2.2.1.froz
    go_wp2
    refine bodyPost_ret (v := .agg #[.slice bA A.length dA, .slice bB C.length dB]) (by simp [results, Tryz.results9, go_sem, r0, r1]) rfl ?_
    exact (pu_end H5a.out.1 H5a.out.2.2.1 H5a.out.2.2.2.1 HN.out.1 HN.out.2).congr (by rw [HE.out, trA_nil]) (by rw [HE.out, trB_nil])
  · have HXn : Hid (X ≠ []) := fun e => hX0 (by rw [e]; rfl)
    have hl0 : (0 : Int) < (X.length : Int) := by omega
    have hXb : By X := by rw [HX.out]; exact slm_by _ _ _ _ _ _ _ _
    by_cases hl : Lat A C
    · skip
      have HLt := hide hl
      clear hl
      rw [latN_yes HLt.out]
      obtain ⟨o0, o1⟩ := H5a.out.2.1.cells
      have oz := H5a.out.2.1.froz
      have hvx : VBy w5 xo xc X := ⟨hr5.own.sl, hxc, hXb.1, hXb.2⟩
      have hwf := hide (wfirst_impl X1 1 bB xo dB xc C X y w5 (H5a.out.2.2.1.vb HBB.out) hvx (by omega) HN.out.2 hy o1 (oz 1))
      obtain ⟨T, hT⟩ : ∃ T, T = trn C X y := ⟨_, rfl⟩
      rw [← hT] at hwf
      have HTt := hide hT
      clear hT o0 o1 oz hvx
      go_wp2_with fail
      refine hwf.out.mono ?_
      rintro e w6' ⟨w6, to, tc, rfl, hw6, t1, t2, t3, b6⟩
      rw [hw6]
      have hX5 := H5a.out.2.1.lt
      have H6a : Hid ((PuK w w6 aA aB cA cB A C go gc bo bc g n L fi ol he la) ∧ SB w6 X1 31 bA A.length dA bB C.length dB ∧ OSl w6 W.heap.size X1 bA dA bB dB A C ∧ (w.heap.size + 1 + 1 + 1 ≤ W.heap.size ∧ W.heap.size ≤ X1)) := ⟨H5a.out.1.b b6, H5a.out.2.1.b b6, H5a.out.2.2.1.below b6 (by omega), H5a.out.2.2.2⟩
      have HO5 := hide (osl_put1 H6a.out.2.2.1 t3 t1 (Nat.le_of_lt hX5))
      have HK5 : Hid (PuK w (w6.setCell ⟨X1, 1, none⟩ (.slice to T.length tc)) aA aB cA cB A C go gc bo bc g n L fi ol he la) := H6a.out.1.set (by have := H6a.out.2.2.2; omega)
      have hS6 := H6a.out.2.1.set1 (a' := to) (n' := T.length) (c' := tc)
      obtain ⟨r0, r1⟩ := HK5.out.2.2.2.1.cells
      have rz := HK5.out.2.2.2.1.froz
      obtain ⟨s0, s1⟩ := hS6.cells
      have hB5 := H6a.out.2.2.2.1
      have hF : Hid (OSl (w6.setCell ⟨X1, 1, none⟩ (.slice to T.length tc)) W.heap.size w6.heap.size bA dA to tc A T) := HO5.out.tyfar H6a.out.2.1
      generalize w6.setCell ⟨X1, 1, none⟩ (.slice to T.length tc) = W6 at *
      clear hr5 hS6 t1 t3 b6 hw6 hwf
      go_wp2
      refine bodyPost_ret (v := .agg #[.slice bA A.length dA, .slice to T.length tc]) (by simp [results, Tryz.results9, go_sem, r0, r1]) rfl ?_
      rw [← HX.out]
      exact (pu_end HK5.out hF.out hB5 HN.out.1 t2).congr (by rw [trA_lat HLt.out]) (by rw [trB_lat HLt.out HXn.out, ← HTt.out])
    · skip
      have HLt := hide hl
      clear hl
      rw [latN_no HLt.out]
      obtain ⟨o0, o1⟩ := H5a.out.2.1.cells
      have oz := H5a.out.2.1.froz
      have hvx : VBy w5 xo xc X := ⟨hr5.own.sl, hxc, hXb.1, hXb.2⟩
      have hwf := hide (wfirst_impl X1 0 bA xo dA xc A X y w5 (H5a.out.2.2.1.va HBA.out) hvx (by omega) HN.out.1 hy o0 (oz 0))
      obtain ⟨T, hT⟩ : ∃ T, T = trn A X y := ⟨_, rfl⟩
      rw [← hT] at hwf
      have HTt := hide hT
      clear hT o0 o1 oz hvx
      go_wp2_with fail
      refine hwf.out.mono ?_
      rintro e w6' ⟨w6, to, tc, rfl, hw6, t1, t2, t3, b6⟩
      rw [hw6]
      have hX5 := H5a.out.2.1.lt
      have H6a : Hid ((PuK w w6 aA aB cA cB A C go gc bo bc g n L fi ol he la) ∧ SB w6 X1 31 bA A.length dA bB C.length dB ∧ OSl w6 W.heap.size X1 bA dA bB dB A C ∧ (w.heap.size + 1 + 1 + 1 ≤ W.heap.size ∧ W.heap.size ≤ X1)) := ⟨H5a.out.1.b b6, H5a.out.2.1.b b6, H5a.out.2.2.1.below b6 (by omega), H5a.out.2.2.2⟩
      have HO5 := hide (osl_put0 H6a.out.2.2.1 t3 t1 (Nat.le_of_lt hX5))
      have HK5 : Hid (PuK w (w6.setCell ⟨X1, 0, none⟩ (.slice to T.length tc)) aA aB cA cB A C go gc bo bc g n L fi ol he la) := H6a.out.1.set (by have := H6a.out.2.2.2; omega)
      have hS6 := H6a.out.2.1.set0 (a' := to) (n' := T.length) (c' := tc)
      obtain ⟨r0, r1⟩ := HK5.out.2.2.2.1.cells
      have rz := HK5.out.2.2.2.1.froz
      obtain ⟨s0, s1⟩ := hS6.cells
      have hB5 := H6a.out.2.2.2.1
      have hF : Hid (OSl (w6.setCell ⟨X1, 0, none⟩ (.slice to T.length tc)) W.heap.size w6.heap.size to tc bB dB T C) := HO5.out.tyfar H6a.out.2.1
      generalize w6.setCell ⟨X1, 0, none⟩ (.slice to T.length tc) = W6 at *
      clear hr5 hS6 t1 t3 b6 hw6 hwf
      go_wp2
      refine bodyPost_ret (v := .agg #[.slice to T.length tc, .slice bB C.length dB]) (by simp [results, Tryz.results9, go_sem, r0, r1]) rfl ?_
      rw [← HX.out]
      exact (pu_end HK5.out hF.out hB5 t2 HN.out.2).congr (by rw [trA_not HLt.out HXn.out, ← HTt.out]) (by rw [trB_not HLt.out])
end Go.Proofs.YtjjdbdkbpmbniabGreatDoor

/- Tear of the model. -/
namespace Go.Proofs.YtjjdbdkbpmbniabGreatDoor
open Go.ChangeShapes Go.WideShapes Go.ChangeAt Go.RowKit
set_option linter.unusedVariables false
set_option linter.unusedSimpArgs false
set_option maxRecDepth 100000

set_option maxHeartbeats 2000000 in
theorem tear_spec (aA aB : Option Addr) (cA cB : Nat) (A C : List Int) (go bo : Option Addr) (gc bc : Nat) (g : List Int) (n : Nat) (L : Nat → List Int) (fi ol he : Bool) (la y : Int) (w : World) (hA : VBy w aA cA A) (hB : VBy w aB cB C) (nA : NC aA cA) (nB : NC aB cB) (hd : Bd g n L) (hv : MV w go gc bo bc g n L) :
    Calls Tryz.prog 6 #[.agg #[.slice aA A.length cA, .slice aB C.length cB], .agg #[.slice go g.length gc, .slice bo n bc, .bool fi, .bool ol, .bool he, .int .i64 la], .int .i64 y] w fun e w' => PtOut w w' ((trA Classical.propDecidable) A C ((slm Classical.propDecidable) g n L fi ol he la ((sqv Classical.propDecidable) ((latL Classical.propDecidable) A C) + 1)) y) ((trB Classical.propDecidable) A C ((slm Classical.propDecidable) g n L fi ol he la ((sqv Classical.propDecidable) ((latL Classical.propDecidable) A C) + 1)) y) e := by
  obtain ⟨W, hW⟩ : ∃ W, W = (((w.alloc (.cells #[.slice aA A.length cA, .slice aB C.length cB] 31)).alloc (.cells #[.slice go g.length gc, .slice bo n bc, .bool fi, .bool ol, .bool he, .int .i64 la] 34)).alloc (.cells #[.slice none 0 0, .slice none 0 0] 31)) := ⟨_, rfl⟩
  have hk : PuK w W aA aB cA cB A C go gc bo bc g n L fi ol he la := by rw [hW]; exact puk_new w aA aB cA cB A C go gc bo bc g n L fi ol he la
  have hcall := hide (copys_spec aA aB cA cB A C W (hA.below hk.1) (hB.below hk.1) nA nB)
  have HK := hide hk
  have HVA := hide hA
  have HVB := hide hB
  have HD := hide hd
  have HV := hide hv
  have HNA := hide nA
  have HNB := hide nB
  clear hA hB hd hv hk nA nB
  have hq := sqv_bd ((latL Classical.propDecidable) A C)
  go_enter Tryz.func6, Tryz.ntmps6
  go_wp2_with fail
  rw [← hW]
  clear hW
  refine hcall.out.mono ?_
  rintro e w1 ⟨bA, bB, dA, dB, rfl, o1, b1, n1, n2⟩
  have bX := bal1 w1 (.cells #[.slice bA A.length dA, .slice bB C.length dB] 31)
  have H1 : Hid ((PuK w (w1.alloc (.cells #[.slice bA A.length dA, .slice bB C.length dB] 31)) aA aB cA cB A C go gc bo bc g n L fi ol he la) ∧ SB (w1.alloc (.cells #[.slice bA A.length dA, .slice bB C.length dB] 31)) w1.heap.size 31 bA A.length dA bB C.length dB ∧ OSl (w1.alloc (.cells #[.slice bA A.length dA, .slice bB C.length dB] 31)) W.heap.size w1.heap.size bA dA bB dB A C ∧ (w.heap.size + 1 + 1 + 1 ≤ W.heap.size ∧ W.heap.size ≤ w1.heap.size)) := ⟨(HK.out.b b1).b bX, SB.new w1 _ _ _ _ _ _ _, o1.below bX (Nat.le_refl _), HK.out.2.2.2.2, b1.size⟩
  have HN := hide (And.intro n1 n2)
  obtain ⟨p0, p1⟩ := H1.out.1.2.1.cells
  clear o1 b1 bX n1 n2 hcall HK
  obtain ⟨m0, m1, m2, m3, m4, m5⟩ := H1.out.1.2.2.1.cells
  go_wp2_with fail
  generalize w1.alloc (.cells #[.slice bA A.length dA, .slice bB C.length dB] 31) = W1 at *
  generalize w1.heap.size = X1 at *
  clear m0 m1 m2 m3 m4 m5
  refine (slotput_spec aA aB cA cB A C go bo gc bc g n L fi ol he la W1 (HVA.out.below H1.out.1.1) (HVB.out.below H1.out.1.1) HNA.out HNB.out HD.out (HV.out.below H1.out.1.1)).mono ?_
  rintro e wn ⟨nA1, nB1, cA1, cB1, rfl, on, bn, _, _⟩
  have hXb := slm_by g n L fi ol he la ((sqv Classical.propDecidable) ((latL Classical.propDecidable) A C) + 1)
  have bN := bal1 wn (.cells #[.slice nA1 ((ptA Classical.propDecidable) A C ((slm Classical.propDecidable) g n L fi ol he la ((sqv Classical.propDecidable) ((latL Classical.propDecidable) A C) + 1))).length cA1, .slice nB1 ((ptB Classical.propDecidable) A C ((slm Classical.propDecidable) g n L fi ol he la ((sqv Classical.propDecidable) ((latL Classical.propDecidable) A C) + 1))).length cB1] 31)
  have hX1w := H1.out.2.1.lt
  have bn' : Below W1.heap.size W1 (wn.alloc (.cells #[.slice nA1 ((ptA Classical.propDecidable) A C ((slm Classical.propDecidable) g n L fi ol he la ((sqv Classical.propDecidable) ((latL Classical.propDecidable) A C) + 1))).length cA1, .slice nB1 ((ptB Classical.propDecidable) A C ((slm Classical.propDecidable) g n L fi ol he la ((sqv Classical.propDecidable) ((latL Classical.propDecidable) A C) + 1))).length cB1] 31)) := bn.trans (bN.mono bn.size)
  have HNW : Hid (SB (wn.alloc (.cells #[.slice nA1 ((ptA Classical.propDecidable) A C ((slm Classical.propDecidable) g n L fi ol he la ((sqv Classical.propDecidable) ((latL Classical.propDecidable) A C) + 1))).length cA1, .slice nB1 ((ptB Classical.propDecidable) A C ((slm Classical.propDecidable) g n L fi ol he la ((sqv Classical.propDecidable) ((latL Classical.propDecidable) A C) + 1))).length cB1] 31)) wn.heap.size 31 nA1 ((ptA Classical.propDecidable) A C ((slm Classical.propDecidable) g n L fi ol he la ((sqv Classical.propDecidable) ((latL Classical.propDecidable) A C) + 1))).length cA1 nB1 ((ptB Classical.propDecidable) A C ((slm Classical.propDecidable) g n L fi ol he la ((sqv Classical.propDecidable) ((latL Classical.propDecidable) A C) + 1))).length cB1 ∧ VBy (wn.alloc (.cells #[.slice nA1 ((ptA Classical.propDecidable) A C ((slm Classical.propDecidable) g n L fi ol he la ((sqv Classical.propDecidable) ((latL Classical.propDecidable) A C) + 1))).length cA1, .slice nB1 ((ptB Classical.propDecidable) A C ((slm Classical.propDecidable) g n L fi ol he la ((sqv Classical.propDecidable) ((latL Classical.propDecidable) A C) + 1))).length cB1] 31)) nA1 cA1 ((ptA Classical.propDecidable) A C ((slm Classical.propDecidable) g n L fi ol he la ((sqv Classical.propDecidable) ((latL Classical.propDecidable) A C) + 1))) ∧ VBy (wn.alloc (.cells #[.slice nA1 ((ptA Classical.propDecidable) A C ((slm Classical.propDecidable) g n L fi ol he la ((sqv Classical.propDecidable) ((latL Classical.propDecidable) A C) + 1))).length cA1, .slice nB1 ((ptB Classical.propDecidable) A C ((slm Classical.propDecidable) g n L fi ol he la ((sqv Classical.propDecidable) ((latL Classical.propDecidable) A C) + 1))).length cB1] 31)) nB1 cB1 ((ptB Classical.propDecidable) A C ((slm Classical.propDecidable) g n L fi ol he la ((sqv Classical.propDecidable) ((latL Classical.propDecidable) A C) + 1)))) := ⟨SB.new wn _ _ _ _ _ _ _, (on.va (ptA_by HVA.out.by hXb)).below bN, (on.vb (ptB_by HVB.out.by hXb)).below bN⟩
  have H1n : Hid (PuK w (wn.alloc (.cells #[.slice nA1 ((ptA Classical.propDecidable) A C ((slm Classical.propDecidable) g n L fi ol he la ((sqv Classical.propDecidable) ((latL Classical.propDecidable) A C) + 1))).length cA1, .slice nB1 ((ptB Classical.propDecidable) A C ((slm Classical.propDecidable) g n L fi ol he la ((sqv Classical.propDecidable) ((latL Classical.propDecidable) A C) + 1))).length cB1] 31)) aA aB cA cB A C go gc bo bc g n L fi ol he la ∧ SB (wn.alloc (.cells #[.slice nA1 ((ptA Classical.propDecidable) A C ((slm Classical.propDecidable) g n L fi ol he la ((sqv Classical.propDecidable) ((latL Classical.propDecidable) A C) + 1))).length cA1, .slice nB1 ((ptB Classical.propDecidable) A C ((slm Classical.propDecidable) g n L fi ol he la ((sqv Classical.propDecidable) ((latL Classical.propDecidable) A C) + 1))).length cB1] 31)) X1 31 bA A.length dA bB C.length dB ∧ OSl (wn.alloc (.cells #[.slice nA1 ((ptA Classical.propDecidable) A C ((slm Classical.propDecidable) g n L fi ol he la ((sqv Classical.propDecidable) ((latL Classical.propDecidable) A C) + 1))).length cA1, .slice nB1 ((ptB Classical.propDecidable) A C ((slm Classical.propDecidable) g n L fi ol he la ((sqv Classical.propDecidable) ((latL Classical.propDecidable) A C) + 1))).length cB1] 31)) W.heap.size X1 bA dA bB dB A C ∧ (w.heap.size + 1 + 1 + 1 ≤ W.heap.size ∧ W.heap.size ≤ X1)) := ⟨H1.out.1.b bn', H1.out.2.1.b bn', H1.out.2.2.1.below bn' (by omega), H1.out.2.2.2⟩
  obtain ⟨p0, p1⟩ := ((H1.out.1.2.1).b bn).cells
  have hwn : w.heap.size < wn.heap.size := ((H1.out.1.2.1).b bn).lt
  have hwnn : ¬ w.heap.size = wn.heap.size := by omega
  clear on bn bn' bN H1 hX1w hXb
  go_wp2_with fail
  generalize wn.alloc (.cells #[.slice nA1 ((ptA Classical.propDecidable) A C ((slm Classical.propDecidable) g n L fi ol he la ((sqv Classical.propDecidable) ((latL Classical.propDecidable) A C) + 1))).length cA1, .slice nB1 ((ptB Classical.propDecidable) A C ((slm Classical.propDecidable) g n L fi ol he la ((sqv Classical.propDecidable) ((latL Classical.propDecidable) A C) + 1))).length cB1] 31) = Wn at *
  generalize wn.heap.size = XN at *
  have H1 := H1n
  have W1e : True := trivial
  refine (slotget_spec aA aB cA cB A C Wn (HVA.out.below H1.out.1.1) (HVB.out.below H1.out.1.1)).mono ?_
  rintro e w2 h2
  obtain ⟨a1, a2, l1, k1, l2, k2, t1, t2, t3, t4, x5, rfl, b2⟩ := h2.tell
  have bY := bal1 w2 (.cells #[.slice a1 l1 k1, .slice a2 l2 k2, .bool t1, .bool t2, .bool t3, .int .i64 x5] 34)
  have b2' : Below Wn.heap.size Wn (w2.alloc (.cells #[.slice a1 l1 k1, .slice a2 l2 k2, .bool t1, .bool t2, .bool t3, .int .i64 x5] 34)) := b2.trans (bY.mono b2.size)
  have hX1 := H1.out.2.1.lt
  have H2 : Hid ((PuK w (w2.alloc (.cells #[.slice a1 l1 k1, .slice a2 l2 k2, .bool t1, .bool t2, .bool t3, .int .i64 x5] 34)) aA aB cA cB A C go gc bo bc g n L fi ol he la) ∧ SB (w2.alloc (.cells #[.slice a1 l1 k1, .slice a2 l2 k2, .bool t1, .bool t2, .bool t3, .int .i64 x5] 34)) X1 31 bA A.length dA bB C.length dB ∧ OSl (w2.alloc (.cells #[.slice a1 l1 k1, .slice a2 l2 k2, .bool t1, .bool t2, .bool t3, .int .i64 x5] 34)) W.heap.size X1 bA dA bB dB A C ∧ (w.heap.size + 1 + 1 + 1 ≤ W.heap.size ∧ W.heap.size ≤ X1)) := ⟨H1.out.1.b b2', H1.out.2.1.b b2', H1.out.2.2.1.below b2' (by omega), H1.out.2.2.2⟩
  have hmk := hide (mtok_spec go bo gc bc g n L fi ol he la _ HD.out (HV.out.below H2.out.1.1))
  obtain ⟨m0, m1, m2, m3, m4, m5⟩ := H2.out.1.2.2.1.cells
  have HN2 := hide b2'
  clear b2 bY b2' H1 h2 hX1 p0 p1
  have HXq : Hid (∃ z, z = (sqv Classical.propDecidable) ((latL Classical.propDecidable) A C)) := ⟨_, rfl⟩
  obtain ⟨z, hz⟩ := HXq.out
  rw [← hz] at hq ⊢
  have HZ := hide hz
  clear hz
  go_wp2_with fail
  generalize (w2.alloc (.cells #[.slice a1 l1 k1, .slice a2 l2 k2, .bool t1, .bool t2, .bool t3, .int .i64 x5] 34)) = W2 at *
  refine hmk.out.mono ?_
  rintro e w3 ⟨h3, b3⟩
  have HN3 := hide (HN2.out.trans (b3.mono HN2.out.size))
  have hX2 := H2.out.2.1.lt
  have H3 : Hid ((PuK w w3 aA aB cA cB A C go gc bo bc g n L fi ol he la) ∧ SB w3 X1 31 bA A.length dA bB C.length dB ∧ OSl w3 W.heap.size X1 bA dA bB dB A C ∧ (w.heap.size + 1 + 1 + 1 ≤ W.heap.size ∧ W.heap.size ≤ X1)) := ⟨H2.out.1.b b3, H2.out.2.1.b b3, H2.out.2.2.1.below b3 (by omega), H2.out.2.2.2⟩
  clear b3 H2 hmk m0 m1 m2 m3 m4 m5 hX2
  rcases h3 with ⟨hok, rfl⟩ | ⟨hok, rfl⟩
  case inr =>
    have HE : Hid ((slm Classical.propDecidable) g n L fi ol he la ((sqv Classical.propDecidable) ((latL Classical.propDecidable) A C) + 1) = []) := slm_no (fun h => hok h.1)
    clear hok
    obtain ⟨o0, o1⟩ := H3.out.2.1.cells
    obtain ⟨r0, r1⟩ := H3.out.1.2.2.2.1.cells
    have rz := H3.out.1.2.2.2.1.froz
    go_wp2
    refine bodyPost_ret (v := .agg #[.slice bA A.length dA, .slice bB C.length dB]) (by simp [results, Tryz.results6, go_sem, r0, r1]) rfl ?_
    exact (pu_end H3.out.1 H3.out.2.2.1 H3.out.2.2.2.1 HN.out.1 HN.out.2).congr (by rw [HE.out, trA_nil]) (by rw [HE.out, trB_nil])
  by_cases hmx : (1000000 : Int) ≤ z
  case pos =>
    have HE : Hid ((slm Classical.propDecidable) g n L fi ol he la ((sqv Classical.propDecidable) ((latL Classical.propDecidable) A C) + 1) = []) := slm_no (fun h => by have := h.2; rw [← HZ.out] at this; omega)
    obtain ⟨o0, o1⟩ := H3.out.2.1.cells
    obtain ⟨r0, r1⟩ := H3.out.1.2.2.2.1.cells
    have rz := H3.out.1.2.2.2.1.froz
    go_wp2
    refine bodyPost_ret (v := .agg #[.slice bA A.length dA, .slice bB C.length dB]) (by simp [results, Tryz.results6, go_sem, r0, r1]) rfl ?_
    exact (pu_end H3.out.1 H3.out.2.2.1 H3.out.2.2.2.1 HN.out.1 HN.out.2).congr (by rw [HE.out, trA_nil]) (by rw [HE.out, trB_nil])
  obtain ⟨p0, p1⟩ := H3.out.1.2.1.cells
  go_wp2_with fail
  refine (which_spec aA aB cA cB A C w3 (HVA.out.below H3.out.1.1) (HVB.out.below H3.out.1.1)).mono ?_
  rintro e w4 ⟨x, rfl, hx, b4⟩
  have HN4 := hide (HN3.out.trans (b4.mono HN3.out.size))
  have hX3 := H3.out.2.1.lt
  have H4 : Hid ((PuK w w4 aA aB cA cB A C go gc bo bc g n L fi ol he la) ∧ SB w4 X1 31 bA A.length dA bB C.length dB ∧ OSl w4 W.heap.size X1 bA dA bB dB A C ∧ (w.heap.size + 1 + 1 + 1 ≤ W.heap.size ∧ W.heap.size ≤ X1)) := ⟨H3.out.1.b b4, H3.out.2.1.b b4, H3.out.2.2.1.below b4 (by omega), H3.out.2.2.2⟩
  clear b4 H3 p0 p1 hX3
  have hxl : (Lat A C ∧ x = 0) ∨ (¬ Lat A C ∧ ¬ x = 0) := by
    rcases hx with ⟨h, e⟩ | ⟨h, _, e⟩ | ⟨h1, h2, e⟩
    · exact .inl ⟨h, e⟩
    · exact .inr ⟨h, by omega⟩
    · exact .inr ⟨wh_no h1 h2, by omega⟩
  clear hx
  rcases hxl with ⟨hl, rfl⟩ | ⟨hl, hx0⟩
  · skip
    have HLt := hide hl
    clear hl
    obtain ⟨X, hX⟩ : ∃ X, X = (slm Classical.propDecidable) g n L fi ol he la ((sqv Classical.propDecidable) ((latL Classical.propDecidable) A C) + 1) := ⟨_, rfl⟩
    have HXn : Hid (X ≠ []) := by rw [hX, ← HZ.out]; exact slm_ne hok ⟨by omega, by omega⟩
    have hXp : 0 < X.length := List.length_pos_iff.2 HXn.out
    have HNW4 : Hid (SB w4 XN 31 nA1 ((ptA Classical.propDecidable) A C X).length cA1 nB1 X.length cB1 ∧ VBy w4 nB1 cB1 X) := by
      have h1 := HNW.out.1.b HN4.out
      have h2 := HNW.out.2.2.below HN4.out
      rw [← hX] at h1 h2
      rw [ptB_lat HLt.out HXn.out] at h1 h2
      exact ⟨h1, h2⟩
    have HX := hide hX
    obtain ⟨n0, n1⟩ := HNW4.out.1.cells
    obtain ⟨p0, p1⟩ := H4.out.1.2.1.cells
    have htn := hide (torn_spec aB nB1 cB cB1 C X y w4 (HVB.out.below H4.out.1.1) HNW4.out.2 hXp)
    obtain ⟨T, hT⟩ : ∃ T, T = trn C X y := ⟨_, rfl⟩
    rw [← hT] at htn
    have HTt := hide hT
    clear hX hT
    go_wp2_with fail
    refine htn.out.mono ?_
    rintro e w5 ⟨v5, rfl, ho5, b5⟩
    obtain ⟨to, tc, rfl, hxc, hr5⟩ := rb_owns ho5
    have hx5 : NC to tc := nc_owns ho5
    have hX4 := H4.out.2.1.lt
    have H5a : Hid ((PuK w w5 aA aB cA cB A C go gc bo bc g n L fi ol he la) ∧ SB w5 X1 31 bA A.length dA bB C.length dB ∧ OSl w5 W.heap.size X1 bA dA bB dB A C ∧ (w.heap.size + 1 + 1 + 1 ≤ W.heap.size ∧ W.heap.size ≤ X1)) := ⟨H4.out.1.b b5, H4.out.2.1.b b5, H4.out.2.2.1.below b5 (by omega), H4.out.2.2.2⟩
    have HO5 := hide (osl_put1 H5a.out.2.2.1 hr5 hxc (Nat.le_of_lt hX4))
    obtain ⟨o0, o1⟩ := H5a.out.2.1.cells
    have oz := H5a.out.2.1.froz
    have HK5 : Hid (PuK w (w5.setCell ⟨X1, 1, none⟩ (.slice to T.length tc)) aA aB cA cB A C go gc bo bc g n L fi ol he la) := H5a.out.1.set (by have := H5a.out.2.2.2; omega)
    have hS6 := H5a.out.2.1.set1 (a' := to) (n' := T.length) (c' := tc)
    obtain ⟨r0, r1⟩ := HK5.out.2.2.2.1.cells
    have rz := HK5.out.2.2.2.1.froz
    obtain ⟨s0, s1⟩ := hS6.cells
    have hB5 := H5a.out.2.2.2.1
    clear ho5 b5 hr5 htn hS6 n0 n1 p0 p1
    go_wp2
    refine bodyPost_ret (v := .agg #[.slice bA A.length dA, .slice to T.length tc]) (by simp [results, Tryz.results6, go_sem, r0, r1]) rfl ?_
    rw [← HX.out]
    have hF : OSl (w5.setCell ⟨X1, 1, none⟩ (.slice to T.length tc)) W.heap.size w5.heap.size bA dA to tc A T := HO5.out.tyfar H5a.out.2.1
    exact (pu_end HK5.out hF hB5 HN.out.1 hx5).congr (by rw [trA_lat HLt.out]) (by rw [trB_lat HLt.out HXn.out, ← HTt.out])
  · skip
    have HLt := hide hl
    clear hl
    obtain ⟨X, hX⟩ : ∃ X, X = (slm Classical.propDecidable) g n L fi ol he la ((sqv Classical.propDecidable) ((latL Classical.propDecidable) A C) + 1) := ⟨_, rfl⟩
    have HXn : Hid (X ≠ []) := by rw [hX, ← HZ.out]; exact slm_ne hok ⟨by omega, by omega⟩
    have hXp : 0 < X.length := List.length_pos_iff.2 HXn.out
    have HNW4 : Hid (SB w4 XN 31 nA1 X.length cA1 nB1 ((ptB Classical.propDecidable) A C X).length cB1 ∧ VBy w4 nA1 cA1 X) := by
      have h1 := HNW.out.1.b HN4.out
      have h2 := HNW.out.2.1.below HN4.out
      rw [← hX] at h1 h2
      rw [ptA_not HLt.out HXn.out] at h1 h2
      exact ⟨h1, h2⟩
    have HX := hide hX
    obtain ⟨n0, n1⟩ := HNW4.out.1.cells
    obtain ⟨p0, p1⟩ := H4.out.1.2.1.cells
    have htn := hide (torn_spec aA nA1 cA cA1 A X y w4 (HVA.out.below H4.out.1.1) HNW4.out.2 hXp)
    obtain ⟨T, hT⟩ : ∃ T, T = trn A X y := ⟨_, rfl⟩
    rw [← hT] at htn
    have HTt := hide hT
    clear hX hT
    go_wp2_with fail
    refine htn.out.mono ?_
    rintro e w5 ⟨v5, rfl, ho5, b5⟩
    obtain ⟨to, tc, rfl, hxc, hr5⟩ := rb_owns ho5
    have hx5 : NC to tc := nc_owns ho5
    have hX4 := H4.out.2.1.lt
    have H5a : Hid ((PuK w w5 aA aB cA cB A C go gc bo bc g n L fi ol he la) ∧ SB w5 X1 31 bA A.length dA bB C.length dB ∧ OSl w5 W.heap.size X1 bA dA bB dB A C ∧ (w.heap.size + 1 + 1 + 1 ≤ W.heap.size ∧ W.heap.size ≤ X1)) := ⟨H4.out.1.b b5, H4.out.2.1.b b5, H4.out.2.2.1.below b5 (by omega), H4.out.2.2.2⟩
    have HO5 := hide (osl_put0 H5a.out.2.2.1 hr5 hxc (Nat.le_of_lt hX4))
    obtain ⟨o0, o1⟩ := H5a.out.2.1.cells
    have oz := H5a.out.2.1.froz
    have HK5 : Hid (PuK w (w5.setCell ⟨X1, 0, none⟩ (.slice to T.length tc)) aA aB cA cB A C go gc bo bc g n L fi ol he la) := H5a.out.1.set (by have := H5a.out.2.2.2; omega)
    have hS6 := H5a.out.2.1.set0 (a' := to) (n' := T.length) (c' := tc)
    obtain ⟨r0, r1⟩ := HK5.out.2.2.2.1.cells
    have rz := HK5.out.2.2.2.1.froz
    obtain ⟨s0, s1⟩ := hS6.cells
    have hB5 := H5a.out.2.2.2.1
    clear ho5 b5 hr5 htn hS6 n0 n1 p0 p1
    go_wp2
    refine bodyPost_ret (v := .agg #[.slice to T.length tc, .slice bB C.length dB]) (by simp [results, Tryz.results6, go_sem, r0, r1]) rfl ?_
    rw [← HX.out]
    have hF : OSl (w5.setCell ⟨X1, 0, none⟩ (.slice to T.length tc)) W.heap.size w5.heap.size to tc bB dB T C := HO5.out.tyfar H5a.out.2.1
    exact (pu_end HK5.out hF hB5 hx5 HN.out.2).congr (by rw [trA_not HLt.out HXn.out, ← HTt.out]) (by rw [trB_not HLt.out])
end Go.Proofs.YtjjdbdkbpmbniabGreatDoor

/- What is known, read from its bytes, of the program. -/
import Derived.Test.YtkndnndildnbpaaGreatDoorGj
import Derived.Test.YtkndnndildnbpaaGreatDoorMtOS3Z
import Derived.Test.YtkndnndildnbpaaGreatDoorMtBIZ

namespace Go.Proofs.YtkndnndildnbpaaGreatDoor
open Go.ChangeShapes Go.WideShapes Go.ChangeAt Go.RowKit
set_option linter.unusedVariables false
set_option linter.unusedSimpArgs false
set_option maxRecDepth 100000

theorem has_pos {n : Nat} {f : Nat → Int} {R : List Int} (l : List Int) (hl : ∀ x ∈ l, 0 ≤ x ∧ x ≤ 2147483647) : ∀ {a : Nat}, Has n f a (nums l ++ R) → sts n f (some (a : Int)) l.length = some ((a + (nums l).length : Nat) : Int) := by
  induction l with
  | nil => intro a _; simp [sts, nums]
  | cons x l ih =>
    intro a h
    rw [nums_cons, List.append_assoc] at h
    obtain ⟨h0, h1⟩ := hl x (by simp)
    obtain ⟨g, hr⟩ := h.num h0 h1
    have e1 : nx n f (some (a : Int)) = some ((a + (pb 4 x).length : Nat) : Int) := by simp only [nx, g, Option.map_some]
    rw [List.length_cons, sts_succ, e1, ih (fun y hy => hl y (by simp [hy])) hr, nums_cons, List.length_append]
    congr 1
    omega
theorem end_none {n : Nat} {f : Nat → Int} {c : Nat} (h : sts n f (some 0) c = some (n : Int)) : sts n f (some 0) (c + 1) = none := by
  show nx n f (sts n f (some 0) c) = none
  rw [h]
  simp only [nx]
  cases hr : rdI n f (n : Int) with
  | none => rfl
  | some xy => obtain ⟨x, y⟩ := xy; have := rdI_pos hr; omega
theorem end_one {n : Nat} {f : Nat → Int} {c c' : Nat} (h : sts n f (some 0) c = some (n : Int)) (h' : sts n f (some 0) c' = some (n : Int)) : c = c' := by
  by_cases h1 : c < c'
  · rw [kts_le n f (some 0) (c + 1) c' (end_none h) (by omega)] at h'; cases h'
  · by_cases h2 : c' < c
    · rw [kts_le n f (some 0) (c' + 1) c (end_none h') (by omega)] at h; cases h
    · omega
theorem mtis_all {n c : Nat} {f : Nat → Int} {g : List Int} {L : Nat → List Int} {fi ol he : Bool} {la : Int} (h : MtIs ((List.range n).map f) g L fi ol he la) (hc : sts n f (some 0) c = some (n : Int)) : rdl n f 0 c = lsq g ++ (catl L 3 ++ [flg fi ol he, la]) := by
  have hlen : (nums (mseq g L fi ol he la)).length = n := by rw [h.2]; simp
  have hh : Has n f 0 (nums (mseq g L fi ol he la) ++ []) := by
    rw [List.append_nil, h.2]
    refine ⟨by simp, fun i hi => ?_⟩
    have hi' : i < n := by simpa using hi
    simp [List.getD, hi']
  have hp := has_pos _ (mseq_mem h.1) hh
  rw [Nat.zero_add, hlen] at hp
  have hcc := end_one hc hp
  obtain ⟨_, i2, _⟩ := hh.nums _ (mseq_mem h.1)
  have e : rdl n f 0 c = mseq g L fi ol he la := by
    rw [hcc]
    refine List.ext_getElem? fun j => ?_
    by_cases hj : j < (mseq g L fi ol he la).length
    · have := i2 j hj
      rw [show ((0 : Nat) : Int) = 0 from rfl] at this
      simp only [rdl, List.getElem?_map, List.getElem?_range hj, Option.map_some, this, List.getD, List.getElem?_eq_getElem hj, Option.getD_some]
    · rw [List.getElem?_eq_none (by rw [rdl_len]; omega), List.getElem?_eq_none (by omega)]
  rw [e, mseq_eq]
  simp [catl]

set_option maxHeartbeats 1000000 in
theorem mtof_impl (ao : Option Addr) (n cap : Nat) (f : Nat → Int) (w : World) (hn : n ≤ 1048576) (hs : SL .u8 w ao n f) (hf : ∀ i, i < n → 0 ≤ f i ∧ f i ≤ 255) :
    Calls Tryz.prog 257 #[.slice ao n cap] w fun e w' => MtOut w w' ((List.range n).map f) e := by
  obtain ⟨W, hW⟩ : ∃ W, W = w.alloc (.cells #[.slice none 0 0, .slice none 0 0, .bool false, .bool false, .bool false, .int .i64 0] 25) := ⟨_, rfl⟩
  have hB : Below w.heap.size w W := by rw [hW]; exact bal1 _ _
  have hK : KB W w.heap.size 25 none 0 0 none 0 0 false false false 0 := by rw [hW]; exact KB.new w _ _ _ _ _ _ _ _ _ _ _
  have hcall := hide (allnums_impl ao n cap f W hn (hs.below hB) hf)
  have HB := hide hB
  have HK := hide hK
  have HS := hide hs
  have HF := hide hf
  clear hs hf hB hK
  go_enter Tryz.func257, Tryz.ntmps257
  go_wp2_with fail
  rw [← hW]
  clear hW
  refine hcall.out.mono ?_
  rintro e w1 ⟨h1, b1⟩
  have HB1 := hide (HB.out.trans (b1.mono HB.out.size))
  have HK1 := hide (HK.out.b b1)
  have hWl : w.heap.size < W.heap.size := HK.out.lt
  have hz1 := b1.size
  clear hcall b1 HB HK
  rcases h1 with ⟨c, ro, rc, hst, rfl, hO, hrc, hrc2, hcn⟩ | ⟨hno, rfl⟩
  case inr =>
    have HN : Hid (¬ ∃ g L fi ol he la, MtIs ((List.range n).map f) g L fi ol he la) := fun ⟨g, L, fi, ol, he, la, h⟩ => by
      have hlen : (nums (mseq g L fi ol he la)).length = n := by rw [h.2]; simp
      have hh : Has n f 0 (nums (mseq g L fi ol he la) ++ []) := by
        rw [List.append_nil, h.2]
        refine ⟨by simp, fun i hi => ?_⟩
        have hi' : i < n := by simpa using hi
        simp [List.getD, hi']
      have hp := has_pos _ (mseq_mem h.1) hh
      rw [Nat.zero_add, hlen] at hp
      exact hno ⟨_, hp⟩
    obtain ⟨r0, r1, r2, r3, r4, r5⟩ := HK1.out.cells
    have rz := HK1.out.froz
    clear hno
    go_wp2
    refine bodyPost_ret (v := .tuple #[.agg #[.slice none 0 0, .slice none 0 0, .bool false, .bool false, .bool false, .int .i64 0], .bool false]) (by simp [results, Tryz.results257, go_sem, r0, r1, r2, r3, r4, r5]) rfl ?_
    refine ⟨.inr ⟨HN.out, rfl⟩, ?_⟩
    iterate 6 (refine Below.setCell ?_ (by show w.heap.size ≤ w.heap.size; omega) _)
    exact HB1.out
  have HST := hide hst
  have hcall := hide (rm_impl ro rc (rdl n f 0 c) w1 (by rw [rdl_len]; omega) hrc hrc2 hO.sl (fun x hx => by
    simp only [rdl, List.mem_map] at hx
    obtain ⟨j, _, rfl⟩ := hx
    exact krdv_pos _ _ _))
  clear hst hO
  go_wp2_with fail
  refine hcall.out.mono ?_
  rintro e w2 ⟨h1, b2⟩
  have HB2 := hide (HB1.out.trans (b2.mono HB1.out.size))
  have HK2 := hide (HK1.out.b b2)
  have hz2 := b2.size
  clear hcall b2 HB1 HK1
  rcases h1 with ⟨g, L, x, y, go, bo, gc, he, rfl, hOK⟩ | ⟨hno, rfl⟩
  case inr =>
    have HN : Hid (¬ ∃ g L fi ol he la, MtIs ((List.range n).map f) g L fi ol he la) := fun ⟨g, L, fi, ol, he, la, h⟩ => hno ⟨_, _, _, _, mtis_all h HST.out⟩
    obtain ⟨r0, r1, r2, r3, r4, r5⟩ := HK2.out.cells
    have rz := HK2.out.froz
    have hlt2 : w.heap.size < w2.heap.size := HK2.out.lt
    have hne1 : ¬ w.heap.size = w2.heap.size := by omega
    have hne2 : ¬ w2.heap.size = w.heap.size := by omega
    clear hno
    go_wp2
    refine bodyPost_ret (v := .tuple #[.agg #[.slice none 0 0, .slice none 0 0, .bool false, .bool false, .bool false, .int .i64 0], .bool false]) (by simp [results, Tryz.results257, go_sem, r0, r1, r2, r3, r4, r5, hlt2, hne1, hne2]) rfl ?_
    refine ⟨.inr ⟨HN.out, rfl⟩, ?_⟩
    refine Below.alloc ?_ (by simp [World.setCell]; omega) _
    iterate 6 (refine Below.setCell ?_ (by show w.heap.size ≤ w.heap.size; omega) _)
    exact HB2.out
  have HE := hide he
  have HOK := hide hOK
  clear he hOK
  obtain ⟨F1, hF1⟩ : ∃ F1, F1 = (bits .and .i64 x 1 != 0) := ⟨_, rfl⟩
  obtain ⟨F2, hF2⟩ : ∃ F2, F2 = (bits .and .i64 x 2 != 0) := ⟨_, rfl⟩
  obtain ⟨F3, hF3⟩ : ∃ F3, F3 = (bits .and .i64 x 4 != 0) := ⟨_, rfl⟩
  have HFF : Hid (FBs x F1 F2 F3) := ⟨hF1, hF2, hF3⟩
  rw [← hF1, ← hF2, ← hF3]
  clear hF1 hF2 hF3
  have hNl : (rdl n f 0 c).length ≤ 1048576 := by rw [rdl_len]; omega
  have hbd : Hid (Bd g 3 L) := by
    have h1 := congrArg List.length HE.out
    simp only [List.length_append, lsq_len, catl, List.length_nil, List.length_cons] at h1
    refine ⟨by omega, by omega, fun i hi => ?_⟩
    obtain rfl | rfl | rfl : i = 0 ∨ i = 1 ∨ i = 2 := by omega
    · omega
    · omega
    · omega
  have hlen : ((List.range n).map f).length = n := by simp
  have hbB : ∀ z ∈ (List.range n).map f, 0 ≤ z ∧ z ≤ 255 := fun z hz => by
    simp only [List.mem_map, List.mem_range] at hz
    obtain ⟨i, hi, rfl⟩ := hz
    exact HF.out i hi
  have HRI : Hid (∀ g' L' fi' ol' he' la', MtIs ((List.range n).map f) g' L' fi' ol' he' la' → MtIs ((List.range n).map f) g L F1 F2 F3 y) := fun g' L' fi' ol' he' la' h => by
    have e := mtis_all h HST.out
    rw [HE.out] at e
    obtain ⟨e1, e⟩ := lsq_inj e
    obtain ⟨e2, e⟩ := catl_inj e
    simp only [List.cons.injEq, and_true] at e
    obtain ⟨e3, e4⟩ := e
    obtain ⟨f1, f2, f3⟩ := HFF.out
    rw [e3] at f1 f2 f3
    obtain ⟨q1, q2, q3⟩ := fb_flg fi' ol' he'
    rw [q1] at f1
    rw [q2] at f2
    rw [q3] at f3
    subst e1 f1 f2 f3 e4
    exact ⟨mtok_congr e2 h.1, by rw [mseq_congr e2]; exact h.2⟩
  have hpos : 0 < n := by
    have h1 := congrArg List.length HE.out
    rw [rdl_len, List.length_append, lsq_len] at h1
    omega
  obtain ⟨bq, hbq⟩ : ∃ b : Bool, TellsB b ((mtb Classical.propDecidable) g 3 L F1 F2 F3 y = (List.range n).map f) := tellsB _
  have hSB : Hid (∀ W', Below w.heap.size w W' → SL .u8 W' ao ((List.range n).map f).length (fun i => ((List.range n).map f).getD i 0)) := fun W' hb => by
    rw [hlen]
    intro i hi
    obtain ⟨b, off, e, hl, hc⟩ := (HS.out.below hb) i hi
    exact ⟨b, off, e, hl, by rw [hc]; simp [List.getD, hi]⟩
  have HQ : Hid (∀ W' xo xc, Below w.heap.size w W' → SL .u8 W' xo ((mtb Classical.propDecidable) g 3 L F1 F2 F3 y).length (fun i => ((mtb Classical.propDecidable) g 3 L F1 F2 F3 y).getD i 0) → Calls Tryz.prog 259 #[.slice xo ((mtb Classical.propDecidable) g 3 L F1 F2 F3 y).length xc, .slice ao n cap] W' fun e w' => e = .returned (.bool bq) ∧ w' = W') := fun W' xo xc hb hx => by
    have := bequal_any xo ao xc cap ((mtb Classical.propDecidable) g 3 L F1 F2 F3 y) ((List.range n).map f) W' (mtb_byte _ _ _ _ _ _ _) hbB hx (hSB.out W' hb) bq hbq
    rwa [hlen] at this
  have HBQ := hide hbq
  have hlt2 : w.heap.size < w2.heap.size := HK2.out.lt
  obtain ⟨r0, r1, r2, r3, r4, r5⟩ := HK2.out.cells
  have bX := bal1 w2 (.cells #[.slice go g.length gc, .slice bo 3 3, .bool F1, .bool F2, .bool F3, .int .i64 y] 25)
  have hmb := hide (mtbytes_impl go bo gc 3 g 3 L F1 F2 F3 y _ hbd.out (HOK.out.mv.below bX))
  have HK3 := hide (HK2.out.b bX)
  have HX3 : Hid (KB (w2.alloc (.cells #[.slice go g.length gc, .slice bo 3 3, .bool F1, .bool F2, .bool F3, .int .i64 y] 25)) w2.heap.size 25 go g.length gc bo 3 3 F1 F2 F3 y) := KB.new w2 _ _ _ _ _ _ _ _ _ _ _
  have HB3 := hide (HB2.out.trans (bX.mono HB2.out.size))
  have HOK3 := hide (HOK.out.below bX (Nat.le_refl _))
  clear hbq hbB hSB bX HK2
  go_wp2_with fail
  generalize w2.alloc (.cells #[.slice go g.length gc, .slice bo 3 3, .bool F1, .bool F2, .bool F3, .int .i64 y] 25) = W3 at *
  refine hmb.out.mono ?_
  rintro e w4 ⟨v, rfl, ho, b4⟩
  obtain ⟨xo, xc, rfl, _, ho'⟩ := Own.of_owns ho
  have HK4 := hide (HK3.out.b b4)
  have HX4 := hide (HX3.out.b b4)
  have HB4 := hide (HB3.out.trans (b4.mono HB3.out.size))
  have HOK4 := hide (HOK3.out.below b4 HOK3.out.1.2)
  have HSL := hide ho'.sl
  clear hmb ho ho' b4 HK3 HX3 HB3 HOK3 r0 r1 r2 r3 r4 r5
  generalize w2.heap.size = X at *
  go_wp2_with fail
  refine (HQ.out w4 xo xc HB4.out HSL.out).mono ?_
  rintro e w5 ⟨rfl, hw⟩
  rw [hw]
  clear hw
  obtain ⟨r0, r1, r2, r3, r4, r5⟩ := HK4.out.cells
  have rz := HK4.out.froz
  cases bq with
  | false =>
    have HN : Hid (¬ ∃ g L fi ol he la, MtIs ((List.range n).map f) g L fi ol he la) := fun ⟨g', L', fi', ol', he', la', h⟩ => by
      have h2 := HRI.out g' L' fi' ol' he' la' h
      have := HBQ.out.2 (by rw [mtb_yes h2.1]; exact h2.2)
      cases this
    go_wp2
    refine bodyPost_ret (v := .tuple #[.agg #[.slice none 0 0, .slice none 0 0, .bool false, .bool false, .bool false, .int .i64 0], .bool false]) (by simp [results, Tryz.results257, go_sem, r0, r1, r2, r3, r4, r5]) rfl ?_
    refine ⟨.inr ⟨HN.out, rfl⟩, ?_⟩
    iterate 6 (refine Below.setCell ?_ (by show w.heap.size ≤ w.heap.size; omega) _)
    exact HB4.out
  | true =>
    have HY : Hid (MtIs ((List.range n).map f) g L F1 F2 F3 y) := by
      have hpe := HBQ.out.1 rfl
      by_cases hok : MtOk g 3 L F2 F3 y
      · exact ⟨hok, by rw [← mtb_yes hok]; exact hpe⟩
      · rw [mtb_no hok] at hpe
        rw [← hpe] at hlen
        simp at hlen
        omega
    obtain ⟨x0, x1, x2, x3, x4, x5⟩ := HX4.out.cells
    go_wp2
    refine bodyPost_ret (v := .tuple #[.agg #[.slice go g.length gc, .slice bo 3 3, .bool F1, .bool F2, .bool F3, .int .i64 y], .bool true]) (by simp [results, Tryz.results257, go_sem, r0, r1, r2, r3, r4, r5]) rfl ?_
    refine ⟨.inl ⟨g, L, F1, F2, F3, y, go, bo, gc, 3, HY.out, rfl, ?_⟩, ?_⟩
    · have hfin : ∀ F : World, F.heap.size = w4.heap.size → (∀ j, w.heap.size + 1 ≤ j → F.heap[j]? = w4.heap[j]?) → OKm F w.heap.size F.heap.size go gc bo 3 g 3 L := fun F hs hk =>
        (HOK4.out.kept (fun j h1 _ => hk j (by omega)) (by omega)).wider (by omega) (by have := HOK4.out.1.2; omega) (Nat.le_refl _)
      refine hfin _ (by simp [World.setCell]) ?_
      intro j hj
      simp only [World.setCell, Array.getElem?_modify]
      repeat rw [if_neg (by omega)]
    · iterate 6 (refine Below.setCell ?_ (by show w.heap.size ≤ w.heap.size; omega) _)
      exact HB4.out
end Go.Proofs.YtkndnndildnbpaaGreatDoor

/- A node in memory of its own, marked, and found so. -/
import Derived.Test.YtkndnndildnbpaaGreatDoorNdTZ

namespace Go.Proofs.YtkndnndildnbpaaGreatDoor
open Go.ChangeShapes Go.WideShapes Go.ChangeAt Go.RowKit
set_option linter.unusedVariables false
set_option linter.unusedSimpArgs false
set_option maxRecDepth 100000

theorem ne_nil_of {α : Type} {l : List α} (h : 0 < l.length) : l ≠ [] := fun e => by rw [e] at h; cases h
theorem marki_r (p : Option Addr) (c c' B T : Nat) (l : List Int) (xs ys : List Rw) (k0 : Int) (w : World) (hn : l.length ≤ 1048576) (h0 : 0 ≤ k0) (h1 : k0 ≤ 1099511627776) (h : RS w B T (xs ++ ⟨3, p, c, ir l⟩ :: ys)) :
    Calls Tryz.prog 64 #[.slice p l.length c', .int .i64 k0] w fun e w' => e = .returned (.int .i64 (k0 + l.length)) ∧ RS w' B T (xs ++ ⟨3, p, c, ir (mkl k0 l.length)⟩ :: ys) ∧ OnB B T w w' := by
  have hr := h.right.head
  refine (kmark_any p l.length c' B T k0 (lv l) w hn h0 h1 (rt_row hr)).mono fun e w' ⟨h2, hm⟩ => ⟨h2, h.wr ?_, hm.onb⟩
  rcases hm with ⟨hl, rfl⟩ | ⟨γ, e1, hp, ho, hr2⟩
  · have hl' := List.length_eq_zero_iff.1 hl
    subst hl'
    exact .inl ⟨rfl, rfl, rfl⟩
  · obtain ⟨γ', e2, hg⟩ := hr2.at hp
    rw [e1] at e2
    cases e2
    refine .inr ⟨γ, e1, ne_nil_of (by rw [show (Rw.mk 3 p c (ir l)).vs.length = l.length from ir_len _]; exact hp), ho, hg, rfl, ?_⟩
    refine row_rt ?_ (by rw [mkl_len]; have := hr.1; rwa [show (Rw.mk 3 p c (ir l)).vs.length = l.length from ir_len _] at this)
    rw [mkl_len]
    exact hr2.congr fun t ht => by show _ = Value.int .i64 _; rw [mkl_get _ _ _ ht]
theorem marky_r (p : Option Addr) (c c' B T : Nat) (l : List Int) (xs ys : List Rw) (k0 : Int) (w : World) (hn : l.length ≤ 1048576) (h0 : 0 ≤ k0) (h1 : k0 ≤ 1099511627776) (h : RS w B T (xs ++ ⟨5, p, c, yr l⟩ :: ys)) :
    Calls Tryz.prog 141 #[.slice p l.length c', .int .i64 k0] w fun e w' => e = .returned (.int .i64 (k0 + l.length)) ∧ RS w' B T (xs ++ ⟨5, p, c, yr (mkb k0 l.length)⟩ :: ys) ∧ OnB B T w w' := by
  have hr := h.right.head
  refine (mark_rb p l.length c' B T k0 (bv l) w hn h0 h1 (rb_row hr)).mono fun e w' ⟨h2, hr2, hm⟩ => ?_
  have hw : Wr w w' B T ⟨5, p, c, yr l⟩ ⟨5, p, c, yr (mkb k0 l.length)⟩ := by
    rcases hm with ⟨hl, rfl⟩ | ⟨hp, γ, e1, hg, ho⟩
    · have hl' := List.length_eq_zero_iff.1 hl
      subst hl'
      exact .inl ⟨rfl, rfl, rfl⟩
    · refine .inr ⟨γ, e1, ne_nil_of (by rw [show (Rw.mk 5 p c (yr l)).vs.length = l.length from yr_len _]; exact hp), ho, hg, rfl, ?_⟩
      refine row_yb ?_ (by rw [mkb_len]; have := hr.1; rwa [show (Rw.mk 5 p c (yr l)).vs.length = l.length from yr_len _] at this)
      rw [mkb_len]
      rcases hr2 with hr2 | ⟨g, e3, hg3, cc, hc, hs, hF⟩
      · exact .inl hr2
      · exact .inr ⟨g, e3, hg3, cc, hc, hs, fun t ht => by rw [hF t ht]; show _ = some (Value.int .u8 _); rw [mkb_get _ _ _ ht]⟩
  exact ⟨h2, h.wr hw, hw.onb⟩
/-- Bools that are marked. -/
def mkB' (k : Int) (n : Nat) : List Bool := (List.range n).map fun j : Nat => mkB (k + (j : Int))
theorem mkB_len (k : Int) (n : Nat) : (mkB' k n).length = n := by simp [mkB']
theorem mkB_get (k : Int) (n j : Nat) (h : j < n) : (mkB' k n).getD j false = mkB (k + j) := by simp [mkB', List.getD, h]
theorem markb_r (p : Option Addr) (c c' B T : Nat) (l : List Bool) (xs ys : List Rw) (k0 : Int) (w : World) (hn : l.length ≤ 1048576) (h0 : 0 ≤ k0) (h1 : k0 ≤ 1099511627776) (h : RS w B T (xs ++ ⟨4, p, c, br l⟩ :: ys)) :
    Calls Tryz.prog 67 #[.slice p l.length c', .int .i64 k0] w fun e w' => e = .returned (.int .i64 (k0 + l.length)) ∧ RS w' B T (xs ++ ⟨4, p, c, br (mkB' k0 l.length)⟩ :: ys) ∧ OnB B T w w' := by
  have hr := h.right.head
  have hcp := hr.1
  rw [show (Rw.mk 4 p c (br l)).vs.length = l.length from br_len _] at hcp
  rcases Nat.eq_zero_or_pos l.length with hz | hp
  · have hl' := List.length_eq_zero_iff.1 hz
    subst hl'
    refine (bmark_zero p c' k0 w).mono fun e w' ⟨h2, h3⟩ => ?_
    subst h3
    exact ⟨by rw [h2]; simp, h, OnB.refl _ _ _⟩
  · have h2 := hr.to (F := fun i => .bool (l.getD i false)) (fun i hi => by rw [show (Rw.mk 4 p c (br l)).vs.length = l.length from br_len _] at hi; exact br_get l i hi)
    rw [show (Rw.mk 4 p c (br l)).vs.length = l.length from br_len _] at h2
    obtain ⟨γ, e1, hg, cc, hcc, hcs, hF⟩ := h2.resolve_left (by omega)
    have e1' : p = some ⟨γ, 0, none⟩ := e1
    subst e1'
    refine (bmark_own γ l.length c' B k0 (fun i => .bool (l.getD i false)) w hn h0 h1 (.inr ⟨γ, rfl, hg.1, cc, hcc, hcs, hF⟩)).mono fun e w' ⟨h2, h3, h4⟩ => ?_
    have hw : Wr w w' B T ⟨4, some ⟨γ, 0, none⟩, c, br l⟩ ⟨4, some ⟨γ, 0, none⟩, c, br (mkB' k0 l.length)⟩ := by
      refine .inr ⟨γ, rfl, ne_nil_of (by rw [show (Rw.mk 4 (some ⟨γ, 0, none⟩) c (br l)).vs.length = l.length from br_len _]; exact hp), h4, hg, rfl, ?_⟩
      refine RwOk.of (n := l.length) (F := fun j => .bool (mkB (k0 + j))) ?_ (by rw [br_len, mkB_len]) hcp (fun i hi => by rw [br_get _ _ (by rw [mkB_len]; exact hi), mkB_get _ _ _ hi])
      rcases h3 with h3 | ⟨g, e3, hg3, q⟩
      · exact .inl h3
      · cases e3; exact .inr ⟨γ, rfl, hg, q⟩
    exact ⟨h2, h.wr hw, hw.onb⟩

theorem inner_split (R : Nat → Option Addr × Nat) (n j : Nat) (L : Nat → List Int) (h : j < n) : inner R n L = (List.range j).map (fun i => (⟨3, (R i).1, (R i).2, ir (L i)⟩ : Rw)) ++ ⟨3, (R j).1, (R j).2, ir (L j)⟩ :: (List.range (n - j - 1)).map (fun i => (⟨3, (R (j + 1 + i)).1, (R (j + 1 + i)).2, ir (L (j + 1 + i))⟩ : Rw)) := by
  unfold inner
  have e : List.range n = List.range j ++ j :: (List.range (n - j - 1)).map (fun i => j + 1 + i) := by
    apply List.ext_getElem
    · simp; omega
    · intro i h1 h2
      simp only [List.getElem_range]
      by_cases hi : i < j
      · rw [List.getElem_append_left (by simpa using hi)]; simp
      · rw [List.getElem_append_right (by simpa using hi)]
        simp only [List.length_range]
        rcases Nat.eq_or_lt_of_le (Nat.le_of_not_lt hi) with e | e
        · subst e; simp
        · obtain ⟨k, hk⟩ : ∃ k, i - j = k + 1 := ⟨i - j - 1, by omega⟩
          simp only [hk, List.getElem_cons_succ, List.getElem_map, List.getElem_range]
          omega
  rw [e, List.map_append, List.map_cons, List.map_map]
  rfl
/-- One row of a slice of slices written anew. -/
theorem inner_mark (R : Nat → Option Addr × Nat) (n j : Nat) (L L' : Nat → List Int) (h : j < n) (he : ∀ i, i ≠ j → L' i = L i) : inner R n L' = (List.range j).map (fun i => (⟨3, (R i).1, (R i).2, ir (L i)⟩ : Rw)) ++ ⟨3, (R j).1, (R j).2, ir (L' j)⟩ :: (List.range (n - j - 1)).map (fun i => (⟨3, (R (j + 1 + i)).1, (R (j + 1 + i)).2, ir (L (j + 1 + i))⟩ : Rw)) := by
  rw [inner_split R n j L' h]
  congr 1
  · exact List.map_congr_left fun i hi => by rw [he i (by have := List.mem_range.1 hi; omega)]
  · congr 1
    exact List.map_congr_left fun i hi => by rw [he (j + 1 + i) (by omega)]
theorem outer_len_eq (R : Nat → Option Addr × Nat) (n : Nat) (L L' : Nat → List Int) (he : ∀ i, i < n → (L' i).length = (L i).length) : outer R n L' = outer R n L :=
  List.map_congr_left fun i hi => by rw [he i (List.mem_range.1 hi)]

set_option maxHeartbeats 1000000 in
theorem markss_r (bo : Option Addr) (bc bc' B T n : Nat) (k0 : Int) (L : Nat → List Int) (R : Nat → Option Addr × Nat) (xs ys : List Rw) (w : World) (hb : n + psum L n ≤ 1048576) (h0 : 0 ≤ k0) (h1 : k0 ≤ 1099511627) (h : RS w B T (xs ++ (srows bo bc R n L ++ ys))) :
    Calls Tryz.prog 68 #[.slice bo n bc', .int .i64 k0] w fun e w' => e = .returned (.int .i64 (k0 + psum L n)) ∧ RS w' B T (xs ++ (srows bo bc R n (mrk L k0 n) ++ ys)) ∧ OnB B T w w' := by
  have HO := hide h
  clear h
  go_enter Tryz.func68, Tryz.ntmps68
  go_wp2
  go_loopw [1, 5] (fun m i wr => ∃ j : Nat, j ≤ n ∧ i = .int .i64 j ∧ m = .int .i64 (k0 + psum L j) ∧ Hid (RS wr B T (xs ++ (srows bo bc R n (mrk L k0 j) ++ ys)) ∧ OnB B T w wr)) (fun _ i _ => n - (intOf i).toNat)
  case atStart => exact ⟨0, by omega, rfl, by simp [psum], by rw [mrk_zero]; exact ⟨HO.out, OnB.refl _ _ _⟩⟩
  case round =>
    obtain ⟨j, hj, rfl, rfl, HI⟩ := hrel
    by_cases hlt : j < n
    · have hv := HI.out.1.right.left.bv.1
      obtain ⟨b, off, ro, rc, rfl, hc, hrc, hsl⟩ := hv j hlt
      have hro : (ro, rc) = R j := by
        have h2 := HI.out.1.right.left.head
        rcases h2.2 with h0 | ⟨b', e', hb', c', hcc, hcs, hF⟩
        · have h0' : outer R n (mrk L k0 j) = [] := h0
          have : (outer R n (mrk L k0 j)).length = 0 := by rw [h0']; rfl
          rw [outer_len] at this; omega
        · cases e'
          have := hF j (by show j < (outer R n (mrk L k0 j)).length; rw [outer_len]; exact hlt)
          rw [show (Rw.mk 22 _ bc (outer R n (mrk L k0 j))).vs[j]? = _ from outer_get R n (mrk L k0 j) j hlt] at this
          rw [mblk hcc (by simpa using this)] at hc
          simp only [Option.some.injEq, Value.slice.injEq] at hc
          rw [← hc.1, ← hc.2.2]
      have hlen : (mrk L k0 j j).length = (L j).length := mrk_len L k0 j j
      rw [hlen] at hc
      have hps := psum_one L j n hlt
      have E : Hid (psum L (j + 1) = psum L j + (L j).length) := rfl
      have hrs : RS wr B T ((xs ++ (⟨22, some ⟨b, off, none⟩, bc, outer R n (mrk L k0 j)⟩ :: (List.range j).map (fun i => (⟨3, (R i).1, (R i).2, ir (mrk L k0 j i)⟩ : Rw)))) ++ ⟨3, ro, rc, ir (L j)⟩ :: ((List.range (n - j - 1)).map (fun i => (⟨3, (R (j + 1 + i)).1, (R (j + 1 + i)).2, ir (mrk L k0 j (j + 1 + i))⟩ : Rw)) ++ ys)) := by
        have := HI.out.1
        unfold srows at this
        rw [inner_split R n j _ hlt, ← hro] at this
        rw [show mrk L k0 j j = L j by unfold mrk; rw [if_neg (by omega)]] at this
        simpa using this
      have hcall := hide (marki_r ro rc rc B T (L j) _ _ (k0 + psum L j) wr (by omega) (by omega) (by omega) hrs)
      have HR := hide hro
      clear hrs hsl hv hlen hrc hro
      generalize hp : psum L j = p at *
      have HP := hide hp
      generalize hl : (L j).length = l at *
      have HLL := hide hl
      clear hp hl
      go_wp2_with fail
      refine hcall.out.mono ?_
      rintro e w1 ⟨rfl, hm, hon⟩
      have HN : Hid (RS w1 B T (xs ++ (srows (some ⟨b, off, none⟩) bc R n (mrk L k0 (j + 1)) ++ ys)) ∧ OnB B T w w1) := by
        refine ⟨?_, HI.out.2.trans hon⟩
        unfold srows
        rw [inner_mark R n j (mrk L k0 j) (mrk L k0 (j + 1)) hlt (fun i hi => by rw [← mrk_step]; simp [hi]), outer_len_eq R n (mrk L k0 j) (mrk L k0 (j + 1)) (fun i _ => by rw [mrk_len, mrk_len]), ← HR.out]
        rw [show mrk L k0 (j + 1) j = mkl (k0 + p) l by rw [← mrk_step]; simp only [if_pos]; rw [mrk_len, HP.out, HLL.out]]
        simpa using hm
      clear hm hon hcall HI HR
      go_wp2
      go_roundw
      case rel => exact ⟨j + 1, by omega, by go_num, by rw [E.out]; congr 1; omega, HN.out⟩
      case measure => simp [intOf]; omega
    · obtain rfl : j = n := by omega
      go_wp2
      go_ret
      exact ⟨rfl, HI.out⟩

theorem OnB.alloc {B T : Nat} {w w' : World} {o : Obj} (h : OnB B T (w.alloc o) w') (hB : B ≤ w.heap.size) : OnB B T w w' := (OnB.of_below (bal1 w o) hB).trans h
theorem OnB.blk {B T j : Nat} {w w' : World} (h : OnB B T w w') (hj : j < w.heap.size) (hT : T ≤ j) : w'.heap[j]? = w.heap[j]? := h.2 j hj hT

set_option maxHeartbeats 1000000 in
theorem markm_r (go bo : Option Addr) (gc bc B T : Nat) (g : List Int) (n : Nat) (L : Nat → List Int) (fi ol he : Bool) (la k0 : Int) (R : Nat → Option Addr × Nat) (xs ys : List Rw) (w : World) (hb : g.length + (n + psum L n) ≤ 1048576) (h0 : 0 ≤ k0) (h1 : k0 ≤ 4194304) (hT : B ≤ T ∧ T ≤ w.heap.size) (h : RS w B T (xs ++ (mrows go gc bo bc R g n L ++ ys))) :
    Calls Tryz.prog 65 #[.agg #[.slice go g.length gc, .slice bo n bc, .bool fi, .bool ol, .bool he, .int .i64 la], .int .i64 k0] w fun e w' => e = .returned (.int .i64 (k0 + (g.length + psum L n))) ∧ RS w' B T (xs ++ (mrows go gc bo bc R (mgs g k0) n (mbs g L n k0) ++ ys)) ∧ OnB B T w w' := by
  obtain ⟨W, hW⟩ : ∃ W, W = w.alloc (.cells #[.slice go g.length gc, .slice bo n bc, .bool fi, .bool ol, .bool he, .int .i64 la] 25) := ⟨_, rfl⟩
  have hbl : Below w.heap.size w W := by rw [hW]; exact bal1 _ _
  have hK : KB (W) (w.heap.size) 25 go g.length gc bo n bc fi ol he la := by rw [hW]; exact KB.new w _ _ _ _ _ _ _ _ _ _ _
  have hrs := h.below hbl hT.2
  have hcall := hide (marki_r go gc gc B T g xs (srows bo bc R n L ++ ys) k0 W (by omega) (by omega) (by omega) (by simpa [mrows] using hrs))
  have HK : Hid (KB (W) (w.heap.size) 25 go g.length gc bo n bc fi ol he la ∧ OnB B T w W) := ⟨hK, OnB.of_below hbl (by omega)⟩
  have HB : Hid (g.length + (n + psum L n) ≤ 1048576 ∧ B ≤ T ∧ T ≤ w.heap.size) := ⟨hb, hT⟩
  obtain ⟨k0', k1', k2', k3', k4', k5'⟩ := hK.cells
  clear h hrs hK hbl hb hT
  go_enter Tryz.func65, Tryz.ntmps65
  go_wp2_with fail
  rw [← hW]
  clear hW
  refine hcall.out.mono ?_
  rintro e w1 ⟨rfl, r1, o1⟩
  have hb := HB.out
  have HK1 : Hid (KB (w1) (w.heap.size) 25 go g.length gc bo n bc fi ol he la ∧ OnB B T w w1) := ⟨(o1.blk HK.out.1.lt (by omega)).trans HK.out.1, HK.out.2.trans o1⟩
  have hcall2 := hide (markss_r bo bc bc B T n (k0 + g.length) L R (xs ++ [⟨3, go, gc, ir (mkl k0 g.length)⟩]) ys w1 (by omega) (by omega) (by omega) (by simpa using r1))
  clear k0' k1' k2' k3' k4' k5' hcall r1 o1 HK hb
  obtain ⟨k0', k1', k2', k3', k4', k5'⟩ := HK1.out.1.cells
  generalize hps : psum L n = p at *
  have HPS := hide hps
  clear hps
  go_wp2_with fail
  refine hcall2.out.mono ?_
  rintro e w2 ⟨rfl, r2, o2⟩
  have HF : Hid (RS w2 B T (xs ++ (mrows go gc bo bc R (mgs g k0) n (mbs g L n k0) ++ ys)) ∧ OnB B T w w2) := ⟨by simpa [mrows, mgs, mbs] using r2, HK1.out.2.trans o2⟩
  clear r2 o2 hcall2 HK1
  go_wp2
  go_ret
  exact ⟨congrArg (fun z => Ending.returned (.int .i64 z)) (show k0 + (g.length : Int) + (p : Int) = k0 + ((g.length : Int) + (psum L n : Int)) by rw [HPS.out]; omega), HF.out⟩

set_option maxHeartbeats 1000000 in
theorem marksl_r (aA aB : Option Addr) (cA cB B T : Nat) (A C : List Int) (k0 : Int) (xs ys : List Rw) (w : World) (hb : A.length + C.length ≤ 1048576) (h0 : 0 ≤ k0) (h1 : k0 ≤ 4194304) (hT : B ≤ T ∧ T ≤ w.heap.size) (h : RS w B T (xs ++ (⟨5, aA, cA, yr A⟩ :: ⟨5, aB, cB, yr C⟩ :: ys))) :
    Calls Tryz.prog 66 #[.agg #[.slice aA A.length cA, .slice aB C.length cB], .int .i64 k0] w fun e w' => e = .returned (.int .i64 (k0 + (A.length + C.length))) ∧ RS w' B T (xs ++ (⟨5, aA, cA, yr (mkb k0 A.length)⟩ :: ⟨5, aB, cB, yr (mkb (k0 + A.length) C.length)⟩ :: ys)) ∧ OnB B T w w' := by
  obtain ⟨W, hW⟩ : ∃ W, W = w.alloc (.cells #[.slice aA A.length cA, .slice aB C.length cB] 28) := ⟨_, rfl⟩
  have hbl : Below w.heap.size w W := by rw [hW]; exact bal1 _ _
  have hK : SB W w.heap.size 28 aA A.length cA aB C.length cB := by rw [hW]; exact SB.new w _ _ _ _ _ _ _
  have hcall := hide (marky_r aA cA cA B T A xs (⟨5, aB, cB, yr C⟩ :: ys) k0 W (by omega) (by omega) (by omega) (h.below hbl hT.2))
  have HK : Hid (SB W w.heap.size 28 aA A.length cA aB C.length cB ∧ OnB B T w W) := ⟨hK, OnB.of_below hbl (by omega)⟩
  have HB : Hid (B ≤ T ∧ T ≤ w.heap.size) := hT
  obtain ⟨k0', k1'⟩ := hK.cells
  clear h hK hbl hT
  go_enter Tryz.func66, Tryz.ntmps66
  go_wp2_with fail
  rw [← hW]
  clear hW
  refine hcall.out.mono ?_
  rintro e w1 ⟨rfl, r1, o1⟩
  have hT := HB.out
  have HK1 : Hid (SB w1 w.heap.size 28 aA A.length cA aB C.length cB ∧ OnB B T w w1) := ⟨(o1.blk HK.out.1.lt (by omega)).trans HK.out.1, HK.out.2.trans o1⟩
  have hcall2 := hide (marky_r aB cB cB B T C (xs ++ [⟨5, aA, cA, yr (mkb k0 A.length)⟩]) ys (k0 + A.length) w1 (by omega) (by omega) (by omega) (by simpa using r1))
  clear k0' k1' hcall r1 o1 HK hT
  obtain ⟨k0', k1'⟩ := HK1.out.1.cells
  go_wp2_with fail
  refine hcall2.out.mono ?_
  rintro e w2 ⟨rfl, r2, o2⟩
  have HF : Hid (RS w2 B T (xs ++ (⟨5, aA, cA, yr (mkb k0 A.length)⟩ :: ⟨5, aB, cB, yr (mkb (k0 + A.length) C.length)⟩ :: ys)) ∧ OnB B T w w2) := ⟨by simpa using r2, HK1.out.2.trans o2⟩
  clear r2 o2 hcall2 HK1
  go_wp2
  go_ret
  exact ⟨congrArg (fun z => Ending.returned (.int .i64 z)) (show k0 + (A.length : Int) + (C.length : Int) = k0 + ((A.length : Int) + (C.length : Int)) by omega), HF.out⟩

/-- How many cells of it are marked. -/
def ncnt (d : Nd) : Int := (d.im.length : Int) + (((d.g.length : Int) + (psum d.L d.n : Int)) + (((d.A.length : Int) + (d.C.length : Int)) + ((d.co.length : Int) + ((psum d.S d.m : Int) + ((d.cp.length : Int) + (d.wt.length : Int))))))
def k1 (d : Nd) (k : Int) : Int := k + d.im.length
def k2 (d : Nd) (k : Int) : Int := k1 d k + ((d.g.length : Int) + (psum d.L d.n : Int))
def k3 (d : Nd) (k : Int) : Int := k2 d k + ((d.A.length : Int) + (d.C.length : Int))
def k4 (d : Nd) (k : Int) : Int := k3 d k + d.co.length
def k5 (d : Nd) (k : Int) : Int := k4 d k + psum d.S d.m
def k6 (d : Nd) (k : Int) : Int := k5 d k + d.cp.length
def k7 (d : Nd) (k : Int) : Int := k6 d k + d.wt.length
theorem k7_eq (d : Nd) (k : Int) : k7 d k = k + ncnt d := by unfold k7 k6 k5 k4 k3 k2 k1 ncnt; omega
/-- The node behind a mark from k on. -/
def mkN (d : Nd) (k : Int) : Nd := { d with im := mkl k d.im.length, g := mgs d.g (k1 d k), L := mbs d.g d.L d.n (k1 d k), A := mkb (k2 d k) d.A.length, C := mkb (k2 d k + d.A.length) d.C.length, co := mkB' (k3 d k) d.co.length, S := mrk d.S (k4 d k) d.m, cp := mkB' (k5 d k) d.cp.length, wt := mkl (k6 d k) d.wt.length }
theorem kbnd {d : Nd} {k : Int} (h : ntot d ≤ 1048576) (h0 : 0 ≤ k) : (k ≤ k1 d k ∧ k1 d k ≤ k + 1048576) ∧ (k ≤ k2 d k ∧ k2 d k ≤ k + 1048576) ∧ (k ≤ k3 d k ∧ k3 d k ≤ k + 1048576) ∧ (k ≤ k4 d k ∧ k4 d k ≤ k + 1048576) ∧ (k ≤ k5 d k ∧ k5 d k ≤ k + 1048576) ∧ (k ≤ k6 d k ∧ k6 d k ≤ k + 1048576) := by
  unfold ntot at h
  unfold k6 k5 k4 k3 k2 k1
  omega
/-- A node whose rows are to be marked: its block, what it shares with none. -/
def MS (w V : World) (B T : Nat) (a : Na) (d : Nd) (rs : List Rw) : Prop := NB V w.heap.size 31 a d ∧ OnB B T w V ∧ RS V B T rs ∧ T ≤ w.heap.size ∧ T ≤ V.heap.size
theorem MS.step {w V V' : World} {B T : Nat} {a : Na} {d : Nd} {rs rs' : List Rw} (h : MS w V B T a d rs) (ho : OnB B T V V') (hr : RS V' B T rs') : MS w V' B T a d rs' :=
  ⟨(ho.blk h.1.lt h.2.2.2.1).trans h.1, h.2.1.trans ho, hr, h.2.2.2.1, Nat.le_trans h.2.2.2.2 ho.1.size⟩

set_option maxHeartbeats 4000000 in
theorem markn_any (a : Na) (d : Nd) (B T : Nat) (k : Int) (w : World) (ht : ntot d ≤ 1048576) (h0 : 0 ≤ k) (h1 : k ≤ 2097152) (h : ON w B T a d) :
    Calls Tryz.prog 18 #[nv a d, .int .i64 k] w fun e w' => e = .returned (.int .i64 (k + ncnt d)) ∧ ON w' B T a (mkN d k) ∧ OnB B T w w' := by
  obtain ⟨W, hW⟩ : ∃ W, W = w.alloc (.cells (nds a d) 31) := ⟨_, rfl⟩
  obtain ⟨hT, hnc, hby, R, Q, hrs⟩ := h
  have hbl : Below w.heap.size w W := by rw [hW]; exact bal1 _ _
  have H0 : Hid (MS w W B T a d (nrows a R Q d)) := ⟨by rw [hW]; exact NB.new _ _ _ _, OnB.of_below hbl (by omega), hrs.below hbl hT.2, hT.2, Nat.le_trans hT.2 hbl.size⟩
  have HC : Hid ((B ≤ T ∧ T ≤ w.heap.size) ∧ NNC a ∧ (Byr d.A ∧ Byr d.C)) := ⟨hT, hnc, hby⟩
  have HT := hide ht
  have HK := hide (kbnd (k := k) ht h0)
  have HD := hide (nbd_of ht)
  have HBT := hide hT.1
  obtain ⟨p0, p1, p2, p3, p4, p5, p6, p7, p8, p9, p10, p11, p12, p13, p14, p15⟩ := H0.out.1.cells
  clear hrs hbl hT hnc hby ht
  unfold nv
  unfold nds at hW ⊢
  go_enter Tryz.func18, Tryz.ntmps18
  go_wp2_with fail
  rw [← hW]
  clear hW
  refine (marki_r a.im a.imc a.imc B T d.im [] (mrows a.go a.gc a.bo a.bc R d.g d.n d.L ++ [⟨5, a.aA, a.cA, yr d.A⟩] ++ [⟨5, a.aB, a.cB, yr d.C⟩] ++ [⟨4, a.co, a.coc, br d.co⟩] ++ srows a.so a.sc Q d.m d.S ++ [⟨4, a.cp, a.cpc, br d.cp⟩] ++ [⟨3, a.wt, a.wtc, ir d.wt⟩]) k W HD.out.1 h0 (by omega) (by simpa [nrows, mrows] using H0.out.2.2.1)).mono ?_
  rintro e w1 ⟨rfl, r, o⟩
  have H1 : Hid (MS w w1 B T a d ([⟨3, a.im, a.imc, ir (mkl k d.im.length)⟩] ++ mrows a.go a.gc a.bo a.bc R d.g d.n d.L ++ [⟨5, a.aA, a.cA, yr d.A⟩] ++ [⟨5, a.aB, a.cB, yr d.C⟩] ++ [⟨4, a.co, a.coc, br d.co⟩] ++ srows a.so a.sc Q d.m d.S ++ [⟨4, a.cp, a.cpc, br d.cp⟩] ++ [⟨3, a.wt, a.wtc, ir d.wt⟩])) := H0.out.step o (by simpa [mrows] using r)
  clear r o H0 p0 p1 p2 p3 p4 p5 p6 p7 p8 p9 p10 p11 p12 p13 p14 p15
  obtain ⟨p0, p1, p2, p3, p4, p5, p6, p7, p8, p9, p10, p11, p12, p13, p14, p15⟩ := H1.out.1.cells
  rw [show k + (d.im.length : Int) = k1 d k from rfl]
  go_wp2_with fail
  refine (markm_r a.go a.bo a.gc a.bc B T d.g d.n d.L d.fi d.ol d.he d.la (k1 d k) R ([⟨3, a.im, a.imc, ir (mkl k d.im.length)⟩]) ([⟨5, a.aA, a.cA, yr d.A⟩] ++ [⟨5, a.aB, a.cB, yr d.C⟩] ++ [⟨4, a.co, a.coc, br d.co⟩] ++ srows a.so a.sc Q d.m d.S ++ [⟨4, a.cp, a.cpc, br d.cp⟩] ++ [⟨3, a.wt, a.wtc, ir d.wt⟩]) w1 (by have := HT.out; unfold ntot at this; omega) (by have := HK.out; omega) (by have := HK.out; omega) ⟨HBT.out, H1.out.2.2.2.2⟩ (by simpa [mrows] using H1.out.2.2.1)).mono ?_
  rintro e w2 ⟨rfl, r, o⟩
  have H2 : Hid (MS w w2 B T a d ([⟨3, a.im, a.imc, ir (mkl k d.im.length)⟩] ++ mrows a.go a.gc a.bo a.bc R (mgs d.g (k1 d k)) d.n (mbs d.g d.L d.n (k1 d k)) ++ [⟨5, a.aA, a.cA, yr d.A⟩] ++ [⟨5, a.aB, a.cB, yr d.C⟩] ++ [⟨4, a.co, a.coc, br d.co⟩] ++ srows a.so a.sc Q d.m d.S ++ [⟨4, a.cp, a.cpc, br d.cp⟩] ++ [⟨3, a.wt, a.wtc, ir d.wt⟩])) := H1.out.step o (by simpa [mrows] using r)
  clear r o H1 p0 p1 p2 p3 p4 p5 p6 p7 p8 p9 p10 p11 p12 p13 p14 p15
  obtain ⟨p0, p1, p2, p3, p4, p5, p6, p7, p8, p9, p10, p11, p12, p13, p14, p15⟩ := H2.out.1.cells
  rw [show k1 d k + ((d.g.length : Int) + (psum d.L d.n : Int)) = k2 d k from rfl]
  go_wp2_with fail
  refine (marksl_r a.aA a.aB a.cA a.cB B T d.A d.C (k2 d k) ([⟨3, a.im, a.imc, ir (mkl k d.im.length)⟩] ++ mrows a.go a.gc a.bo a.bc R (mgs d.g (k1 d k)) d.n (mbs d.g d.L d.n (k1 d k))) ([⟨4, a.co, a.coc, br d.co⟩] ++ srows a.so a.sc Q d.m d.S ++ [⟨4, a.cp, a.cpc, br d.cp⟩] ++ [⟨3, a.wt, a.wtc, ir d.wt⟩]) w2 (by have := HT.out; unfold ntot at this; omega) (by have := HK.out; omega) (by have := HK.out; omega) ⟨HBT.out, H2.out.2.2.2.2⟩ (by simpa [mrows] using H2.out.2.2.1)).mono ?_
  rintro e w3 ⟨rfl, r, o⟩
  have H3 : Hid (MS w w3 B T a d ([⟨3, a.im, a.imc, ir (mkl k d.im.length)⟩] ++ mrows a.go a.gc a.bo a.bc R (mgs d.g (k1 d k)) d.n (mbs d.g d.L d.n (k1 d k)) ++ [⟨5, a.aA, a.cA, yr (mkb (k2 d k) d.A.length)⟩] ++ [⟨5, a.aB, a.cB, yr (mkb (k2 d k + d.A.length) d.C.length)⟩] ++ [⟨4, a.co, a.coc, br d.co⟩] ++ srows a.so a.sc Q d.m d.S ++ [⟨4, a.cp, a.cpc, br d.cp⟩] ++ [⟨3, a.wt, a.wtc, ir d.wt⟩])) := H2.out.step o (by simpa [mrows] using r)
  clear r o H2 p0 p1 p2 p3 p4 p5 p6 p7 p8 p9 p10 p11 p12 p13 p14 p15
  obtain ⟨p0, p1, p2, p3, p4, p5, p6, p7, p8, p9, p10, p11, p12, p13, p14, p15⟩ := H3.out.1.cells
  rw [show k2 d k + ((d.A.length : Int) + (d.C.length : Int)) = k3 d k from rfl]
  go_wp2_with fail
  refine (markb_r a.co a.coc a.coc B T d.co ([⟨3, a.im, a.imc, ir (mkl k d.im.length)⟩] ++ mrows a.go a.gc a.bo a.bc R (mgs d.g (k1 d k)) d.n (mbs d.g d.L d.n (k1 d k)) ++ [⟨5, a.aA, a.cA, yr (mkb (k2 d k) d.A.length)⟩] ++ [⟨5, a.aB, a.cB, yr (mkb (k2 d k + d.A.length) d.C.length)⟩]) (srows a.so a.sc Q d.m d.S ++ [⟨4, a.cp, a.cpc, br d.cp⟩] ++ [⟨3, a.wt, a.wtc, ir d.wt⟩]) (k3 d k) w3 HD.out.2.2.2.1 (by have := HK.out; omega) (by have := HK.out; omega) (by simpa [mrows] using H3.out.2.2.1)).mono ?_
  rintro e w4 ⟨rfl, r, o⟩
  have H4 : Hid (MS w w4 B T a d ([⟨3, a.im, a.imc, ir (mkl k d.im.length)⟩] ++ mrows a.go a.gc a.bo a.bc R (mgs d.g (k1 d k)) d.n (mbs d.g d.L d.n (k1 d k)) ++ [⟨5, a.aA, a.cA, yr (mkb (k2 d k) d.A.length)⟩] ++ [⟨5, a.aB, a.cB, yr (mkb (k2 d k + d.A.length) d.C.length)⟩] ++ [⟨4, a.co, a.coc, br (mkB' (k3 d k) d.co.length)⟩] ++ srows a.so a.sc Q d.m d.S ++ [⟨4, a.cp, a.cpc, br d.cp⟩] ++ [⟨3, a.wt, a.wtc, ir d.wt⟩])) := H3.out.step o (by simpa [mrows] using r)
  clear r o H3 p0 p1 p2 p3 p4 p5 p6 p7 p8 p9 p10 p11 p12 p13 p14 p15
  obtain ⟨p0, p1, p2, p3, p4, p5, p6, p7, p8, p9, p10, p11, p12, p13, p14, p15⟩ := H4.out.1.cells
  rw [show k3 d k + (d.co.length : Int) = k4 d k from rfl]
  go_wp2_with fail
  refine (markss_r a.so a.sc a.sc B T d.m (k4 d k) d.S Q ([⟨3, a.im, a.imc, ir (mkl k d.im.length)⟩] ++ mrows a.go a.gc a.bo a.bc R (mgs d.g (k1 d k)) d.n (mbs d.g d.L d.n (k1 d k)) ++ [⟨5, a.aA, a.cA, yr (mkb (k2 d k) d.A.length)⟩] ++ [⟨5, a.aB, a.cB, yr (mkb (k2 d k + d.A.length) d.C.length)⟩] ++ [⟨4, a.co, a.coc, br (mkB' (k3 d k) d.co.length)⟩]) ([⟨4, a.cp, a.cpc, br d.cp⟩] ++ [⟨3, a.wt, a.wtc, ir d.wt⟩]) w4 (by have := HT.out; unfold ntot at this; omega) (by have := HK.out; omega) (by have := HK.out; omega) (by simpa [mrows] using H4.out.2.2.1)).mono ?_
  rintro e w5 ⟨rfl, r, o⟩
  have H5 : Hid (MS w w5 B T a d ([⟨3, a.im, a.imc, ir (mkl k d.im.length)⟩] ++ mrows a.go a.gc a.bo a.bc R (mgs d.g (k1 d k)) d.n (mbs d.g d.L d.n (k1 d k)) ++ [⟨5, a.aA, a.cA, yr (mkb (k2 d k) d.A.length)⟩] ++ [⟨5, a.aB, a.cB, yr (mkb (k2 d k + d.A.length) d.C.length)⟩] ++ [⟨4, a.co, a.coc, br (mkB' (k3 d k) d.co.length)⟩] ++ srows a.so a.sc Q d.m (mrk d.S (k4 d k) d.m) ++ [⟨4, a.cp, a.cpc, br d.cp⟩] ++ [⟨3, a.wt, a.wtc, ir d.wt⟩])) := H4.out.step o (by simpa [mrows] using r)
  clear r o H4 p0 p1 p2 p3 p4 p5 p6 p7 p8 p9 p10 p11 p12 p13 p14 p15
  obtain ⟨p0, p1, p2, p3, p4, p5, p6, p7, p8, p9, p10, p11, p12, p13, p14, p15⟩ := H5.out.1.cells
  rw [show k4 d k + (psum d.S d.m : Int) = k5 d k from rfl]
  go_wp2_with fail
  refine (markb_r a.cp a.cpc a.cpc B T d.cp ([⟨3, a.im, a.imc, ir (mkl k d.im.length)⟩] ++ mrows a.go a.gc a.bo a.bc R (mgs d.g (k1 d k)) d.n (mbs d.g d.L d.n (k1 d k)) ++ [⟨5, a.aA, a.cA, yr (mkb (k2 d k) d.A.length)⟩] ++ [⟨5, a.aB, a.cB, yr (mkb (k2 d k + d.A.length) d.C.length)⟩] ++ [⟨4, a.co, a.coc, br (mkB' (k3 d k) d.co.length)⟩] ++ srows a.so a.sc Q d.m (mrk d.S (k4 d k) d.m)) ([⟨3, a.wt, a.wtc, ir d.wt⟩]) (k5 d k) w5 HD.out.2.2.2.2.2.1 (by have := HK.out; omega) (by have := HK.out; omega) (by simpa [mrows] using H5.out.2.2.1)).mono ?_
  rintro e w6 ⟨rfl, r, o⟩
  have H6 : Hid (MS w w6 B T a d ([⟨3, a.im, a.imc, ir (mkl k d.im.length)⟩] ++ mrows a.go a.gc a.bo a.bc R (mgs d.g (k1 d k)) d.n (mbs d.g d.L d.n (k1 d k)) ++ [⟨5, a.aA, a.cA, yr (mkb (k2 d k) d.A.length)⟩] ++ [⟨5, a.aB, a.cB, yr (mkb (k2 d k + d.A.length) d.C.length)⟩] ++ [⟨4, a.co, a.coc, br (mkB' (k3 d k) d.co.length)⟩] ++ srows a.so a.sc Q d.m (mrk d.S (k4 d k) d.m) ++ [⟨4, a.cp, a.cpc, br (mkB' (k5 d k) d.cp.length)⟩] ++ [⟨3, a.wt, a.wtc, ir d.wt⟩])) := H5.out.step o (by simpa [mrows] using r)
  clear r o H5 p0 p1 p2 p3 p4 p5 p6 p7 p8 p9 p10 p11 p12 p13 p14 p15
  obtain ⟨p0, p1, p2, p3, p4, p5, p6, p7, p8, p9, p10, p11, p12, p13, p14, p15⟩ := H6.out.1.cells
  rw [show k5 d k + (d.cp.length : Int) = k6 d k from rfl]
  go_wp2_with fail
  refine (marki_r a.wt a.wtc a.wtc B T d.wt ([⟨3, a.im, a.imc, ir (mkl k d.im.length)⟩] ++ mrows a.go a.gc a.bo a.bc R (mgs d.g (k1 d k)) d.n (mbs d.g d.L d.n (k1 d k)) ++ [⟨5, a.aA, a.cA, yr (mkb (k2 d k) d.A.length)⟩] ++ [⟨5, a.aB, a.cB, yr (mkb (k2 d k + d.A.length) d.C.length)⟩] ++ [⟨4, a.co, a.coc, br (mkB' (k3 d k) d.co.length)⟩] ++ srows a.so a.sc Q d.m (mrk d.S (k4 d k) d.m) ++ [⟨4, a.cp, a.cpc, br (mkB' (k5 d k) d.cp.length)⟩]) [] (k6 d k) w6 HD.out.2.2.2.2.2.2 (by have := HK.out; omega) (by have := HK.out; omega) (by simpa [mrows] using H6.out.2.2.1)).mono ?_
  rintro e w7 ⟨rfl, r, o⟩
  have H7 : Hid (MS w w7 B T a d ([⟨3, a.im, a.imc, ir (mkl k d.im.length)⟩] ++ mrows a.go a.gc a.bo a.bc R (mgs d.g (k1 d k)) d.n (mbs d.g d.L d.n (k1 d k)) ++ [⟨5, a.aA, a.cA, yr (mkb (k2 d k) d.A.length)⟩] ++ [⟨5, a.aB, a.cB, yr (mkb (k2 d k + d.A.length) d.C.length)⟩] ++ [⟨4, a.co, a.coc, br (mkB' (k3 d k) d.co.length)⟩] ++ srows a.so a.sc Q d.m (mrk d.S (k4 d k) d.m) ++ [⟨4, a.cp, a.cpc, br (mkB' (k5 d k) d.cp.length)⟩] ++ [⟨3, a.wt, a.wtc, ir (mkl (k6 d k) d.wt.length)⟩])) := H6.out.step o (by simpa [mrows] using r)
  clear r o H6 p0 p1 p2 p3 p4 p5 p6 p7 p8 p9 p10 p11 p12 p13 p14 p15
  obtain ⟨p0, p1, p2, p3, p4, p5, p6, p7, p8, p9, p10, p11, p12, p13, p14, p15⟩ := H7.out.1.cells
  rw [show k6 d k + (d.wt.length : Int) = k7 d k from rfl]
  go_wp2
  go_ret
  refine ⟨congrArg (fun z => Ending.returned (.int .i64 z)) (k7_eq d k), ?_, H7.out.2.1⟩
  refine ⟨⟨HC.out.1.1, H7.out.2.2.2.2⟩, HC.out.2.1, ⟨?_, ?_⟩, R, Q, ?_⟩
  · intro i hi
    have hi' : i < d.A.length := by simpa [mkN, mkb_len] using hi
    show 0 ≤ (mkb (k2 d k) d.A.length).getD i 0 ∧ (mkb (k2 d k) d.A.length).getD i 0 ≤ 255
    rw [mkb_get _ _ _ hi']; omega
  · intro i hi
    have hi' : i < d.C.length := by simpa [mkN, mkb_len] using hi
    show 0 ≤ (mkb (k2 d k + d.A.length) d.C.length).getD i 0 ∧ (mkb (k2 d k + d.A.length) d.C.length).getD i 0 ≤ 255
    rw [mkb_get _ _ _ hi']; omega
  · simpa [nrows, mrows, mkN] using H7.out.2.2.1

theorem sl_mkl {w : World} {ao : Option Addr} {n : Nat} {k : Int} (h : SL .i64 w ao (mkl k n).length (fun i => (mkl k n).getD i 0)) : SL .i64 w ao n (fun j => k + j) := fun t ht => by
  obtain ⟨b, o, e, hl, hcc⟩ := h t (by rw [mkl_len]; exact ht)
  refine ⟨b, o, e, hl, ?_⟩
  rw [hcc]
  simp only [mkl_get _ _ _ ht]
theorem slb_mkb {w : World} {ao : Option Addr} {n : Nat} {k : Int} (h : SLb w ao (mkB' k n).length (fun i => (mkB' k n).getD i false)) : SLb w ao n (fun j => mkB (k + j)) := fun t ht => by
  obtain ⟨b, o, e, hl, hcc⟩ := h t (by rw [mkB_len]; exact ht)
  refine ⟨b, o, e, hl, ?_⟩
  rw [hcc]
  simp only [mkB_get _ _ _ ht]

set_option maxHeartbeats 1000000 in
theorem heldm_r (go bo : Option Addr) (gc bc : Nat) (g : List Int) (n : Nat) (L : Nat → List Int) (fi ol he : Bool) (la k0 : Int) (w : World) (hb : g.length + (n + psum L n) ≤ 1048576) (h0 : 0 ≤ k0) (h1 : k0 ≤ 4194304) (hv : MV w go gc bo bc (mgs g k0) n (mbs g L n k0)) :
    Calls Tryz.prog 70 #[.agg #[.slice go g.length gc, .slice bo n bc, .bool fi, .bool ol, .bool he, .int .i64 la], .int .i64 k0] w fun e w' => e = .returned (.int .i64 (k0 + (g.length + psum L n))) ∧ Below w.heap.size w w' := by
  have hbl : Below w.heap.size w (w.alloc (.cells #[.slice go g.length gc, .slice bo n bc, .bool fi, .bool ol, .bool he, .int .i64 la] 25)) := (Below.refl _ _).alloc (Nat.le_refl _) _
  have hv' := hv.below hbl
  have hsl : SL .i64 (w.alloc (.cells #[.slice go g.length gc, .slice bo n bc, .bool fi, .bool ol, .bool he, .int .i64 la] 25)) go g.length (fun t => k0 + t) := fun t ht => by
    obtain ⟨b, o, e, hl, hcc⟩ := hv'.2.1 t (by unfold mgs; rw [mkl_len]; exact ht)
    refine ⟨b, o, e, hl, ?_⟩
    rw [hcc]
    unfold mgs
    simp only [mkl_get _ _ _ ht]
  have hc1 := hide (iheld_any go g.length gc k0 _ (by omega) (by omega) (by omega) hsl)
  have hc2 := hide (heldss_any bo n bc (k0 + g.length) L _ (by omega) (by omega) (by omega) hv'.2.2)
  have HB := hide hbl
  clear hv hv' hsl hbl
  generalize hps : psum L n = p at *
  have hd : ¬ k0 + (g.length : Int) < 0 := by omega
  have hd2 : ¬ k0 + (g.length : Int) + (p : Int) < 0 := by omega
  clear hps
  go_enter Tryz.func70, Tryz.ntmps70
  go_wp2_with fail
  refine hc1.out.mono ?_
  rintro e w1 ⟨rfl, hw⟩
  rw [hw]
  clear hw
  go_wp2_with fail
  refine hc2.out.mono ?_
  rintro e w2 ⟨rfl, hw⟩
  rw [hw]
  clear hw
  go_wp2
  go_ret
  exact ⟨congrArg (fun z => Ending.returned (.int .i64 z)) (show k0 + (g.length : Int) + (p : Int) = k0 + ((g.length : Int) + (p : Int)) by omega), HB.out⟩

set_option maxHeartbeats 1000000 in
theorem helds_r (aA aB : Option Addr) (cA cB : Nat) (nA nB : Nat) (k0 : Int) (w : World) (hl : nA ≤ 1048576 ∧ nB ≤ 1048576) (h0 : 0 ≤ k0) (h1 : k0 ≤ 4194304) (hA : VBy w aA cA (mkb k0 nA)) (hB : VBy w aB cB (mkb (k0 + nA) nB)) :
    Calls Tryz.prog 71 #[.agg #[.slice aA nA cA, .slice aB nB cB], .int .i64 k0] w fun e w' => e = .returned (.int .i64 (k0 + (nA + nB))) ∧ Below w.heap.size w w' := by
  obtain ⟨W, hW⟩ : ∃ W, W = w.alloc (.cells #[.slice aA nA cA, .slice aB nB cB] 28) := ⟨_, rfl⟩
  have hb : Below w.heap.size w W := by rw [hW]; exact bal1 _ _
  have hS : SB W w.heap.size 28 aA nA cA aB nB cB := by rw [hW]; exact SB.new w _ _ _ _ _ _ _
  have hsl : ∀ (ao : Option Addr) (cap n : Nat) (k : Int), VBy W ao cap (mkb k n) → SL .u8 W ao n (fun j => (k + j) % 256) := fun ao cap n k h i hi => by
    have := h.1 i (by rw [mkb_len]; exact hi)
    simp only [mkb_get _ _ _ hi] at this
    exact this
  have hc1 := hide (held_any aA nA cA k0 W (by omega) (by omega) (by omega) (hsl _ _ _ _ (hA.below hb)))
  have hc2 := hide (held_any aB nB cB (k0 + nA) W (by omega) (by omega) (by omega) (hsl _ _ _ _ (hB.below hb)))
  obtain ⟨c0, c1⟩ := hS.cells
  have HB := hide hb
  clear hA hB hb hS hsl
  have hk : ¬ k0 + (nA : Int) < 0 := by omega
  have hk2 : ¬ k0 + (nA : Int) + (nB : Int) < 0 := by omega
  go_enter Tryz.func71, Tryz.ntmps71
  go_wp2_with fail
  rw [← hW]
  clear hW
  refine hc1.out.mono ?_
  rintro e w1 ⟨rfl, hw⟩
  rw [hw]
  clear hw hc1
  go_wp2_with fail
  refine hc2.out.mono ?_
  rintro e w1 ⟨rfl, hw⟩
  rw [hw]
  clear hw hc2
  go_wp2
  go_ret
  exact ⟨congrArg (fun z => Ending.returned (.int .i64 z)) (show k0 + (nA : Int) + (nB : Int) = k0 + ((nA : Int) + (nB : Int)) by omega), HB.out⟩

set_option maxHeartbeats 4000000 in
theorem heldn_any (a : Na) (d : Nd) (k : Int) (w : World) (ht : ntot d ≤ 1048576) (h0 : 0 ≤ k) (h1 : k ≤ 2097152) (hv : NV w a (mkN d k)) :
    Calls Tryz.prog 19 #[nv a d, .int .i64 k] w fun e w' => e = .returned (.int .i64 (k + ncnt d)) ∧ Below w.heap.size w w' := by
  obtain ⟨W, hW⟩ : ∃ W, W = w.alloc (.cells (nds a d) 31) := ⟨_, rfl⟩
  have H0 : Hid (Below w.heap.size w W ∧ NB W w.heap.size 31 a d) := by rw [hW]; exact ⟨bal1 _ _, NB.new _ _ _ _⟩
  have HV : Hid (∀ V, Below w.heap.size w V → NV V a (mkN d k)) := fun V hb => hv.below hb
  have HT := hide ht
  have HK := hide (kbnd (k := k) ht h0)
  have HD := hide (nbd_of ht)
  obtain ⟨p0, p1, p2, p3, p4, p5, p6, p7, p8, p9, p10, p11, p12, p13, p14, p15⟩ := H0.out.2.cells
  clear hv ht
  unfold nv
  unfold nds at hW ⊢
  go_enter Tryz.func19, Tryz.ntmps19
  go_wp2_with fail
  rw [← hW]
  clear hW
  refine (iheld_any a.im d.im.length a.imc k W HD.out.1 h0 (by omega) (sl_mkl (HV.out _ H0.out.1).1.1)).mono ?_
  rintro e w' ⟨rfl, hw⟩
  rw [hw]
  clear hw
  rw [show k + (d.im.length : Int) = k1 d k from rfl]
  have hd0 : ¬ k1 d k < 0 := by have := HK.out; omega
  go_wp2_with fail
  refine (heldm_r a.go a.bo a.gc a.bc d.g d.n d.L d.fi d.ol d.he d.la (k1 d k) W (by have := HT.out; unfold ntot at this; omega) (by have := HK.out; omega) (by have := HK.out; omega) (HV.out _ H0.out.1).2.1).mono ?_
  rintro e w2 ⟨rfl, b⟩
  have H2 : Hid (Below w.heap.size w w2 ∧ NB w2 w.heap.size 31 a d) := ⟨H0.out.1.trans (b.mono H0.out.1.size), H0.out.2.b b⟩
  clear b H0 p0 p1 p2 p3 p4 p5 p6 p7 p8 p9 p10 p11 p12 p13 p14 p15
  obtain ⟨p0, p1, p2, p3, p4, p5, p6, p7, p8, p9, p10, p11, p12, p13, p14, p15⟩ := H2.out.2.cells
  rw [show k1 d k + ((d.g.length : Int) + (psum d.L d.n : Int)) = k2 d k from rfl]
  have hd1 : ¬ k2 d k < 0 := by have := HK.out; omega
  go_wp2_with fail
  refine (helds_r a.aA a.aB a.cA a.cB d.A.length d.C.length (k2 d k) w2 HD.out.2.2.1 (by have := HK.out; omega) (by have := HK.out; omega) ⟨(HV.out _ H2.out.1).2.2.1.1.1, (HV.out _ H2.out.1).2.2.1.1.2.1, by rw [mkb_len]; exact HD.out.2.2.1.1, (HV.out _ H2.out.1).2.2.1.1.2.2⟩ ⟨(HV.out _ H2.out.1).2.2.1.2.1, (HV.out _ H2.out.1).2.2.1.2.2.1, by rw [mkb_len]; exact HD.out.2.2.1.2, (HV.out _ H2.out.1).2.2.1.2.2.2⟩).mono ?_
  rintro e w3 ⟨rfl, b⟩
  have H3 : Hid (Below w.heap.size w w3 ∧ NB w3 w.heap.size 31 a d) := ⟨H2.out.1.trans (b.mono H2.out.1.size), H2.out.2.b b⟩
  clear b H2 p0 p1 p2 p3 p4 p5 p6 p7 p8 p9 p10 p11 p12 p13 p14 p15
  obtain ⟨p0, p1, p2, p3, p4, p5, p6, p7, p8, p9, p10, p11, p12, p13, p14, p15⟩ := H3.out.2.cells
  rw [show k2 d k + ((d.A.length : Int) + (d.C.length : Int)) = k3 d k from rfl]
  have hd2 : ¬ k3 d k < 0 := by have := HK.out; omega
  go_wp2_with fail
  refine (bheld_any a.co d.co.length a.coc (k3 d k) w3 HD.out.2.2.2.1 (by have := HK.out; omega) (by have := HK.out; omega) (slb_mkb (HV.out _ H3.out.1).2.2.2.1.1)).mono ?_
  rintro e w' ⟨rfl, hw⟩
  rw [hw]
  clear hw
  rw [show k3 d k + (d.co.length : Int) = k4 d k from rfl]
  have hd3 : ¬ k4 d k < 0 := by have := HK.out; omega
  go_wp2_with fail
  refine (heldss_any a.so d.m a.sc (k4 d k) d.S w3 (by have := HT.out; unfold ntot at this; omega) (by have := HK.out; omega) (by have := HK.out; omega) (HV.out _ H3.out.1).2.2.2.2.1.1).mono ?_
  rintro e w' ⟨rfl, hw⟩
  rw [hw]
  clear hw
  rw [show k4 d k + (psum d.S d.m : Int) = k5 d k from rfl]
  have hd4 : ¬ k5 d k < 0 := by have := HK.out; omega
  go_wp2_with fail
  refine (bheld_any a.cp d.cp.length a.cpc (k5 d k) w3 HD.out.2.2.2.2.2.1 (by have := HK.out; omega) (by have := HK.out; omega) (slb_mkb (HV.out _ H3.out.1).2.2.2.2.2.1.1)).mono ?_
  rintro e w' ⟨rfl, hw⟩
  rw [hw]
  clear hw
  rw [show k5 d k + (d.cp.length : Int) = k6 d k from rfl]
  have hd5 : ¬ k6 d k < 0 := by have := HK.out; omega
  go_wp2_with fail
  refine (iheld_any a.wt d.wt.length a.wtc (k6 d k) w3 HD.out.2.2.2.2.2.2 (by have := HK.out; omega) (by have := HK.out; omega) (sl_mkl (HV.out _ H3.out.1).2.2.2.2.2.2.1)).mono ?_
  rintro e w' ⟨rfl, hw⟩
  rw [hw]
  clear hw
  rw [show k6 d k + (d.wt.length : Int) = k7 d k from rfl]
  have hd6 : ¬ k7 d k < 0 := by have := HK.out; have h7 := k7_eq d k; unfold ncnt at h7; omega
  go_wp2
  go_ret
  exact ⟨congrArg (fun z => Ending.returned (.int .i64 z)) (k7_eq d k), H3.out.1⟩
end Go.Proofs.YtkndnndildnbpaaGreatDoor

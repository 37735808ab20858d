/- What is known, marked, and found so. -/
import Derived.Test.YtkeojhnifnkpiaaMtW2
namespace Go.Proofs.Ytkeojhnifnkpiaa
open Go.ChangeShapes Go.WideShapes Go.ChangeAt Go.RowKit
set_option linter.unusedVariables false
set_option linter.unusedSimpArgs false
set_option maxRecDepth 100000

theorem kmark_own (g n cap B : Nat) (k0 : Int) (F : Nat → Value) (w : World) (hn : n ≤ 1048576) (h0 : 0 ≤ k0) (h1 : k0 ≤ 1099511627776) (ho : Own w B 3 (some ⟨g, 0, none⟩) n F) :
    Calls Try.prog 107 #[.slice (some ⟨g, 0, none⟩) n cap, .int .i64 k0] w fun e w' => e = .returned (.int .i64 (k0 + n)) ∧ Own w' B 3 (some ⟨g, 0, none⟩) n (fun j => .int .i64 (k0 + j)) ∧ Only g w w' := by
  go_enter Try.func107, Try.ntmps107
  go_wp2
  go_loopw [1, 5] (fun m i wr => ∃ k : Nat, k ≤ n ∧ i = .int .i64 k ∧ m = .int .i64 (k0 + k) ∧ Own wr B 3 (some ⟨g, 0, none⟩) n (fun j => if j < k then .int .i64 (k0 + j) else F j) ∧ Only g w wr) (fun _ i _ => n - (intOf i).toNat)
  case atStart => exact ⟨0, Nat.zero_le _, rfl, by simp, ho.congr (by intro i _; simp), Only.refl _ _⟩
  case round =>
    obtain ⟨k, hk, rfl, rfl, hrow, hbel⟩ := hrel
    by_cases hlt : k < n
    · obtain ⟨g', e, hB, hg, hc, hf⟩ := hrow.at hlt
      cases e
      have R := imark_step hrow
      have R2 := hbel.setCell (i := k) (.int .i64 (k0 + k))
      clear hrow ho
      go_wp2
      go_roundw
      case rel => exact ⟨k + 1, by omega, by go_num, by go_num, R, R2⟩
      case measure => simp [intOf]; omega
    · have hkn : k = n := by omega
      subst hkn
      go_wp2
      go_ret
      exact ⟨rfl, hrow.congr (by intro i hi; rw [if_pos (by omega)]), hbel⟩
theorem kmark_zero (ao : Option Addr) (cap : Nat) (k0 : Int) (w : World) :
    Calls Try.prog 107 #[.slice ao 0 cap, .int .i64 k0] w fun e w' => e = .returned (.int .i64 k0) ∧ w' = w := by
  go_enter Try.func107, Try.ntmps107
  go_wp2
  refine wp_loop_rounds 1 ?_
  rw [rounds_succ]
  go_wp2
  go_ret
  exact ⟨rfl, rfl⟩
/-- A row marked: what else there is stays as it was. -/
def Mkd (w w' : World) (B T n : Nat) (ao : Option Addr) (k : Int) : Prop :=
  (n = 0 ∧ w' = w) ∨ ∃ γ, ao = some ⟨γ, 0, none⟩ ∧ 0 < n ∧ Only γ w w' ∧ Rt w' B T ao n (fun t => .int .i64 (k + t))
theorem kmark_any (ao : Option Addr) (n cap B T : Nat) (k0 : Int) (F : Nat → Value) (w : World) (hn : n ≤ 1048576) (h0 : 0 ≤ k0) (h1 : k0 ≤ 1099511627776) (ho : Rt w B T ao n F) :
    Calls Try.prog 107 #[.slice ao n cap, .int .i64 k0] w fun e w' => e = .returned (.int .i64 (k0 + n)) ∧ Mkd w w' B T n ao k0 := by
  rcases Nat.eq_zero_or_pos n with rfl | hp
  · refine (kmark_zero ao cap k0 w).mono ?_
    rintro e w' ⟨rfl, rfl⟩
    exact ⟨by simp, .inl ⟨rfl, rfl⟩⟩
  · obtain ⟨γ, rfl, hB, hT⟩ := ho.at hp
    refine (kmark_own γ n cap B k0 F w hn h0 h1 ho.own).mono ?_
    rintro e w' ⟨rfl, h2, h3⟩
    refine ⟨rfl, .inr ⟨γ, rfl, hp, h3, ?_⟩⟩
    rcases h2 with h2 | ⟨γ', e, hB', r⟩
    · exact .inl h2
    · cases e
      exact .inr ⟨γ, rfl, ⟨hB, hT⟩, r⟩
/-- Of what there was, blocks from B on below T alone were written. -/
def OnB (B T : Nat) (w w' : World) : Prop := Below B w w' ∧ ∀ j, j < w.heap.size → T ≤ j → w'.heap[j]? = w.heap[j]?
theorem OnB.refl (B T : Nat) (w : World) : OnB B T w w := ⟨Below.refl _ _, fun _ _ _ => rfl⟩
theorem OnB.trans {B T : Nat} {w w1 w2 : World} (h : OnB B T w w1) (h' : OnB B T w1 w2) : OnB B T w w2 :=
  ⟨h.1.trans h'.1, fun j h1 h2 => (h'.2 j (Nat.lt_of_lt_of_le h1 h.1.size) h2).trans (h.2 j h1 h2)⟩
theorem OnB.of_below {B T : Nat} {w w1 : World} (h : Below w.heap.size w w1) (hB : B ≤ w.heap.size) : OnB B T w w1 := ⟨h.mono hB, fun j h1 _ => h.block j h1⟩
theorem OnB.only {B T γ : Nat} {w w1 : World} (h : Only γ w w1) (hγ : B ≤ γ ∧ γ < T) : OnB B T w w1 := ⟨h.1.mono hγ.1, fun j _ h2 => h.2.2 j (by omega)⟩
theorem Mkd.onb {w w' : World} {B T n : Nat} {ao : Option Addr} {k : Int} (h : Mkd w w' B T n ao k) : OnB B T w w' := by
  rcases h with ⟨_, rfl⟩ | ⟨γ, e, hp, ho, hr⟩
  · exact OnB.refl _ _ _
  · obtain ⟨γ', e', hg⟩ := hr.at hp
    rw [e] at e'
    cases e'
    exact OnB.only ho hg
theorem OR.mkd {w w' : World} {B T n j : Nat} {k : Int} {L : Nat → List Int} {R : Nat → Option Addr × Nat} (h : OR w B T n L R) (hj : j < n) (hw : Mkd w w' B T (L j).length (R j).1 k) : OR w' B T n (fun i => if i = j then mkl k (L j).length else L i) R := h.mark hj hw
theorem SR.mkd {w w' : World} {B T B' T' n m : Nat} {bo ao : Option Addr} {k : Int} {L : Nat → List Int} {R : Nat → Option Addr × Nat} {F : Nat → Value} (h : SR w B T bo n L R) (hr : Rt w B' T' ao m F) (hw : Mkd w w' B' T' m ao k) : SR w' B T bo n L R := by
  rcases hw with ⟨_, rfl⟩ | ⟨γ, e, hp, ho, _⟩
  · exact h
  · rcases hr with hr | ⟨g, e', _, c, hc, _⟩
    · omega
    · rw [e] at e'
      cases e'
      exact h.only hc ho

/-- The rows of a row of slices, row 1 on of n + 1, marked from k on. -/
theorem markss_any (bo : Option Addr) (bc B T n : Nat) (k0 : Int) (g : List Int) (L : Nat → List Int) (r : Option Addr × Nat) (R : Nat → Option Addr × Nat) (w : World) (hb : n + psum L n ≤ 1048576) (h0 : 0 ≤ k0) (h1 : k0 ≤ 1099511627) (ho : OR w B T (n + 1) (rows g L) (rws r R)) (hs : SR w B T bo n L R) :
    Calls Try.prog 108 #[.slice bo n bc, .int .i64 k0] w fun e w' => e = .returned (.int .i64 (k0 + psum L n)) ∧ OR w' B T (n + 1) (rows g (mrk L k0 n)) (rws r R) ∧ SR w' B T bo n L R ∧ OnB B T w w' := by
  have HO := hide ho
  have HS := hide hs
  clear ho hs
  go_enter Try.func108, Try.ntmps108
  go_wp2
  go_loopw [1, 5] (fun m i wr => ∃ j : Nat, j ≤ n ∧ i = .int .i64 j ∧ m = .int .i64 (k0 + psum L j) ∧ Hid (OR wr B T (n + 1) (rows g (mrk L k0 j)) (rws r R) ∧ SR wr B T bo n L R ∧ OnB B T w wr)) (fun _ i _ => n - (intOf i).toNat)
  case atStart => exact ⟨0, by omega, rfl, by simp [psum], by rw [mrk_zero]; exact ⟨HO.out, HS.out, OnB.refl _ _ _⟩⟩
  case round =>
    obtain ⟨j, hj, rfl, rfl, HI⟩ := hrel
    by_cases hlt : j < n
    · have hs' := HI.out.2.1
      rcases hs' with h | ⟨b, c, rfl, hbB, hc, hcs, hF⟩
      · omega
      · have hcell : wr.cell? ⟨b, j, none⟩ = some (.slice (R j).1 (L j).length (R j).2) := mblk hc (hF j hlt)
        have hr := (HI.out.1 (j + 1) (by omega)).2.1
        have hlen : (rows g (mrk L k0 j) (j + 1)).length = (L j).length := mrk_len L k0 j j
        rw [hlen] at hr
        have hps := psum_one L j n hlt
        have E : Hid (psum L (j + 1) = psum L j + (L j).length) := rfl
        have hcall := hide (kmark_any (R j).1 (L j).length (R j).2 B T (k0 + psum L j) _ wr (by omega) (by omega) (by omega) hr)
        have HR := hide hr
        have HLn := hide hlen
        clear hc hcs hF hr hlen
        generalize hl : (L j).length = l at *
        have HLL := hide hl
        clear hl
        generalize hp : psum L j = p at *
        have HP := hide hp
        clear hp
        go_wp2_with fail
        refine hcall.out.mono ?_
        rintro e w1 ⟨rfl, hm⟩
        have HN : Hid (OR w1 B T (n + 1) (rows g (mrk L k0 (j + 1))) (rws r R) ∧ SR w1 B T (some ⟨b, 0, none⟩) n L R ∧ OnB B T w w1) := by
          refine ⟨?_, HI.out.2.1.mkd HR.out hm, HI.out.2.2.trans hm.onb⟩
          have hm' : Mkd wr w1 B T (rows g (mrk L k0 j) (j + 1)).length (rws r R (j + 1)).1 (k0 + p) := by rw [HLn.out]; exact hm
          refine (HI.out.1.mkd (j := j + 1) (by omega) hm').congr fun i hi => ?_
          rw [← mrk_step, HP.out]
          match i with
          | 0 => rfl
          | i + 1 =>
            show (if i + 1 = j + 1 then mkl (k0 + p) (rows g (mrk L k0 j) (j + 1)).length else mrk L k0 j i) = (if i = j then mkl (k0 + p) (mrk L k0 j j).length else mrk L k0 j i)
            by_cases e : i = j
            · subst e; rw [if_pos rfl, if_pos rfl]; rfl
            · rw [if_neg (by omega), if_neg e]
        clear hm hcall HI HR HLn
        go_wp2
        go_roundw
        case rel => exact ⟨j + 1, by omega, by go_num, by rw [E.out]; congr 1; omega, HN.out⟩
        case measure => simp [intOf]; omega
    · obtain rfl : j = n := by omega
      go_wp2
      go_ret
      exact ⟨rfl, HI.out⟩
/-- .. also what it was marked by. -/
def mgs (g : List Int) (k : Int) : List Int := mkl k g.length
def mbs (g : List Int) (L : Nat → List Int) (n : Nat) (k : Int) : Nat → List Int := mrk L (k + g.length) n

theorem markm_any (go bo : Option Addr) (gc bc B T : Nat) (g : List Int) (n : Nat) (L : Nat → List Int) (fi ol he : Bool) (la k0 : Int) (w : World) (hb : g.length + (n + psum L n) ≤ 1048576) (h0 : 0 ≤ k0) (h1 : k0 ≤ 1000) (ho : OKm w B T go gc bo bc g n L) :
    Calls Try.prog 44 #[.agg #[.slice go g.length gc, .slice bo n bc, .bool fi, .bool ol, .bool he, .int .i64 la], .int .i64 k0] w fun e w' => e = .returned (.int .i64 (k0 + (g.length + psum L n))) ∧ OKm w' B T go gc bo bc (mgs g k0) n (mbs g L n k0) ∧ OnB B T w w' := by
  obtain ⟨W, hW⟩ : ∃ W, W = w.alloc (.cells #[.slice go g.length gc, .slice bo n bc, .bool fi, .bool ol, .bool he, .int .i64 la] 27) := ⟨_, rfl⟩
  have hbl : Below w.heap.size w W := by rw [hW]; exact (Below.refl _ _).alloc (Nat.le_refl _) _
  have hblk : W.heap[w.heap.size]? = some (.cells #[.slice go g.length gc, .slice bo n bc, .bool fi, .bool ol, .bool he, .int .i64 la] 27 (0, 0)) := by rw [hW]; exact Deep.blk_alloc_new _ _
  obtain ⟨⟨hBT, hTw⟩, hnb, R, hO, hS⟩ := ho.below hbl ho.1.2
  have hTs := ho.1.2
  have p0 : W.cell? ⟨w.heap.size, 0, none⟩ = some (.slice go g.length gc) := mblk hblk rfl
  have hr0 : Rt W B T go g.length (lv g) := (hO 0 (by omega)).2.1
  have hcall := hide (kmark_any go g.length gc B T k0 (lv g) W (by omega) (by omega) (by omega) hr0)
  have HO := hide hO
  have HS := hide hS
  have HR0 := hide hr0
  have HBL := hide hbl
  clear hO hS hr0 ho hbl
  go_enter Try.func44, Try.ntmps44
  go_wp2_with fail
  rw [← hW]
  refine hcall.out.mono ?_
  rintro e w1 ⟨rfl, hm⟩
  have hO1 : OR w1 B T (n + 1) (rows (mgs g k0) L) (rws (go, gc) R) := (HO.out.mkd (j := 0) (by omega) hm).congr fun i hi => by
    match i with
    | 0 => rfl
    | i + 1 => rfl
  have hS1 := HS.out.mkd HR0.out hm
  have HN1 := hide ((OnB.of_below HBL.out (B := B) (T := T) (by omega)).trans hm.onb)
  have hne : w1.heap[w.heap.size]? = W.heap[w.heap.size]? := by
    rcases hm with ⟨_, rfl⟩ | ⟨γ, e, hp, hon, hrt⟩
    · rfl
    · obtain ⟨γ', e', _, hg⟩ := hrt.at hp
      rw [e] at e'
      cases e'
      exact hon.2.2 _ (by omega)
  have p1 : w1.cell? ⟨w.heap.size, 1, none⟩ = some (.slice bo n bc) := mblk (hne.trans hblk) rfl
  have hcall2 := hide (markss_any bo bc B T n (k0 + g.length) (mgs g k0) L (go, gc) R w1 (by omega) (by omega) (by omega) hO1 hS1)
  clear hm hO1 hS1 hne hblk hcall HO HS HR0 HBL hW
  generalize hps : psum L n = p at *
  have HPS := hide hps
  clear hps
  go_wp2_with fail
  refine hcall2.out.mono ?_
  rintro e w2 ⟨rfl, hO2, hS2, hN2⟩
  have HF : Hid (OKm w2 B T go gc bo bc (mgs g k0) n (mbs g L n k0) ∧ OnB B T w w2) := by
    refine ⟨⟨⟨hBT, ?_⟩, hnb, R, hO2, hS2.lens fun i hi => (mrk_len _ _ _ _).symm⟩, HN1.out.trans hN2⟩
    exact Nat.le_trans hTs (HN1.out.trans hN2).1.size
  clear hcall2 hO2 hS2 hN2 HN1
  go_wp2
  go_ret
  exact ⟨congrArg (fun z => Ending.returned (.int .i64 z)) (show k0 + (g.length : Int) + (p : Int) = k0 + ((g.length : Int) + (psum L n : Int)) by rw [HPS.out]; omega), HF.out⟩

theorem heldss_any (bo : Option Addr) (n bc : Nat) (k0 : Int) (L : Nat → List Int) (w : World) (hb : n + psum L n ≤ 1048576) (h0 : 0 ≤ k0) (h1 : k0 ≤ 1099511627) (hv : BV w bo n (mrk L k0 n)) :
    Calls Try.prog 110 #[.slice bo n bc, .int .i64 k0] w fun e w' => e = .returned (.int .i64 (k0 + psum L n)) ∧ w' = w := by
  have HV := hide hv
  clear hv
  go_enter Try.func110, Try.ntmps110
  go_wp2
  go_loop [1, 5] (fun m i => ∃ j : Nat, j ≤ n ∧ i = .int .i64 j ∧ m = .int .i64 (k0 + psum L j)) (fun _ i => n - (intOf i).toNat)
  case atStart => exact ⟨0, by omega, rfl, by simp [psum]⟩
  case round =>
    obtain ⟨j, hj, rfl, rfl⟩ := hrel
    by_cases hlt : j < n
    · obtain ⟨b, off, ro, rc, rfl, hc, hrc, hsl⟩ := HV.out j hlt
      rw [mrk_len] at hc hsl
      have hsl' : SL .i64 w ro (L j).length (fun t => k0 + psum L j + t) := fun t ht => by
        obtain ⟨b, o, e, hl, hcc⟩ := hsl t ht
        refine ⟨b, o, e, hl, ?_⟩
        rw [hcc]
        unfold mrk
        simp only [if_pos hlt, mkl_get _ _ _ ht]
      have hps := psum_one L j n hlt
      have E : Hid (psum L (j + 1) = psum L j + (L j).length) := rfl
      have hcall := hide (iheld_any ro (L j).length rc (k0 + psum L j) w (by omega) (by omega) (by omega) hsl')
      clear hsl hsl' hrc HV
      generalize (L j).length = l at *
      generalize psum L j = p at *
      have hd : ¬ k0 + (p : Int) + (l : Int) < 0 := by omega
      go_wp2_with fail
      refine hcall.out.mono ?_
      rintro e w1 ⟨rfl, hw⟩
      rw [hw]
      clear hw hcall
      go_wp2
      go_round
      case rel => exact ⟨j + 1, by omega, by go_num, by rw [E.out]; congr 1; omega⟩
      case measure => simp [intOf]; omega
    · obtain rfl : j = n := by omega
      go_wp2
      go_ret
      exact ⟨rfl, rfl⟩

theorem heldm_any (go bo : Option Addr) (gc bc : Nat) (g : List Int) (n : Nat) (L : Nat → List Int) (fi ol he : Bool) (la k0 : Int) (w : World) (hb : g.length + (n + psum L n) ≤ 1048576) (h0 : 0 ≤ k0) (h1 : k0 ≤ 1000) (hv : MV w go gc bo bc (mgs g k0) n (mbs g L n k0)) :
    Calls Try.prog 45 #[.agg #[.slice go g.length gc, .slice bo n bc, .bool fi, .bool ol, .bool he, .int .i64 la], .int .i64 k0] w fun e w' => e = .returned (.int .i64 (k0 + (g.length + psum L n))) ∧ Below w.heap.size w w' := by
  have hbl : Below w.heap.size w (w.alloc (.cells #[.slice go g.length gc, .slice bo n bc, .bool fi, .bool ol, .bool he, .int .i64 la] 27)) := (Below.refl _ _).alloc (Nat.le_refl _) _
  have hv' := hv.below hbl
  have hsl : SL .i64 (w.alloc (.cells #[.slice go g.length gc, .slice bo n bc, .bool fi, .bool ol, .bool he, .int .i64 la] 27)) go g.length (fun t => k0 + t) := fun t ht => by
    obtain ⟨b, o, e, hl, hcc⟩ := hv'.2.1 t (by unfold mgs; rw [mkl_len]; exact ht)
    refine ⟨b, o, e, hl, ?_⟩
    rw [hcc]
    unfold mgs
    simp only [mkl_get _ _ _ ht]
  have hc1 := hide (iheld_any go g.length gc k0 _ (by omega) (by omega) (by omega) hsl)
  have hc2 := hide (heldss_any bo n bc (k0 + g.length) L _ (by omega) (by omega) (by omega) hv'.2.2)
  have HB := hide hbl
  clear hv hv' hsl hbl
  generalize hps : psum L n = p at *
  have hd : ¬ k0 + (g.length : Int) < 0 := by omega
  have hd2 : ¬ k0 + (g.length : Int) + (p : Int) < 0 := by omega
  clear hps
  go_enter Try.func45, Try.ntmps45
  go_wp2_with fail
  refine hc1.out.mono ?_
  rintro e w1 ⟨rfl, hw⟩
  rw [hw]
  clear hw
  go_wp2_with fail
  refine hc2.out.mono ?_
  rintro e w2 ⟨rfl, hw⟩
  rw [hw]
  clear hw
  go_wp2
  go_ret
  exact ⟨congrArg (fun z => Ending.returned (.int .i64 z)) (show k0 + (g.length : Int) + (p : Int) = k0 + ((g.length : Int) + (p : Int)) by omega), HB.out⟩
end Go.Proofs.Ytkeojhnifnkpiaa

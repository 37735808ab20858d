/- SlotOf of the program. -/
import Derived.Test.YtjjdbdkbpmbniaaGreatDoorSlIZ
import Derived.Test.YtjjdbdkbpmbniaaGreatDoorSlS2Z
import Derived.Test.YtjjdbdkbpmbniaaGreatDoorAsTZ

namespace Go.Proofs.YtjjdbdkbpmbniaaGreatDoor
open Go.ChangeShapes Go.WideShapes Go.ChangeAt Go.RowKit
set_option linter.unusedVariables false
set_option linter.unusedSimpArgs false
set_option maxRecDepth 100000

theorem ErrT.lt {w : World} (h : ErrT w) : 0 < w.heap.size := by
  unfold ErrT at h
  rcases Nat.eq_zero_or_pos w.heap.size with h0 | h1
  · simp [World.cell?, h0] at h
  · exact h1
theorem ErrT.below {w w' : World} (h : ErrT w) (hb : Below w.heap.size w w') : ErrT w' := (hb.cell (p := ⟨0, 0, none⟩) h.lt).trans h
theorem istorn_nil (w : World) : Calls Tryz.prog 52 #[.nilIface] w fun e w' => e = .returned (.bool false) ∧ Below w.heap.size w w' := by
  go_enter Tryz.func52, Tryz.ntmps52
  go_wp2_with fail
  refine (as_nil _ _).mono ?_
  rintro e w1 ⟨rfl, hw⟩
  rw [hw]
  clear hw
  go_wp2
  go_ret
  exact ⟨rfl, bal1 _ _⟩
theorem istorn_hit (s : ByteArray) (w : World) (hg : ErrT w) : Calls Tryz.prog 52 #[.iface 107 (.agg #[.string s])] w fun e w' => e = .returned (.bool true) ∧ Below w.heap.size w w' := by
  have hc := fun o => hide (as_hit s ⟨w.heap.size, 0, none⟩ _ (w.alloc (.cells #[.string o] 107)) (hg.below (bal1 _ _)) (mblk (Deep.blk_alloc_new _ _) rfl) (fblk (Deep.blk_alloc_new _ _) 0))
  clear hg
  go_enter Tryz.func52, Tryz.ntmps52
  go_wp2_with fail
  refine ((hc _).out).mono ?_
  rintro e w1 ⟨rfl, hw⟩
  have HW := hide hw
  clear hw
  go_wp2
  go_ret
  refine ⟨rfl, ?_⟩
  rw [HW.out]
  unfold asLeft
  refine Below.setCell ?_ (show w.heap.size ≤ (⟨w.heap.size, 0, none⟩ : Addr).block from Nat.le_refl _) _
  exact (((((bal1 w _).alloc (by simp) _).alloc (by simp; omega) _).alloc (by simp; omega) _).alloc (by simp; omega) _)

/-- What readSlot hands back. -/
def RdOut (w w' : World) (B : List Int) (e : Ending) : Prop :=
  ((∃ g L fi ol he la q go bo gc bc, SlIs B g L fi ol he la q ∧ e = .returned (.tuple #[.agg #[.slice go g.length gc, .slice bo 3 bc, .bool fi, .bool ol, .bool he, .int .i64 la], .int .i64 q, .nilIface]) ∧ OKm w' w.heap.size w'.heap.size go gc bo bc g 3 L) ∨
   (¬ Whole B ∧ ∃ s, e = .returned (.tuple #[.agg #[.slice none 0 0, .slice none 0 0, .bool false, .bool false, .bool false, .int .i64 0], .int .i64 0, .iface 107 (.agg #[.string s])]))) ∧ Below w.heap.size w w'

set_option maxHeartbeats 4000000 in
theorem readslot_impl (ao : Option Addr) (n cap : Nat) (f : Nat → Int) (w : World) (hn : n ≤ 1048576) (hcap : n ≤ cap) (hs : SL .u8 w ao n f) (hf : ∀ i, i < n → 0 ≤ f i ∧ f i ≤ 255) :
    Calls Tryz.prog 51 #[.slice ao n cap] w fun e w' => RdOut w w' ((List.range n).map f) e := by
  obtain ⟨W, hW⟩ : ∃ W, W = w.alloc (.cells #[.slice none 0 0, .slice none 0 0, .bool false, .bool false, .bool false, .int .i64 0] 29) := ⟨_, rfl⟩
  have hB : Below w.heap.size w W := by rw [hW]; exact bal1 _ _
  have hK : KB W w.heap.size 29 none 0 0 none 0 0 false false false 0 := by rw [hW]; exact KB.new w _ _ _ _ _ _ _ _ _ _ _
  have HB := hide hB
  have HK := hide hK
  have HS := hide hs
  have HF := hide hf
  by_cases h160 : n = 160
  case neg =>
    have HN : Hid (¬ Whole ((List.range n).map f)) := fun ⟨_, _, _, _, _, _, _, h⟩ => h160 (sl_key h).1
    have hne : ¬ (n : Int) = 160 := by omega
    clear hs hf hB hK
    obtain ⟨r0, r1, r2, r3, r4, r5⟩ := HK.out.cells
    have rz := HK.out.froz
    go_enter Tryz.func51, Tryz.ntmps51
    go_wp2_with fail
    rw [← hW]
    clear hW
    go_wp2
    refine bodyPost_ret (v := .tuple #[.agg #[.slice none 0 0, .slice none 0 0, .bool false, .bool false, .bool false, .int .i64 0], .int .i64 0, .iface 107 (.agg #[.string _])]) (by simp [results, Tryz.results51, go_sem, r0, r1, r2, r3, r4, r5]; rfl) rfl ?_
    refine ⟨.inr ⟨HN.out, _, rfl⟩, ?_⟩
    first
      | exact HB.out
      | (iterate 6 (refine Below.setCell ?_ (by show w.heap.size ≤ w.heap.size; omega) _); exact HB.out)
  subst h160
  obtain ⟨b, off, rfl, hbl, c4⟩ := hs 4 (by omega)
  have y4 := hf 4 (by omega)
  obtain ⟨x4, hx4⟩ : ∃ x : Nat, f 4 = (x : Int) := ⟨(f 4).toNat, by omega⟩
  rw [hx4] at c4 y4
  have HX4 : Hid (f 4 = (x4 : Int) ∧ (f 4).toNat = x4) := ⟨hx4, by omega⟩
  clear hx4 hs hf hB hK
  by_cases h151 : (156 : Int) < 5 + (x4 : Int)
  case pos =>
    have HN : Hid (¬ Whole ((List.range 160).map f)) := fun ⟨_, _, _, _, _, _, _, h⟩ => by have := (sl_key h).2.1; rw [HX4.out.1] at this; omega
    obtain ⟨r0, r1, r2, r3, r4, r5⟩ := HK.out.cells
    have rz := HK.out.froz
    go_enter Tryz.func51, Tryz.ntmps51
    go_wp2_with fail
    rw [← hW]
    clear hW
    go_wp2
    refine bodyPost_ret (v := .tuple #[.agg #[.slice none 0 0, .slice none 0 0, .bool false, .bool false, .bool false, .int .i64 0], .int .i64 0, .iface 107 (.agg #[.string _])]) (by simp [results, Tryz.results51, go_sem, r0, r1, r2, r3, r4, r5]; rfl) rfl ?_
    refine ⟨.inr ⟨HN.out, _, rfl⟩, ?_⟩
    first
      | exact HB.out
      | (iterate 6 (refine Below.setCell ?_ (by show w.heap.size ≤ w.heap.size; omega) _); exact HB.out)
  have hc5 : ¬ cap = 5 := by omega
  have hle : 5 + x4 ≤ cap := by omega
  have hleI : (5 : Int) + (x4 : Int) ≤ (cap : Int) := by omega
  have hsub : Hid (SL .u8 W (some ⟨b, off + 5, none⟩) x4 (fun i => f (5 + i))) := fun i hi => by
    obtain ⟨b', off', e, hl, hc⟩ := (HS.out.below HB.out) (5 + i) (by omega)
    cases e
    exact ⟨b, off + 5, rfl, hl, by rw [← hc, Nat.add_assoc]⟩
  have hcall := hide (mtof_impl (some ⟨b, off + 5, none⟩) x4 (cap - 5) (fun i => f (5 + i)) W (by omega) hsub.out (fun i hi => HF.out (5 + i) (by omega)))
  rw [show (List.range x4).map (fun i => f (5 + i)) = mid f x4 from rfl] at hcall
  go_enter Tryz.func51, Tryz.ntmps51
  go_wp2_with fail
  rw [← hW]
  clear hW
  go_wp2_with fail
  refine hcall.out.mono ?_
  rintro e w2 ⟨h1, b2⟩
  have HB2 := hide (HB.out.trans (b2.mono HB.out.size))
  have HK2 := hide (HK.out.b b2)
  have hlt2 : w.heap.size < W.heap.size := HK.out.lt
  have hz2 := b2.size
  clear hcall b2 HB HK hsub c4
  rcases h1 with ⟨g, L, fi, ol, he, la, go, bo, gc, bc, hM, rfl, hO⟩ | ⟨hno, rfl⟩
  case inr =>
    have HN : Hid (¬ Whole ((List.range 160).map f)) := fun ⟨g, L, fi, ol, he, la, q, h⟩ => hno ⟨g, L, fi, ol, he, la, by have := (sl_key h).2.2.2.2; rwa [HX4.out.2] at this⟩
    obtain ⟨r0, r1, r2, r3, r4, r5⟩ := HK2.out.cells
    have rz := HK2.out.froz
    have hne1 : ¬ w.heap.size = w2.heap.size := by omega
    have hne2 : ¬ w2.heap.size = w.heap.size := by omega
    have hlt3 : w.heap.size < w2.heap.size := by omega
    clear hno
    go_wp2
    refine bodyPost_ret (v := .tuple #[.agg #[.slice none 0 0, .slice none 0 0, .bool false, .bool false, .bool false, .int .i64 0], .int .i64 0, .iface 107 (.agg #[.string _])]) (by simp [results, Tryz.results51, go_sem, r0, r1, r2, r3, r4, r5, hlt3, hne1, hne2]; rfl) rfl ?_
    refine ⟨.inr ⟨HN.out, _, rfl⟩, ?_⟩
    refine Below.alloc ?_ (by simp [World.setCell]; omega) _
    iterate 6 (refine Below.setCell ?_ (by show w.heap.size ≤ w.heap.size; omega) _)
    exact HB2.out
  have bX := bal1 w2 (.cells #[.slice go g.length gc, .slice bo 3 bc, .bool fi, .bool ol, .bool he, .int .i64 la] 29)
  have HM0 : Hid (SoK w (w2.alloc (.cells #[.slice go g.length gc, .slice bo 3 bc, .bool fi, .bool ol, .bool he, .int .i64 la] 29)) W.heap.size w2.heap.size go gc bo bc g 3 L fi ol he la) :=
    ⟨HB2.out.trans (bX.mono HB2.out.size), HK2.out.b bX, KB.new w2 _ _ _ _ _ _ _ _ _ _ _, hO.below bX (Nat.le_refl _), hlt2, by rw [alsz]; omega⟩
  have hMl := mtok_g hM.1
  have hbd : Hid (Bd g 3 L) := ⟨by have := hMl.1; omega, by omega, fun i hi => by have := hMl.2.2.1 i hi; omega⟩
  have hml := mt_len (fi := fi) hM.1
  have hmb : ∀ z ∈ nums (mseq g L fi ol he la), 0 ≤ z ∧ z ≤ 255 := nums_byte _ (mseq_mem hM.1)
  have hX2 : w.heap.size < w2.heap.size := by omega
  have hlow : Hid (SL .u8 (w2.alloc (.cells #[.slice go g.length gc, .slice bo 3 bc, .bool fi, .bool ol, .bool he, .int .i64 la] 29)) (some ⟨b, off, none⟩) 4 f) := fun i hi => (HS.out.below HM0.out.1) i (by omega)
  have y0 := HF.out 0 (by omega)
  have y1 := HF.out 1 (by omega)
  have y2 := HF.out 2 (by omega)
  have y3 := HF.out 3 (by omega)
  have hr0 : 0 ≤ rd4 f := by unfold rd4; omega
  have hr1 : rd4 f < 4294967296 := by unfold rd4; omega
  have hfl := hide (fromlow_impl (some ⟨b, off, none⟩) cap f _ hlow.out (fun i hi => HF.out i (by omega)))
  have hlen : ((List.range 160).map f).length = 160 := by simp
  have hbB : ∀ z ∈ (List.range 160).map f, 0 ≤ z ∧ z ≤ 255 := fun z hz => by
    simp only [List.mem_map, List.mem_range] at hz
    obtain ⟨i, hi, rfl⟩ := hz
    exact HF.out i hi
  have hsb : ∀ z ∈ (slm Classical.propDecidable) g 3 L fi ol he la (rd4 f), 0 ≤ z ∧ z ≤ 255 := by
    by_cases hq : 1 ≤ rd4 f ∧ rd4 f ≤ 1000000
    · rw [slm_yes hM.1 hq]; exact slb_byte hmb (by omega)
    · rw [slm_no (fun h => hq h.2)]; intro z hz; cases hz
  obtain ⟨bq, hbq⟩ : ∃ b : Bool, TellsB b ((slm Classical.propDecidable) g 3 L fi ol he la (rd4 f) = (List.range 160).map f) := tellsB _
  have HQ : Hid (∀ W' xo xc, Below w.heap.size w W' → SL .u8 W' xo ((slm Classical.propDecidable) g 3 L fi ol he la (rd4 f)).length (fun i => ((slm Classical.propDecidable) g 3 L fi ol he la (rd4 f)).getD i 0) → Calls Tryz.prog 91 #[.slice xo ((slm Classical.propDecidable) g 3 L fi ol he la (rd4 f)).length xc, .slice (some ⟨b, off, none⟩) 160 cap] W' fun e w' => e = .returned (.bool bq) ∧ w' = W') := fun W' xo xc hb hx => by
    have := bequal_any xo (some ⟨b, off, none⟩) xc cap ((slm Classical.propDecidable) g 3 L fi ol he la (rd4 f)) ((List.range 160).map f) W' hsb hbB hx (by
      rw [hlen]
      intro i hi
      obtain ⟨b, off, e, hl, hc⟩ := (HS.out.below hb) i hi
      exact ⟨b, off, e, hl, by rw [hc]; simp [List.getD, hi]⟩) bq hbq
    rwa [hlen] at this
  have hMW : Hid (Whole ((List.range 160).map f) → (slm Classical.propDecidable) g 3 L fi ol he la (rd4 f) = (List.range 160).map f) := fun ⟨g', L', fi', ol', he', la', q', h⟩ => by
    obtain ⟨_, _, k3, k4, k5⟩ := sl_key h
    rw [HX4.out.2] at k5
    rw [slm_yes hM.1 k3, hM.2, ← k5.2, k4]
    exact h.2.2
  have HSI : Hid ((slm Classical.propDecidable) g 3 L fi ol he la (rd4 f) = (List.range 160).map f → SlIs ((List.range 160).map f) g L fi ol he la (rd4 f)) := fun h => by
    by_cases hq : 1 ≤ rd4 f ∧ rd4 f ≤ 1000000
    · rw [slm_yes hM.1 hq] at h; exact ⟨hM.1, hq, h⟩
    · rw [slm_no (fun h => hq h.2)] at h
      have := congrArg List.length h
      rw [hlen] at this
      cases this
  have HBQ := hide hbq
  have hcs := hide (slotbytes_impl go bo gc bc g 3 L fi ol he la (rd4 f) _ hbd.out HM0.out.2.2.2.1.mv hr0 hr1)
  generalize (slm Classical.propDecidable) g 3 L fi ol he la (rd4 f) = Sb at *
  generalize rd4 f = r at *
  clear hbq bX hO hMl hml hmb hM hbd hbB hsb y0 y1 y2 y3 hlow HB2 HK2
  go_wp2_with fail
  refine hfl.out.mono ?_
  rintro e w3 ⟨rfl, hw3⟩
  rw [hw3]
  clear hw3 hfl
  obtain ⟨x0, x1, x2, x3, x4', x5⟩ := HM0.out.2.2.1.cells
  go_wp2_with fail
  generalize w2.alloc (.cells #[.slice go g.length gc, .slice bo 3 bc, .bool fi, .bool ol, .bool he, .int .i64 la] 29) = W3 at *
  generalize w2.heap.size = X at *
  refine hcs.out.mono ?_
  rintro e w4 ⟨v, rfl, ho, b4⟩
  obtain ⟨xo, xc, rfl, _, ho'⟩ := Own.of_owns ho
  have HM4 := hide (HM0.out.below b4)
  have HSL := hide ho'.sl
  clear ho ho' b4 HM0 hcs x0 x1 x2 x3 x4' x5
  go_wp2_with fail
  refine (HQ.out w4 xo xc HM4.out.1 HSL.out).mono ?_
  rintro e w5 ⟨rfl, hw⟩
  rw [hw]
  clear hw
  obtain ⟨r0, r1, r2, r3, r4, r5⟩ := HM4.out.2.1.cells
  have rz := HM4.out.2.1.froz
  cases bq with
  | false =>
    have HN : Hid (¬ Whole ((List.range 160).map f)) := fun h => by have := HBQ.out.2 (hMW.out h); cases this
    go_wp2
    refine bodyPost_ret (v := .tuple #[.agg #[.slice none 0 0, .slice none 0 0, .bool false, .bool false, .bool false, .int .i64 0], .int .i64 0, .iface 107 (.agg #[.string _])]) (by simp [results, Tryz.results51, go_sem, r0, r1, r2, r3, r4, r5]; rfl) rfl ?_
    refine ⟨.inr ⟨HN.out, _, rfl⟩, ?_⟩
    iterate 6 (refine Below.setCell ?_ (by show w.heap.size ≤ w.heap.size; omega) _)
    exact HM4.out.1
  | true =>
    have HY := hide (HSI.out (HBQ.out.1 rfl))
    obtain ⟨m0, m1, m2, m3, m4, m5⟩ := HM4.out.2.2.1.cells
    go_wp2
    refine bodyPost_ret (v := .tuple #[.agg #[.slice go g.length gc, .slice bo 3 bc, .bool fi, .bool ol, .bool he, .int .i64 la], .int .i64 r, .nilIface]) (by simp [results, Tryz.results51, go_sem, r0, r1, r2, r3, r4, r5]) rfl ?_
    refine ⟨.inl ⟨g, L, fi, ol, he, la, r, go, bo, gc, bc, HY.out, rfl, ?_⟩, ?_⟩
    · have hfin : ∀ F : World, F.heap.size = w4.heap.size → (∀ j, w.heap.size + 1 ≤ j → F.heap[j]? = w4.heap[j]?) → OKm F w.heap.size F.heap.size go gc bo bc g 3 L := fun F hs hk => by
        have q1 := HM4.out.2.2.2.2
        exact (HM4.out.2.2.2.1.kept (fun j h1 _ => hk j (by omega)) (by omega)).wider (by omega) (by omega) (Nat.le_refl _)
      refine hfin _ (by simp [World.setCell]) ?_
      intro j hj
      simp only [World.setCell, Array.getElem?_modify]
      repeat rw [if_neg (by omega)]
    · iterate 6 (refine Below.setCell ?_ (by show w.heap.size ≤ w.heap.size; omega) _)
      exact HM4.out.1
end Go.Proofs.YtjjdbdkbpmbniaaGreatDoor

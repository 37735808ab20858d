/- SlotOf of the program. -/
import Derived.Test.YtkndnndildnbpaaGreatDoorSlIZ
import Derived.Test.YtkndnndildnbpaaGreatDoorSlS2Z
import Derived.Test.YtkndnndildnbpaaGreatDoorAsTZ

namespace Go.Proofs.YtkndnndildnbpaaGreatDoor
open Go.ChangeShapes Go.WideShapes Go.ChangeAt Go.RowKit
set_option linter.unusedVariables false
set_option linter.unusedSimpArgs false
set_option maxRecDepth 100000

theorem ErrT.lt {w : World} (h : ErrT w) : 11 < w.heap.size := by
  unfold ErrT at h
  rcases Nat.lt_or_ge 11 w.heap.size with h1 | h1
  · exact h1
  · simp [World.cell?, Array.getElem?_eq_none h1] at h
theorem ErrT.below {w w' : World} (h : ErrT w) (hb : Below w.heap.size w w') : ErrT w' := (hb.cell (p := ⟨11, 0, none⟩) h.lt).trans h
theorem istorn_nil (w : World) : Calls Tryz.prog 250 #[.nilIface] w fun e w' => e = .returned (.bool false) ∧ Below w.heap.size w w' := by
  go_enter Tryz.func250, Tryz.ntmps250
  go_wp2_with fail
  refine (as_nil _ _).mono ?_
  rintro e w1 ⟨rfl, hw⟩
  rw [hw]
  clear hw
  go_wp2
  go_ret
  exact ⟨rfl, bal1 _ _⟩
theorem istorn_hit (s : ByteArray) (w : World) (hg : ErrT w) : Calls Tryz.prog 250 #[.iface 227 (.agg #[.string s])] w fun e w' => e = .returned (.bool true) ∧ Below w.heap.size w w' := by
  have hc := fun o => hide (as_hit s ⟨w.heap.size, 0, none⟩ _ (w.alloc (.cells #[.string o] 227)) (hg.below (bal1 _ _)) (mblk (Deep.blk_alloc_new _ _) rfl) (fblk (Deep.blk_alloc_new _ _) 0))
  clear hg
  go_enter Tryz.func250, Tryz.ntmps250
  go_wp2_with fail
  refine ((hc _).out).mono ?_
  rintro e w1 ⟨rfl, hw⟩
  have HW := hide hw
  clear hw
  go_wp2
  go_ret
  refine ⟨rfl, ?_⟩
  rw [HW.out]
  unfold asLeft
  refine Below.setCell ?_ (show w.heap.size ≤ (⟨w.heap.size, 0, none⟩ : Addr).block from Nat.le_refl _) _
  exact (((((bal1 w _).alloc (by simp) _).alloc (by simp; omega) _).alloc (by simp; omega) _).alloc (by simp; omega) _)

/-- What readSlot hands back. -/
def RdOut (w w' : World) (B : List Int) (e : Ending) : Prop :=
  ((∃ g L fi ol he la q go bo gc bc, SlIs B g L fi ol he la q ∧ e = .returned (.tuple #[.agg #[.slice go g.length gc, .slice bo 3 bc, .bool fi, .bool ol, .bool he, .int .i64 la], .int .i64 q, .nilIface]) ∧ OKm w' w.heap.size w'.heap.size go gc bo bc g 3 L) ∨
   (¬ Whole B ∧ ∃ s, e = .returned (.tuple #[.agg #[.slice none 0 0, .slice none 0 0, .bool false, .bool false, .bool false, .int .i64 0], .int .i64 0, .iface 227 (.agg #[.string s])]))) ∧ Below w.heap.size w w'

set_option maxHeartbeats 4000000 in
theorem readslot_impl (ao : Option Addr) (n cap : Nat) (f : Nat → Int) (w : World) (hn : n ≤ 1048576) (hcap : n ≤ cap) (hs : SL .u8 w ao n f) (hf : ∀ i, i < n → 0 ≤ f i ∧ f i ≤ 255) :
    Calls Tryz.prog 249 #[.slice ao n cap] w fun e w' => RdOut w w' ((List.range n).map f) e := by
  obtain ⟨W, hW⟩ : ∃ W, W = w.alloc (.cells #[.slice none 0 0, .slice none 0 0, .bool false, .bool false, .bool false, .int .i64 0] 25) := ⟨_, rfl⟩
  have hB : Below w.heap.size w W := by rw [hW]; exact bal1 _ _
  have hK : KB W w.heap.size 25 none 0 0 none 0 0 false false false 0 := by rw [hW]; exact KB.new w _ _ _ _ _ _ _ _ _ _ _
  have HB := hide hB
  have HK := hide hK
  have HS := hide hs
  have HF := hide hf
  by_cases h160 : n = 160
  case neg =>
    have HN : Hid (¬ Whole ((List.range n).map f)) := fun ⟨_, _, _, _, _, _, _, h⟩ => h160 (sl_key h).1
    have hne : ¬ (n : Int) = 160 := by omega
    clear hs hf hB hK
    obtain ⟨r0, r1, r2, r3, r4, r5⟩ := HK.out.cells
    have rz := HK.out.froz
    go_enter Tryz.func249, Tryz.ntmps249
    go_wp2_with fail
    rw [← hW]
    clear hW
    go_wp2
    refine bodyPost_ret (v := .tuple #[.agg #[.slice none 0 0, .slice none 0 0, .bool false, .bool false, .bool false, .int .i64 0], .int .i64 0, .iface 227 (.agg #[.string _])]) (by simp [results, Tryz.results249, go_sem, r0, r1, r2, r3, r4, r5]; rfl) rfl ?_
    refine ⟨.inr ⟨HN.out, _, rfl⟩, ?_⟩
    first
      | exact HB.out
      | (iterate 6 (refine Below.setCell ?_ (by show w.heap.size ≤ w.heap.size; omega) _); exact HB.out)
  subst h160
  obtain ⟨b, off, rfl, hbl, c4⟩ := hs 4 (by omega)
  have y4 := hf 4 (by omega)
  obtain ⟨x4, hx4⟩ : ∃ x : Nat, f 4 = (x : Int) := ⟨(f 4).toNat, by omega⟩
  rw [hx4] at c4 y4
  have HX4 : Hid (f 4 = (x4 : Int) ∧ (f 4).toNat = x4) := ⟨hx4, by omega⟩
  clear hx4 hs hf hB hK
  by_cases h151 : (156 : Int) < 5 + (x4 : Int)
  case pos =>
    have HN : Hid (¬ Whole ((List.range 160).map f)) := fun ⟨_, _, _, _, _, _, _, h⟩ => by have := (sl_key h).2.1; rw [HX4.out.1] at this; omega
    obtain ⟨r0, r1, r2, r3, r4, r5⟩ := HK.out.cells
    have rz := HK.out.froz
    go_enter Tryz.func249, Tryz.ntmps249
    go_wp2_with fail
    rw [← hW]
    clear hW
    go_wp2
    refine bodyPost_ret (v := .tuple #[.agg #[.slice none 0 0, .slice none 0 0, .bool false, .bool false, .bool false, .int .i64 0], .int .i64 0, .iface 227 (.agg #[.string _])]) (by simp [results, Tryz.results249, go_sem, r0, r1, r2, r3, r4, r5]; rfl) rfl ?_
    refine ⟨.inr ⟨HN.out, _, rfl⟩, ?_⟩
    first
      | exact HB.out
      | (iterate 6 (refine Below.setCell ?_ (by show w.heap.size ≤ w.heap.size; omega) _); exact HB.out)
  have hc5 : ¬ cap = 5 := by omega
  have hle : 5 + x4 ≤ cap := by omega
  have hleI : (5 : Int) + (x4 : Int) ≤ (cap : Int) := by omega
  have hsub : Hid (SL .u8 W (some ⟨b, off + 5, none⟩) x4 (fun i => f (5 + i))) := fun i hi => by
    obtain ⟨b', off', e, hl, hc⟩ := (HS.out.below HB.out) (5 + i) (by omega)
    cases e
    exact ⟨b, off + 5, rfl, hl, by rw [← hc, Nat.add_assoc]⟩
  have hcall := hide (mtof_impl (some ⟨b, off + 5, none⟩) x4 (cap - 5) (fun i => f (5 + i)) W (by omega) hsub.out (fun i hi => HF.out (5 + i) (by omega)))
  rw [show (List.range x4).map (fun i => f (5 + i)) = mid f x4 from rfl] at hcall
  go_enter Tryz.func249, Tryz.ntmps249
  go_wp2_with fail
  rw [← hW]
  clear hW
  go_wp2_with fail
  refine hcall.out.mono ?_
  rintro e w2 ⟨h1, b2⟩
  have HB2 := hide (HB.out.trans (b2.mono HB.out.size))
  have HK2 := hide (HK.out.b b2)
  have hlt2 : w.heap.size < W.heap.size := HK.out.lt
  have hz2 := b2.size
  clear hcall b2 HB HK hsub c4
  rcases h1 with ⟨g, L, fi, ol, he, la, go, bo, gc, bc, hM, rfl, hO⟩ | ⟨hno, rfl⟩
  case inr =>
    have HN : Hid (¬ Whole ((List.range 160).map f)) := fun ⟨g, L, fi, ol, he, la, q, h⟩ => hno ⟨g, L, fi, ol, he, la, by have := (sl_key h).2.2.2.2; rwa [HX4.out.2] at this⟩
    obtain ⟨r0, r1, r2, r3, r4, r5⟩ := HK2.out.cells
    have rz := HK2.out.froz
    have hne1 : ¬ w.heap.size = w2.heap.size := by omega
    have hne2 : ¬ w2.heap.size = w.heap.size := by omega
    have hlt3 : w.heap.size < w2.heap.size := by omega
    clear hno
    go_wp2
    refine bodyPost_ret (v := .tuple #[.agg #[.slice none 0 0, .slice none 0 0, .bool false, .bool false, .bool false, .int .i64 0], .int .i64 0, .iface 227 (.agg #[.string _])]) (by simp [results, Tryz.results249, go_sem, r0, r1, r2, r3, r4, r5, hlt3, hne1, hne2]; rfl) rfl ?_
    refine ⟨.inr ⟨HN.out, _, rfl⟩, ?_⟩
    refine Below.alloc ?_ (by simp [World.setCell]; omega) _
    iterate 6 (refine Below.setCell ?_ (by show w.heap.size ≤ w.heap.size; omega) _)
    exact HB2.out
  have bX := bal1 w2 (.cells #[.slice go g.length gc, .slice bo 3 bc, .bool fi, .bool ol, .bool he, .int .i64 la] 25)
  have HM0 : Hid (SoK w (w2.alloc (.cells #[.slice go g.length gc, .slice bo 3 bc, .bool fi, .bool ol, .bool he, .int .i64 la] 25)) W.heap.size w2.heap.size go gc bo bc g 3 L fi ol he la) :=
    ⟨HB2.out.trans (bX.mono HB2.out.size), HK2.out.b bX, KB.new w2 _ _ _ _ _ _ _ _ _ _ _, hO.below bX (Nat.le_refl _), hlt2, by rw [alsz]; omega⟩
  have hMl := mtok_g hM.1
  have hbd : Hid (Bd g 3 L) := ⟨by have := hMl.1; omega, by omega, fun i hi => by have := hMl.2.2.1 i hi; omega⟩
  have hml := mt_len (fi := fi) hM.1
  have hmb : ∀ z ∈ nums (mseq g L fi ol he la), 0 ≤ z ∧ z ≤ 255 := nums_byte _ (mseq_mem hM.1)
  have hX2 : w.heap.size < w2.heap.size := by omega
  have hlow : Hid (SL .u8 (w2.alloc (.cells #[.slice go g.length gc, .slice bo 3 bc, .bool fi, .bool ol, .bool he, .int .i64 la] 25)) (some ⟨b, off, none⟩) 4 f) := fun i hi => (HS.out.below HM0.out.1) i (by omega)
  have y0 := HF.out 0 (by omega)
  have y1 := HF.out 1 (by omega)
  have y2 := HF.out 2 (by omega)
  have y3 := HF.out 3 (by omega)
  have hr0 : 0 ≤ rd4 f := by unfold rd4; omega
  have hr1 : rd4 f < 4294967296 := by unfold rd4; omega
  have hfl := hide (fromlow_impl (some ⟨b, off, none⟩) cap f _ hlow.out (fun i hi => HF.out i (by omega)))
  have hlen : ((List.range 160).map f).length = 160 := by simp
  have hbB : ∀ z ∈ (List.range 160).map f, 0 ≤ z ∧ z ≤ 255 := fun z hz => by
    simp only [List.mem_map, List.mem_range] at hz
    obtain ⟨i, hi, rfl⟩ := hz
    exact HF.out i hi
  have hsb : ∀ z ∈ (slm Classical.propDecidable) g 3 L fi ol he la (rd4 f), 0 ≤ z ∧ z ≤ 255 := by
    by_cases hq : 1 ≤ rd4 f ∧ rd4 f ≤ 1000000
    · rw [slm_yes hM.1 hq]; exact slb_byte hmb (by omega)
    · rw [slm_no (fun h => hq h.2)]; intro z hz; cases hz
  obtain ⟨bq, hbq⟩ : ∃ b : Bool, TellsB b ((slm Classical.propDecidable) g 3 L fi ol he la (rd4 f) = (List.range 160).map f) := tellsB _
  have HQ : Hid (∀ W' xo xc, Below w.heap.size w W' → SL .u8 W' xo ((slm Classical.propDecidable) g 3 L fi ol he la (rd4 f)).length (fun i => ((slm Classical.propDecidable) g 3 L fi ol he la (rd4 f)).getD i 0) → Calls Tryz.prog 259 #[.slice xo ((slm Classical.propDecidable) g 3 L fi ol he la (rd4 f)).length xc, .slice (some ⟨b, off, none⟩) 160 cap] W' fun e w' => e = .returned (.bool bq) ∧ w' = W') := fun W' xo xc hb hx => by
    have := bequal_any xo (some ⟨b, off, none⟩) xc cap ((slm Classical.propDecidable) g 3 L fi ol he la (rd4 f)) ((List.range 160).map f) W' hsb hbB hx (by
      rw [hlen]
      intro i hi
      obtain ⟨b, off, e, hl, hc⟩ := (HS.out.below hb) i hi
      exact ⟨b, off, e, hl, by rw [hc]; simp [List.getD, hi]⟩) bq hbq
    rwa [hlen] at this
  have hMW : Hid (Whole ((List.range 160).map f) → (slm Classical.propDecidable) g 3 L fi ol he la (rd4 f) = (List.range 160).map f) := fun ⟨g', L', fi', ol', he', la', q', h⟩ => by
    obtain ⟨_, _, k3, k4, k5⟩ := sl_key h
    rw [HX4.out.2] at k5
    rw [slm_yes hM.1 k3, hM.2, ← k5.2, k4]
    exact h.2.2
  have HSI : Hid ((slm Classical.propDecidable) g 3 L fi ol he la (rd4 f) = (List.range 160).map f → SlIs ((List.range 160).map f) g L fi ol he la (rd4 f)) := fun h => by
    by_cases hq : 1 ≤ rd4 f ∧ rd4 f ≤ 1000000
    · rw [slm_yes hM.1 hq] at h; exact ⟨hM.1, hq, h⟩
    · rw [slm_no (fun h => hq h.2)] at h
      have := congrArg List.length h
      rw [hlen] at this
      cases this
  have HBQ := hide hbq
  have hcs := hide (slotbytes_impl go bo gc bc g 3 L fi ol he la (rd4 f) _ hbd.out HM0.out.2.2.2.1.mv hr0 hr1)
  generalize (slm Classical.propDecidable) g 3 L fi ol he la (rd4 f) = Sb at *
  generalize rd4 f = r at *
  clear hbq bX hO hMl hml hmb hM hbd hbB hsb y0 y1 y2 y3 hlow HB2 HK2
  go_wp2_with fail
  refine hfl.out.mono ?_
  rintro e w3 ⟨rfl, hw3⟩
  rw [hw3]
  clear hw3 hfl
  obtain ⟨x0, x1, x2, x3, x4', x5⟩ := HM0.out.2.2.1.cells
  go_wp2_with fail
  generalize w2.alloc (.cells #[.slice go g.length gc, .slice bo 3 bc, .bool fi, .bool ol, .bool he, .int .i64 la] 25) = W3 at *
  generalize w2.heap.size = X at *
  refine hcs.out.mono ?_
  rintro e w4 ⟨v, rfl, ho, b4⟩
  obtain ⟨xo, xc, rfl, _, ho'⟩ := Own.of_owns ho
  have HM4 := hide (HM0.out.below b4)
  have HSL := hide ho'.sl
  clear ho ho' b4 HM0 hcs x0 x1 x2 x3 x4' x5
  go_wp2_with fail
  refine (HQ.out w4 xo xc HM4.out.1 HSL.out).mono ?_
  rintro e w5 ⟨rfl, hw⟩
  rw [hw]
  clear hw
  obtain ⟨r0, r1, r2, r3, r4, r5⟩ := HM4.out.2.1.cells
  have rz := HM4.out.2.1.froz
  cases bq with
  | false =>
    have HN : Hid (¬ Whole ((List.range 160).map f)) := fun h => by have := HBQ.out.2 (hMW.out h); cases this
    go_wp2
    refine bodyPost_ret (v := .tuple #[.agg #[.slice none 0 0, .slice none 0 0, .bool false, .bool false, .bool false, .int .i64 0], .int .i64 0, .iface 227 (.agg #[.string _])]) (by simp [results, Tryz.results249, go_sem, r0, r1, r2, r3, r4, r5]; rfl) rfl ?_
    refine ⟨.inr ⟨HN.out, _, rfl⟩, ?_⟩
    iterate 6 (refine Below.setCell ?_ (by show w.heap.size ≤ w.heap.size; omega) _)
    exact HM4.out.1
  | true =>
    have HY := hide (HSI.out (HBQ.out.1 rfl))
    obtain ⟨m0, m1, m2, m3, m4, m5⟩ := HM4.out.2.2.1.cells
    go_wp2
    refine bodyPost_ret (v := .tuple #[.agg #[.slice go g.length gc, .slice bo 3 bc, .bool fi, .bool ol, .bool he, .int .i64 la], .int .i64 r, .nilIface]) (by simp [results, Tryz.results249, go_sem, r0, r1, r2, r3, r4, r5]) rfl ?_
    refine ⟨.inl ⟨g, L, fi, ol, he, la, r, go, bo, gc, bc, HY.out, rfl, ?_⟩, ?_⟩
    · have hfin : ∀ F : World, F.heap.size = w4.heap.size → (∀ j, w.heap.size + 1 ≤ j → F.heap[j]? = w4.heap[j]?) → OKm F w.heap.size F.heap.size go gc bo bc g 3 L := fun F hs hk => by
        have q1 := HM4.out.2.2.2.2
        exact (HM4.out.2.2.2.1.kept (fun j h1 _ => hk j (by omega)) (by omega)).wider (by omega) (by omega) (Nat.le_refl _)
      refine hfin _ (by simp [World.setCell]) ?_
      intro j hj
      simp only [World.setCell, Array.getElem?_modify]
      repeat rw [if_neg (by omega)]
    · iterate 6 (refine Below.setCell ?_ (by show w.heap.size ≤ w.heap.size; omega) _)
      exact HM4.out.1
set_option maxHeartbeats 1000000 in
theorem slotof_impl (ao : Option Addr) (n cap : Nat) (f : Nat → Int) (w : World) (hn : n ≤ 1048576) (hcap : n ≤ cap) (hg : ErrT w) (hs : SL .u8 w ao n f) (hf : ∀ i, i < n → 0 ≤ f i ∧ f i ≤ 255) :
    Calls Tryz.prog 236 #[.slice ao n cap] w fun e w' => SlOut w w' ((List.range n).map f) e := by
  obtain ⟨W, hW⟩ : ∃ W, W = w.alloc (.cells #[.slice none 0 0, .slice none 0 0, .bool false, .bool false, .bool false, .int .i64 0] 25) := ⟨_, rfl⟩
  have hB : Below w.heap.size w W := by rw [hW]; exact bal1 _ _
  have hK : KB W w.heap.size 25 none 0 0 none 0 0 false false false 0 := by rw [hW]; exact KB.new w _ _ _ _ _ _ _ _ _ _ _
  have hcall := hide (readslot_impl ao n cap f W hn hcap (hs.below hB) hf)
  have HB := hide hB
  have HK := hide hK
  have HG := hide hg
  clear hs hf hB hK hg
  go_enter Tryz.func236, Tryz.ntmps236
  go_wp2_with fail
  rw [← hW]
  clear hW
  refine hcall.out.mono ?_
  rintro e w2 ⟨h1, b2⟩
  have HB2 := hide (HB.out.trans (b2.mono HB.out.size))
  have HK2 := hide (HK.out.b b2)
  have hlt2 : w.heap.size < W.heap.size := HK.out.lt
  have hz2 := b2.size
  clear hcall b2 HB HK
  rcases h1 with ⟨g, L, fi, ol, he, la, q, go, bo, gc, bc, hM, rfl, hO⟩ | ⟨hno, s, rfl⟩
  case inr =>
    have HN := hide hno
    have bX := bal1 w2 (.cells #[.slice none 0 0, .slice none 0 0, .bool false, .bool false, .bool false, .int .i64 0] 25)
    have hit := hide (istorn_hit s _ (HG.out.below (HB2.out.trans (bX.mono HB2.out.size))))
    have HB3 := hide (HB2.out.trans (bX.mono HB2.out.size))
    have HK3 := hide (HK2.out.b bX)
    clear hno bX
    go_wp2_with fail
    refine hit.out.mono ?_
    rintro e w3 ⟨rfl, b3⟩
    obtain ⟨r0, r1, r2, r3, r4, r5⟩ := (HK3.out.b b3).cells
    have rz := (HK3.out.b b3).froz
    have HB4 := hide (HB3.out.trans (b3.mono HB3.out.size))
    clear b3 hit
    go_wp2
    refine bodyPost_ret (v := .tuple #[.agg #[.slice none 0 0, .slice none 0 0, .bool false, .bool false, .bool false, .int .i64 0], .int .i64 0, .bool false]) (by simp [results, Tryz.results236, go_sem, r0, r1, r2, r3, r4, r5]) rfl ?_
    refine ⟨.inr ⟨HN.out, rfl⟩, ?_⟩
    iterate 6 (refine Below.setCell ?_ (by show w.heap.size ≤ w.heap.size; omega) _)
    exact HB4.out
  have bX := bal1 w2 (.cells #[.slice go g.length gc, .slice bo 3 bc, .bool fi, .bool ol, .bool he, .int .i64 la] 25)
  have HM0 : Hid (SoK w (w2.alloc (.cells #[.slice go g.length gc, .slice bo 3 bc, .bool fi, .bool ol, .bool he, .int .i64 la] 25)) W.heap.size w2.heap.size go gc bo bc g 3 L fi ol he la) :=
    ⟨HB2.out.trans (bX.mono HB2.out.size), HK2.out.b bX, KB.new w2 _ _ _ _ _ _ _ _ _ _ _, hO.below bX (Nat.le_refl _), hlt2, by rw [alsz]; omega⟩
  have HY := hide hM
  have hX2 : w.heap.size < w2.heap.size := by omega
  clear bX hO hM HB2 HK2
  go_wp2_with fail
  generalize w2.alloc (.cells #[.slice go g.length gc, .slice bo 3 bc, .bool fi, .bool ol, .bool he, .int .i64 la] 25) = W3 at *
  generalize w2.heap.size = X at *
  refine (istorn_nil _).mono ?_
  rintro e w4 ⟨rfl, b4⟩
  have HM4 := hide (HM0.out.below b4)
  clear b4 HM0
  obtain ⟨r0, r1, r2, r3, r4, r5⟩ := HM4.out.2.1.cells
  have rz := HM4.out.2.1.froz
  obtain ⟨m0, m1, m2, m3, m4, m5⟩ := HM4.out.2.2.1.cells
  go_wp2
  refine bodyPost_ret (v := .tuple #[.agg #[.slice go g.length gc, .slice bo 3 bc, .bool fi, .bool ol, .bool he, .int .i64 la], .int .i64 q, .bool true]) (by simp [results, Tryz.results236, go_sem, r0, r1, r2, r3, r4, r5]) rfl ?_
  refine ⟨.inl ⟨g, L, fi, ol, he, la, q, go, bo, gc, bc, HY.out, rfl, ?_⟩, ?_⟩
  · have hfin : ∀ F : World, F.heap.size = w4.heap.size → (∀ j, w.heap.size + 1 ≤ j → F.heap[j]? = w4.heap[j]?) → OKm F w.heap.size F.heap.size go gc bo bc g 3 L := fun F hs hk => by
      have q1 := HM4.out.2.2.2.2
      exact (HM4.out.2.2.2.1.kept (fun j h1 _ => hk j (by omega)) (by omega)).wider (by omega) (by omega) (Nat.le_refl _)
    refine hfin _ (by simp [World.setCell]) ?_
    intro j hj
    simp only [World.setCell, Array.getElem?_modify]
    repeat rw [if_neg (by omega)]
  · iterate 6 (refine Below.setCell ?_ (by show w.heap.size ≤ w.heap.size; omega) _)
    exact HM4.out.1

/-- Bytes of a slice. -/
def VBy (w : World) (ao : Option Addr) (cap : Nat) (A : List Int) : Prop := SL .u8 w ao A.length (fun i => A.getD i 0) ∧ A.length ≤ cap ∧ A.length ≤ 1048576 ∧ ∀ i, i < A.length → 0 ≤ A.getD i 0 ∧ A.getD i 0 ≤ 255
theorem VBy.below {w w' : World} {ao : Option Addr} {cap : Nat} {A : List Int} (h : VBy w ao cap A) (hb : Below w.heap.size w w') : VBy w' ao cap A := ⟨h.1.below hb, h.2⟩
theorem seqof_impl (ao : Option Addr) (cap : Nat) (A : List Int) (w : World) (hg : ErrT w) (hv : VBy w ao cap A) :
    Calls Tryz.prog 205 #[.slice ao A.length cap] w fun e w' => e = .returned (.int .i64 ((sqv Classical.propDecidable) A)) ∧ Below w.heap.size w w' := by
  have hcall := hide (slotof_impl ao A.length cap _ w hv.2.2.1 hv.2.1 hg hv.1 hv.2.2.2)
  rw [krange_self] at hcall
  clear hg hv
  go_enter Tryz.func205, Tryz.ntmps205
  go_wp2_with fail
  refine hcall.out.mono ?_
  rintro e w2 ⟨h1, b2⟩
  have HB := hide b2
  clear b2 hcall
  rcases h1 with ⟨g, L, fi, ol, he, la, q, go, bo, gc, bc, hM, rfl, hO⟩ | ⟨hno, rfl⟩
  · have e := hide (sqv_is hM)
    clear hM hO
    go_wp2
    go_ret
    rw [e.out]
    first | exact ⟨rfl, HB.out⟩ | exact ⟨rfl, HB.out.alloc HB.out.size _⟩
  · have e := hide (sqv_no hno)
    clear hno
    go_wp2
    go_ret
    rw [e.out]
    first | exact ⟨rfl, HB.out⟩ | exact ⟨rfl, HB.out.alloc HB.out.size _⟩
theorem VBy.of {w : World} {ao : Option Addr} {cap : Nat} {A : List Int} (h : VBy w ao cap A) : SL .u8 w ao A.length (fun i => A.getD i 0) := h.1
theorem slot_any (ao : Option Addr) (cap : Nat) (A : List Int) (w : World) (hv : VBy w ao cap A) :
    Calls Tryz.prog 198 #[.slice ao A.length cap] w fun e w' => SlOut w w' A e := by
  have h := slotof_spec ao A.length cap _ w hv.2.2.1 hv.2.1 hv.1 hv.2.2.2
  rw [krange_self] at h
  exact h
theorem sloti_any (ao : Option Addr) (cap : Nat) (A : List Int) (w : World) (hg : ErrT w) (hv : VBy w ao cap A) :
    Calls Tryz.prog 236 #[.slice ao A.length cap] w fun e w' => SlOut w w' A e := by
  have h := slotof_impl ao A.length cap _ w hv.2.2.1 hv.2.1 hg hv.1 hv.2.2.2
  rw [krange_self] at h
  exact h
theorem SlOut.no {w w' : World} {A B : List Int} {e : Ending} (hA : ¬ Whole A) (hB : ¬ Whole B) (h : SlOut w w' A e) : SlOut w w' B e := by
  obtain ⟨h1, hb⟩ := h
  rcases h1 with ⟨g, L, fi, ol, he, la, q, go, bo, gc, bc, hM, _⟩ | ⟨_, he⟩
  · exact absurd ⟨g, L, fi, ol, he, la, q, hM⟩ hA
  · exact ⟨.inr ⟨hB, he⟩, hb⟩

/-- Which one is got. -/
def Wh (A B : List Int) (x : Int) : Prop := (Lat A B ∧ x = 0) ∨ (¬ Lat A B ∧ Whole B ∧ x = 1) ∨ (¬ Whole A ∧ ¬ Whole B ∧ x = -1)
theorem wh_no {A B : List Int} (h : ¬ Whole A) (h' : ¬ Whole B) : ¬ Lat A B := fun x => h (sqv_pos.1 x.1)

set_option maxHeartbeats 1000000 in
theorem which_spec (aA aB : Option Addr) (cA cB : Nat) (A B : List Int) (w : World) (hA : VBy w aA cA A) (hB : VBy w aB cB B) :
    Calls Tryz.prog 134 #[.agg #[.slice aA A.length cA, .slice aB B.length cB]] w fun e w' => ∃ x, e = .returned (.int .i64 x) ∧ Wh A B x ∧ Below w.heap.size w w' := by
  obtain ⟨W, hW⟩ : ∃ W, W = w.alloc (.cells #[.slice aA A.length cA, .slice aB B.length cB] 28) := ⟨_, rfl⟩
  have hb : Below w.heap.size w W := by rw [hW]; exact bal1 _ _
  have hK : W.heap[w.heap.size]? = some (.cells #[.slice aA A.length cA, .slice aB B.length cB] 28 (0, 0)) := by rw [hW]; exact Deep.blk_alloc_new _ _
  have hcall := hide (slot_any aA cA A W (hA.below hb))
  have HB := hide hb
  have HK := hide hK
  have HVB := hide hB
  clear hA hB hb hK
  go_enter Tryz.func134, Tryz.ntmps134
  go_wp2_with fail
  rw [← hW]
  clear hW
  refine hcall.out.mono ?_
  rintro e w2 ⟨h1, b2⟩
  have HB2 := hide (HB.out.trans (b2.mono HB.out.size))
  have hK2 := (b2.block w.heap.size (Array.getElem?_eq_some_iff.1 HK.out).1).trans HK.out
  have c1 : w2.cell? ⟨w.heap.size, 1, none⟩ = some (.slice aB B.length cB) := mblk hK2 rfl
  have c0 : w2.cell? ⟨w.heap.size, 0, none⟩ = some (.slice aA A.length cA) := mblk hK2 rfl
  have hlt : w.heap.size < w2.heap.size := (Array.getElem?_eq_some_iff.1 hK2).1
  have hnB := hide (fun o => slot_any aB cB B _ (HVB.out.below (HB2.out.alloc HB2.out.size o)))
  have hnB' := hide (slot_any aB cB B _ (HVB.out.below HB2.out))
  have HBo := hide (fun o => HB2.out.alloc HB2.out.size o)
  clear hcall b2 HB HK hK2
  rcases h1 with ⟨g, L, fi, ol, he, la, q, go, bo, gc, bc, hM, rfl, hO⟩ | ⟨hno, rfl⟩
  · have eA := hide (sqv_is hM)
    have hqA := hM.2.1
    clear hM hO
    go_wp2_with fail
    first
      | refine (hnB.out _).mono ?_
      | refine hnB'.out.mono ?_
    rintro e w3 ⟨h2, b3⟩
    have HB3 := hide ((HBo.out _).trans (b3.mono (HBo.out _).size))
    have HB4 := hide (fun o => HB3.out.alloc HB3.out.size o)
    clear hnB hnB' b3
    rcases h2 with ⟨g', L', fi', ol', he', la', q', go', bo', gc', bc', hM', rfl, hO'⟩ | ⟨hno', rfl⟩
    · have eB := hide (sqv_is hM')
      have HW : Hid (Whole B) := ⟨g', L', fi', ol', he', la', q', hM'⟩
      clear hM' hO'
      by_cases hle : q' ≤ q
      · go_wp2
        go_ret
        exact ⟨_, rfl, .inl ⟨⟨by rw [eA.out]; omega, by rw [eA.out, eB.out]; exact hle⟩, rfl⟩, HB4.out _⟩
      · go_wp2
        go_ret
        exact ⟨_, rfl, .inr (.inl ⟨fun h => by have := h.2; rw [eA.out, eB.out] at this; omega, HW.out, rfl⟩), HB4.out _⟩
    · have eB := hide (sqv_no hno')
      clear hno'
      go_wp2
      go_ret
      exact ⟨_, rfl, .inl ⟨⟨by rw [eA.out]; omega, by rw [eA.out, eB.out]; omega⟩, rfl⟩, HB4.out _⟩
  · have HNA := hide hno
    clear hno
    go_wp2_with fail
    first
      | refine (hnB.out _).mono ?_
      | refine hnB'.out.mono ?_
    rintro e w3 ⟨h2, b3⟩
    have HB3 := hide ((HBo.out _).trans (b3.mono (HBo.out _).size))
    have HB4 := hide (fun o => HB3.out.alloc HB3.out.size o)
    clear hnB hnB' b3
    rcases h2 with ⟨g', L', fi', ol', he', la', q', go', bo', gc', bc', hM', rfl, hO'⟩ | ⟨hno', rfl⟩
    · have HW : Hid (Whole B) := ⟨g', L', fi', ol', he', la', q', hM'⟩
      clear hM' hO'
      go_wp2
      go_ret
      exact ⟨_, rfl, .inr (.inl ⟨fun h => HNA.out (sqv_pos.1 h.1), HW.out, rfl⟩), HB4.out _⟩
    · have HNB := hide hno'
      clear hno'
      go_wp2
      go_ret
      exact ⟨_, rfl, .inr (.inr ⟨HNA.out, HNB.out, rfl⟩), HB4.out _⟩

/-- The latest one. -/
def latL (D : (p : Prop) → Decidable p) (A B : List Int) : List Int := @ite (List Int) (Lat A B) (D _) A B
theorem latL_yes {A B : List Int} (h : Lat A B) : (latL Classical.propDecidable) A B = A := by unfold latL; rw [if_pos h]
theorem latL_no {A B : List Int} (h : ¬ Lat A B) : (latL Classical.propDecidable) A B = B := by unfold latL; rw [if_neg h]
/-- A block that holds two slots. -/
def SB (w : World) (b : Nat) (t : TypeId) (aA : Option Addr) (nA cA : Nat) (aB : Option Addr) (nB cB : Nat) : Prop := w.heap[b]? = some (.cells #[.slice aA nA cA, .slice aB nB cB] t (0, 0))
theorem SB.lt {w : World} {b : Nat} {t : TypeId} {aA : Option Addr} {nA cA : Nat} {aB : Option Addr} {nB cB : Nat} (h : SB w b t aA nA cA aB nB cB) : b < w.heap.size := (Array.getElem?_eq_some_iff.1 h).1
theorem SB.b {w w' : World} {b : Nat} {t : TypeId} {aA : Option Addr} {nA cA : Nat} {aB : Option Addr} {nB cB : Nat} (h : SB w b t aA nA cA aB nB cB) (hb : Below w.heap.size w w') : SB w' b t aA nA cA aB nB cB := (hb.block b h.lt).trans h
theorem SB.new (w : World) (t : TypeId) (aA : Option Addr) (nA cA : Nat) (aB : Option Addr) (nB cB : Nat) : SB (w.alloc (.cells #[.slice aA nA cA, .slice aB nB cB] t)) w.heap.size t aA nA cA aB nB cB := Deep.blk_alloc_new _ _
theorem SB.cells {w : World} {b : Nat} {t : TypeId} {aA : Option Addr} {nA cA : Nat} {aB : Option Addr} {nB cB : Nat} (h : SB w b t aA nA cA aB nB cB) : w.cell? ⟨b, 0, none⟩ = some (.slice aA nA cA) ∧ w.cell? ⟨b, 1, none⟩ = some (.slice aB nB cB) := ⟨mblk h rfl, mblk h rfl⟩
theorem SB.froz {w : World} {b : Nat} {t : TypeId} {aA : Option Addr} {nA cA : Nat} {aB : Option Addr} {nB cB : Nat} (h : SB w b t aA nA cA aB nB cB) : ∀ i, w.frozen? ⟨b, i, none⟩ = false := fun i => fblk h i

theorem set6_below {w w3 : World} {X : Nat} {v0 v1 v2 v3 v4 v5 : Value} (hb : Below w.heap.size w w3) (hX : w.heap.size ≤ X) : Below w.heap.size w ((((((w3.setCell ⟨X, 0, none⟩ v0).setCell ⟨X, 1, none⟩ v1).setCell ⟨X, 2, none⟩ v2).setCell ⟨X, 3, none⟩ v3).setCell ⟨X, 4, none⟩ v4).setCell ⟨X, 5, none⟩ v5) :=
  (((((hb.setCell (p := ⟨X, 0, none⟩) hX _).setCell (p := ⟨X, 1, none⟩) hX _).setCell (p := ⟨X, 2, none⟩) hX _).setCell (p := ⟨X, 3, none⟩) hX _).setCell (p := ⟨X, 4, none⟩) hX _).setCell (p := ⟨X, 5, none⟩) hX _
theorem set6_size (w3 : World) (X : Nat) (v0 v1 v2 v3 v4 v5 : Value) : ((((((w3.setCell ⟨X, 0, none⟩ v0).setCell ⟨X, 1, none⟩ v1).setCell ⟨X, 2, none⟩ v2).setCell ⟨X, 3, none⟩ v3).setCell ⟨X, 4, none⟩ v4).setCell ⟨X, 5, none⟩ v5).heap.size = w3.heap.size := by simp [World.setCell]
theorem set6_at (w3 : World) (X j : Nat) (v0 v1 v2 v3 v4 v5 : Value) (h : j ≠ X) : ((((((w3.setCell ⟨X, 0, none⟩ v0).setCell ⟨X, 1, none⟩ v1).setCell ⟨X, 2, none⟩ v2).setCell ⟨X, 3, none⟩ v3).setCell ⟨X, 4, none⟩ v4).setCell ⟨X, 5, none⟩ v5).heap[j]? = w3.heap[j]? := by
  simp only [World.setCell, Array.getElem?_modify]
  repeat rw [if_neg (fun e => h e.symm)]
theorem set6_alloc {w w3 : World} {X : Nat} {v0 v1 v2 v3 v4 v5 : Value} {o : Obj} (hb : Below w.heap.size w w3) (hX : w.heap.size ≤ X) : Below w.heap.size w (((((((w3.setCell ⟨X, 0, none⟩ v0).setCell ⟨X, 1, none⟩ v1).setCell ⟨X, 2, none⟩ v2).setCell ⟨X, 3, none⟩ v3).setCell ⟨X, 4, none⟩ v4).setCell ⟨X, 5, none⟩ v5).alloc o) :=
  (set6_below hb hX).alloc (by rw [set6_size]; exact hb.size) o
theorem set6_alloc_at (w3 : World) (X j : Nat) (v0 v1 v2 v3 v4 v5 : Value) (o : Obj) (h : j ≠ X) (hj : j < w3.heap.size) : (((((((w3.setCell ⟨X, 0, none⟩ v0).setCell ⟨X, 1, none⟩ v1).setCell ⟨X, 2, none⟩ v2).setCell ⟨X, 3, none⟩ v3).setCell ⟨X, 4, none⟩ v4).setCell ⟨X, 5, none⟩ v5).alloc o).heap[j]? = w3.heap[j]? :=
  (Below.heap_alloc _ _ _ (by rw [set6_size]; exact hj)).trans (set6_at _ _ _ _ _ _ _ _ _ h)
/-- What was read of a slot, handed on by another call. -/
theorem SlOut.wide {w w1 w2 : World} {A : List Int} {e : Ending} (h : SlOut w1 w2 A e) (hb : Below w.heap.size w w1) : SlOut w w2 A e := by
  obtain ⟨h1, b⟩ := h
  refine ⟨?_, hb.trans (b.mono hb.size)⟩
  rcases h1 with ⟨g, L, fi, ol, he, la, q, go, bo, gc, bc, hM, he', ho⟩ | h
  · exact .inl ⟨g, L, fi, ol, he, la, q, go, bo, gc, bc, hM, he', ho.wide hb.size⟩
  · exact .inr h

set_option maxHeartbeats 1000000 in
theorem slotget_spec (aA aB : Option Addr) (cA cB : Nat) (A B : List Int) (w : World) (hA : VBy w aA cA A) (hB : VBy w aB cB B) :
    Calls Tryz.prog 133 #[.agg #[.slice aA A.length cA, .slice aB B.length cB]] w fun e w' => SlOut w w' ((latL Classical.propDecidable) A B) e := by
  obtain ⟨W, hW⟩ : ∃ W, W = ((w.alloc (.cells #[.slice aA A.length cA, .slice aB B.length cB] 28)).alloc (.cells #[.slice none 0 0, .slice none 0 0, .bool false, .bool false, .bool false, .int .i64 0] 25)) := ⟨_, rfl⟩
  have hb : Below w.heap.size w W := by rw [hW]; exact (bal1 _ _).alloc (by simp) _
  have hS : SB W w.heap.size 28 aA A.length cA aB B.length cB := by rw [hW]; exact (SB.new w _ _ _ _ _ _ _).b (bal1 _ _)
  have hK : KB W (w.heap.size + 1) 25 none 0 0 none 0 0 false false false 0 := by
    have := KB.new (w.alloc (.cells #[.slice aA A.length cA, .slice aB B.length cB] 28)) 25 none 0 0 none 0 0 false false false 0
    rw [alsz] at this
    rw [hW]; exact this
  have hcall := hide (which_spec aA aB cA cB A B W (hA.below hb) (hB.below hb))
  have HB := hide hb
  have HS := hide hS
  have HK := hide hK
  have HVA := hide hA
  have HVB := hide hB
  clear hA hB hb hS hK
  go_enter Tryz.func133, Tryz.ntmps133
  go_wp2_with fail
  rw [← hW]
  clear hW
  refine hcall.out.mono ?_
  rintro e w2 ⟨x, rfl, hx, b2⟩
  have HB2 := hide (HB.out.trans (b2.mono HB.out.size))
  have HK2 := hide (HK.out.b b2)
  obtain ⟨c0, c1⟩ := (HS.out.b b2).cells
  have hlt2 : w.heap.size + 1 < w2.heap.size := HK2.out.lt
  clear hcall b2 HB HS HK
  rcases hx with ⟨hl, rfl⟩ | ⟨hl, hw, rfl⟩ | ⟨hnA, hnB, rfl⟩
  · have HLN : Hid (¬ Whole A → ¬ Whole ((latL Classical.propDecidable) A B)) := fun h => by rw [latL_yes hl]; exact h
    have HE : ∀ g L fi ol he la q, SlIs A g L fi ol he la q → SlIs ((latL Classical.propDecidable) A B) g L fi ol he la q := fun g L fi ol he la q h => by rw [latL_yes hl]; exact h
    clear hl
    go_wp2_with fail
    refine (slot_any aA cA A _ (HVA.out.below HB2.out)).mono ?_
    rintro e w3 ⟨h1, b3⟩
    have HB3 := hide (HB2.out.trans (b3.mono HB2.out.size))
    obtain ⟨r0, r1, r2, r3, r4, r5⟩ := (HK2.out.b b3).cells
    have rz := (HK2.out.b b3).froz
    have hz3 := b3.size
    have hne1 : ¬ w.heap.size + 1 = w3.heap.size := by omega
    have hne2 : ¬ w3.heap.size = w.heap.size + 1 := by omega
    have hlt3 : w.heap.size + 1 < w3.heap.size := by omega
    have HLL := hide HE
    clear b3 HB2 HK2 HVA HVB
    rcases h1 with ⟨g, L, fi, ol, he, la, q, go, bo, gc, bc, hM, rfl, hO⟩ | ⟨hno, rfl⟩
    · have HM := hide hM
      have HO := hide hO
      clear hM hO
      go_wp2
      refine bodyPost_ret (v := .tuple #[.agg #[.slice go g.length gc, .slice bo 3 bc, .bool fi, .bool ol, .bool he, .int .i64 la], .int .i64 q, .bool true]) (by simp [results, Tryz.results133, go_sem, r0, r1, r2, r3, r4, r5, hlt3, hne1, hne2]) rfl ?_
      refine ⟨.inl ⟨g, L, fi, ol, he, la, q, go, bo, gc, bc, HLL.out _ _ _ _ _ _ _ HM.out, rfl, ?_⟩, ?_⟩
      · have hfin : ∀ F : World, w3.heap.size ≤ F.heap.size → (∀ j, w.heap.size + 1 + 1 ≤ j → j < w3.heap.size → F.heap[j]? = w3.heap[j]?) → OKm F w.heap.size F.heap.size go gc bo bc g 3 L := fun F hs hk =>
          (HO.out.kept (fun j h1 h2 => hk j (by omega) h2) hs).wider (by omega) hs (Nat.le_refl _)
        refine hfin _ (by rw [alsz, set6_size]; omega) ?_
        intro j hj hj2
        exact set6_alloc_at _ _ _ _ _ _ _ _ _ _ (by omega) hj2
      · exact set6_alloc HB3.out (by omega)
    · have HNO := hide hno
      clear hno
      go_wp2
      refine bodyPost_ret (v := .tuple #[.agg #[.slice none 0 0, .slice none 0 0, .bool false, .bool false, .bool false, .int .i64 0], .int .i64 0, .bool false]) (by simp [results, Tryz.results133, go_sem, r0, r1, r2, r3, r4, r5, hlt3, hne1, hne2]) rfl ?_
      refine ⟨.inr ⟨HLN.out HNO.out, rfl⟩, ?_⟩
      exact set6_alloc HB3.out (by omega)
  · have HLN : Hid (¬ Whole B → ¬ Whole ((latL Classical.propDecidable) A B)) := fun h => by rw [latL_no hl]; exact h
    have HE : ∀ g L fi ol he la q, SlIs B g L fi ol he la q → SlIs ((latL Classical.propDecidable) A B) g L fi ol he la q := fun g L fi ol he la q h => by rw [latL_no hl]; exact h
    clear hl hw
    go_wp2_with fail
    refine (slot_any aB cB B _ (HVB.out.below HB2.out)).mono ?_
    rintro e w3 ⟨h1, b3⟩
    have HB3 := hide (HB2.out.trans (b3.mono HB2.out.size))
    obtain ⟨r0, r1, r2, r3, r4, r5⟩ := (HK2.out.b b3).cells
    have rz := (HK2.out.b b3).froz
    have hz3 := b3.size
    have hne1 : ¬ w.heap.size + 1 = w3.heap.size := by omega
    have hne2 : ¬ w3.heap.size = w.heap.size + 1 := by omega
    have hlt3 : w.heap.size + 1 < w3.heap.size := by omega
    have HLL := hide HE
    clear b3 HB2 HK2 HVA HVB
    rcases h1 with ⟨g, L, fi, ol, he, la, q, go, bo, gc, bc, hM, rfl, hO⟩ | ⟨hno, rfl⟩
    · have HM := hide hM
      have HO := hide hO
      clear hM hO
      go_wp2
      refine bodyPost_ret (v := .tuple #[.agg #[.slice go g.length gc, .slice bo 3 bc, .bool fi, .bool ol, .bool he, .int .i64 la], .int .i64 q, .bool true]) (by simp [results, Tryz.results133, go_sem, r0, r1, r2, r3, r4, r5, hlt3, hne1, hne2]) rfl ?_
      refine ⟨.inl ⟨g, L, fi, ol, he, la, q, go, bo, gc, bc, HLL.out _ _ _ _ _ _ _ HM.out, rfl, ?_⟩, ?_⟩
      · have hfin : ∀ F : World, w3.heap.size ≤ F.heap.size → (∀ j, w.heap.size + 1 + 1 ≤ j → j < w3.heap.size → F.heap[j]? = w3.heap[j]?) → OKm F w.heap.size F.heap.size go gc bo bc g 3 L := fun F hs hk =>
          (HO.out.kept (fun j h1 h2 => hk j (by omega) h2) hs).wider (by omega) hs (Nat.le_refl _)
        refine hfin _ (by rw [alsz, set6_size]; omega) ?_
        intro j hj hj2
        exact set6_alloc_at _ _ _ _ _ _ _ _ _ _ (by omega) hj2
      · exact set6_alloc HB3.out (by omega)
    · have HNO := hide hno
      clear hno
      go_wp2
      refine bodyPost_ret (v := .tuple #[.agg #[.slice none 0 0, .slice none 0 0, .bool false, .bool false, .bool false, .int .i64 0], .int .i64 0, .bool false]) (by simp [results, Tryz.results133, go_sem, r0, r1, r2, r3, r4, r5, hlt3, hne1, hne2]) rfl ?_
      refine ⟨.inr ⟨HLN.out HNO.out, rfl⟩, ?_⟩
      exact set6_alloc HB3.out (by omega)
  · have HLN : Hid (¬ Whole A → ¬ Whole ((latL Classical.propDecidable) A B)) := fun h => by rw [latL_no (wh_no hnA hnB)]; exact hnB
    have HE : ∀ g L fi ol he la q, SlIs A g L fi ol he la q → SlIs ((latL Classical.propDecidable) A B) g L fi ol he la q := fun g L fi ol he la q h => absurd ⟨g, L, fi, ol, he, la, q, h⟩ hnA
    clear hnA hnB
    go_wp2_with fail
    refine (slot_any aA cA A _ (HVA.out.below HB2.out)).mono ?_
    rintro e w3 ⟨h1, b3⟩
    have HB3 := hide (HB2.out.trans (b3.mono HB2.out.size))
    obtain ⟨r0, r1, r2, r3, r4, r5⟩ := (HK2.out.b b3).cells
    have rz := (HK2.out.b b3).froz
    have hz3 := b3.size
    have hne1 : ¬ w.heap.size + 1 = w3.heap.size := by omega
    have hne2 : ¬ w3.heap.size = w.heap.size + 1 := by omega
    have hlt3 : w.heap.size + 1 < w3.heap.size := by omega
    have HLL := hide HE
    clear b3 HB2 HK2 HVA HVB
    rcases h1 with ⟨g, L, fi, ol, he, la, q, go, bo, gc, bc, hM, rfl, hO⟩ | ⟨hno, rfl⟩
    · have HM := hide hM
      have HO := hide hO
      clear hM hO
      go_wp2
      refine bodyPost_ret (v := .tuple #[.agg #[.slice go g.length gc, .slice bo 3 bc, .bool fi, .bool ol, .bool he, .int .i64 la], .int .i64 q, .bool true]) (by simp [results, Tryz.results133, go_sem, r0, r1, r2, r3, r4, r5, hlt3, hne1, hne2]) rfl ?_
      refine ⟨.inl ⟨g, L, fi, ol, he, la, q, go, bo, gc, bc, HLL.out _ _ _ _ _ _ _ HM.out, rfl, ?_⟩, ?_⟩
      · have hfin : ∀ F : World, w3.heap.size ≤ F.heap.size → (∀ j, w.heap.size + 1 + 1 ≤ j → j < w3.heap.size → F.heap[j]? = w3.heap[j]?) → OKm F w.heap.size F.heap.size go gc bo bc g 3 L := fun F hs hk =>
          (HO.out.kept (fun j h1 h2 => hk j (by omega) h2) hs).wider (by omega) hs (Nat.le_refl _)
        refine hfin _ (by rw [alsz, set6_size]; omega) ?_
        intro j hj hj2
        exact set6_alloc_at _ _ _ _ _ _ _ _ _ _ (by omega) hj2
      · exact set6_alloc HB3.out (by omega)
    · have HNO := hide hno
      clear hno
      go_wp2
      refine bodyPost_ret (v := .tuple #[.agg #[.slice none 0 0, .slice none 0 0, .bool false, .bool false, .bool false, .int .i64 0], .int .i64 0, .bool false]) (by simp [results, Tryz.results133, go_sem, r0, r1, r2, r3, r4, r5, hlt3, hne1, hne2]) rfl ?_
      refine ⟨.inr ⟨HLN.out HNO.out, rfl⟩, ?_⟩
      exact set6_alloc HB3.out (by omega)
/-- Where the latest one lies. -/
def latN (D : (p : Prop) → Decidable p) (A B : List Int) : Nat := @ite Nat (Lat A B) (D _) 0 1
theorem latN_yes {A B : List Int} (h : Lat A B) : (latN Classical.propDecidable) A B = 0 := by unfold latN; rw [if_pos h]
theorem latN_no {A B : List Int} (h : ¬ Lat A B) : (latN Classical.propDecidable) A B = 1 := by unfold latN; rw [if_neg h]

set_option maxHeartbeats 1000000 in
theorem latest_impl (b : Nat) (aA aB : Option Addr) (cA cB : Nat) (A B : List Int) (w : World) (hg : ErrT w) (hS : SB w b 28 aA A.length cA aB B.length cB) (hA : VBy w aA cA A) (hB : VBy w aB cB B) :
    Calls Tryz.prog 138 #[.pointer (some ⟨b, 0, none⟩)] w fun e w' => e = .returned (.tuple #[.pointer (some ⟨b, (latN Classical.propDecidable) A B, none⟩), .pointer (some ⟨b, 1 - (latN Classical.propDecidable) A B, none⟩)]) ∧ Below w.heap.size w w' := by
  have hc1 := hide (seqof_impl aA cA A w hg hA)
  obtain ⟨c0, c1⟩ := hS.cells
  have HG := hide hg
  have HS := hide hS
  have HVB := hide hB
  clear hg hS hA hB
  have qA := sqv_bd A
  have qB := sqv_bd B
  by_cases hl : Lat A B
  · rw [latN_yes hl]
    unfold Lat at hl
    obtain ⟨hl1, hl2⟩ := hl
    generalize (sqv Classical.propDecidable) A = x at *
    have hc2 := hide (fun W (hb : Below w.heap.size w W) => seqof_impl aB cB B W (HG.out.below hb) (HVB.out.below hb))
    generalize (sqv Classical.propDecidable) B = y at *
    go_enter Tryz.func138, Tryz.ntmps138
    go_wp2_with fail
    refine hc1.out.mono ?_
    rintro e w1 ⟨rfl, b1⟩
    obtain ⟨d0, d1⟩ := (HS.out.b b1).cells
    have HB1 := hide b1
    clear b1 hc1 c0 c1
    go_wp2_with fail
    refine (hc2.out _ HB1.out).mono ?_
    rintro e w2 ⟨rfl, b2⟩
    have HB2 := hide (HB1.out.trans (b2.mono HB1.out.size))
    clear b2 hc2 d0 d1
    go_wp2
    go_quiet (fail)
    go_wp2
    exact bodyPost_ret (v := .tuple #[.pointer (some ⟨b, 0, none⟩), .pointer (some ⟨b, 1, none⟩)]) (by simp [results, Tryz.results138, go_sem]) rfl ⟨rfl, by first | exact HB2.out | exact Below.drawn HB2.out _⟩
  · rw [latN_no hl]
    unfold Lat at hl
    have hc2 := hide (fun W (hb : Below w.heap.size w W) => seqof_impl aB cB B W (HG.out.below hb) (HVB.out.below hb))
    generalize (sqv Classical.propDecidable) A = x at *
    generalize (sqv Classical.propDecidable) B = y at *
    by_cases h0 : 0 < x
    · have h1 : ¬ y ≤ x := fun h => hl ⟨h0, h⟩
      go_enter Tryz.func138, Tryz.ntmps138
      go_wp2_with fail
      refine hc1.out.mono ?_
      rintro e w1 ⟨rfl, b1⟩
      obtain ⟨d0, d1⟩ := (HS.out.b b1).cells
      have HB1 := hide b1
      clear b1 hc1 c0 c1
      go_wp2_with fail
      refine (hc2.out _ HB1.out).mono ?_
      rintro e w2 ⟨rfl, b2⟩
      have HB2 := hide (HB1.out.trans (b2.mono HB1.out.size))
      clear b2 hc2 d0 d1
      go_wp2
      go_quiet (fail)
      go_wp2
      exact bodyPost_ret (v := .tuple #[.pointer (some ⟨b, 1, none⟩), .pointer (some ⟨b, 0, none⟩)]) (by simp [results, Tryz.results138, go_sem]) rfl ⟨rfl, by first | exact HB2.out | exact Below.drawn HB2.out _⟩
    · go_enter Tryz.func138, Tryz.ntmps138
      go_wp2_with fail
      refine hc1.out.mono ?_
      rintro e w1 ⟨rfl, b1⟩
      have HB1 := hide b1
      clear b1 hc1 c0 c1
      go_wp2
      go_quiet (fail)
      go_wp2
      exact bodyPost_ret (v := .tuple #[.pointer (some ⟨b, 1, none⟩), .pointer (some ⟨b, 0, none⟩)]) (by simp [results, Tryz.results138, go_sem]) rfl ⟨rfl, by first | exact HB1.out | exact Below.drawn HB1.out _⟩

/-- The slice that a place names. -/
theorem lat_cell {w : World} {b : Nat} {t : TypeId} {aA : Option Addr} {cA : Nat} {aB : Option Addr} {cB : Nat} {A B : List Int} (h : SB w b t aA A.length cA aB B.length cB) (hA : VBy w aA cA A) (hB : VBy w aB cB B) :
    ∃ ao cap, w.cell? ⟨b, (latN Classical.propDecidable) A B, none⟩ = some (.slice ao ((latL Classical.propDecidable) A B).length cap) ∧ VBy w ao cap ((latL Classical.propDecidable) A B) := by
  by_cases hl : Lat A B
  · rw [latN_yes hl, latL_yes hl]; exact ⟨_, _, h.cells.1, hA⟩
  · rw [latN_no hl, latL_no hl]; exact ⟨_, _, h.cells.2, hB⟩

set_option maxHeartbeats 1000000 in
theorem slotget_impl (aA aB : Option Addr) (cA cB : Nat) (A B : List Int) (w : World) (hg : ErrT w) (hA : VBy w aA cA A) (hB : VBy w aB cB B) :
    Calls Tryz.prog 210 #[.agg #[.slice aA A.length cA, .slice aB B.length cB]] w fun e w' => SlOut w w' ((latL Classical.propDecidable) A B) e := by
  obtain ⟨W, hW⟩ : ∃ W, W = ((w.alloc (.cells #[.slice aA A.length cA, .slice aB B.length cB] 28)).alloc (.cells #[.slice none 0 0, .slice none 0 0, .bool false, .bool false, .bool false, .int .i64 0] 25)) := ⟨_, rfl⟩
  have hb : Below w.heap.size w W := by rw [hW]; exact (bal1 _ _).alloc (by simp) _
  have hS : SB W w.heap.size 28 aA A.length cA aB B.length cB := by rw [hW]; exact (SB.new w _ _ _ _ _ _ _).b (bal1 _ _)
  have hK : KB W (w.heap.size + 1) 25 none 0 0 none 0 0 false false false 0 := by
    have := KB.new (w.alloc (.cells #[.slice aA A.length cA, .slice aB B.length cB] 28)) 25 none 0 0 none 0 0 false false false 0
    rw [alsz] at this
    rw [hW]; exact this
  have hcall := hide (latest_impl w.heap.size aA aB cA cB A B W (hg.below hb) hS (hA.below hb) (hB.below hb))
  have HB := hide hb
  have HS := hide hS
  have HK := hide hK
  have HVA := hide hA
  have HVB := hide hB
  have HG := hide hg
  clear hA hB hb hS hK hg
  go_enter Tryz.func210, Tryz.ntmps210
  go_wp2_with fail
  rw [← hW]
  clear hW
  refine hcall.out.mono ?_
  rintro e w2 ⟨rfl, b2⟩
  have HB2 := hide (HB.out.trans (b2.mono HB.out.size))
  have HK2 := hide (HK.out.b b2)
  obtain ⟨ao, cap, hc, hv⟩ := lat_cell (HS.out.b b2) (HVA.out.below HB2.out) (HVB.out.below HB2.out)
  have hlt2 : w.heap.size + 1 < w2.heap.size := HK2.out.lt
  have hcs := hide (sloti_any ao cap ((latL Classical.propDecidable) A B) w2 (HG.out.below HB2.out) hv)
  generalize (latN Classical.propDecidable) A B = i at *
  clear hcall b2 HB HS HK HVA HVB hv
  go_wp2_with fail
  refine hcs.out.mono ?_
  rintro e w3 ⟨h1, b3⟩
  have HB3 := hide (HB2.out.trans (b3.mono HB2.out.size))
  obtain ⟨r0, r1, r2, r3, r4, r5⟩ := (HK2.out.b b3).cells
  have rz := (HK2.out.b b3).froz
  have hz3 := b3.size
  clear b3 HB2 HK2 hcs
  rcases h1 with ⟨g, L, fi, ol, he, la, q, go, bo, gc, bc, hM, rfl, hO⟩ | ⟨hno, rfl⟩
  · have HM := hide hM
    have HO := hide hO
    clear hM hO
    go_wp2
    refine bodyPost_ret (v := .tuple #[.agg #[.slice go g.length gc, .slice bo 3 bc, .bool fi, .bool ol, .bool he, .int .i64 la], .int .i64 q, .bool true]) (by simp [results, Tryz.results210, go_sem, r0, r1, r2, r3, r4, r5]) rfl ?_
    refine ⟨.inl ⟨g, L, fi, ol, he, la, q, go, bo, gc, bc, HM.out, rfl, ?_⟩, ?_⟩
    · have hfin : ∀ F : World, w3.heap.size ≤ F.heap.size → (∀ j, w.heap.size + 1 + 1 ≤ j → j < w3.heap.size → F.heap[j]? = w3.heap[j]?) → OKm F w.heap.size F.heap.size go gc bo bc g 3 L := fun F hs hk =>
        (HO.out.kept (fun j h1 h2 => hk j (by omega) h2) hs).wider (by omega) hs (Nat.le_refl _)
      refine hfin _ (by rw [set6_size]; omega) ?_
      intro j hj hj2
      exact set6_at _ _ _ _ _ _ _ _ _ (by omega)
    · exact set6_below HB3.out (by omega)
  · have HNO := hide hno
    clear hno
    go_wp2
    refine bodyPost_ret (v := .tuple #[.agg #[.slice none 0 0, .slice none 0 0, .bool false, .bool false, .bool false, .int .i64 0], .int .i64 0, .bool false]) (by simp [results, Tryz.results210, go_sem, r0, r1, r2, r3, r4, r5]) rfl ?_
    exact ⟨.inr ⟨HNO.out, rfl⟩, set6_below HB3.out (by omega)⟩
end Go.Proofs.YtkndnndildnbpaaGreatDoor

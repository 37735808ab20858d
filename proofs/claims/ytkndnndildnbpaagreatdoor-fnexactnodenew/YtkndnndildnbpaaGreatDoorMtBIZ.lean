/- The bytes of what is known, of the program. -/
import Derived.Test.YtkndnndildnbpaaGreatDoorMtBSZ
import Derived.Test.YtkndnndildnbpaaGreatDoorGf

namespace Go.Proofs.YtkndnndildnbpaaGreatDoor
open Go.ChangeShapes Go.WideShapes Go.ChangeAt Go.RowKit
set_option linter.unusedVariables false
set_option linter.unusedSimpArgs false
set_option maxRecDepth 100000

theorem krange_getD (G : List Int) : (List.range G.length).map (fun i => G.getD i 0) = G := by
  refine List.ext_getElem? fun j => ?_
  by_cases h : j < G.length
  · simp [h, List.getD]
  · rw [List.getElem?_eq_none (by simp; omega), List.getElem?_eq_none (by omega)]

theorem putlist_impl (ro : Option Addr) (rc : Nat) (l : List Int) (w : World) (hl : l.length ≤ 100) (hs : SL .i64 w ro l.length (fun i => l.getD i 0)) (hm : ∀ x ∈ l, 0 ≤ x ∧ x ≤ 2147483647) :
    Calls Tryz.prog 251 #[.slice ro l.length rc] w fun e w' => ∃ x, e = .returned x ∧ w'.ownsRow w.heap.size 5 1 x (nums (lsq l)).length ((nums (lsq l)).map (.int .u8)) ∧ Below w.heap.size w w' := by
  obtain ⟨i0, hi, hz0, hz1, hz2⟩ := info_parts Tryz.info5
  have hN : Hid (∀ W, SL .i64 W ro l.length (fun i => l.getD i 0) → Calls Tryz.prog 261 #[.slice ro l.length rc] W fun e w' => ∃ x, e = .returned x ∧ w'.ownsRow W.heap.size 5 1 x (nums l).length ((nums l).map (.int .u8)) ∧ Below W.heap.size W w') := fun W hW => by
    have := putnums_impl ro l.length rc (fun i => l.getD i 0) W hl hW (fun i hi => hm _ (kgetD_mem l i hi))
    rwa [krange_getD] at this
  have HS := hide hs
  have hnl := nums_len l
  have hE : Hid (nums (lsq l) = pb 4 (l.length : Int) ++ nums l) := (show _ = _ by unfold lsq; rw [nums_cons])
  rw [hE.out]
  clear hs hm
  go_enter Tryz.func251, Tryz.ntmps251
  go_wp2_with fail
  refine (put_impl (l.length : Int) _ (by omega) (by omega)).mono ?_
  rintro e w1 ⟨v1, rfl, ho1, hb1⟩
  have H1 := hide (And.intro ho1 hb1)
  have hpl := pb_len 4 (l.length : Int)
  clear ho1 hb1
  go_wp2_with fail
  refine (hN.out _ (HS.out.below H1.out.2)).mono ?_
  rintro e w2 ⟨v2, rfl, ho2, hb2⟩
  have HSR := hide (Src.of_owns ho2)
  have H2 := hide (And.intro (gbelow H1.out.1 hb2) (H1.out.2.trans (hb2.mono H1.out.2.size)))
  have hsz := H2.out.2.size
  clear ho2 hb2 H1 hN HS
  go_wp2_with (first
    | (at_builtin; refine wpList_append_src rfl _ _ 26 rfl w.heap.size 5 i0 (.int .u8 0) 1 Tryz.underlying26 hi hz0 hz1 hz2 rfl .u8 _ (pb 4 (l.length : Int)) rfl H2.out.1 _ (nums l) rfl HSR.out (glens (by omega)) (by omega) hsz ?_; intro v' w4 hown' hgrow))
  have R := hide (And.intro hown' (ggrown H2.out.2 hsz H2.out.1 hgrow))
  clear hown' hgrow
  go_wp2
  go_ret
  exact ⟨_, rfl, R.out⟩

theorem flags_impl (go bo : Option Addr) (gl gc n bc : Nat) (fi ol he : Bool) (la : Int) (w : World) :
    Calls Tryz.prog 254 #[.agg #[.slice go gl gc, .slice bo n bc, .bool fi, .bool ol, .bool he, .int .i64 la]] w fun e w' => e = .returned (.int .i64 (flg fi ol he)) ∧ Below w.heap.size w w' := by
  cases fi <;> cases ol <;> cases he
  all_goals
    go_enter Tryz.func254, Tryz.ntmps254
    go_wp2
    go_ret
    exact ⟨rfl, (Below.refl _ _).alloc (Nat.le_refl _) _⟩

theorem Bu.apps {w1 wr w' : World} {v v' : Value} {M N : List Int} (h : Bu w1 wr v M) (hown : w'.ownsRow w1.heap.size 5 1 v' (nums M ++ nums N).length ((nums M ++ nums N).map (.int .u8))) (hg : wr.grownBy w' v.ownBlock) : Bu w1 w' v' (M ++ N) :=
  ⟨by rw [nums_app]; exact hown, ggrown h.2 h.2.size h.1 hg⟩

set_option maxHeartbeats 600000 in
theorem mtbytes_impl (go bo : Option Addr) (gc bc : Nat) (g : List Int) (n : Nat) (L : Nat → List Int) (fi ol he : Bool) (la : Int) (w : World) (hd : Bd g n L) (hv : MV w go gc bo bc g n L) :
    Calls Tryz.prog 237 #[.agg #[.slice go g.length gc, .slice bo n bc, .bool fi, .bool ol, .bool he, .int .i64 la]] w fun e w' => ∃ x, e = .returned x ∧ w'.ownsRow w.heap.size 5 1 x ((mtb Classical.propDecidable) g n L fi ol he la).length (((mtb Classical.propDecidable) g n L fi ol he la).map (.int .u8)) ∧ Below w.heap.size w w' := by
  obtain ⟨i0, hi, hz0, hz1, hz2⟩ := info_parts Tryz.info5
  have hx := bal1 w (.cells #[.slice go g.length gc, .slice bo n bc, .bool fi, .bool ol, .bool he, .int .i64 la] 25)
  have hcall := hide (mtok_impl go bo gc bc g n L fi ol he la _ hd (hv.below hx))
  by_cases hok : MtOk g n L ol he la
  · rw [mtb_yes hok]
    obtain ⟨hg12, rfl, hL8, hgm, hLm, hla⟩ := mtok_g hok
    have HV := hide hv
    have HGM := hide hgm
    have HLM := hide hLm
    have HL8 := hide hL8
    have HX := hide hx
    clear hv hgm hLm hL8 hd hx
    go_enter Tryz.func237, Tryz.ntmps237
    go_wp2_with fail
    refine hcall.out.mono ?_
    rintro e w1 ⟨h1, b1⟩
    obtain rfl : e = .returned (.bool true) := h1.elim (·.2) (fun x => absurd hok x.1)
    have K1 := (KB.new w 25 go g.length gc bo 3 bc fi ol he la).b b1
    have HB1 := hide (HX.out.trans (b1.mono HX.out.size))
    have HV1 := hide ((HV.out.below HX.out).below b1)
    have HK1 := hide K1
    have hwl : w.heap.size < w1.heap.size := K1.lt
    clear h1 b1 hcall HV HX hok
    have HC : Hid (∀ wr, Below w1.heap.size w1 wr → KB wr w.heap.size 25 go g.length gc bo 3 bc fi ol he la ∧ MV wr go gc bo bc g 3 L) := fun wr hb => ⟨HK1.out.b hb, HV1.out.below hb⟩
    obtain ⟨c0, c1, c2, c3, c4, c5⟩ := K1.cells
    clear K1 c1 c2 c3 c4 c5
    go_wp2_with fail
    refine (putlist_impl go gc g _ (by omega) HV1.out.2.1 (fun x hx => by have := HGM.out x hx; omega)).mono ?_
    rintro e w2 ⟨v2, rfl, ho2, hb2⟩
    have HI2 : Hid (Bu w1 w2 v2 (pre g L 0)) := ⟨ho2, hb2⟩
    obtain ⟨c0', c1, c2, c3, c4, c5⟩ := (HC.out w2 hb2).1.cells
    clear ho2 hb2 c0
    go_wp2
    clear c0' c1 c2 c3 c4 c5
    go_loopw [3, 5, 15] (fun v _ i wr => ∃ k : Nat, k ≤ 3 ∧ i = .int .i64 k ∧ Hid (Bu w1 wr v (pre g L k))) (fun _ _ i _ => 3 - (intOf i).toNat)
    case atStart => exact ⟨0, by omega, rfl, HI2.out⟩
    case round =>
      clear HI2
      obtain ⟨k, hk3, rfl, HI⟩ := hrel
      obtain ⟨hk, hm⟩ := HC.out wr HI.out.2
      by_cases hlt : k < 3
      · have hki : (k : Int) < 3 := by omega
        obtain ⟨b, off, ro, rc, rfl, hcb, hrc, hsl⟩ := hm.2.2 k hlt
        have hl8 := HL8.out k hlt
        have hML : (nums (pre g L k)).length ≤ 5 * 40 := by
          have h1 := nums_len (pre g L k)
          have h2 := pre_len (g := g) (L := L) hg12 k (fun i hi => HL8.out i (by omega))
          omega
        have hpn : Hid (pre g L (k + 1) = pre g L k ++ lsq (L k)) := rfl
        have hcl := hide (putlist_impl ro rc (L k) wr (by omega) hsl (fun x hx => by have := HLM.out k hlt x hx; omega))
        have hnl := nums_len (lsq (L k))
        rw [lsq_len] at hnl
        have HAP : Hid (∀ wr w' v v', Bu w1 wr v (pre g L k) → w'.ownsRow w1.heap.size 5 1 v' (nums (pre g L k) ++ nums (lsq (L k))).length ((nums (pre g L k) ++ nums (lsq (L k))).map (.int .u8)) → wr.grownBy w' v.ownBlock → Bu w1 w' v' (pre g L (k + 1))) := fun wr w' v v' h ho hg => (h.apps ho hg).eq rfl
        generalize pre g L k = M at *
        generalize nums (lsq (L k)) = N at *
        generalize L k = l at *
        clear hm hk hsl
        go_wp2_with fail
        refine hcl.out.mono ?_
        rintro e w3 ⟨v3, rfl, ho3, hb3⟩
        have HSR := hide (Src.of_owns ho3)
        have HI3 := hide (HI.out.b hb3)
        have hsz := HI3.out.2.size
        clear ho3 hb3 HI hcb hcl
        go_wp2_with (first
          | (at_builtin; refine wpList_append_src rfl _ _ 26 rfl w1.heap.size 5 i0 (.int .u8 0) 1 Tryz.underlying26 hi hz0 hz1 hz2 rfl .u8 _ (nums M) rfl HI3.out.1 _ N rfl HSR.out (glens (by omega)) (by omega) hsz ?_; intro v' w4 hown' hgrow))
        have R := hide (HAP.out _ _ _ _ HI3.out hown' hgrow)
        clear hown' hgrow HI3 HSR HAP hpn
        go_wp2
        go_roundw
        case rel => exact ⟨k + 1, by omega, by go_num, R.out⟩
        case measure => simp [intOf]; omega
      · obtain rfl : k = 3 := by omega
        have hML : (nums (pre g L 3)).length ≤ 5 * 40 := by
          have h1 := nums_len (pre g L 3)
          have h2 := pre_len (g := g) (L := L) hg12 3 (fun i hi => HL8.out i (by omega))
          omega
        have HF : Hid (nums (mseq g L fi ol he la) = nums (pre g L 3) ++ pb 4 (flg fi ol he) ++ pb 4 la) := (show _ = _ by unfold mseq; rw [nums_app, show [flg fi ol he, la] = [flg fi ol he] ++ [la] from rfl, nums_app, nums_one, nums_one, List.append_assoc])
        have hfl := hide (flags_impl go bo g.length gc 3 bc fi ol he la)
        obtain ⟨hF0, hF7⟩ := flg_bd fi ol he
        generalize flg fi ol he = F at *
        have hp1 : Hid (∀ W, Calls Tryz.prog 253 #[.int .i64 F] W fun e w' => ∃ x, e = .returned x ∧ w'.ownsRow W.heap.size 5 1 x (pb 4 F).length ((pb 4 F).map (.int .u8)) ∧ Below W.heap.size W w') := fun W => put_impl F W (by omega) (by omega)
        have hp2 : Hid (∀ W, Calls Tryz.prog 253 #[.int .i64 la] W fun e w' => ∃ x, e = .returned x ∧ w'.ownsRow W.heap.size 5 1 x (pb 4 la).length ((pb 4 la).map (.int .u8)) ∧ Below W.heap.size W w') := fun W => put_impl la W (by omega) (by omega)
        have l1 := pb_len 4 F
        have l2 := pb_len 4 la
        have HI5 := hide (HI.out.b (Below.drawn (Below.refl _ _) 1))
        have hS := (HC.out wr.drew HI5.out.2).1.cells
        have hso := (Src.of_owns HI5.out.1).form
        have HS0 := hide (Src.of_owns HI5.out.1)
        generalize pre g L 3 = M at *
        generalize pb 4 F = P1 at *
        generalize pb 4 la = P2 at *
        generalize nums M = N at *
        obtain ⟨a5, c5, rfl⟩ := hso
        clear hm hk HI
        go_wp2_with fail
        go_region_held3 (fun w' => w'.cell? ⟨w.heap.size, 0, none⟩ = some (.slice go g.length gc) ∧ w'.cell? ⟨w.heap.size, 1, none⟩ = some (.slice bo 3 bc) ∧ w'.cell? ⟨w.heap.size, 2, none⟩ = some (.bool fi) ∧ w'.cell? ⟨w.heap.size, 3, none⟩ = some (.bool ol) ∧ w'.cell? ⟨w.heap.size, 4, none⟩ = some (.bool he) ∧ w'.cell? ⟨w.heap.size, 5, none⟩ = some (.int .i64 la)) (with_reducible assumption) (first
          | (go_at_call 252; refine (bconcat3 w8.heap.size a5 a7 a8 c5 c7 c8 N P1 P2 _ (by omega) (Deep.blk_alloc_new _ _) (H8.out.1.below (bal1 _ _)) (H8.out.2.1.below (bal1 _ _)) (H8.out.2.2.1.below (bal1 _ _))).mono ?_; rintro e w9 ⟨v9, rfl, o9, b9⟩; have H9 : Hid (w9.ownsRow w.heap.size 5 1 v9 (N ++ P1 ++ P2).length ((N ++ P1 ++ P2).map (.int .u8)) ∧ Below w1.heap.size w1 w9) := ⟨gmono o9 (Nat.le_trans (Nat.le_trans HB1.out.size H8.out.2.2.2.size) (by simp)), H8.out.2.2.2.trans (((bal1 _ _).trans (b9.mono (by simp))).mono H8.out.2.2.2.size)⟩; have hk9 := (HC.out w9 H9.out.2).1.cells; clear o9 b9)
          | (go_at_call 253; refine (hp2.out w7).mono ?_; rintro e w8 ⟨v8, rfl, o8, b8⟩; obtain ⟨a8, c8, rfl⟩ := (Src.of_owns o8).form; have H8 : Hid (Src .u8 w8 (.slice a5 N.length c5) N ∧ Src .u8 w8 (.slice a7 P1.length c7) P1 ∧ Src .u8 w8 (.slice a8 P2.length c8) P2 ∧ Below w1.heap.size w1 w8) := ⟨H7.out.1.below b8, H7.out.2.1.below b8, Src.of_owns o8, H7.out.2.2.trans (b8.mono H7.out.2.2.size)⟩; have hk8 := (HC.out w8 H8.out.2.2.2).1.cells; have hk8a := (HC.out (w8.alloc (.cells #[.slice a5 N.length c5, .slice a7 P1.length c7, .slice a8 P2.length c8] 26)) (H8.out.2.2.2.trans ((bal1 _ _).mono H8.out.2.2.2.size))).1.cells; clear o8 b8)
          | (go_at_call 253; refine (hp1.out w6).mono ?_; rintro e w7 ⟨v7, rfl, o7, b7⟩; obtain ⟨a7, c7, rfl⟩ := (Src.of_owns o7).form; have H7 : Hid (Src .u8 w7 (.slice a5 N.length c5) N ∧ Src .u8 w7 (.slice a7 P1.length c7) P1 ∧ Below w1.heap.size w1 w7) := ⟨H6.out.1.below b7, Src.of_owns o7, H6.out.2.trans (b7.mono H6.out.2.size)⟩; have hk7 := (HC.out w7 H7.out.2.2).1.cells; clear o7 b7)
          | (go_at_call 254; refine (hfl.out _).mono ?_; rintro e w6 ⟨rfl, b6⟩; have H6 : Hid (Src .u8 w6 (.slice a5 N.length c5) N ∧ Below w1.heap.size w1 w6) := ⟨HS0.out.below b6, HI5.out.2.trans (b6.mono HI5.out.2.size)⟩; have hk6 := (HC.out w6 H6.out.2).1.cells; clear b6))
        go_wp2
        go_ret
        rw [HF.out]
        exact ⟨_, rfl, H9.out.1, HB1.out.trans (H9.out.2.mono HB1.out.size)⟩
  · rw [mtb_no hok]
    go_enter Tryz.func237, Tryz.ntmps237
    go_wp2_with fail
    refine hcall.out.mono ?_
    rintro e w1 ⟨h1, b1⟩
    obtain rfl : e = .returned (.bool false) := h1.elim (fun x => absurd x.1 hok) (·.2)
    have B1 := hide (hx.trans (b1.mono hx.size))
    clear b1 hv hd hx h1
    go_wp2
    go_ret
    exact ⟨_, rfl, gnil, B1.out⟩
end Go.Proofs.YtkndnndildnbpaaGreatDoor

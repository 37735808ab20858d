/- The bytes of what is known, of the model. -/
import Derived.Test.YtkndnndildnbpaaGreatDoorGh

namespace Go.Proofs.YtkndnndildnbpaaGreatDoor
open Go.ChangeShapes Go.WideShapes Go.ChangeAt Go.RowKit
set_option linter.unusedVariables false
set_option linter.unusedSimpArgs false
set_option maxRecDepth 100000

/-- Bytes that are being built, from base on. -/
def Bu (w1 wr : World) (v : Value) (M : List Int) : Prop := wr.ownsRow w1.heap.size 5 1 v (nums M).length ((nums M).map (.int .u8)) ∧ Below w1.heap.size w1 wr
theorem Bu.b {w1 wr w' : World} {v : Value} {M : List Int} (h : Bu w1 wr v M) (hb : Below wr.heap.size wr w') : Bu w1 w' v M := ⟨gbelow h.1 hb, h.2.trans (hb.mono h.2.size)⟩
theorem Bu.app {w1 wr w' : World} {v v' : Value} {M : List Int} {z : Int} (h : Bu w1 wr v M) (hown : w'.ownsRow w1.heap.size 5 1 v' (nums M ++ pb 4 z).length ((nums M ++ pb 4 z).map (.int .u8))) (hg : wr.grownBy w' v.ownBlock) : Bu w1 w' v' (M ++ [z]) := by
  have e : nums (M ++ [z]) = nums M ++ pb 4 z := by rw [nums_app, nums_one]
  refine ⟨by rw [e]; exact hown, ggrown h.2 h.2.size h.1 hg⟩
theorem Bu.eq {w1 wr : World} {v : Value} {M M' : List Int} (h : Bu w1 wr v M) (e : M = M') : Bu w1 wr v M' := e ▸ h

set_option maxHeartbeats 600000 in
theorem mtbytes_spec (go bo : Option Addr) (gc bc : Nat) (g : List Int) (n : Nat) (L : Nat → List Int) (fi ol he : Bool) (la : Int) (w : World) (hd : Bd g n L) (hv : MV w go gc bo bc g n L) :
    Calls Tryz.prog 199 #[.agg #[.slice go g.length gc, .slice bo n bc, .bool fi, .bool ol, .bool he, .int .i64 la]] w fun e w' => ∃ x, e = .returned x ∧ w'.ownsRow w.heap.size 5 1 x ((mtb Classical.propDecidable) g n L fi ol he la).length (((mtb Classical.propDecidable) g n L fi ol he la).map (.int .u8)) ∧ Below w.heap.size w w' := by
  obtain ⟨i0, hi, hz0, hz1, hz2⟩ := info_parts Tryz.info5
  have hx := bal1 w (.cells #[.slice go g.length gc, .slice bo n bc, .bool fi, .bool ol, .bool he, .int .i64 la] 25)
  have hcall := hide (mtok_spec go bo gc bc g n L fi ol he la _ hd (hv.below hx))
  by_cases hok : MtOk g n L ol he la
  · rw [mtb_yes hok]
    obtain ⟨hg12, rfl, hL8, hgm, hLm, hla⟩ := mtok_g hok
    have HV := hide hv
    have HGM := hide hgm
    have HLM := hide hLm
    have HL8 := hide hL8
    have HX := hide hx
    clear hv hgm hLm hL8 hd hx
    go_enter Tryz.func199, Tryz.ntmps199
    go_wp2_with fail
    refine hcall.out.mono ?_
    rintro e w1 ⟨h1, b1⟩
    obtain rfl : e = .returned (.bool true) := h1.elim (·.2) (fun x => absurd hok x.1)
    have K1 := (KB.new w 25 go g.length gc bo 3 bc fi ol he la).b b1
    have HB1 := hide (HX.out.trans (b1.mono HX.out.size))
    have HV1 := hide ((HV.out.below HX.out).below b1)
    have HK1 := hide K1
    have hwl : w.heap.size < w1.heap.size := K1.lt
    clear h1 b1 hcall HV HX hok
    have HC : Hid (∀ wr, Below w1.heap.size w1 wr → KB wr w.heap.size 25 go g.length gc bo 3 bc fi ol he la ∧ MV wr go gc bo bc g 3 L) := fun wr hb => ⟨HK1.out.b hb, HV1.out.below hb⟩
    obtain ⟨c0, c1, c2, c3, c4, c5⟩ := K1.cells
    clear K1 c1 c2 c3 c4 c5
    go_wp2_with fail
    refine (put_spec (g.length : Int) _ (by omega) (by omega)).mono ?_
    rintro e w2 ⟨v2, rfl, ho2, hb2⟩
    have HI2 : Hid (Bu w1 w2 v2 [(g.length : Int)]) := ⟨by rw [nums_one]; exact ho2, hb2⟩
    clear ho2 hb2 c0
    go_wp2
    go_loopw [3, 4] (fun v i wr => ∃ j : Nat, j ≤ g.length ∧ i = .int .i64 j ∧ Hid (Bu w1 wr v ((g.length : Int) :: g.take j))) (fun _ i _ => g.length - (intOf i).toNat)
    case atStart => exact ⟨0, by omega, rfl, HI2.out⟩
    case round =>
      clear HI2
      obtain ⟨j, hj, rfl, HI⟩ := hrel
      obtain ⟨hk, hm⟩ := HC.out wr HI.out.2
      obtain ⟨c0, c1, c2, c3, c4, c5⟩ := hk.cells
      by_cases hlt : j < g.length
      · obtain ⟨b, off, rfl, hb, hcj0⟩ := hm.2.1 j hlt
        have hcj : wr.cell? ⟨b, off + j, none⟩ = some (.int .i64 (g.getD j 0)) := hcj0
        clear hcj0
        have hz := HGM.out (g.getD j 0) (kgetD_mem g j hlt)
        have hnx : Hid ((g.length : Int) :: g.take (j + 1) = ((g.length : Int) :: g.take j) ++ [g.getD j 0]) := (show _ = _ by rw [take_snoc' g j hlt]; rfl)
        have hML : (nums ((g.length : Int) :: g.take j)).length ≤ 5 * 13 := by
          have := nums_len ((g.length : Int) :: g.take j)
          simp only [List.length_cons, List.length_take] at this
          omega
        generalize g.getD j 0 = z at *
        generalize (g.length : Int) :: g.take j = M at *
        clear hm hk c1 c2 c3 c4 c5
        go_wp2_with fail
        refine (put_spec z _ (by omega) (by omega)).mono ?_
        rintro e w3 ⟨v3, rfl, ho3, hb3⟩
        have hpl := pb_len 4 z
        have HSR := hide (Src.of_owns ho3)
        have HI3 := hide (HI.out.b hb3)
        have hsz := HI3.out.2.size
        clear ho3 hb3 HI hcj c0
        go_wp2_with (first
          | (at_builtin; refine wpList_append_src rfl _ _ 26 rfl w1.heap.size 5 i0 (.int .u8 0) 1 Tryz.underlying26 hi hz0 hz1 hz2 rfl .u8 _ (nums M) rfl HI3.out.1 _ (pb 4 z) rfl HSR.out (glens (by omega)) (by omega) hsz ?_; intro v' w4 hown' hgrow))
        have R := hide (HI3.out.app hown' hgrow)
        clear hown' hgrow HI3 HSR
        go_wp2
        go_roundw
        case rel => exact ⟨j + 1, by omega, by go_num, by rw [hnx.out]; exact R.out⟩
        case measure => simp [intOf]; omega
      · obtain rfl : j = g.length := by omega
        have HI0 : Hid (Bu w1 wr u3 (pre g L 0)) := HI.out.eq (by simp [pre, lsq])
        clear hm hk c1 c2 c3 c4 c5 HI
        go_wp2
        go_loopw [3, 5] (fun v i wr => ∃ k : Nat, k ≤ 3 ∧ i = .int .i64 k ∧ Hid (Bu w1 wr v (pre g L k))) (fun _ i _ => 3 - (intOf i).toNat)
        case atStart => exact ⟨0, by omega, rfl, HI0.out⟩
        case round =>
          clear HI0
          obtain ⟨k, hk3, rfl, HI⟩ := hrel
          obtain ⟨hk, hm⟩ := HC.out wr HI.out.2
          obtain ⟨c0, c1, c2, c3, c4, c5⟩ := hk.cells
          by_cases hlt : k < 3
          · have hki : (k : Int) < 3 := by omega
            obtain ⟨b, off, ro, rc, rfl, hcb, hrc, hsl⟩ := hm.2.2 k hlt
            have hl8 := HL8.out k hlt
            have hML : (nums (pre g L k)).length ≤ 5 * 40 := by
              have h1 := nums_len (pre g L k)
              have h2 := pre_len (g := g) (L := L) hg12 k (fun i hi => HL8.out i (by omega))
              omega
            have hpn : Hid (pre g L (k + 1) = pre g L k ++ lsq (L k)) := rfl
            have hLmk := hide (HLM.out k hlt)
            generalize pre g L k = M at *
            generalize hLk : L k = l at *
            have HLk := hide hLk
            clear hLk
            clear hm hk c0 c2 c3 c4 c5 hsl
            go_wp2_with fail
            refine (put_spec (l.length : Int) _ (by omega) (by omega)).mono ?_
            rintro e w3 ⟨v3, rfl, ho3, hb3⟩
            have hpl := pb_len 4 (l.length : Int)
            have HSR := hide (Src.of_owns ho3)
            have HI3 := hide (HI.out.b hb3)
            have hsz := HI3.out.2.size
            clear ho3 hb3 HI hcb c1
            go_wp2_with (first
              | (at_builtin; refine wpList_append_src rfl _ _ 26 rfl w1.heap.size 5 i0 (.int .u8 0) 1 Tryz.underlying26 hi hz0 hz1 hz2 rfl .u8 _ (nums M) rfl HI3.out.1 _ (pb 4 (l.length : Int)) rfl HSR.out (glens (by omega)) (by omega) hsz ?_; intro v' w4 hown' hgrow))
            have HI4 := hide (HI3.out.app hown' hgrow)
            clear hown' hgrow HI3 HSR hsz
            go_wp2
            go_loopw [3, 6] (fun v i wr => ∃ j : Nat, j ≤ l.length ∧ i = .int .i64 j ∧ Hid (Bu w1 wr v (M ++ ((l.length : Int) :: l.take j)))) (fun _ i _ => l.length - (intOf i).toNat)
            case atStart => exact ⟨0, by omega, rfl, HI4.out⟩
            case round =>
              clear HI4
              obtain ⟨j, hj, rfl, HI⟩ := hrel
              obtain ⟨hk, hm⟩ := HC.out wr HI.out.2
              obtain ⟨c0, c1, c2, c3, c4, c5⟩ := hk.cells
              obtain ⟨b', off', ro', rc', e1, hcb', hrc', hsl⟩ := hm.2.2 k hlt
              cases e1
              rw [HLk.out] at hcb' hsl
              by_cases hlj : j < l.length
              · obtain ⟨b2, off2, rfl, hb2, hcj0⟩ := hsl j hlj
                have hcj : wr.cell? ⟨b2, off2 + j, none⟩ = some (.int .i64 (l.getD j 0)) := hcj0
                have hz := hLmk.out (l.getD j 0) (kgetD_mem l j hlj)
                have hnx : Hid (M ++ ((l.length : Int) :: l.take (j + 1)) = (M ++ ((l.length : Int) :: l.take j)) ++ [l.getD j 0]) := (show _ = _ by rw [take_snoc' l j hlj]; simp)
                have hML2 : (nums (M ++ ((l.length : Int) :: l.take j))).length ≤ 5 * 60 := by
                  have := nums_len ((l.length : Int) :: l.take j)
                  simp only [List.length_cons, List.length_take] at this
                  rw [nums_app, List.length_append]
                  omega
                generalize l.getD j 0 = z at *
                generalize M ++ ((l.length : Int) :: l.take j) = M2 at *
                clear hcj0 hm hk c0 c2 c3 c4 c5 hsl hrc'
                go_wp2_with fail
                refine (put_spec z _ (by omega) (by omega)).mono ?_
                rintro e w3 ⟨v3, rfl, ho3, hb3⟩
                have hpl := pb_len 4 z
                have HSR := hide (Src.of_owns ho3)
                have HI3 := hide (HI.out.b hb3)
                have hsz := HI3.out.2.size
                clear ho3 hb3 HI hcj hcb' c1
                go_wp2_with (first
                  | (at_builtin; refine wpList_append_src rfl _ _ 26 rfl w1.heap.size 5 i0 (.int .u8 0) 1 Tryz.underlying26 hi hz0 hz1 hz2 rfl .u8 _ (nums M2) rfl HI3.out.1 _ (pb 4 z) rfl HSR.out (glens (by omega)) (by omega) hsz ?_; intro v' w4 hown' hgrow))
                have R := hide (HI3.out.app hown' hgrow)
                clear hown' hgrow HI3 HSR
                go_wp2
                go_roundw
                case rel => exact ⟨j + 1, by omega, by go_num, by rw [hnx.out]; exact R.out⟩
                case measure => simp [intOf]; omega
              · obtain rfl : j = l.length := by omega
                have R : Hid (Bu w1 wr u3 (pre g L (k + 1))) := HI.out.eq (by rw [hpn.out]; simp [lsq])
                clear hm hk c0 c2 c3 c4 c5 hsl hrc' HI
                go_wp2
                go_roundw
                case rel => exact ⟨k + 1, by omega, by go_num, R.out⟩
                case measure => simp [intOf]; omega
          · obtain rfl : k = 3 := by omega
            have hML : (nums (pre g L 3)).length ≤ 5 * 40 := by
              have h1 := nums_len (pre g L 3)
              have h2 := pre_len (g := g) (L := L) hg12 3 (fun i hi => HL8.out i (by omega))
              omega
            have HF : Hid (nums (mseq g L fi ol he la) = nums ((pre g L 3 ++ [flg fi ol he]) ++ [la])) := (show _ = _ by unfold mseq; congr 1; simp)
            obtain ⟨hbf0, hbf1⟩ := bi_bd fi
            obtain ⟨hbo0, hbo1⟩ := bi_bd ol
            obtain ⟨hbh0, hbh1⟩ := bi_bd he
            have HWR : Hid (IntKind.i64.wrap (IntKind.i64.wrap (bi fi + IntKind.i64.wrap (2 * bi ol)) + IntKind.i64.wrap (4 * bi he)) = flg fi ol he) := (show _ = _ by
              unfold flg
              rw [IntKind.wrap_i64, IntKind.wrap_i64, IntKind.wrap_i64, IntKind.wrap_i64]
              omega)
            obtain ⟨hF0, hF7⟩ := flg_bd fi ol he
            generalize pre g L 3 = M at *
            generalize flg fi ol he = F at *
            clear hm hk
            have hS : (wr.drew.cell? ⟨w.heap.size, 2, none⟩ = some (.bool fi) ∧ wr.drew.cell? ⟨w.heap.size, 3, none⟩ = some (.bool ol) ∧ wr.drew.cell? ⟨w.heap.size, 4, none⟩ = some (.bool he)) := ⟨c2, c3, c4⟩
            have HI5 := hide (HI.out.b (Below.drawn (Below.refl _ _) 1))
            have hpl := pb_len 4 (F)
            clear c0 c1 c2 c3 c4 c5 HI
            go_wp2_with fail
            go_region_held3 (fun w' => (w'.cell? ⟨w.heap.size, 2, none⟩ = some (.bool fi) ∧ w'.cell? ⟨w.heap.size, 3, none⟩ = some (.bool ol) ∧ w'.cell? ⟨w.heap.size, 4, none⟩ = some (.bool he))) (with_reducible assumption) (first
              | (go_at_call 161; refine (bit_any _ _).mono ?_; rintro e w9 ⟨rfl, rfl⟩)
              | (go_at_call 234; rw [HWR.out]; refine (put_spec F _ (by omega) (by omega)).mono ?_; rintro e w3 ⟨v3, rfl, ho3, hb3⟩; obtain ⟨g3, cc3, rfl, _, _, hsrc3⟩ := msrc ho3 (mpb_pos 4 _); have HI3 := hide (HI5.out.b hb3); have HS3 := hide hsrc3; have hk3 : (w3.cell? ⟨w.heap.size, 2, none⟩ = some (.bool fi) ∧ w3.cell? ⟨w.heap.size, 3, none⟩ = some (.bool ol) ∧ w3.cell? ⟨w.heap.size, 4, none⟩ = some (.bool he)) := ⟨(HC.out w3 HI3.out.2).1.cells.2.2.1, (HC.out w3 HI3.out.2).1.cells.2.2.2.1, (HC.out w3 HI3.out.2).1.cells.2.2.2.2.1⟩; clear ho3 hb3 hsrc3)
              | (refine kstep_append (by rfl) _ _ 26 (by rfl) w1.heap.size 5 i0 (.int .u8 0) 1 Tryz.underlying26 hi hz0 hz1 hz2 rfl _ (nums M) (by rfl) HI3.out.1 (pb 4 (F)) ⟨g3, 0, none⟩ cc3 (by rfl) HS3.out (glens (by omega)) (by omega) HI3.out.2.size ?_; intro v' w4 hown' hgrow; have HI4 := hide (HI3.out.app hown' hgrow); have hk4 : (w4.cell? ⟨w.heap.size, 2, none⟩ = some (.bool fi) ∧ w4.cell? ⟨w.heap.size, 3, none⟩ = some (.bool ol) ∧ w4.cell? ⟨w.heap.size, 4, none⟩ = some (.bool he)) := ⟨(HC.out w4 HI4.out.2).1.cells.2.2.1, (HC.out w4 HI4.out.2).1.cells.2.2.2.1, (HC.out w4 HI4.out.2).1.cells.2.2.2.2.1⟩; clear hown' hgrow))
            clear hS hk3 HI3 HS3 HI5
            obtain ⟨_, _, _, _, _, d5⟩ := (HC.out w4 HI4.out.2).1.cells
            have hML4 : (nums (M ++ [F])).length ≤ 5 * 60 := by
              rw [nums_app, nums_one, List.length_append]; omega
            generalize M ++ [F] = M4 at *
            clear hk4
            go_wp2_with fail
            refine (put_spec la _ (by omega) (by omega)).mono ?_
            rintro e w5 ⟨v5, rfl, ho5, hb5⟩
            have hpl5 := pb_len 4 la
            have HSR := hide (Src.of_owns ho5)
            have HI6 := hide (HI4.out.b hb5)
            have hsz := HI6.out.2.size
            clear ho5 hb5 HI4 d5
            go_wp2_with (first
              | (at_builtin; refine wpList_append_src rfl _ _ 26 rfl w1.heap.size 5 i0 (.int .u8 0) 1 Tryz.underlying26 hi hz0 hz1 hz2 rfl .u8 _ (nums M4) rfl HI6.out.1 _ (pb 4 la) rfl HSR.out (glens (by omega)) (by omega) hsz ?_; intro v' w6 hown' hgrow))
            have R := hide (HI6.out.app hown' hgrow)
            clear hown' hgrow HI6 HSR
            go_wp2
            go_ret
            rw [HF.out]
            exact ⟨_, rfl, gmono R.out.1 HB1.out.size, HB1.out.trans (R.out.2.mono HB1.out.size)⟩
  · rw [mtb_no hok]
    go_enter Tryz.func199, Tryz.ntmps199
    go_wp2_with fail
    refine hcall.out.mono ?_
    rintro e w1 ⟨h1, b1⟩
    obtain rfl : e = .returned (.bool false) := h1.elim (fun x => absurd x.1 hok) (·.2)
    have B1 := hide (hx.trans (b1.mono hx.size))
    clear b1 hv hd hx h1
    go_wp2
    go_ret
    exact ⟨_, rfl, gmono (gempty (ik := .u8) (Nat.le_refl _)) B1.out.size, B1.out.alloc B1.out.size _⟩
end Go.Proofs.YtkndnndildnbpaaGreatDoor

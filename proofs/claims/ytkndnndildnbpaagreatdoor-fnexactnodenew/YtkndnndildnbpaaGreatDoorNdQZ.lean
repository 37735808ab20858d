/- NodeOk of the model. -/
import Derived.Test.YtkndnndildnbpaaGreatDoorGt

namespace Go.Proofs.YtkndnndildnbpaaGreatDoor
open Go.ChangeShapes Go.WideShapes Go.ChangeAt Go.RowKit
set_option linter.unusedVariables false
set_option linter.unusedSimpArgs false
set_option maxRecDepth 100000

theorem wlast (f : Nat → Int) (k : Nat) : WIn f (k + 1 + 1) ↔ WIn f (k + 1) ∧ (1 ≤ f (k + 1) ∧ f (k + 1) ≤ 200) ∧ f k < f (k + 1) := by
  constructor
  · intro h
    exact ⟨⟨fun i hi => h.1 i (by omega), fun i h1 h2 => h.2 i h1 (by omega)⟩, h.1 (k + 1) (by omega), h.2 (k + 1) (by omega) (by omega)⟩
  · rintro ⟨h1, h2, h3⟩
    refine ⟨fun i hi => ?_, fun j h4 h5 => ?_⟩
    · by_cases e : i = k + 1
      · subst e; exact h2
      · exact h1.1 i (by omega)
    · by_cases e : j = k + 1
      · subst e; exact h3
      · exact h1.2 j h4 (by omega)
set_option maxHeartbeats 8000000 in
theorem node_spec (a : Na) (d : Nd) (w : World) (hd : NBd d) (hv : NV w a d) :
    Calls Tryz.prog 79 #[nv a d] w fun e w' => Tells w w' e (NOk d) := by
  obtain ⟨W, hW⟩ : ∃ W, W = w.alloc (.cells (nds a d) 31) := ⟨_, rfl⟩
  have H0 : Hid (Below w.heap.size w W ∧ NB W w.heap.size 31 a d) := by rw [hW]; exact ⟨bal1 _ _, NB.new _ _ _ _⟩
  have HV : Hid (∀ V, Below w.heap.size w V → NV V a d) := fun V hb => hv.below hb
  have HD := hide hd
  have HP : Hid (NOk d ↔ (0 ≤ d.id ∧ d.id ≤ 2) ∧ IOk (fun i => d.im.getD i 0) d.im.length ∧ MtOk d.g d.n d.L d.ol d.he d.la ∧ LnOk d.id d.up d.co d.cp d.m d.S ∧ PrOk d.id d.up d.pr ∧ (0 < d.wt.length → d.up = true) ∧ WIn (fun i => d.wt.getD i 0) d.wt.length ∧ KpM d.A d.C d.g d.n d.L d.fi d.ol d.he d.la) := (show _ ↔ _ from Iff.rfl)
  obtain ⟨p0, p1, p2, p3, p4, p5, p6, p7, p8, p9, p10, p11, p12, p13, p14, p15⟩ := H0.out.2.cells
  have hlt0 := H0.out.2.lt
  clear hv hd
  generalize NOk d = P at *
  unfold nv
  unfold nds at hW ⊢
  by_cases hid : 0 ≤ d.id ∧ d.id ≤ 2
  case neg =>
    have hno : d.id < 0 ∨ 2 < d.id := by omega
    have HN : Hid (¬ P) := fun h => hid (HP.out.1 h).1
    clear hid
    go_enter Tryz.func79, Tryz.ntmps79
    go_wp2_with fail
    rw [← hW]
    clear hW
    refine (in_no _ _ _ W hno).mono ?_
    rintro e w1 ⟨rfl, hw⟩
    rw [hw]
    go_wp2
    go_ret
    exact ⟨.inr ⟨HN.out, rfl⟩, H0.out.1⟩
  have HId := hide hid
  obtain ⟨hid0, hid1⟩ := hid
  go_enter Tryz.func79, Tryz.ntmps79
  go_wp2_with fail
  rw [← hW]
  clear hW
  refine (in_yes _ _ _ W hid0 hid1).mono ?_
  rintro e w1 ⟨rfl, hw⟩
  rw [hw]
  clear hw w1 hid0 hid1
  go_wp2_with fail
  refine (imageok_spec a.im d.im.length a.imc (fun i => d.im.getD i 0) W HD.out.1 (HV.out _ H0.out.1).1.1).mono ?_
  rintro e w1 ⟨⟨b, rfl, hb⟩, hw⟩
  rw [hw]
  clear hw w1
  have HB1 : Hid (b = true ↔ IOk (fun i => d.im.getD i 0) d.im.length) := (show _ ↔ _ from hb)
  clear hb
  cases b with
  | false =>
    have HN : Hid (¬ P) := fun h => absurd (HB1.out.2 (HP.out.1 h).2.1) (by simp)
    clear HB1
    go_wp2
    go_ret
    exact ⟨.inr ⟨HN.out, rfl⟩, H0.out.1⟩
  | true =>
  have HI : Hid (IOk (fun i => d.im.getD i 0) d.im.length) := HB1.out.1 rfl
  clear HB1
  go_wp2_with fail
  refine (mtok_spec a.go a.bo a.gc a.bc d.g d.n d.L d.fi d.ol d.he d.la W HD.out.2.1 (HV.out _ H0.out.1).2.1).mono ?_
  rintro e w1 ⟨h, b1⟩
  have H1 : Hid (Below w.heap.size w w1 ∧ NB w1 w.heap.size 31 a d) := ⟨H0.out.1.trans (b1.mono H0.out.1.size), H0.out.2.b b1⟩
  clear b1 H0 p0 p1 p2 p3 p4 p5 p6 p7 p8 p9 p10 p11 p12 p13 p14 p15
  obtain ⟨p0, p1, p2, p3, p4, p5, p6, p7, p8, p9, p10, p11, p12, p13, p14, p15⟩ := H1.out.2.cells
  rcases h with ⟨hm, rfl⟩ | ⟨hm, rfl⟩
  case inr =>
    have HN : Hid (¬ P) := fun h => hm (HP.out.1 h).2.2.1
    clear hm
    go_wp2
    go_ret
    exact ⟨.inr ⟨HN.out, rfl⟩, H1.out.1⟩
  have HM := hide hm
  clear hm
  go_wp2_with fail
  refine (links_spec a d w1 HD.out (HV.out _ H1.out.1)).mono ?_
  rintro e w2 ⟨h, b2⟩
  have H2 : Hid (Below w.heap.size w w2 ∧ NB w2 w.heap.size 31 a d) := ⟨H1.out.1.trans (b2.mono H1.out.1.size), H1.out.2.b b2⟩
  clear b2 H1 p0 p1 p2 p3 p4 p5 p6 p7 p8 p9 p10 p11 p12 p13 p14 p15
  obtain ⟨p0, p1, p2, p3, p4, p5, p6, p7, p8, p9, p10, p11, p12, p13, p14, p15⟩ := H2.out.2.cells
  rcases h with ⟨hm, rfl⟩ | ⟨hm, rfl⟩
  case inr =>
    have HN : Hid (¬ P) := fun h => hm (HP.out.1 h).2.2.2.1
    clear hm
    go_wp2
    go_ret
    exact ⟨.inr ⟨HN.out, rfl⟩, H2.out.1⟩
  have HLn := hide hm
  clear hm
  have HPr : Hid (P ↔ PrOk d.id d.up d.pr ∧ (0 < d.wt.length → d.up = true) ∧ WIn (fun i => d.wt.getD i 0) d.wt.length ∧ KpM d.A d.C d.g d.n d.L d.fi d.ol d.he d.la) := (show _ ↔ _ from by
    rw [HP.out]
    exact ⟨fun h => h.2.2.2.2, fun h => ⟨HId.out, HI.out, HM.out, HLn.out, h⟩⟩)
  clear HP HId HI HM HLn
  generalize hup : d.up = up at *
  generalize hpr : d.pr = pr at *
  generalize hidd : d.id = idd at *
  generalize hwt : d.wt.length = lw at *
  have HH := hide (And.intro hup (And.intro hpr (And.intro hidd hwt)))
  clear hup hpr hidd hwt
  by_cases hpo : PrOk idd up pr
  case neg =>
    have HN : Hid (¬ P) := fun h => hpo (HPr.out.1 h).1
    have hp : pr = true := by cases pr with | true => rfl | false => exact absurd (fun h => by cases h) hpo
    subst hp
    clear HPr
    cases up with
    | false =>
      clear hpo
      go_wp2
      go_ret
      exact ⟨.inr ⟨HN.out, rfl⟩, H2.out.1⟩
    | true =>
      have h2 : idd = 2 := by rcases Classical.em (idd = 2) with h | h; exact h; exact absurd (fun _ => ⟨rfl, h⟩) hpo
      have HH2 : Hid (∃ idd', idd' = idd) := ⟨_, rfl⟩
      clear hpo HH
      subst h2
      go_wp2
      go_ret
      exact ⟨.inr ⟨HN.out, rfl⟩, H2.out.1⟩
  by_cases hwu : 0 < lw → up = true
  case neg =>
    have HN : Hid (¬ P) := fun h => hwu (HPr.out.1 h).2.1
    have hu : up = false := by cases up with | false => rfl | true => exact absurd (fun _ => rfl) hwu
    have hl : 0 < lw := by rcases Nat.eq_zero_or_pos lw with h | h; exact absurd (fun h2 => by omega) hwu; exact h
    subst hu
    have hp : pr = false := by cases pr with | false => rfl | true => exact absurd (hpo rfl).1 (by simp)
    subst hp
    clear HPr hwu hpo
    go_wp2
    go_ret
    exact ⟨.inr ⟨HN.out, rfl⟩, H2.out.1⟩
  have HW : Hid (P ↔ WIn (fun i => d.wt.getD i 0) lw ∧ KpM d.A d.C d.g d.n d.L d.fi d.ol d.he d.la) := (show _ ↔ _ from by
    rw [HPr.out]
    exact ⟨fun h => h.2.2, fun h => ⟨hpo, hwu, h⟩⟩)
  have HPO := hide hpo
  have HWU := hide hwu
  clear hpo hwu HPr
  have HWb : lw ≤ 1048576 := by have := HD.out.2.2.2.2.2.2; rwa [HH.out.2.2.2] at this
  have HWs : Hid (SL .i64 w2 a.wt lw (fun i => d.wt.getD i 0)) := by have := (HV.out _ H2.out.1).2.2.2.2.2.2.1; rw [HH.out.2.2.2] at this; exact this
  obtain ⟨sg, sn, sL, sfi, sol, she, sla, sx, sb, hlen, hspec, _, hK, _⟩ := slots_both d.A d.C
  have HSd : Hid (Bd sg sn sL) := bd_of (by omega)
  have HSK := hide hK
  have HE : Hid (∀ q, Calls Tryz.prog 133 #[.agg #[.slice a.aA d.A.length a.cA, .slice a.aB d.C.length a.cB]] (w2.drewN q) fun e w' => ∃ go bo gc bc, e = .returned (.tuple #[.agg #[.slice go sg.length gc, .slice bo sn bc, .bool sfi, .bool sol, .bool she, .int .i64 sla], .int .i64 sx, .bool sb]) ∧ OKm w' (w2.drewN q).heap.size w'.heap.size go gc bo bc sg sn sL ∧ Below (w2.drewN q).heap.size (w2.drewN q) w') := fun q => hspec _ _ _ _ _ ((HV.out _ (Below.drawn H2.out.1 q)).vA HD.out) ((HV.out _ (Below.drawn H2.out.1 q)).vC HD.out)
  clear hlen hspec hK
  generalize hf : (fun i => d.wt.getD i 0) = f at *
  clear hf
  have HC : Hid (∀ q, Below w.heap.size w (w2.drewN q)) := fun q => Below.drawn H2.out.1 q
  generalize hawt : a.wt = awt at *
  have HAW := hide hawt
  clear hawt
  have HHd : Hid (∀ Q : Prop, Q → Q) := fun _ h => h
  cases pr with
  | false =>
    cases up with
    | false =>
      have hl0 : lw = 0 := by rcases Nat.eq_zero_or_pos lw with h | h; exact h; exact absurd (HWU.out h) (by simp)
      have hdl : decide (0 < lw) = false := by simp [hl0]
      clear hl0
      go_wp2
      go_loopw [3] (fun i wr => ∃ k : Nat, k ≤ lw ∧ i = .int .i64 k ∧ Hid (WIn f k) ∧ ∃ q, wr = w2.drewN q) (fun i _ => lw - (intOf i).toNat)
      case atStart => exact ⟨0, by omega, rfl, ⟨fun i hi => absurd hi (by omega), fun i h1 h2 => absurd h2 (by omega)⟩, 0, rfl⟩
      case round =>
        obtain ⟨k, hk, rfl, A, q, rfl⟩ := hrel
        by_cases hlt : k < lw
        · obtain ⟨b, off, e1, hb, hc⟩ := HWs.out k hlt
          by_cases hin : 1 ≤ f k ∧ f k ≤ 200
          · by_cases hk0 : k = 0
            · subst hk0
              obtain ⟨hin0, hin1⟩ := hin
              subst e1
              rw [Nat.add_zero] at hc
              have hd : decide ((0 : Int) < ((0 : Nat) : Int)) = false := by simp
              generalize hy : f 0 = y at *
              have B : Hid (f 0 = y) := hy
              clear hy
              go_wp2
              go_quiet (first | (go_at_call 51; refine quiet_q (in_yes _ _ _ _ hin0 hin1)))
              go_wp2
              go_roundw
              case rel =>
                refine ⟨1, by omega, by go_num, ⟨fun i hi => ?_, fun i h1 h2 => absurd h2 (by omega)⟩, _, rfl⟩
                obtain rfl : i = 0 := by omega
                rw [B.out]; omega
              case measure => simp [intOf]; omega
            · obtain ⟨b', off', e2, hb', hc'⟩ := HWs.out (k - 1) (by omega)
              subst e1
              simp only [Option.some.injEq, Addr.mk.injEq] at e2
              obtain ⟨rfl, rfl, _⟩ := e2
              obtain ⟨k, rfl⟩ : ∃ k', k = k' + 1 := ⟨k - 1, by omega⟩
              rw [show k + 1 - 1 = k by omega] at hc'
              obtain ⟨hin0, hin1⟩ := hin
              have hpos : decide ((0 : Int) < ((k + 1 : Nat) : Int)) = true := by simp
              clear hk0
              generalize hy : f (k + 1) = y at *
              generalize hx : f k = x at *
              have B : Hid (f (k + 1) = y ∧ f k = x) := ⟨hy, hx⟩
              clear hy hx
              by_cases hle : y ≤ x
              · have hd : decide (y ≤ x) = true := by simpa using hle
                have HN : Hid (¬ P) := fun h => by
                  have := (HW.out.1 h).1.2 (k + 1) (by omega) hlt
                  rw [show k + 1 - 1 = k by omega, B.out.1, B.out.2] at this
                  omega
                go_wp2
                go_quiet (first | (go_at_call 51; refine quiet_q (in_yes _ _ _ _ hin0 hin1)))
                go_wp2
                go_ret
                exact ⟨.inr ⟨HN.out, rfl⟩, Below.drawn (HC.out q) _⟩
              · have hd : decide (y ≤ x) = false := by simpa using hle
                go_wp2
                go_quiet (first | (go_at_call 51; refine quiet_q (in_yes _ _ _ _ hin0 hin1)))
                go_wp2
                go_roundw
                case rel =>
                  refine ⟨k + 1 + 1, by omega, by go_num, (wlast f k).2 ⟨A.out, by rw [B.out.1]; omega, by rw [B.out.1, B.out.2]; omega⟩, _, rfl⟩
                case measure => simp [intOf]; omega
          · have hno : f k < 1 ∨ 200 < f k := by omega
            have HN : Hid (¬ P) := fun h => hin ((HW.out.1 h).1.1 k hlt)
            subst e1
            clear hin
            generalize f k = y at *
            go_wp2
            go_quiet (first | (go_at_call 51; refine quiet_q (in_no _ _ _ _ hno)))
            go_wp2
            go_ret
            exact ⟨.inr ⟨HN.out, rfl⟩, Below.drawn (HC.out q) _⟩
        · obtain rfl : k = lw := by omega
          have hslot := hide (HE.out q)
          have HCq := hide (HC.out q)
          have HBq : Hid (NB (w2.drewN q) w.heap.size 31 a d) := H2.out.2
          have HKp : Hid (P ↔ KpM d.A d.C d.g d.n d.L d.fi d.ol d.he d.la) := (show _ ↔ _ from by rw [HW.out]; exact ⟨fun h => h.2, fun h => ⟨A.out, h⟩⟩)
          clear HE HC HW A HWs p0 p1 p2 p3 p4 p5 p6 p7 p8 p9 p10 p11 p12 p13 p14 p15
          generalize hq : w2.drewN q = wq at *
          obtain ⟨p0, p1, p2, p3, p4, p5, p6, p7, p8, p9, p10, p11, p12, p13, p14, p15⟩ := HBq.out.cells
          rw [HH.out.1] at p1
          rw [HH.out.2.1] at p2
          rw [HH.out.2.2.1] at p0
          rw [HH.out.2.2.2, HAW.out] at p15
          clear hq
          go_wp2_with fail
          refine hslot.out.mono ?_
          rintro e w3 ⟨go', bo', gc', bc', rfl, o3, b3⟩
          have H3 : Hid ((Below w.heap.size w (w3.alloc (.cells #[.slice go' sg.length gc', .slice bo' sn bc', .bool sfi, .bool sol, .bool she, .int .i64 sla] 25)) ∧ NB (w3.alloc (.cells #[.slice go' sg.length gc', .slice bo' sn bc', .bool sfi, .bool sol, .bool she, .int .i64 sla] 25)) w.heap.size 31 a d) ∧ KB (w3.alloc (.cells #[.slice go' sg.length gc', .slice bo' sn bc', .bool sfi, .bool sol, .bool she, .int .i64 sla] 25)) w3.heap.size 25 go' sg.length gc' bo' sn bc' sfi sol she sla ∧ MV (w3.alloc (.cells #[.slice go' sg.length gc', .slice bo' sn bc', .bool sfi, .bool sol, .bool she, .int .i64 sla] 25)) go' gc' bo' bc' sg sn sL) := by
            have c3 := HCq.out.trans (b3.mono HCq.out.size)
            have bx := bal1 w3 (.cells #[.slice go' sg.length gc', .slice bo' sn bc', .bool sfi, .bool sol, .bool she, .int .i64 sla] 25)
            exact ⟨⟨c3.trans (bx.mono c3.size), (HBq.out.b b3).b bx⟩, KB.new w3 _ _ _ _ _ _ _ _ _ _ _, o3.mv.below bx⟩
          obtain ⟨p0, p1, p2, p3, p4, p5, p6, p7, p8, p9, p10, p11, p12, p13, p14, p15⟩ := (HBq.out.b b3).cells
          have hlt3 : w.heap.size < w3.heap.size := (HBq.out.b b3).lt
          clear o3 b3 hslot HBq HCq
          cases sb with
          | false =>
            have HN : Hid (¬ P) := fun h => absurd ((HSK.out _ _ _ _ _ _ _).1 (HKp.out.1 h)).1 (by simp)
            clear HSK HKp
            go_wp2_with fail
            go_ret
            exact ⟨.inr ⟨HN.out, rfl⟩, H3.out.1.1⟩
          | true =>
            have HT : Hid (P ↔ SmM sg sn sL sfi sol she sla d.g d.n d.L d.fi d.ol d.he d.la) := (show _ ↔ _ from by rw [HKp.out, HSK.out]; exact ⟨fun h => h.2, fun h => ⟨rfl, h⟩⟩)
            clear HSK HKp
            go_wp2_with fail
            generalize w3.alloc (.cells #[.slice go' sg.length gc', .slice bo' sn bc', .bool sfi, .bool sol, .bool she, .int .i64 sla] 25) = w4 at *
            clear p0 p1 p2 p3 p4 p5 p6 p7 p8 p9 p10 p11 p12 p13 p14 p15
            refine (samem_spec go' bo' a.go a.bo gc' bc' a.gc a.bc sg d.g sn d.n sL d.L sfi sol she d.fi d.ol d.he sla d.la w4 HSd.out HD.out.2.1 H3.out.2.2 (HV.out _ H3.out.1.1).2.1).mono ?_
            rintro e w5 ⟨h5, b5⟩
            have HB5 := hide (H3.out.1.1.trans (b5.mono H3.out.1.1.size))
            clear b5
            rcases h5 with ⟨h5, rfl⟩ | ⟨h5, rfl⟩
            · have HY := hide (HT.out.2 h5)
              clear h5 HT
              go_wp2
              go_ret
              exact ⟨.inl ⟨HY.out, rfl⟩, HB5.out⟩
            · have HY : Hid (¬ P) := fun h => h5 (HT.out.1 h)
              clear h5 HT
              go_wp2
              go_ret
              exact ⟨.inr ⟨HY.out, rfl⟩, HB5.out⟩
    
    | true =>
      go_wp2
      go_loopw [3] (fun i wr => ∃ k : Nat, k ≤ lw ∧ i = .int .i64 k ∧ Hid (WIn f k) ∧ ∃ q, wr = w2.drewN q) (fun i _ => lw - (intOf i).toNat)
      case atStart => exact ⟨0, by omega, rfl, ⟨fun i hi => absurd hi (by omega), fun i h1 h2 => absurd h2 (by omega)⟩, 0, rfl⟩
      case round =>
        obtain ⟨k, hk, rfl, A, q, rfl⟩ := hrel
        by_cases hlt : k < lw
        · obtain ⟨b, off, e1, hb, hc⟩ := HWs.out k hlt
          by_cases hin : 1 ≤ f k ∧ f k ≤ 200
          · by_cases hk0 : k = 0
            · subst hk0
              obtain ⟨hin0, hin1⟩ := hin
              subst e1
              rw [Nat.add_zero] at hc
              have hd : decide ((0 : Int) < ((0 : Nat) : Int)) = false := by simp
              generalize hy : f 0 = y at *
              have B : Hid (f 0 = y) := hy
              clear hy
              go_wp2
              go_quiet (first | (go_at_call 51; refine quiet_q (in_yes _ _ _ _ hin0 hin1)))
              go_wp2
              go_roundw
              case rel =>
                refine ⟨1, by omega, by go_num, ⟨fun i hi => ?_, fun i h1 h2 => absurd h2 (by omega)⟩, _, rfl⟩
                obtain rfl : i = 0 := by omega
                rw [B.out]; omega
              case measure => simp [intOf]; omega
            · obtain ⟨b', off', e2, hb', hc'⟩ := HWs.out (k - 1) (by omega)
              subst e1
              simp only [Option.some.injEq, Addr.mk.injEq] at e2
              obtain ⟨rfl, rfl, _⟩ := e2
              obtain ⟨k, rfl⟩ : ∃ k', k = k' + 1 := ⟨k - 1, by omega⟩
              rw [show k + 1 - 1 = k by omega] at hc'
              obtain ⟨hin0, hin1⟩ := hin
              have hpos : decide ((0 : Int) < ((k + 1 : Nat) : Int)) = true := by simp
              clear hk0
              generalize hy : f (k + 1) = y at *
              generalize hx : f k = x at *
              have B : Hid (f (k + 1) = y ∧ f k = x) := ⟨hy, hx⟩
              clear hy hx
              by_cases hle : y ≤ x
              · have hd : decide (y ≤ x) = true := by simpa using hle
                have HN : Hid (¬ P) := fun h => by
                  have := (HW.out.1 h).1.2 (k + 1) (by omega) hlt
                  rw [show k + 1 - 1 = k by omega, B.out.1, B.out.2] at this
                  omega
                go_wp2
                go_quiet (first | (go_at_call 51; refine quiet_q (in_yes _ _ _ _ hin0 hin1)))
                go_wp2
                go_ret
                exact ⟨.inr ⟨HN.out, rfl⟩, Below.drawn (HC.out q) _⟩
              · have hd : decide (y ≤ x) = false := by simpa using hle
                go_wp2
                go_quiet (first | (go_at_call 51; refine quiet_q (in_yes _ _ _ _ hin0 hin1)))
                go_wp2
                go_roundw
                case rel =>
                  refine ⟨k + 1 + 1, by omega, by go_num, (wlast f k).2 ⟨A.out, by rw [B.out.1]; omega, by rw [B.out.1, B.out.2]; omega⟩, _, rfl⟩
                case measure => simp [intOf]; omega
          · have hno : f k < 1 ∨ 200 < f k := by omega
            have HN : Hid (¬ P) := fun h => hin ((HW.out.1 h).1.1 k hlt)
            subst e1
            clear hin
            generalize f k = y at *
            go_wp2
            go_quiet (first | (go_at_call 51; refine quiet_q (in_no _ _ _ _ hno)))
            go_wp2
            go_ret
            exact ⟨.inr ⟨HN.out, rfl⟩, Below.drawn (HC.out q) _⟩
        · obtain rfl : k = lw := by omega
          have hslot := hide (HE.out q)
          have HCq := hide (HC.out q)
          have HBq : Hid (NB (w2.drewN q) w.heap.size 31 a d) := H2.out.2
          have HKp : Hid (P ↔ KpM d.A d.C d.g d.n d.L d.fi d.ol d.he d.la) := (show _ ↔ _ from by rw [HW.out]; exact ⟨fun h => h.2, fun h => ⟨A.out, h⟩⟩)
          clear HE HC HW A HWs p0 p1 p2 p3 p4 p5 p6 p7 p8 p9 p10 p11 p12 p13 p14 p15
          generalize hq : w2.drewN q = wq at *
          obtain ⟨p0, p1, p2, p3, p4, p5, p6, p7, p8, p9, p10, p11, p12, p13, p14, p15⟩ := HBq.out.cells
          rw [HH.out.1] at p1
          rw [HH.out.2.1] at p2
          rw [HH.out.2.2.1] at p0
          rw [HH.out.2.2.2, HAW.out] at p15
          clear hq
          go_wp2_with fail
          refine hslot.out.mono ?_
          rintro e w3 ⟨go', bo', gc', bc', rfl, o3, b3⟩
          have H3 : Hid ((Below w.heap.size w (w3.alloc (.cells #[.slice go' sg.length gc', .slice bo' sn bc', .bool sfi, .bool sol, .bool she, .int .i64 sla] 25)) ∧ NB (w3.alloc (.cells #[.slice go' sg.length gc', .slice bo' sn bc', .bool sfi, .bool sol, .bool she, .int .i64 sla] 25)) w.heap.size 31 a d) ∧ KB (w3.alloc (.cells #[.slice go' sg.length gc', .slice bo' sn bc', .bool sfi, .bool sol, .bool she, .int .i64 sla] 25)) w3.heap.size 25 go' sg.length gc' bo' sn bc' sfi sol she sla ∧ MV (w3.alloc (.cells #[.slice go' sg.length gc', .slice bo' sn bc', .bool sfi, .bool sol, .bool she, .int .i64 sla] 25)) go' gc' bo' bc' sg sn sL) := by
            have c3 := HCq.out.trans (b3.mono HCq.out.size)
            have bx := bal1 w3 (.cells #[.slice go' sg.length gc', .slice bo' sn bc', .bool sfi, .bool sol, .bool she, .int .i64 sla] 25)
            exact ⟨⟨c3.trans (bx.mono c3.size), (HBq.out.b b3).b bx⟩, KB.new w3 _ _ _ _ _ _ _ _ _ _ _, o3.mv.below bx⟩
          obtain ⟨p0, p1, p2, p3, p4, p5, p6, p7, p8, p9, p10, p11, p12, p13, p14, p15⟩ := (HBq.out.b b3).cells
          have hlt3 : w.heap.size < w3.heap.size := (HBq.out.b b3).lt
          clear o3 b3 hslot HBq HCq
          cases sb with
          | false =>
            have HN : Hid (¬ P) := fun h => absurd ((HSK.out _ _ _ _ _ _ _).1 (HKp.out.1 h)).1 (by simp)
            clear HSK HKp
            go_wp2_with fail
            go_ret
            exact ⟨.inr ⟨HN.out, rfl⟩, H3.out.1.1⟩
          | true =>
            have HT : Hid (P ↔ SmM sg sn sL sfi sol she sla d.g d.n d.L d.fi d.ol d.he d.la) := (show _ ↔ _ from by rw [HKp.out, HSK.out]; exact ⟨fun h => h.2, fun h => ⟨rfl, h⟩⟩)
            clear HSK HKp
            go_wp2_with fail
            generalize w3.alloc (.cells #[.slice go' sg.length gc', .slice bo' sn bc', .bool sfi, .bool sol, .bool she, .int .i64 sla] 25) = w4 at *
            clear p0 p1 p2 p3 p4 p5 p6 p7 p8 p9 p10 p11 p12 p13 p14 p15
            refine (samem_spec go' bo' a.go a.bo gc' bc' a.gc a.bc sg d.g sn d.n sL d.L sfi sol she d.fi d.ol d.he sla d.la w4 HSd.out HD.out.2.1 H3.out.2.2 (HV.out _ H3.out.1.1).2.1).mono ?_
            rintro e w5 ⟨h5, b5⟩
            have HB5 := hide (H3.out.1.1.trans (b5.mono H3.out.1.1.size))
            clear b5
            rcases h5 with ⟨h5, rfl⟩ | ⟨h5, rfl⟩
            · have HY := hide (HT.out.2 h5)
              clear h5 HT
              go_wp2
              go_ret
              exact ⟨.inl ⟨HY.out, rfl⟩, HB5.out⟩
            · have HY : Hid (¬ P) := fun h => h5 (HT.out.1 h)
              clear h5 HT
              go_wp2
              go_ret
              exact ⟨.inr ⟨HY.out, rfl⟩, HB5.out⟩
    
  | true =>
    obtain rfl : up = true := (HPO.out rfl).1
    have hne : idd ≠ 2 := (HPO.out rfl).2
    have hne2 : (idd == 2) = false := by simpa using hne
    clear hne
    go_wp2
    go_loopw [3] (fun i wr => ∃ k : Nat, k ≤ lw ∧ i = .int .i64 k ∧ Hid (WIn f k) ∧ ∃ q, wr = w2.drewN q) (fun i _ => lw - (intOf i).toNat)
    case atStart => exact ⟨0, by omega, rfl, ⟨fun i hi => absurd hi (by omega), fun i h1 h2 => absurd h2 (by omega)⟩, 0, rfl⟩
    case round =>
      obtain ⟨k, hk, rfl, A, q, rfl⟩ := hrel
      by_cases hlt : k < lw
      · obtain ⟨b, off, e1, hb, hc⟩ := HWs.out k hlt
        by_cases hin : 1 ≤ f k ∧ f k ≤ 200
        · by_cases hk0 : k = 0
          · subst hk0
            obtain ⟨hin0, hin1⟩ := hin
            subst e1
            rw [Nat.add_zero] at hc
            have hd : decide ((0 : Int) < ((0 : Nat) : Int)) = false := by simp
            generalize hy : f 0 = y at *
            have B : Hid (f 0 = y) := hy
            clear hy
            go_wp2
            go_quiet (first | (go_at_call 51; refine quiet_q (in_yes _ _ _ _ hin0 hin1)))
            go_wp2
            go_roundw
            case rel =>
              refine ⟨1, by omega, by go_num, ⟨fun i hi => ?_, fun i h1 h2 => absurd h2 (by omega)⟩, _, rfl⟩
              obtain rfl : i = 0 := by omega
              rw [B.out]; omega
            case measure => simp [intOf]; omega
          · obtain ⟨b', off', e2, hb', hc'⟩ := HWs.out (k - 1) (by omega)
            subst e1
            simp only [Option.some.injEq, Addr.mk.injEq] at e2
            obtain ⟨rfl, rfl, _⟩ := e2
            obtain ⟨k, rfl⟩ : ∃ k', k = k' + 1 := ⟨k - 1, by omega⟩
            rw [show k + 1 - 1 = k by omega] at hc'
            obtain ⟨hin0, hin1⟩ := hin
            have hpos : decide ((0 : Int) < ((k + 1 : Nat) : Int)) = true := by simp
            clear hk0
            generalize hy : f (k + 1) = y at *
            generalize hx : f k = x at *
            have B : Hid (f (k + 1) = y ∧ f k = x) := ⟨hy, hx⟩
            clear hy hx
            by_cases hle : y ≤ x
            · have hd : decide (y ≤ x) = true := by simpa using hle
              have HN : Hid (¬ P) := fun h => by
                have := (HW.out.1 h).1.2 (k + 1) (by omega) hlt
                rw [show k + 1 - 1 = k by omega, B.out.1, B.out.2] at this
                omega
              go_wp2
              go_quiet (first | (go_at_call 51; refine quiet_q (in_yes _ _ _ _ hin0 hin1)))
              go_wp2
              go_ret
              exact ⟨.inr ⟨HN.out, rfl⟩, Below.drawn (HC.out q) _⟩
            · have hd : decide (y ≤ x) = false := by simpa using hle
              go_wp2
              go_quiet (first | (go_at_call 51; refine quiet_q (in_yes _ _ _ _ hin0 hin1)))
              go_wp2
              go_roundw
              case rel =>
                refine ⟨k + 1 + 1, by omega, by go_num, (wlast f k).2 ⟨A.out, by rw [B.out.1]; omega, by rw [B.out.1, B.out.2]; omega⟩, _, rfl⟩
              case measure => simp [intOf]; omega
        · have hno : f k < 1 ∨ 200 < f k := by omega
          have HN : Hid (¬ P) := fun h => hin ((HW.out.1 h).1.1 k hlt)
          subst e1
          clear hin
          generalize f k = y at *
          go_wp2
          go_quiet (first | (go_at_call 51; refine quiet_q (in_no _ _ _ _ hno)))
          go_wp2
          go_ret
          exact ⟨.inr ⟨HN.out, rfl⟩, Below.drawn (HC.out q) _⟩
      · obtain rfl : k = lw := by omega
        have hslot := hide (HE.out q)
        have HCq := hide (HC.out q)
        have HBq : Hid (NB (w2.drewN q) w.heap.size 31 a d) := H2.out.2
        have HKp : Hid (P ↔ KpM d.A d.C d.g d.n d.L d.fi d.ol d.he d.la) := (show _ ↔ _ from by rw [HW.out]; exact ⟨fun h => h.2, fun h => ⟨A.out, h⟩⟩)
        clear HE HC HW A HWs p0 p1 p2 p3 p4 p5 p6 p7 p8 p9 p10 p11 p12 p13 p14 p15
        generalize hq : w2.drewN q = wq at *
        obtain ⟨p0, p1, p2, p3, p4, p5, p6, p7, p8, p9, p10, p11, p12, p13, p14, p15⟩ := HBq.out.cells
        rw [HH.out.1] at p1
        rw [HH.out.2.1] at p2
        rw [HH.out.2.2.1] at p0
        rw [HH.out.2.2.2, HAW.out] at p15
        clear hq
        go_wp2_with fail
        refine hslot.out.mono ?_
        rintro e w3 ⟨go', bo', gc', bc', rfl, o3, b3⟩
        have H3 : Hid ((Below w.heap.size w (w3.alloc (.cells #[.slice go' sg.length gc', .slice bo' sn bc', .bool sfi, .bool sol, .bool she, .int .i64 sla] 25)) ∧ NB (w3.alloc (.cells #[.slice go' sg.length gc', .slice bo' sn bc', .bool sfi, .bool sol, .bool she, .int .i64 sla] 25)) w.heap.size 31 a d) ∧ KB (w3.alloc (.cells #[.slice go' sg.length gc', .slice bo' sn bc', .bool sfi, .bool sol, .bool she, .int .i64 sla] 25)) w3.heap.size 25 go' sg.length gc' bo' sn bc' sfi sol she sla ∧ MV (w3.alloc (.cells #[.slice go' sg.length gc', .slice bo' sn bc', .bool sfi, .bool sol, .bool she, .int .i64 sla] 25)) go' gc' bo' bc' sg sn sL) := by
          have c3 := HCq.out.trans (b3.mono HCq.out.size)
          have bx := bal1 w3 (.cells #[.slice go' sg.length gc', .slice bo' sn bc', .bool sfi, .bool sol, .bool she, .int .i64 sla] 25)
          exact ⟨⟨c3.trans (bx.mono c3.size), (HBq.out.b b3).b bx⟩, KB.new w3 _ _ _ _ _ _ _ _ _ _ _, o3.mv.below bx⟩
        obtain ⟨p0, p1, p2, p3, p4, p5, p6, p7, p8, p9, p10, p11, p12, p13, p14, p15⟩ := (HBq.out.b b3).cells
        have hlt3 : w.heap.size < w3.heap.size := (HBq.out.b b3).lt
        clear o3 b3 hslot HBq HCq
        cases sb with
        | false =>
          have HN : Hid (¬ P) := fun h => absurd ((HSK.out _ _ _ _ _ _ _).1 (HKp.out.1 h)).1 (by simp)
          clear HSK HKp
          go_wp2_with fail
          go_ret
          exact ⟨.inr ⟨HN.out, rfl⟩, H3.out.1.1⟩
        | true =>
          have HT : Hid (P ↔ SmM sg sn sL sfi sol she sla d.g d.n d.L d.fi d.ol d.he d.la) := (show _ ↔ _ from by rw [HKp.out, HSK.out]; exact ⟨fun h => h.2, fun h => ⟨rfl, h⟩⟩)
          clear HSK HKp
          go_wp2_with fail
          generalize w3.alloc (.cells #[.slice go' sg.length gc', .slice bo' sn bc', .bool sfi, .bool sol, .bool she, .int .i64 sla] 25) = w4 at *
          clear p0 p1 p2 p3 p4 p5 p6 p7 p8 p9 p10 p11 p12 p13 p14 p15
          refine (samem_spec go' bo' a.go a.bo gc' bc' a.gc a.bc sg d.g sn d.n sL d.L sfi sol she d.fi d.ol d.he sla d.la w4 HSd.out HD.out.2.1 H3.out.2.2 (HV.out _ H3.out.1.1).2.1).mono ?_
          rintro e w5 ⟨h5, b5⟩
          have HB5 := hide (H3.out.1.1.trans (b5.mono H3.out.1.1.size))
          clear b5
          rcases h5 with ⟨h5, rfl⟩ | ⟨h5, rfl⟩
          · have HY := hide (HT.out.2 h5)
            clear h5 HT
            go_wp2
            go_ret
            exact ⟨.inl ⟨HY.out, rfl⟩, HB5.out⟩
          · have HY : Hid (¬ P) := fun h => h5 (HT.out.1 h)
            clear h5 HT
            go_wp2
            go_ret
            exact ⟨.inr ⟨HY.out, rfl⟩, HB5.out⟩
  
end Go.Proofs.YtkndnndildnbpaaGreatDoor

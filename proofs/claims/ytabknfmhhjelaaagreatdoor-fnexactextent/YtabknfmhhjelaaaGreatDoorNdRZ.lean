/- NodeOk of the program, its parts. -/
import Derived.Test.YtabknfmhhjelaaaGreatDoorNdQZ
import Derived.Test.YtabknfmhhjelaaaGreatDoorGa

namespace Go.Proofs.YtabknfmhhjelaaaGreatDoor
open Go.ChangeShapes Go.WideShapes Go.ChangeAt Go.RowKit
set_option linter.unusedVariables false
set_option linter.unusedSimpArgs false
set_option maxRecDepth 100000

/-- The other one of the pair. -/
def mateOf (x : Int) : Int := if x = 0 then 1 else if x = 1 then 0 else -1
theorem mate_impl (x : Int) (w : World) : Calls Tryz.prog 66 #[.int .i64 x] w fun e w' => e = .returned (.int .i64 (mateOf x)) ∧ w' = w := by
  by_cases h0 : x = 0
  · subst h0
    go_enter Tryz.func66, Tryz.ntmps66
    go_wp2
    go_ret
    exact ⟨rfl, rfl⟩
  · by_cases h1 : x = 1
    · subst h1
      go_enter Tryz.func66, Tryz.ntmps66
      go_wp2
      go_ret
      exact ⟨rfl, rfl⟩
    · have e0 : (x == 0) = false := by simpa using h0
      have e1 : (x == 1) = false := by simpa using h1
      have e2 : mateOf x = -1 := by unfold mateOf; rw [if_neg h0, if_neg h1]
      have E2 := hide e2
      clear e2 h0 h1
      go_enter Tryz.func66, Tryz.ntmps66
      go_wp2
      go_ret
      exact ⟨congrArg (fun z => Ending.returned (.int .i64 z)) E2.out.symm, rfl⟩

theorem prime_impl (a : Na) (d : Nd) (w : World) (hid : 0 ≤ d.id ∧ d.id ≤ 2) :
    Calls Tryz.prog 49 #[nv a d] w fun e w' => Tells w w' e (PrOk d.id d.up d.pr) := by
  obtain ⟨W, hW⟩ : ∃ W, W = w.alloc (.cells (nds a d) 37) := ⟨_, rfl⟩
  have H0 : Hid (Below w.heap.size w W ∧ NB W w.heap.size 37 a d) := by rw [hW]; exact ⟨bal1 _ _, NB.new _ _ _ _⟩
  obtain ⟨p0, p1, p2, p3, p4, p5, p6, p7, p8, p9, p10, p11, p12, p13, p14, p15⟩ := H0.out.2.cells
  unfold nv
  unfold nds at hW ⊢
  suffices hz : ∀ P : Prop, (P ↔ PrOk d.id d.up d.pr) → Calls _ _ _ _ fun e w' => Tells w w' e P from hz _ Iff.rfl
  intro P hP
  have HM := hide (mate_impl d.id W)
  have HE : Hid (d.id = 2 → mateOf d.id = -1) := fun h => by rw [h]; rfl
  have HN : Hid (d.id ≠ 2 → mateOf d.id ≠ -1) := fun h => by
    rcases (show d.id = 0 ∨ d.id = 1 by omega) with h | h <;> rw [h] <;> decide
  clear hid
  generalize d.up = up at *
  generalize d.pr = pr at *
  generalize d.id = idd at *
  have HP := hide hP
  clear hP
  cases pr with
  | false =>
    have HY : Hid P := HP.out.2 (fun h => by cases h)
    clear HP HM HE HN
    go_enter Tryz.func49, Tryz.ntmps49
    go_wp2_with fail
    rw [← hW]
    go_ret
    exact ⟨.inl ⟨HY.out, rfl⟩, H0.out.1⟩
  | true =>
    cases up with
    | false =>
      have HY : Hid (¬ P) := fun h => absurd (HP.out.1 h rfl).1 (by simp)
      clear HP HM HE HN
      go_enter Tryz.func49, Tryz.ntmps49
      go_wp2_with fail
      rw [← hW]
      go_ret
      exact ⟨.inr ⟨HY.out, rfl⟩, H0.out.1⟩
    | true =>
      by_cases h2 : idd = 2
      · have HY : Hid (¬ P) := fun h => (HP.out.1 h rfl).2 h2
        have hm := HE.out h2
        clear HP HE HN h2
        generalize mateOf idd = mm at *
        subst hm
        go_enter Tryz.func49, Tryz.ntmps49
        go_wp2_with fail
        rw [← hW]
        clear hW
        refine HM.out.mono ?_
        rintro e w1 ⟨rfl, hw⟩
        rw [hw]
        clear hw w1
        go_wp2
        go_ret
        exact ⟨.inr ⟨HY.out, rfl⟩, H0.out.1⟩
      · have HY : Hid P := HP.out.2 (fun _ => ⟨rfl, h2⟩)
        have hm := HN.out h2
        clear HP HE HN h2
        generalize mateOf idd = mm at *
        have hm2 : (mm == -1) = false := by simpa using hm
        have hm3 : (mm != -1) = true := by simpa using hm
        clear hm
        go_enter Tryz.func49, Tryz.ntmps49
        go_wp2_with fail
        rw [← hW]
        clear hW
        refine HM.out.mono ?_
        rintro e w1 ⟨rfl, hw⟩
        rw [hw]
        clear hw w1
        go_wp2
        go_ret
        exact ⟨.inl ⟨HY.out, rfl⟩, H0.out.1⟩

set_option maxHeartbeats 2000000 in
theorem kept_impl (a : Na) (d : Nd) (w : World) (hg : ErrT w) (hd : NBd d) (hv : NV w a d) :
    Calls Tryz.prog 46 #[nv a d] w fun e w' => Tells w w' e (KpM d.A d.C d.g d.n d.L d.fi d.ol d.he d.la) := by
  obtain ⟨W, hW⟩ : ∃ W, W = w.alloc (.cells (nds a d) 37) := ⟨_, rfl⟩
  have H0 : Hid (Below w.heap.size w W ∧ NB W w.heap.size 37 a d) := by rw [hW]; exact ⟨bal1 _ _, NB.new _ _ _ _⟩
  have HV : Hid (∀ V, Below w.heap.size w V → NV V a d) := fun V hb => hv.below hb
  have HD := hide hd
  obtain ⟨sg, sn, sL, sfi, sol, she, sla, sx, sb, hlen, _, himpl, hK, _⟩ := slots_both d.A d.C
  have HSd : Hid (Bd sg sn sL) := bd_of (by omega)
  have HSK := hide hK
  have hslot := hide (himpl W _ _ _ _ (hg.below H0.out.1) ((HV.out _ H0.out.1).vA HD.out) ((HV.out _ H0.out.1).vC HD.out))
  have HKp : Hid (∀ P, P = KpM d.A d.C d.g d.n d.L d.fi d.ol d.he d.la → (P ↔ sb = true ∧ SmM sg sn sL sfi sol she sla d.g d.n d.L d.fi d.ol d.he d.la)) := fun P e => by rw [e]; exact hK _ _ _ _ _ _ _
  obtain ⟨P, hP⟩ : ∃ P, P = KpM d.A d.C d.g d.n d.L d.fi d.ol d.he d.la := ⟨_, rfl⟩
  have HP := hide (HKp.out P hP)
  rw [← hP]
  obtain ⟨p0, p1, p2, p3, p4, p5, p6, p7, p8, p9, p10, p11, p12, p13, p14, p15⟩ := H0.out.2.cells
  clear hlen himpl hK hv hd hP HKp HSK hg
  unfold nv
  unfold nds at hW ⊢
  go_enter Tryz.func46, Tryz.ntmps46
  go_wp2_with fail
  rw [← hW]
  clear hW
  refine hslot.out.mono ?_
  rintro e w3 ⟨go', bo', gc', bc', rfl, o3, b3⟩
  have H3 : Hid ((Below w.heap.size w (w3.alloc (.cells #[.slice go' sg.length gc', .slice bo' sn bc', .bool sfi, .bool sol, .bool she, .int .i64 sla] 34)) ∧ NB (w3.alloc (.cells #[.slice go' sg.length gc', .slice bo' sn bc', .bool sfi, .bool sol, .bool she, .int .i64 sla] 34)) w.heap.size 37 a d) ∧ MV (w3.alloc (.cells #[.slice go' sg.length gc', .slice bo' sn bc', .bool sfi, .bool sol, .bool she, .int .i64 sla] 34)) go' gc' bo' bc' sg sn sL) := by
    have c3 := H0.out.1.trans (b3.mono H0.out.1.size)
    have bx := bal1 w3 (.cells #[.slice go' sg.length gc', .slice bo' sn bc', .bool sfi, .bool sol, .bool she, .int .i64 sla] 34)
    exact ⟨⟨c3.trans (bx.mono c3.size), (H0.out.2.b b3).b bx⟩, o3.mv.below bx⟩
  clear p0 p1 p2 p3 p4 p5 p6 p7 p8 p9 p10 p11 p12 p13 p14 p15
  obtain ⟨p0, p1, p2, p3, p4, p5, p6, p7, p8, p9, p10, p11, p12, p13, p14, p15⟩ := (H0.out.2.b b3).cells
  have hlt3 : w.heap.size < w3.heap.size := (H0.out.2.b b3).lt
  clear o3 b3 hslot H0
  cases sb with
  | false =>
    have HN : Hid (¬ P) := fun h => absurd (HP.out.1 h).1 (by simp)
    clear HP
    go_wp2_with fail
    go_ret
    exact ⟨.inr ⟨HN.out, rfl⟩, H3.out.1.1⟩
  | true =>
    have HT : Hid (P ↔ SmM sg sn sL sfi sol she sla d.g d.n d.L d.fi d.ol d.he d.la) := (show _ ↔ _ from by rw [HP.out]; exact ⟨fun h => h.2, fun h => ⟨rfl, h⟩⟩)
    clear HP
    go_wp2_with fail
    generalize w3.alloc (.cells #[.slice go' sg.length gc', .slice bo' sn bc', .bool sfi, .bool sol, .bool she, .int .i64 sla] 34) = w4 at *
    clear p0 p1 p2 p3 p4 p5 p6 p7 p8 p9 p10 p11 p12 p13 p14 p15
    refine (samem_impl go' bo' a.go a.bo gc' bc' a.gc a.bc sg d.g sn d.n sL d.L sfi sol she d.fi d.ol d.he sla d.la w4 HSd.out H3.out.2 (HV.out _ H3.out.1.1).2.1).mono ?_
    rintro e w5 ⟨h5, b5⟩
    have HB5 := hide (H3.out.1.1.trans (b5.mono H3.out.1.1.size))
    clear b5
    rcases h5 with ⟨h5, rfl⟩ | ⟨h5, rfl⟩
    · have HY := hide (HT.out.2 h5)
      clear h5 HT
      go_wp2
      go_ret
      exact ⟨.inl ⟨HY.out, rfl⟩, HB5.out⟩
    · have HY : Hid (¬ P) := fun h => h5 (HT.out.1 h)
      clear h5 HT
      go_wp2
      go_ret
      exact ⟨.inr ⟨HY.out, rfl⟩, HB5.out⟩

theorem win_iff {f : Nat → Int} {m : Nat} : WIn f (m + 1) ↔ (∀ i, 1 ≤ i → i < m + 1 → f (i - 1) < f i) ∧ 0 < f 0 ∧ f m ≤ 200 := by
  constructor
  · intro h
    exact ⟨h.2, by have := (h.1 0 (by omega)).1; omega, (h.1 m (by omega)).2⟩
  · rintro ⟨h1, h2, h3⟩
    have up : ∀ i, i ≤ m → 0 < f i := fun i => by
      induction i with
      | zero => exact fun _ => h2
      | succ i ih => intro hi; have := h1 (i + 1) (by omega) (by omega); have := ih (by omega); rw [show i + 1 - 1 = i by omega] at *; omega
    have dn : ∀ k, k ≤ m → f (m - k) ≤ 200 := fun k => by
      induction k with
      | zero => exact fun _ => h3
      | succ k ih => intro hi; have := h1 (m - k) (by omega) (by omega); have := ih (by omega); rw [show m - k - 1 = m - (k + 1) by omega] at *; omega
    exact ⟨fun i hi => ⟨by have := up i (by omega); omega, by have := dn (m - i) (by omega); rwa [show m - (m - i) = i by omega] at this⟩, h1⟩

set_option maxHeartbeats 2000000 in
theorem wait_impl (a : Na) (d : Nd) (w : World) (hd : NBd d) (hv : NV w a d) :
    Calls Tryz.prog 48 #[nv a d] w fun e w' => Tells w w' e ((0 < d.wt.length → d.up = true) ∧ WIn (fun i => d.wt.getD i 0) d.wt.length) := by
  obtain ⟨W, hW⟩ : ∃ W, W = w.alloc (.cells (nds a d) 37) := ⟨_, rfl⟩
  have H0 : Hid (Below w.heap.size w W ∧ NB W w.heap.size 37 a d) := by rw [hW]; exact ⟨bal1 _ _, NB.new _ _ _ _⟩
  obtain ⟨p0, p1, p2, p3, p4, p5, p6, p7, p8, p9, p10, p11, p12, p13, p14, p15⟩ := H0.out.2.cells
  have hs := (hv.below H0.out.1).2.2.2.2.2.2.1
  have hb := hd.2.2.2.2.2.2
  suffices hz : ∀ P : Prop, (P ↔ (0 < d.wt.length → d.up = true) ∧ WIn (fun i => d.wt.getD i 0) d.wt.length) → Calls _ _ _ _ fun e w' => Tells w w' e P from hz _ Iff.rfl
  intro P hP
  clear hv hd
  unfold nv
  unfold nds at hW ⊢
  generalize d.up = up at *
  generalize d.wt.length = lw at *
  generalize (fun i => d.wt.getD i 0) = f at *
  generalize a.wt = awt at *
  have HP := hide hP
  clear hP
  cases lw with
  | zero =>
    have HY : Hid P := HP.out.2 ⟨fun h => absurd h (by omega), fun i hi => absurd hi (by omega), fun i h1 h2 => absurd h2 (by omega)⟩
    clear HP hs
    go_enter Tryz.func48, Tryz.ntmps48
    go_wp2_with fail
    rw [← hW]
    go_ret
    exact ⟨.inl ⟨HY.out, rfl⟩, H0.out.1⟩
  | succ m =>
    have HQ : Hid (P ↔ up = true ∧ (∀ i, 1 ≤ i → i < m + 1 → f (i - 1) < f i) ∧ 0 < f 0 ∧ f m ≤ 200) := (show _ ↔ _ from by
      rw [HP.out, win_iff]
      exact ⟨fun h => ⟨h.1 (by omega), h.2⟩, fun h => ⟨fun _ => h.1, h.2⟩⟩)
    clear HP
    obtain ⟨b, off, rfl, _, c0⟩ := hs 0 (by omega)
    obtain ⟨b', off', e2, _, cm⟩ := hs m (by omega)
    simp only [Option.some.injEq, Addr.mk.injEq] at e2
    obtain ⟨rfl, rfl, _⟩ := e2
    rw [Nat.add_zero] at c0
    have hne : (((m + 1 : Nat) : Int) == 0) = false := by simp; omega
    have hasc : Hid (∀ q, Calls Tryz.prog 65 #[.slice (some ⟨b, off, none⟩) (m + 1) a.wtc] (W.drewN q) fun e w' => (∃ b : Bool, e = .returned (.bool b) ∧ (b = true ↔ ∀ i, 1 ≤ i → i < m + 1 → f (i - 1) < f i)) ∧ ∃ q', w' = (W.drewN q).drewN q') := fun q => asc_any (some ⟨b, off, none⟩) (m + 1) a.wtc f (W.drewN q) hb hs
    have HBq : Hid (∀ q, Below w.heap.size w (W.drewN q)) := fun q => Below.drawn H0.out.1 q
    clear hs
    generalize f 0 = x0 at *
    generalize f m = xm at *
    go_enter Tryz.func48, Tryz.ntmps48
    go_wp2_with fail
    rw [← hW]
    clear hW
    go_quiet (fail)
    cases up with
    | false =>
      have HY : Hid (¬ P) := fun h => absurd (HQ.out.1 h).1 (by simp)
      clear HQ hasc
      go_wp2
      go_ret
      exact ⟨.inr ⟨HY.out, rfl⟩, HBq.out _⟩
    | true =>
      go_wp2_with fail
      refine (hasc.out _).mono ?_
      rintro e w1 ⟨⟨bb, rfl, hbb⟩, q', rfl⟩
      have HQb : Hid (P ↔ bb = true ∧ 0 < x0 ∧ xm ≤ 200) := (show _ ↔ _ from by rw [HQ.out, hbb]; exact ⟨fun h => h.2, fun h => ⟨by simp, h⟩⟩)
      clear hbb HQ hasc
      cases bb with
      | false =>
        have HY : Hid (¬ P) := fun h => absurd (HQb.out.1 h).1 (by simp)
        clear HQb
        go_wp2
        go_ret
        exact ⟨.inr ⟨HY.out, rfl⟩, HBq.out _⟩
      | true =>
        by_cases h1 : 0 < x0
        · by_cases h2 : xm ≤ 200
          · have HY : Hid P := HQb.out.2 ⟨rfl, h1, h2⟩
            have e1 : decide (0 < x0) = true := by simpa using h1
            have e2 : decide (xm ≤ 200) = true := by simpa using h2
            clear HQb
            go_wp2
            go_ret
            exact ⟨.inl ⟨HY.out, rfl⟩, HBq.out _⟩
          · have HY : Hid (¬ P) := fun h => h2 (HQb.out.1 h).2.2
            have e1 : decide (0 < x0) = true := by simpa using h1
            have e2 : decide (xm ≤ 200) = false := by simpa using h2
            clear HQb
            go_wp2
            go_ret
            exact ⟨.inr ⟨HY.out, rfl⟩, HBq.out _⟩
        · have HY : Hid (¬ P) := fun h => h1 (HQb.out.1 h).2.1
          have e1 : decide (0 < x0) = false := by simpa using h1
          clear HQb
          go_wp2
          go_ret
          exact ⟨.inr ⟨HY.out, rfl⟩, HBq.out _⟩
end Go.Proofs.YtabknfmhhjelaaaGreatDoor

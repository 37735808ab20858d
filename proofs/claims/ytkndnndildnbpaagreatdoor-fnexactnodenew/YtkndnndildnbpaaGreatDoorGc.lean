/- NodeOk of the program, its parts. -/
import Derived.Test.YtkndnndildnbpaaGreatDoorNdQZ
import Derived.Test.YtkndnndildnbpaaGreatDoorGa

namespace Go.Proofs.YtkndnndildnbpaaGreatDoor
open Go.ChangeShapes Go.WideShapes Go.ChangeAt Go.RowKit
set_option linter.unusedVariables false
set_option linter.unusedSimpArgs false
set_option maxRecDepth 100000

/-- The other one of the pair. -/
def mateOf (x : Int) : Int := if x = 0 then 1 else if x = 1 then 0 else -1
theorem mate_impl (x : Int) (w : World) : Calls Tryz.prog 113 #[.int .i64 x] w fun e w' => e = .returned (.int .i64 (mateOf x)) ∧ w' = w := by
  by_cases h0 : x = 0
  · subst h0
    go_enter Tryz.func113, Tryz.ntmps113
    go_wp2
    go_ret
    exact ⟨rfl, rfl⟩
  · by_cases h1 : x = 1
    · subst h1
      go_enter Tryz.func113, Tryz.ntmps113
      go_wp2
      go_ret
      exact ⟨rfl, rfl⟩
    · have e0 : (x == 0) = false := by simpa using h0
      have e1 : (x == 1) = false := by simpa using h1
      have e2 : mateOf x = -1 := by unfold mateOf; rw [if_neg h0, if_neg h1]
      have E2 := hide e2
      clear e2 h0 h1
      go_enter Tryz.func113, Tryz.ntmps113
      go_wp2
      go_ret
      exact ⟨congrArg (fun z => Ending.returned (.int .i64 z)) E2.out.symm, rfl⟩

theorem prime_impl (a : Na) (d : Nd) (w : World) (hid : 0 ≤ d.id ∧ d.id ≤ 2) :
    Calls Tryz.prog 153 #[nv a d] w fun e w' => Tells w w' e (PrOk d.id d.up d.pr) := by
  obtain ⟨W, hW⟩ : ∃ W, W = w.alloc (.cells (nds a d) 31) := ⟨_, rfl⟩
  have H0 : Hid (Below w.heap.size w W ∧ NB W w.heap.size 31 a d) := by rw [hW]; exact ⟨bal1 _ _, NB.new _ _ _ _⟩
  obtain ⟨p0, p1, p2, p3, p4, p5, p6, p7, p8, p9, p10, p11, p12, p13, p14, p15⟩ := H0.out.2.cells
  unfold nv
  unfold nds at hW ⊢
  suffices hz : ∀ P : Prop, (P ↔ PrOk d.id d.up d.pr) → Calls _ _ _ _ fun e w' => Tells w w' e P from hz _ Iff.rfl
  intro P hP
  have HM := hide (mate_impl d.id W)
  have HE : Hid (d.id = 2 → mateOf d.id = -1) := fun h => by rw [h]; rfl
  have HN : Hid (d.id ≠ 2 → mateOf d.id ≠ -1) := fun h => by
    rcases (show d.id = 0 ∨ d.id = 1 by omega) with h | h <;> rw [h] <;> decide
  clear hid
  generalize d.up = up at *
  generalize d.pr = pr at *
  generalize d.id = idd at *
  have HP := hide hP
  clear hP
  cases pr with
  | false =>
    have HY : Hid P := HP.out.2 (fun h => by cases h)
    clear HP HM HE HN
    go_enter Tryz.func153, Tryz.ntmps153
    go_wp2_with fail
    rw [← hW]
    go_ret
    exact ⟨.inl ⟨HY.out, rfl⟩, H0.out.1⟩
  | true =>
    cases up with
    | false =>
      have HY : Hid (¬ P) := fun h => absurd (HP.out.1 h rfl).1 (by simp)
      clear HP HM HE HN
      go_enter Tryz.func153, Tryz.ntmps153
      go_wp2_with fail
      rw [← hW]
      go_ret
      exact ⟨.inr ⟨HY.out, rfl⟩, H0.out.1⟩
    | true =>
      by_cases h2 : idd = 2
      · have HY : Hid (¬ P) := fun h => (HP.out.1 h rfl).2 h2
        have hm := HE.out h2
        clear HP HE HN h2
        generalize mateOf idd = mm at *
        subst hm
        go_enter Tryz.func153, Tryz.ntmps153
        go_wp2_with fail
        rw [← hW]
        clear hW
        refine HM.out.mono ?_
        rintro e w1 ⟨rfl, hw⟩
        rw [hw]
        clear hw w1
        go_wp2
        go_ret
        exact ⟨.inr ⟨HY.out, rfl⟩, H0.out.1⟩
      · have HY : Hid P := HP.out.2 (fun _ => ⟨rfl, h2⟩)
        have hm := HN.out h2
        clear HP HE HN h2
        generalize mateOf idd = mm at *
        have hm2 : (mm == -1) = false := by simpa using hm
        have hm3 : (mm != -1) = true := by simpa using hm
        clear hm
        go_enter Tryz.func153, Tryz.ntmps153
        go_wp2_with fail
        rw [← hW]
        clear hW
        refine HM.out.mono ?_
        rintro e w1 ⟨rfl, hw⟩
        rw [hw]
        clear hw w1
        go_wp2
        go_ret
        exact ⟨.inl ⟨HY.out, rfl⟩, H0.out.1⟩

set_option maxHeartbeats 2000000 in
theorem kept_impl (a : Na) (d : Nd) (w : World) (hg : ErrT w) (hd : NBd d) (hv : NV w a d) :
    Calls Tryz.prog 150 #[nv a d] w fun e w' => Tells w w' e (KpM d.A d.C d.g d.n d.L d.fi d.ol d.he d.la) := by
  obtain ⟨W, hW⟩ : ∃ W, W = w.alloc (.cells (nds a d) 31) := ⟨_, rfl⟩
  have H0 : Hid (Below w.heap.size w W ∧ NB W w.heap.size 31 a d) := by rw [hW]; exact ⟨bal1 _ _, NB.new _ _ _ _⟩
  have HV : Hid (∀ V, Below w.heap.size w V → NV V a d) := fun V hb => hv.below hb
  have HD := hide hd
  obtain ⟨sg, sn, sL, sfi, sol, she, sla, sx, sb, hlen, _, himpl, hK, _⟩ := slots_both d.A d.C
  have HSd : Hid (Bd sg sn sL) := bd_of (by omega)
  have HSK := hide hK
  have hslot := hide (himpl W _ _ _ _ (hg.below H0.out.1) ((HV.out _ H0.out.1).vA HD.out) ((HV.out _ H0.out.1).vC HD.out))
  have HKp : Hid (∀ P, P = KpM d.A d.C d.g d.n d.L d.fi d.ol d.he d.la → (P ↔ sb = true ∧ SmM sg sn sL sfi sol she sla d.g d.n d.L d.fi d.ol d.he d.la)) := fun P e => by rw [e]; exact hK _ _ _ _ _ _ _
  obtain ⟨P, hP⟩ : ∃ P, P = KpM d.A d.C d.g d.n d.L d.fi d.ol d.he d.la := ⟨_, rfl⟩
  have HP := hide (HKp.out P hP)
  rw [← hP]
  obtain ⟨p0, p1, p2, p3, p4, p5, p6, p7, p8, p9, p10, p11, p12, p13, p14, p15⟩ := H0.out.2.cells
  clear hlen himpl hK hv hd hP HKp HSK hg
  unfold nv
  unfold nds at hW ⊢
  go_enter Tryz.func150, Tryz.ntmps150
  go_wp2_with fail
  rw [← hW]
  clear hW
  refine hslot.out.mono ?_
  rintro e w3 ⟨go', bo', gc', bc', rfl, o3, b3⟩
  have H3 : Hid ((Below w.heap.size w (w3.alloc (.cells #[.slice go' sg.length gc', .slice bo' sn bc', .bool sfi, .bool sol, .bool she, .int .i64 sla] 25)) ∧ NB (w3.alloc (.cells #[.slice go' sg.length gc', .slice bo' sn bc', .bool sfi, .bool sol, .bool she, .int .i64 sla] 25)) w.heap.size 31 a d) ∧ MV (w3.alloc (.cells #[.slice go' sg.length gc', .slice bo' sn bc', .bool sfi, .bool sol, .bool she, .int .i64 sla] 25)) go' gc' bo' bc' sg sn sL) := by
    have c3 := H0.out.1.trans (b3.mono H0.out.1.size)
    have bx := bal1 w3 (.cells #[.slice go' sg.length gc', .slice bo' sn bc', .bool sfi, .bool sol, .bool she, .int .i64 sla] 25)
    exact ⟨⟨c3.trans (bx.mono c3.size), (H0.out.2.b b3).b bx⟩, o3.mv.below bx⟩
  clear p0 p1 p2 p3 p4 p5 p6 p7 p8 p9 p10 p11 p12 p13 p14 p15
  obtain ⟨p0, p1, p2, p3, p4, p5, p6, p7, p8, p9, p10, p11, p12, p13, p14, p15⟩ := (H0.out.2.b b3).cells
  have hlt3 : w.heap.size < w3.heap.size := (H0.out.2.b b3).lt
  clear o3 b3 hslot H0
  cases sb with
  | false =>
    have HN : Hid (¬ P) := fun h => absurd (HP.out.1 h).1 (by simp)
    clear HP
    go_wp2_with fail
    go_ret
    exact ⟨.inr ⟨HN.out, rfl⟩, H3.out.1.1⟩
  | true =>
    have HT : Hid (P ↔ SmM sg sn sL sfi sol she sla d.g d.n d.L d.fi d.ol d.he d.la) := (show _ ↔ _ from by rw [HP.out]; exact ⟨fun h => h.2, fun h => ⟨rfl, h⟩⟩)
    clear HP
    go_wp2_with fail
    generalize w3.alloc (.cells #[.slice go' sg.length gc', .slice bo' sn bc', .bool sfi, .bool sol, .bool she, .int .i64 sla] 25) = w4 at *
    clear p0 p1 p2 p3 p4 p5 p6 p7 p8 p9 p10 p11 p12 p13 p14 p15
    refine (samem_impl go' bo' a.go a.bo gc' bc' a.gc a.bc sg d.g sn d.n sL d.L sfi sol she d.fi d.ol d.he sla d.la w4 HSd.out H3.out.2 (HV.out _ H3.out.1.1).2.1).mono ?_
    rintro e w5 ⟨h5, b5⟩
    have HB5 := hide (H3.out.1.1.trans (b5.mono H3.out.1.1.size))
    clear b5
    rcases h5 with ⟨h5, rfl⟩ | ⟨h5, rfl⟩
    · have HY := hide (HT.out.2 h5)
      clear h5 HT
      go_wp2
      go_ret
      exact ⟨.inl ⟨HY.out, rfl⟩, HB5.out⟩
    · have HY : Hid (¬ P) := fun h => h5 (HT.out.1 h)
      clear h5 HT
      go_wp2
      go_ret
      exact ⟨.inr ⟨HY.out, rfl⟩, HB5.out⟩

theorem win_iff {f : Nat → Int} {m : Nat} : WIn f (m + 1) ↔ (∀ i, 1 ≤ i → i < m + 1 → f (i - 1) < f i) ∧ 0 < f 0 ∧ f m ≤ 200 := by
  constructor
  · intro h
    exact ⟨h.2, by have := (h.1 0 (by omega)).1; omega, (h.1 m (by omega)).2⟩
  · rintro ⟨h1, h2, h3⟩
    have up : ∀ i, i ≤ m → 0 < f i := fun i => by
      induction i with
      | zero => exact fun _ => h2
      | succ i ih => intro hi; have := h1 (i + 1) (by omega) (by omega); have := ih (by omega); rw [show i + 1 - 1 = i by omega] at *; omega
    have dn : ∀ k, k ≤ m → f (m - k) ≤ 200 := fun k => by
      induction k with
      | zero => exact fun _ => h3
      | succ k ih => intro hi; have := h1 (m - k) (by omega) (by omega); have := ih (by omega); rw [show m - k - 1 = m - (k + 1) by omega] at *; omega
    exact ⟨fun i hi => ⟨by have := up i (by omega); omega, by have := dn (m - i) (by omega); rwa [show m - (m - i) = i by omega] at this⟩, h1⟩

set_option maxHeartbeats 2000000 in
theorem wait_impl (a : Na) (d : Nd) (w : World) (hd : NBd d) (hv : NV w a d) :
    Calls Tryz.prog 152 #[nv a d] w fun e w' => Tells w w' e ((0 < d.wt.length → d.up = true) ∧ WIn (fun i => d.wt.getD i 0) d.wt.length) := by
  obtain ⟨W, hW⟩ : ∃ W, W = w.alloc (.cells (nds a d) 31) := ⟨_, rfl⟩
  have H0 : Hid (Below w.heap.size w W ∧ NB W w.heap.size 31 a d) := by rw [hW]; exact ⟨bal1 _ _, NB.new _ _ _ _⟩
  obtain ⟨p0, p1, p2, p3, p4, p5, p6, p7, p8, p9, p10, p11, p12, p13, p14, p15⟩ := H0.out.2.cells
  have hs := (hv.below H0.out.1).2.2.2.2.2.2.1
  have hb := hd.2.2.2.2.2.2
  suffices hz : ∀ P : Prop, (P ↔ (0 < d.wt.length → d.up = true) ∧ WIn (fun i => d.wt.getD i 0) d.wt.length) → Calls _ _ _ _ fun e w' => Tells w w' e P from hz _ Iff.rfl
  intro P hP
  clear hv hd
  unfold nv
  unfold nds at hW ⊢
  generalize d.up = up at *
  generalize d.wt.length = lw at *
  generalize (fun i => d.wt.getD i 0) = f at *
  generalize a.wt = awt at *
  have HP := hide hP
  clear hP
  cases lw with
  | zero =>
    have HY : Hid P := HP.out.2 ⟨fun h => absurd h (by omega), fun i hi => absurd hi (by omega), fun i h1 h2 => absurd h2 (by omega)⟩
    clear HP hs
    go_enter Tryz.func152, Tryz.ntmps152
    go_wp2_with fail
    rw [← hW]
    go_ret
    exact ⟨.inl ⟨HY.out, rfl⟩, H0.out.1⟩
  | succ m =>
    have HQ : Hid (P ↔ up = true ∧ (∀ i, 1 ≤ i → i < m + 1 → f (i - 1) < f i) ∧ 0 < f 0 ∧ f m ≤ 200) := (show _ ↔ _ from by
      rw [HP.out, win_iff]
      exact ⟨fun h => ⟨h.1 (by omega), h.2⟩, fun h => ⟨fun _ => h.1, h.2⟩⟩)
    clear HP
    obtain ⟨b, off, rfl, _, c0⟩ := hs 0 (by omega)
    obtain ⟨b', off', e2, _, cm⟩ := hs m (by omega)
    simp only [Option.some.injEq, Addr.mk.injEq] at e2
    obtain ⟨rfl, rfl, _⟩ := e2
    rw [Nat.add_zero] at c0
    have hne : (((m + 1 : Nat) : Int) == 0) = false := by simp; omega
    have hasc : Hid (∀ q, Calls Tryz.prog 213 #[.slice (some ⟨b, off, none⟩) (m + 1) a.wtc] (W.drewN q) fun e w' => (∃ b : Bool, e = .returned (.bool b) ∧ (b = true ↔ ∀ i, 1 ≤ i → i < m + 1 → f (i - 1) < f i)) ∧ ∃ q', w' = (W.drewN q).drewN q') := fun q => asc_any (some ⟨b, off, none⟩) (m + 1) a.wtc f (W.drewN q) hb hs
    have HBq : Hid (∀ q, Below w.heap.size w (W.drewN q)) := fun q => Below.drawn H0.out.1 q
    clear hs
    generalize f 0 = x0 at *
    generalize f m = xm at *
    go_enter Tryz.func152, Tryz.ntmps152
    go_wp2_with fail
    rw [← hW]
    clear hW
    go_quiet (fail)
    cases up with
    | false =>
      have HY : Hid (¬ P) := fun h => absurd (HQ.out.1 h).1 (by simp)
      clear HQ hasc
      go_wp2
      go_ret
      exact ⟨.inr ⟨HY.out, rfl⟩, HBq.out _⟩
    | true =>
      go_wp2_with fail
      refine (hasc.out _).mono ?_
      rintro e w1 ⟨⟨bb, rfl, hbb⟩, q', rfl⟩
      have HQb : Hid (P ↔ bb = true ∧ 0 < x0 ∧ xm ≤ 200) := (show _ ↔ _ from by rw [HQ.out, hbb]; exact ⟨fun h => h.2, fun h => ⟨by simp, h⟩⟩)
      clear hbb HQ hasc
      cases bb with
      | false =>
        have HY : Hid (¬ P) := fun h => absurd (HQb.out.1 h).1 (by simp)
        clear HQb
        go_wp2
        go_ret
        exact ⟨.inr ⟨HY.out, rfl⟩, HBq.out _⟩
      | true =>
        by_cases h1 : 0 < x0
        · by_cases h2 : xm ≤ 200
          · have HY : Hid P := HQb.out.2 ⟨rfl, h1, h2⟩
            have e1 : decide (0 < x0) = true := by simpa using h1
            have e2 : decide (xm ≤ 200) = true := by simpa using h2
            clear HQb
            go_wp2
            go_ret
            exact ⟨.inl ⟨HY.out, rfl⟩, HBq.out _⟩
          · have HY : Hid (¬ P) := fun h => h2 (HQb.out.1 h).2.2
            have e1 : decide (0 < x0) = true := by simpa using h1
            have e2 : decide (xm ≤ 200) = false := by simpa using h2
            clear HQb
            go_wp2
            go_ret
            exact ⟨.inr ⟨HY.out, rfl⟩, HBq.out _⟩
        · have HY : Hid (¬ P) := fun h => h1 (HQb.out.1 h).2.1
          have e1 : decide (0 < x0) = false := by simpa using h1
          clear HQb
          go_wp2
          go_ret
          exact ⟨.inr ⟨HY.out, rfl⟩, HBq.out _⟩
set_option maxHeartbeats 8000000 in
theorem line_impl (a : Na) (d : Nd) (k : Nat) (w : World) (hk : k < 3) (hd : NBd d) (hv : NV w a d) (h1 : d.co.length = 3) (h2 : d.m = 3) (h3 : d.cp.length = 3) :
    Calls Tryz.prog 212 #[nv a d, .int .i64 k] w fun e w' => Tells w w' e (LkOk d.id d.up d.co d.cp d.S k) := by
  obtain ⟨id, up, pr, im, g, n, L, fi, ol, he, la, A, C, co, m, S, cp, wt⟩ := d
  obtain ⟨aim, imc, go, gc, bo, bc, aA, cA, aB, cB, aco, coc, aso, sc, acp, cpc, awt, wtc⟩ := a
  obtain ⟨W, hW⟩ : ∃ W, W = w.alloc (.cells (nds ⟨aim, imc, go, gc, bo, bc, aA, cA, aB, cB, aco, coc, aso, sc, acp, cpc, awt, wtc⟩ ⟨id, up, pr, im, g, n, L, fi, ol, he, la, A, C, co, m, S, cp, wt⟩) 31) := ⟨_, rfl⟩
  have HB : Hid (Below w.heap.size w W) := by rw [hW]; exact bal1 _ _
  have hN : NB W w.heap.size 31 ⟨aim, imc, go, gc, bo, bc, aA, cA, aB, cB, aco, coc, aso, sc, acp, cpc, awt, wtc⟩ ⟨id, up, pr, im, g, n, L, fi, ol, he, la, A, C, co, m, S, cp, wt⟩ := by rw [hW]; exact NB.new _ _ _ _
  obtain ⟨p0, p1, p2, p3, p4, p5, p6, p7, p8, p9, p10, p11, p12, p13, p14, p15⟩ := hN.cells
  have hv' := hv.below HB.out
  dsimp only at *
  obtain ⟨b1, o1, rfl, c1⟩ := slb_cell hv'.2.2.2.1.1 (show k < co.length by omega)
  obtain ⟨b2, o2, rfl, c2⟩ := slb_cell hv'.2.2.2.2.2.1.1 (show k < cp.length by omega)
  obtain ⟨b3, o3, ro, rc, rfl, c3, hrc, hsl⟩ := hv'.2.2.2.2.1.1 k (show k < m by omega)
  have hl : (S k).length ≤ 1048576 := hd.2.2.2.2.1.2 k (show k < m by omega)
  have hcall := hide (marksok_impl ro (S k).length rc (fun j => (S k).getD j 0) W hl hsl)
  suffices hz : ∀ P : Prop, (P ↔ LkOk id up co cp S k) → Calls _ _ _ _ fun e w' => Tells w w' e P from hz _ Iff.rfl
  intro P hP
  have HK : Hid (P ↔ KIn (fun i => (S k).getD i 0) (S k).length ∧ (0 < (S k).length → cp.getD k false = true) ∧ (cp.getD k false = true → co.getD k false = true) ∧ (co.getD k false = true → up = true ∧ (k : Int) ≠ id)) := (show _ ↔ _ from hP)
  clear hv hv' hd hN hP
  unfold nv
  unfold nds at hW ⊢
  dsimp only at hW ⊢
  generalize KIn (fun i => (S k).getD i 0) (S k).length = KK at *
  generalize (S k).length = l at *
  generalize co.getD k false = c at *
  generalize cp.getD k false = p at *
  generalize hlc : co.length = lc at *
  generalize hlp : cp.length = lp at *
  clear hlc hlp hsl hrc
  subst h1 h2 h3
  rw [hW] at c1 c2 c3
  by_cases hid : (k : Int) = id
  · have he1 : ((k : Int) == id) = true := by simpa using hid
    have he2 : ((k : Int) != id) = false := by simpa using hid
    by_cases hg : (0 < l → p = true) ∧ (p = true → c = true) ∧ ¬ c = true
    · have HQ : Hid (P ↔ KK) := (show _ ↔ _ from by rw [HK.out]; exact ⟨fun h => h.1, fun h => ⟨h, hg.1, hg.2.1, fun hc => absurd hc hg.2.2⟩⟩)
      have hc : c = false := by cases c with | false => rfl | true => exact absurd rfl hg.2.2
      subst hc
      have hp : p = false := by cases p with | false => rfl | true => exact absurd (hg.2.1 rfl) (by simp)
      subst hp
      obtain rfl : l = 0 := by rcases Nat.eq_zero_or_pos l with h | h; exact h; exact absurd (hg.1 h) (by simp)
      clear hg HK hid
      cases up
      all_goals
        go_enter Tryz.func212, Tryz.ntmps212
        go_wp2_with fail
        rw [← hW]
        clear hW
        refine hcall.out.mono ?_
        rintro e w1 ⟨⟨b, rfl, hb⟩, q1, rfl⟩
        have HBq : Hid (Below w.heap.size w (W.drewN q1)) := Below.drawn HB.out q1
        have HQb : Hid (P ↔ b = true) := (show _ ↔ _ from HQ.out.trans hb.symm)
        clear hb HQ hcall
        cases b with
        | true =>
          have HY := hide (HQb.out.2 rfl)
          clear HQb
          go_wp2
          go_ret
          exact ⟨.inl ⟨HY.out, rfl⟩, HBq.out⟩
        | false =>
          have HY : Hid (¬ P) := fun h => absurd (HQb.out.1 h) (by simp)
          clear HQb
          go_wp2
          go_ret
          exact ⟨.inr ⟨HY.out, rfl⟩, HBq.out⟩
    · have HY : Hid (¬ P) := fun h => hg ⟨(HK.out.1 h).2.1, (HK.out.1 h).2.2.1, fun hc => ((HK.out.1 h).2.2.2 hc).2 hid⟩
      clear HK hcall hid
      rcases Nat.eq_zero_or_pos l with hl0 | hl0
      · subst hl0
        cases p <;> cases c <;> cases up
        all_goals first | (exfalso; revert hg; simp; done) | skip
        all_goals clear hg
        all_goals
          go_enter Tryz.func212, Tryz.ntmps212
          go_wp2_with fail
          rw [← hW]
          go_ret
          exact ⟨.inr ⟨HY.out, rfl⟩, HB.out⟩
      · have hl1 : ((l : Int) == 0) = false := by simp; omega
        cases p <;> cases c <;> cases up
        all_goals first | (exfalso; revert hg; simp [hl0]; done) | skip
        all_goals clear hg
        all_goals
          go_enter Tryz.func212, Tryz.ntmps212
          go_wp2_with fail
          rw [← hW]
          go_ret
          exact ⟨.inr ⟨HY.out, rfl⟩, HB.out⟩
  · have he1 : ((k : Int) == id) = false := by simpa using hid
    have he2 : ((k : Int) != id) = true := by simpa using hid
    by_cases hg : (0 < l → p = true) ∧ (p = true → c = true) ∧ (c = true → up = true)
    · have HQ : Hid (P ↔ KK) := (show _ ↔ _ from by rw [HK.out]; exact ⟨fun h => h.1, fun h => ⟨h, hg.1, hg.2.1, fun hc => ⟨hg.2.2 hc, hid⟩⟩⟩)
      clear HK hid
      rcases Nat.eq_zero_or_pos l with hl0 | hl0
      · subst hl0
        cases p <;> cases c <;> cases up
        all_goals first | (exfalso; revert hg; simp; done) | skip
        all_goals clear hg
        all_goals
          go_enter Tryz.func212, Tryz.ntmps212
          go_wp2_with fail
          rw [← hW]
          clear hW
          refine hcall.out.mono ?_
          rintro e w1 ⟨⟨b, rfl, hb⟩, q1, rfl⟩
          have HBq : Hid (Below w.heap.size w (W.drewN q1)) := Below.drawn HB.out q1
          have HQb : Hid (P ↔ b = true) := (show _ ↔ _ from HQ.out.trans hb.symm)
          clear hb HQ hcall
          cases b with
          | true =>
            have HY := hide (HQb.out.2 rfl)
            clear HQb
            go_wp2
            go_ret
            exact ⟨.inl ⟨HY.out, rfl⟩, HBq.out⟩
          | false =>
            have HY : Hid (¬ P) := fun h => absurd (HQb.out.1 h) (by simp)
            clear HQb
            go_wp2
            go_ret
            exact ⟨.inr ⟨HY.out, rfl⟩, HBq.out⟩
      · have hl1 : ((l : Int) == 0) = false := by simp; omega
        cases p <;> cases c <;> cases up
        all_goals first | (exfalso; revert hg; simp [hl0]; done) | skip
        all_goals clear hg
        all_goals
          go_enter Tryz.func212, Tryz.ntmps212
          go_wp2_with fail
          rw [← hW]
          clear hW
          refine hcall.out.mono ?_
          rintro e w1 ⟨⟨b, rfl, hb⟩, q1, rfl⟩
          have HBq : Hid (Below w.heap.size w (W.drewN q1)) := Below.drawn HB.out q1
          have HQb : Hid (P ↔ b = true) := (show _ ↔ _ from HQ.out.trans hb.symm)
          clear hb HQ hcall
          cases b with
          | true =>
            have HY := hide (HQb.out.2 rfl)
            clear HQb
            go_wp2
            go_ret
            exact ⟨.inl ⟨HY.out, rfl⟩, HBq.out⟩
          | false =>
            have HY : Hid (¬ P) := fun h => absurd (HQb.out.1 h) (by simp)
            clear HQb
            go_wp2
            go_ret
            exact ⟨.inr ⟨HY.out, rfl⟩, HBq.out⟩
    · have HY : Hid (¬ P) := fun h => hg ⟨(HK.out.1 h).2.1, (HK.out.1 h).2.2.1, fun hc => ((HK.out.1 h).2.2.2 hc).1⟩
      clear HK hcall hid
      rcases Nat.eq_zero_or_pos l with hl0 | hl0
      · subst hl0
        cases p <;> cases c <;> cases up
        all_goals first | (exfalso; revert hg; simp; done) | skip
        all_goals clear hg
        all_goals
          go_enter Tryz.func212, Tryz.ntmps212
          go_wp2_with fail
          rw [← hW]
          go_ret
          exact ⟨.inr ⟨HY.out, rfl⟩, HB.out⟩
      · have hl1 : ((l : Int) == 0) = false := by simp; omega
        cases p <;> cases c <;> cases up
        all_goals first | (exfalso; revert hg; simp [hl0]; done) | skip
        all_goals clear hg
        all_goals
          go_enter Tryz.func212, Tryz.ntmps212
          go_wp2_with fail
          rw [← hW]
          go_ret
          exact ⟨.inr ⟨HY.out, rfl⟩, HB.out⟩

set_option maxHeartbeats 4000000 in
theorem lines_impl (a : Na) (d : Nd) (w : World) (hd : NBd d) (hv : NV w a d) :
    Calls Tryz.prog 151 #[nv a d] w fun e w' => Tells w w' e (LnOk d.id d.up d.co d.cp d.m d.S) := by
  obtain ⟨W, hW⟩ : ∃ W, W = w.alloc (.cells (nds a d) 31) := ⟨_, rfl⟩
  have H0 : Hid (Below w.heap.size w W ∧ NB W w.heap.size 31 a d) := by rw [hW]; exact ⟨bal1 _ _, NB.new _ _ _ _⟩
  have HV : Hid (∀ V, Below w.heap.size w V → NV V a d) := fun V hb => hv.below hb
  have HD := hide hd
  obtain ⟨p0, p1, p2, p3, p4, p5, p6, p7, p8, p9, p10, p11, p12, p13, p14, p15⟩ := H0.out.2.cells
  have HP0 : Hid (LnOk d.id d.up d.co d.cp d.m d.S ↔ d.co.length = 3 ∧ d.m = 3 ∧ d.cp.length = 3 ∧ ∀ k, k < 3 → LkOk d.id d.up d.co d.cp d.S k) := (show _ ↔ _ from Iff.rfl)
  clear hv hd
  generalize LnOk d.id d.up d.co d.cp d.m d.S = P at *
  have HP : Hid (P → d.co.length = 3 ∧ d.m = 3 ∧ d.cp.length = 3 ∧ ∀ k, k < 3 → LkOk d.id d.up d.co d.cp d.S k) := fun h => HP0.out.1 h
  by_cases h1 : d.co.length = 3
  case neg =>
    have hno : Hid (¬ P) := fun h => h1 (HP.out h).1
    have hd1 : ((d.co.length : Int) == 3) = false := by simp; omega
    have hd2 : ((d.co.length : Int) != 3) = true := by simp; omega
    clear h1 HP HP0 HV
    unfold nv
    unfold nds at hW ⊢
    go_enter Tryz.func151, Tryz.ntmps151
    go_wp2_with fail
    rw [← hW]
    go_ret
    exact ⟨.inr ⟨hno.out, rfl⟩, H0.out.1⟩
  have H1 := hide h1
  by_cases h2 : d.m = 3
  case neg =>
    have hno : Hid (¬ P) := fun h => h2 (HP.out h).2.1
    have hd1 : ((d.m : Int) == 3) = false := by simp; omega
    have hd2 : ((d.m : Int) != 3) = true := by simp; omega
    clear h2 HP HP0 HV
    unfold nv
    unfold nds at hW ⊢
    rw [h1] at hW ⊢ p12
    clear h1
    go_enter Tryz.func151, Tryz.ntmps151
    go_wp2_with fail
    rw [← hW]
    go_ret
    exact ⟨.inr ⟨hno.out, rfl⟩, H0.out.1⟩
  have H2 := hide h2
  by_cases h3 : d.cp.length = 3
  case neg =>
    have hno : Hid (¬ P) := fun h => h3 (HP.out h).2.2.1
    have hd1 : ((d.cp.length : Int) == 3) = false := by simp; omega
    have hd2 : ((d.cp.length : Int) != 3) = true := by simp; omega
    clear h3 HP HP0 HV
    unfold nv
    unfold nds at hW ⊢
    rw [h1, h2] at hW ⊢
    rw [h1] at p12
    rw [h2] at p13
    clear h1 h2
    go_enter Tryz.func151, Tryz.ntmps151
    go_wp2_with fail
    rw [← hW]
    go_ret
    exact ⟨.inr ⟨hno.out, rfl⟩, H0.out.1⟩
  have HPy : Hid ((∀ k, k < 3 → LkOk d.id d.up d.co d.cp d.S k) → P) := fun h => HP0.out.2 ⟨h1, h2, h3, h⟩
  have HPn : Hid (P → ∀ k, k < 3 → LkOk d.id d.up d.co d.cp d.S k) := fun h => (HP.out h).2.2.2
  have HC : Hid (∀ k V, k < 3 → Below w.heap.size w V → Calls Tryz.prog 212 #[nv a d, .int .i64 (k : Nat)] V fun e w' => Tells V w' e (LkOk d.id d.up d.co d.cp d.S k)) := fun k V hk hb => line_impl a d k V hk HD.out (HV.out V hb) h1 h2 h3
  have HE : Hid (nv a d = .agg #[.int .i64 d.id, .bool d.up, .bool d.pr, .slice a.im d.im.length a.imc, .slice a.go d.g.length a.gc, .slice a.bo d.n a.bc, .bool d.fi, .bool d.ol, .bool d.he, .int .i64 d.la, .slice a.aA d.A.length a.cA, .slice a.aB d.C.length a.cB, .slice a.co 3 a.coc, .slice a.so 3 a.sc, .slice a.cp 3 a.cpc, .slice a.wt d.wt.length a.wtc]) := by show _ = _; unfold nv nds; rw [h1, h2, h3]
  clear HP HP0 HV
  rw [HE.out]
  rw [show (nds a d) = _ from rfl] at hW
  unfold nds at hW
  rw [h1, h2, h3] at hW
  rw [h1] at p12
  rw [h2] at p13
  rw [h3] at p14
  clear h1 h2 h3
  go_enter Tryz.func151, Tryz.ntmps151
  go_wp2_with fail
  rw [← hW]
  clear hW p0 p1 p2 p3 p4 p5 p6 p7 p8 p9 p10 p11 p12 p13 p14 p15
  go_loopw [3, 20] (fun _ i wr => ∃ k : Nat, k ≤ 3 ∧ i = .int .i64 k ∧ Hid ((∀ j, j < k → LkOk d.id d.up d.co d.cp d.S j) ∧ Below w.heap.size w wr ∧ NB wr w.heap.size 31 a d)) (fun _ i _ => 3 - (intOf i).toNat)
  case atStart => exact ⟨0, by omega, rfl, (fun j hj => absurd hj (by omega)), H0.out⟩
  case round =>
    obtain ⟨k, hk, rfl, HI⟩ := hrel
    by_cases hlt : k < 3
    · obtain ⟨p0, p1, p2, p3, p4, p5, p6, p7, p8, p9, p10, p11, p12, p13, p14, p15⟩ := HI.out.2.2.cells
      rw [H1.out] at p12
      rw [H2.out] at p13
      have hcall := hide (HC.out k wr hlt HI.out.2.1)
      rw [HE.out] at hcall
      have e14 : d.cp.length = 3 := by
        have h := HE.out
        unfold nv nds at h
        simp only [Value.agg.injEq] at h
        have h2 := congrArg (fun x : Array Value => x[14]?) h
        simpa using h2
      rw [e14] at p14
      clear e14
      go_wp2_with fail
      refine hcall.out.mono ?_
      rintro e w1 ⟨h, b1⟩
      have HN : Hid (Below w.heap.size w w1 ∧ NB w1 w.heap.size 31 a d) := ⟨HI.out.2.1.trans (b1.mono HI.out.2.1.size), HI.out.2.2.b b1⟩
      clear b1 hcall p0 p1 p2 p3 p4 p5 p6 p7 p8 p9 p10 p11 p12 p13 p14 p15
      rcases h with ⟨hy, rfl⟩ | ⟨hy, rfl⟩
      · have HR : Hid (∀ j, j < k + 1 → LkOk d.id d.up d.co d.cp d.S j) := fun j hj => by
          by_cases e : j = k
          · subst e; exact hy
          · exact HI.out.1 j (by omega)
        clear hy HI
        go_wp2
        go_roundw
        case rel => exact ⟨k + 1, by omega, by go_num, HR.out, HN.out⟩
        case measure => simp [intOf]; omega
      · have HX : Hid (¬ P) := fun h => hy (HPn.out h k hlt)
        clear hy HI
        go_wp2
        go_ret
        exact ⟨.inr ⟨HX.out, rfl⟩, HN.out.1⟩
    · obtain rfl : k = 3 := by omega
      go_wp2
      go_ret
      exact ⟨.inl ⟨HPy.out HI.out.1, rfl⟩, HI.out.2.1⟩
end Go.Proofs.YtkndnndildnbpaaGreatDoor

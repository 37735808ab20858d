/- What a right node is. -/
import Derived.Test.YtkndnndildnbpaaGreatDoorNdMZ
import Derived.Test.YtkndnndildnbpaaGreatDoorGs
import Derived.Test.YtkndnndildnbpaaGreatDoorGk

namespace Go.Proofs.YtkndnndildnbpaaGreatDoor
open Go.ChangeShapes Go.WideShapes Go.ChangeAt Go.RowKit
set_option linter.unusedVariables false
set_option linter.unusedSimpArgs false
set_option maxRecDepth 100000

/-- What a line of a node may be. -/
def LkOk (id : Int) (up : Bool) (co cp : List Bool) (S : Nat → List Int) (k : Nat) : Prop :=
  KOk (S k) ∧ (0 < (S k).length → cp.getD k false = true) ∧ (cp.getD k false = true → co.getD k false = true) ∧ (co.getD k false = true → up = true ∧ (k : Int) ≠ id)
def LnOk (id : Int) (up : Bool) (co cp : List Bool) (m : Nat) (S : Nat → List Int) : Prop :=
  co.length = 3 ∧ m = 3 ∧ cp.length = 3 ∧ ∀ k, k < 3 → LkOk id up co cp S k
/-- The writes that wait. -/
def WIn (f : Nat → Int) (n : Nat) : Prop := (∀ i, i < n → 1 ≤ f i ∧ f i ≤ 200) ∧ ∀ i, 1 ≤ i → i < n → f (i - 1) < f i
/-- The slots tell the meta. -/
def KpM (A C : List Int) (g : List Int) (n : Nat) (L : Nat → List Int) (fi ol he : Bool) (la : Int) : Prop :=
  ∃ g' L' fi' ol' he' la' q, SlIs ((latL Classical.propDecidable) A C) g' L' fi' ol' he' la' q ∧ SmM g' 3 L' fi' ol' he' la' g n L fi ol he la
def PrOk (id : Int) (up pr : Bool) : Prop := pr = true → up = true ∧ id ≠ 2
def NOk (d : Nd) : Prop :=
  (0 ≤ d.id ∧ d.id ≤ 2) ∧ IOk (fun i => d.im.getD i 0) d.im.length ∧ MtOk d.g d.n d.L d.ol d.he d.la ∧ LnOk d.id d.up d.co d.cp d.m d.S ∧ PrOk d.id d.up d.pr ∧ (0 < d.wt.length → d.up = true) ∧ WIn (fun i => d.wt.getD i 0) d.wt.length ∧ KpM d.A d.C d.g d.n d.L d.fi d.ol d.he d.la
/-- What the slots tell is right. -/
theorem KpM.ok {A C g : List Int} {n : Nat} {L : Nat → List Int} {fi ol he : Bool} {la : Int} (h : KpM A C g n L fi ol he la) : MtOk g n L ol he la := by
  obtain ⟨g', L', fi', ol', he', la', q, ⟨h1, _⟩, h2, rfl, _, rfl, rfl, rfl, h3⟩ := h
  subst h2
  exact ⟨h1.1, ⟨rfl, fun i hi => by rw [← h3 i hi]; exact h1.2.1.2 i hi⟩, h1.2.2⟩
theorem slb_cell {w : World} {ao : Option Addr} {n : Nat} {f : Nat → Bool} (h : SLb w ao n f) {k : Nat} (hk : k < n) : ∃ b off, ao = some ⟨b, off, none⟩ ∧ w.cell? ⟨b, off + k, none⟩ = some (.bool (f k)) := by
  obtain ⟨b, off, e, _, hc⟩ := h k hk
  exact ⟨b, off, e, hc⟩

set_option maxHeartbeats 4000000 in
theorem links_spec (a : Na) (d : Nd) (w : World) (hd : NBd d) (hv : NV w a d) :
    Calls Tryz.prog 145 #[nv a d] w fun e w' => Tells w w' e (LnOk d.id d.up d.co d.cp d.m d.S) := by
  obtain ⟨id, up, pr, im, g, n, L, fi, ol, he, la, A, C, co, m, S, cp, wt⟩ := d
  obtain ⟨aim, imc, go, gc, bo, bc, aA, cA, aB, cB, aco, coc, aso, sc, acp, cpc, awt, wtc⟩ := a
  obtain ⟨W, hW⟩ : ∃ W, W = w.alloc (.cells (nds ⟨aim, imc, go, gc, bo, bc, aA, cA, aB, cB, aco, coc, aso, sc, acp, cpc, awt, wtc⟩ ⟨id, up, pr, im, g, n, L, fi, ol, he, la, A, C, co, m, S, cp, wt⟩) 31) := ⟨_, rfl⟩
  have HB : Hid (Below w.heap.size w W) := by rw [hW]; exact bal1 _ _
  have hN : NB W w.heap.size 31 ⟨aim, imc, go, gc, bo, bc, aA, cA, aB, cB, aco, coc, aso, sc, acp, cpc, awt, wtc⟩ ⟨id, up, pr, im, g, n, L, fi, ol, he, la, A, C, co, m, S, cp, wt⟩ := by rw [hW]; exact NB.new _ _ _ _
  obtain ⟨p0, p1, p2, p3, p4, p5, p6, p7, p8, p9, p10, p11, p12, p13, p14, p15⟩ := hN.cells
  have hv' := hv.below HB.out
  have HCo := hide hv'.2.2.2.1.1
  have HCp := hide hv'.2.2.2.2.2.1.1
  have HS := hide hv'.2.2.2.2.1.1
  have HL := hide hd.2.2.2.2.1.2
  clear hv hv' hd hN
  dsimp only at *
  unfold nv
  unfold nds at hW ⊢
  dsimp only at hW ⊢
  suffices hz : ∀ P : Prop, (P ↔ (co.length = 3 ∧ m = 3 ∧ cp.length = 3 ∧ ∀ k, k < 3 → LkOk id up co cp S k)) → Calls _ _ _ _ fun e w' => Tells w w' e P from hz _ Iff.rfl
  intro P hP0
  have HP := hide hP0
  clear hP0
  generalize hlc : co.length = lc at *
  generalize hlp : cp.length = lp at *
  clear hlc hlp
  by_cases h1 : lc = 3
  case neg =>
    have hno : Hid (¬ P) := fun h => h1 (HP.out.1 h).1
    have hd1 : ((lc : Int) == 3) = false := by simp; omega
    have hd2 : ((lc : Int) != 3) = true := by simp; omega
    clear h1
    go_enter Tryz.func145, Tryz.ntmps145
    go_wp2_with fail
    rw [← hW]
    go_ret
    exact ⟨.inr ⟨hno.out, rfl⟩, HB.out⟩
  subst h1
  by_cases h1 : m = 3
  case neg =>
    have hno : Hid (¬ P) := fun h => h1 (HP.out.1 h).2.1
    have hd1 : ((m : Int) == 3) = false := by simp; omega
    have hd2 : ((m : Int) != 3) = true := by simp; omega
    clear h1
    go_enter Tryz.func145, Tryz.ntmps145
    go_wp2_with fail
    rw [← hW]
    go_ret
    exact ⟨.inr ⟨hno.out, rfl⟩, HB.out⟩
  subst h1
  by_cases h1 : lp = 3
  case neg =>
    have hno : Hid (¬ P) := fun h => h1 (HP.out.1 h).2.2.1
    have hd1 : ((lp : Int) == 3) = false := by simp; omega
    have hd2 : ((lp : Int) != 3) = true := by simp; omega
    clear h1
    go_enter Tryz.func145, Tryz.ntmps145
    go_wp2_with fail
    rw [← hW]
    go_ret
    exact ⟨.inr ⟨hno.out, rfl⟩, HB.out⟩
  subst h1

  have HPy : Hid ((∀ k, k < 3 → LkOk id up co cp S k) → P) := fun h => HP.out.2 ⟨rfl, rfl, rfl, h⟩
  have HPn : Hid (P → ∀ k, k < 3 → LkOk id up co cp S k) := fun h => (HP.out.1 h).2.2.2
  clear HP
  go_enter Tryz.func145, Tryz.ntmps145
  go_wp2_with fail
  rw [← hW]
  clear hW
  go_loopw [3] (fun i wr => ∃ k : Nat, k ≤ 3 ∧ i = .int .i64 k ∧ Hid (∀ j, j < k → LkOk id up co cp S j) ∧ ∃ q, wr = W.drewN q) (fun i _ => 3 - (intOf i).toNat)
  case atStart => exact ⟨0, by omega, rfl, (fun j hj => absurd hj (by omega)), 0, rfl⟩
  case round =>
    obtain ⟨k, hk, rfl, A0, q, rfl⟩ := hrel
    by_cases hlt : k < 3
    · obtain ⟨b1, o1, rfl, c1⟩ := slb_cell HCo.out hlt
      obtain ⟨b2, o2, rfl, c2⟩ := slb_cell HCp.out hlt
      obtain ⟨b3, o3, ro, rc, rfl, c3, hrc, hsl⟩ := HS.out k hlt
      have hcall := hide (marksok_spec ro (S k).length rc _ (W.drewN q) (HL.out k hlt) hsl)
      have HK : Hid (LkOk id up co cp S k ↔ KIn (fun i => (S k).getD i 0) (S k).length ∧ (0 < (S k).length → cp.getD k false = true) ∧ (cp.getD k false = true → co.getD k false = true) ∧ (co.getD k false = true → up = true ∧ (k : Int) ≠ id)) := (show _ ↔ _ from Iff.rfl)
      generalize KIn (fun i => (S k).getD i 0) (S k).length = KK at *
      generalize (S k).length = l at *
      generalize co.getD k false = c at *
      generalize cp.getD k false = p at *
      clear hsl hrc
      go_wp2_with fail
      refine hcall.out.mono ?_
      rintro e w1 ⟨⟨b, rfl, hb⟩, q1, rfl⟩
      have HBq : Hid (Below w.heap.size w (W.drewN (q + q1))) := Below.drawn HB.out (q + q1)
      have HKb : Hid (LkOk id up co cp S k ↔ b = true ∧ (0 < l → p = true) ∧ (p = true → c = true) ∧ (c = true → up = true ∧ (k : Int) ≠ id)) := (show _ ↔ _ from by rw [HK.out, hb])
      have HF : Hid (¬ (b = true ∧ (0 < l → p = true) ∧ (p = true → c = true) ∧ (c = true → up = true ∧ (k : Int) ≠ id)) → ¬ P) := fun h hp => h (HKb.out.1 (HPn.out hp k hlt))
      have HT : Hid (b = true → (0 < l → p = true) → (p = true → c = true) → (c = true → up = true ∧ (k : Int) ≠ id) → ∀ j, j < k + 1 → LkOk id up co cp S j) := fun h1 h2 h3 h4 j hj => by
        by_cases e : j = k
        · subst e; exact HKb.out.2 ⟨h1, h2, h3, h4⟩
        · exact A0.out j (by omega)
      clear hb HK HKb hcall
      cases b with
      | false =>
        go_wp2
        go_ret
        exact ⟨.inr ⟨HF.out (by simp), rfl⟩, HBq.out⟩
      | true =>
        by_cases hg : (0 < l → p = true) ∧ (p = true → c = true) ∧ (c = true → up = true ∧ (k : Int) ≠ id)
        · have HG := hide (HT.out rfl hg.1 hg.2.1 hg.2.2)
          clear HF HT
          rcases Nat.eq_zero_or_pos l with hl | hl
          · subst hl
            cases p <;> cases c <;> cases up
            all_goals by_cases hid : (k : Int) = id
            all_goals first | (exfalso; revert hg; simp [hid]; done) | skip
            all_goals clear hg
            all_goals first | (have he : ((k : Int) == id) = true := by simpa using hid) | (have he : ((k : Int) == id) = false := by simpa using hid)
            all_goals clear hid
            all_goals
              go_wp2
              go_roundw
              case rel => exact ⟨k + 1, by omega, by go_num, HG.out, _, rfl⟩
              case measure => simp [intOf]; omega
          · cases p <;> cases c <;> cases up
            all_goals by_cases hid : (k : Int) = id
            all_goals first | (exfalso; revert hg; simp [hid, hl]; done) | skip
            all_goals clear hg
            all_goals first | (have he : ((k : Int) == id) = true := by simpa using hid) | (have he : ((k : Int) == id) = false := by simpa using hid)
            all_goals clear hid
            all_goals
              go_wp2
              go_roundw
              case rel => exact ⟨k + 1, by omega, by go_num, HG.out, _, rfl⟩
              case measure => simp [intOf]; omega
        · have HG : Hid (¬ P) := HF.out (fun h => hg h.2)
          clear HF HT
          rcases Nat.eq_zero_or_pos l with hl | hl
          · subst hl
            cases p <;> cases c <;> cases up
            all_goals by_cases hid : (k : Int) = id
            all_goals first | (exfalso; revert hg; simp [hid]; done) | skip
            all_goals clear hg
            all_goals first | (have he : ((k : Int) == id) = true := by simpa using hid) | (have he : ((k : Int) == id) = false := by simpa using hid)
            all_goals clear hid
            all_goals
              go_wp2
              go_ret
              exact ⟨.inr ⟨HG.out, rfl⟩, HBq.out⟩
          · cases p <;> cases c <;> cases up
            all_goals by_cases hid : (k : Int) = id
            all_goals first | (exfalso; revert hg; simp [hid, hl]; done) | skip
            all_goals clear hg
            all_goals first | (have he : ((k : Int) == id) = true := by simpa using hid) | (have he : ((k : Int) == id) = false := by simpa using hid)
            all_goals clear hid
            all_goals
              go_wp2
              go_ret
              exact ⟨.inr ⟨HG.out, rfl⟩, HBq.out⟩
    · obtain rfl : k = 3 := by omega
      go_wp2
      go_ret
      exact ⟨.inl ⟨HPy.out A0.out, rfl⟩, Below.drawn HB.out q⟩
theorem OKm.congr {w : World} {B T : Nat} {go : Option Addr} {gc : Nat} {bo : Option Addr} {bc : Nat} {g : List Int} {n : Nat} {L L' : Nat → List Int} (h : OKm w B T go gc bo bc g n L) (e : ∀ i, i < n → L i = L' i) : OKm w B T go gc bo bc g n L' := by
  obtain ⟨hT, hb, R, ho, hs⟩ := h
  refine ⟨hT, hb, R, ho.congr (fun i hi => ?_), hs.lens (fun i hi => by rw [e i hi])⟩
  match i with
  | 0 => rfl
  | i + 1 => exact e i (by omega)
/-- Whatever is asked: both functions answer the same, each in memory of its own. -/
theorem slots_both (A C : List Int) : ∃ (g : List Int) (n : Nat) (L : Nat → List Int) (fi ol he : Bool) (la x : Int) (b : Bool), (g.length + (n + psum L n) ≤ 1000) ∧
    (∀ W aA cA aB cB, VBy W aA cA A → VBy W aB cB C → Calls Tryz.prog 133 #[.agg #[.slice aA A.length cA, .slice aB C.length cB]] W fun e w' => ∃ go bo gc bc, e = .returned (.tuple #[.agg #[.slice go g.length gc, .slice bo n bc, .bool fi, .bool ol, .bool he, .int .i64 la], .int .i64 x, .bool b]) ∧ OKm w' W.heap.size w'.heap.size go gc bo bc g n L ∧ Below W.heap.size W w') ∧
    (∀ W aA cA aB cB, ErrT W → VBy W aA cA A → VBy W aB cB C → Calls Tryz.prog 210 #[.agg #[.slice aA A.length cA, .slice aB C.length cB]] W fun e w' => ∃ go bo gc bc, e = .returned (.tuple #[.agg #[.slice go g.length gc, .slice bo n bc, .bool fi, .bool ol, .bool he, .int .i64 la], .int .i64 x, .bool b]) ∧ OKm w' W.heap.size w'.heap.size go gc bo bc g n L ∧ Below W.heap.size W w') ∧
    (∀ g2 n2 L2 fi2 ol2 he2 la2, KpM A C g2 n2 L2 fi2 ol2 he2 la2 ↔ b = true ∧ SmM g n L fi ol he la g2 n2 L2 fi2 ol2 he2 la2) ∧ (b = true → MtOk g n L ol he la) := by
  by_cases hB : Whole ((latL Classical.propDecidable) A C)
  · obtain ⟨g, L, fi, ol, he, la, x, hB⟩ := hB
    obtain ⟨h1, _, h2, _⟩ := mtok_g hB.1
    refine ⟨g, 3, L, fi, ol, he, la, x, true, ?_, fun W aA cA aB cB hA hC => (slotget_spec aA aB cA cB A C W hA hC).mono ?_, fun W aA cA aB cB hg hA hC => (slotget_impl aA aB cA cB A C W hg hA hC).mono ?_, fun g2 n2 L2 fi2 ol2 he2 la2 => ⟨fun ⟨g', L', fi', ol', he', la', q, h3, h4⟩ => ?_, fun h3 => ⟨g, L, fi, ol, he, la, x, hB, h3.2⟩⟩, fun _ => hB.1⟩
    rotate_right 1
    · obtain ⟨rfl, eL, rfl, rfl, rfl, rfl, rfl⟩ := sl_one h3 hB
      exact ⟨rfl, h4.1, h4.2.1, h4.2.2.1, h4.2.2.2.1, h4.2.2.2.2.1, h4.2.2.2.2.2.1, fun i hi => by rw [← eL i hi]; exact h4.2.2.2.2.2.2 i hi⟩
    · have a0 := h2 0 (by omega)
      have a1 := h2 1 (by omega)
      have a2 := h2 2 (by omega)
      simp only [psum]
      omega
    all_goals
      rintro e w' ⟨h, hb⟩
      rcases h with ⟨g', L', fi', ol', he', la', x', go, bo, gc, bc, hB', rfl, ho⟩ | ⟨hno, _⟩
      · obtain ⟨rfl, eL, rfl, rfl, rfl, rfl, rfl⟩ := sl_one hB' hB
        exact ⟨go, bo, gc, bc, rfl, OKm.congr ho eL, hb⟩
      · exact absurd ⟨g, L, fi, ol, he, la, x, hB⟩ hno
  · refine ⟨[], 0, fun _ => [], false, false, false, 0, 0, false, by simp [psum], fun W aA cA aB cB hA hC => (slotget_spec aA aB cA cB A C W hA hC).mono ?_, fun W aA cA aB cB hg hA hC => (slotget_impl aA aB cA cB A C W hg hA hC).mono ?_, fun g2 n2 L2 fi2 ol2 he2 la2 => ⟨fun ⟨g', L', fi', ol', he', la', q, h3, h4⟩ => absurd ⟨g', L', fi', ol', he', la', q, h3⟩ hB, fun h3 => absurd h3.1 (by simp)⟩, fun h3 => absurd h3 (by simp)⟩
    all_goals
      rintro e w' ⟨h, hb⟩
      rcases h with ⟨g', L', fi', ol', he', la', x', go, bo, gc, bc, hB', _⟩ | ⟨_, rfl⟩
      · exact absurd ⟨g', L', fi', ol', he', la', x', hB'⟩ hB
      · exact ⟨none, none, 0, 0, rfl, none_ok hb.size, hb⟩
end Go.Proofs.YtkndnndildnbpaaGreatDoor

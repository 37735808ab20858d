/- Unpack of the program. -/
import Derived.Test.YtkeojhnifnkpiaaULZ
import Derived.Test.YtkeojhnifnkpiaaLzQZ

namespace Go.Proofs.Ytkeojhnifnkpiaa
open Go.ChangeShapes Go.WideShapes Go.ChangeAt Go.RowKit
set_option linter.unusedVariables false
set_option linter.unusedSimpArgs false
set_option maxRecDepth 100000

def v4own (v : Value) (H : Nat) : Prop := ∀ k, v.ownBlock = some k → k < H
/-- What readMsgs hands back. -/
def RsOut (w w' : World) (n : Nat) (f : Nat → Int) (e : Ending) : Prop :=
  ((∃ M k v R, All n f M k ∧ e = .returned (.tuple #[v, .bool true]) ∧ UL w' w.heap.size v k M R) ∨ ((¬ ∃ M k, All n f M k) ∧ e = .returned (.tuple #[.slice none 0 0, .bool false]))) ∧ Below w.heap.size w w'

set_option maxHeartbeats 1000000 in
theorem readmsgs_impl (ao : Option Addr) (n cap : Nat) (f : Nat → Int) (w : World) (hn : n ≤ 3000) (hcap : n ≤ cap) (hs : SL .u8 w ao n f) (hf : ∀ i, i < n → 0 ≤ f i ∧ f i ≤ 255) :
    Calls Try.prog 91 #[.slice ao n cap] w fun e w' => RsOut w w' n f e := by
  obtain ⟨i0, hi, hz0, hz1, hz2⟩ := info_parts Try.info26
  have HS := hide hs
  have HF := hide hf
  clear hs hf
  go_enter Try.func91, Try.ntmps91
  go_wp2
  go_loopw [4, 5, 6, 7, 8] (fun v y _ _ _ wr => ∃ (j l : Nat) (M : Nat → Mg) (R : Nat → Option Addr × Nat), y = .int .i64 l ∧ Hid (l = (frs M j).length) ∧ Hid (Prs n f M j) ∧ Hid (UL wr w.heap.size v j M R ∧ Below w.heap.size w wr)) (fun _ y _ _ _ _ => n - (intOf y).toNat)
  case atStart => exact ⟨0, 0, fun _ => mg0, fun _ => (none, 0), rfl, rfl, fun i hi => absurd hi (Nat.not_lt_zero _), UL.nil, Below.refl _ _⟩
  case round =>
    obtain ⟨j, l, M, R, rfl, HL, HP, HI⟩ := hrel
    have hle := HP.out.le
    rw [← HL.out] at hle
    by_cases hlt : l < n
    · have hcall := hide (msgof_impl ao n cap (l : Int) f wr (by omega) hcap (by omega) (by omega) (HS.out.below HI.out.2) HF.out)
      go_wp2_with fail
      refine hcall.out.mono ?_
      rintro e w3 ⟨h3, b3⟩
      have HI3 := hide (And.intro (HI.out.1.below b3) (HI.out.2.trans (b3.mono HI.out.2.size)))
      rcases h3 with ⟨k, c, v, d, G, ro, rc, hB, rfl, hrc, hO⟩ | ⟨hno, rfl⟩
      · have HB : Hid (BgM n f (l : Int) ⟨k, c, v, d, G⟩) := hB
        have hln := bgm_len HB.out
        have hbl : Hid (v4own u4 wr.heap.size) := fun k hk => (World.ownsRow.lt HI.out.1.1 k hk).2
        have hbg : Hid (∀ i, i < j → ∀ γ, (R i).1 = some ⟨γ, 0, none⟩ → 0 < (M i).g.length → γ < wr.heap.size) := fun i hi γ e hp => (HI.out.1.2 i hi).2 γ e hp |>.1.1
        have hB3 : Hid (w.heap.size ≤ wr.heap.size ∧ wr.heap.size ≤ w3.heap.size) := ⟨HI.out.2.size, b3.size⟩
        have HO := hide hO
        have hmb : Hid (mb k c v d (fun i => G.getD i 0) G.length = mby ⟨k, c, v, d, G⟩) := rfl
        rw [hmb.out]
        generalize hml : (mby ⟨k, c, v, d, G⟩).length = ml at *
        have HML := hide hml
        clear hml hB hO hcall b3 HI hmb
        obtain ⟨W, hW⟩ : ∃ W, W = (w3.alloc (.cells #[.int .i64 k, .int .i64 c, .int .i64 v, .int .i64 d, .slice ro G.length rc] 40)).alloc (.cells #[.int .i64 k, .int .i64 c, .int .i64 v, .int .i64 d, .slice ro G.length rc] 40) := ⟨_, rfl⟩
        have bW : Below w3.heap.size w3 W := by rw [hW]; exact ((Below.refl _ _).alloc (Nat.le_refl _) _).alloc (by simp) _
        have HW : Hid (UL W w.heap.size u4 j M R ∧ Below w.heap.size w W ∧ Own W wr.heap.size 3 ro G.length (fun i => .int .i64 (G.getD i 0)) ∧ wr.heap.size ≤ W.heap.size) := ⟨HI3.out.1.below bW, HI3.out.2.trans (bW.mono HI3.out.2.size), HO.out.below bW, Nat.le_trans hB3.out.2 bW.size⟩
        have HN : Hid (∀ t u, (mcell ⟨k, c, v, d, G⟩ (ro, rc))[t]? = some u → W.cell? ((⟨w3.heap.size + 1, 0, none⟩ : Addr).add t) = some u) := fun t u ht => by
          rw [hW]
          have := gcells (w3.alloc (.cells #[.int .i64 k, .int .i64 c, .int .i64 v, .int .i64 d, .slice ro G.length rc] 40)) (mcell ⟨k, c, v, d, G⟩ (ro, rc)) 40 t u ht
          rw [show (w3.alloc (.cells #[.int .i64 k, .int .i64 c, .int .i64 v, .int .i64 d, .slice ro G.length rc] 40)).heap.size = w3.heap.size + 1 by simp] at this
          exact this
        have h1c : ∀ u ∈ mcell ⟨k, c, v, d, G⟩ (ro, rc), u.oneCell' = true := by
          intro u hu
          simp only [mcell, List.mem_cons, List.not_mem_nil, or_false] at hu
          rcases hu with rfl | rfl | rfl | rfl | rfl <;> rfl
        have hjb : j ≤ 3000 := by omega
        clear bW HI3 HO
        go_wp2_with (first
          | (at_builtin; rw [← hW]; refine wpList_append_lies _ rfl _ _ 47 rfl w.heap.size 40 i0 (.agg #[.int .i64 0, .int .i64 0, .int .i64 0, .int .i64 0, .slice none 0 0]) 5 56 Try.underlying47 hi hz0 hz1 hz2 rfl (by decide) _ _ _ rfl HW.out.1.1 ⟨w3.heap.size + 1, 0, none⟩ 1 1 (mcell ⟨k, c, v, d, G⟩ (ro, rc)) rfl rfl HN.out h1c (by decide) (by unfold maxLen; omega) (by omega) HW.out.2.1.size _ rfl ?_; intro g4 c4 w4 hown4 hgrow4 hat4 hlt4))
        have R4 := hide (HW.out.1.push (H := wr.heap.size) (m := ⟨k, c, v, d, G⟩) (r := (ro, rc)) hbl.out hbg.out hB3.out.1 hrc HW.out.2.2.1 hown4 hgrow4 hat4)
        have B4 : Hid (Below w.heap.size w w4) := HW.out.2.1.grown hgrow4 HW.out.2.1.size (fun k hk => (World.ownsRow.lt HW.out.1.1 k hk).1)
        clear hown4 hgrow4 hat4
        go_wp2
        go_roundw
        case rel =>
          refine ⟨j + 1, l + ml, setM M j ⟨k, c, v, d, G⟩, setR R j (ro, rc), by go_num, ?_, HP.out.step (by rw [← HL.out]; exact HB.out), R4.out, B4.out⟩
          show _ = _
          rw [frs_set, List.length_append, HL.out, HML.out]
        case measure => simp [intOf]; omega
      · have HN : Hid (¬ ∃ M k, All n f M k) := all_no HP.out (by rw [← HL.out]; exact hlt) (fun ⟨m, hm⟩ => hno ⟨m.k, m.c, m.v, m.h, m.g, by rw [HL.out]; exact hm⟩)
        clear hno hcall b3 HI
        go_wp2
        go_ret2
        exact ⟨.inr ⟨HN.out, rfl⟩, (HI3.out.2.alloc HI3.out.2.size _)⟩
    · obtain rfl : l = n := by omega
      go_wp2
      go_ret2
      exact ⟨.inl ⟨M, j, _, R, ⟨HP.out, HL.out.symm⟩, rfl, HI.out.1⟩, HI.out.2⟩

/-- What Unpack hands back. -/
def UpOut (w w' : World) (L : List Int) (e : Ending) : Prop :=
  ((∃ M k ao cap R, Upk L M k ∧ e = .returned (.tuple #[.slice ao k cap, .bool true]) ∧ UL w' w.heap.size (.slice ao k cap) k M R) ∨
   ((¬ ∃ M k, Upk L M k) ∧ ∃ ao cap, e = .returned (.tuple #[.slice ao 0 cap, .bool false]))) ∧ Below w.heap.size w w'
theorem all_gens {n : Nat} {f : Nat → Int} {M : Nat → Mg} {k : Nat} (h : Prs n f M k) : ∀ i, i < k → (M i).g.length ≤ 12 := fun i hi => (mok_bd (h i hi).2.1).1

theorem pck_byte (M : Nat → Mg) (k : Nat) : ∀ z ∈ pck M k, 0 ≤ z ∧ z ≤ 255 := by
  intro z hz
  unfold pck squeeze at hz
  split at hz
  · cases hz
  · exact sqz_byte _ _ _ _ (fun i hi => frs_byte M k _ (getD_mem _ i hi)) z hz

set_option maxHeartbeats 1000000 in
theorem unpack_impl (ao : Option Addr) (n cap : Nat) (f : Nat → Int) (w : World) (hn : n ≤ 1048576) (hs : SL .u8 w ao n f) (hf : ∀ i, i < n → 0 ≤ f i ∧ f i ≤ 255) :
    Calls Try.prog 34 #[.slice ao n cap] w fun e w' => UpOut w w' (bl f n) e := by
  have HS := hide hs
  have HF := hide hf
  have hsp := hide (spread_impl ao n cap f w hn hs hf)
  clear hs hf
  cases hsL : spread (bl f n) with
  | none =>
    have HN : Hid (¬ ∃ M k, Upk (bl f n) M k) := fun ⟨M, k, F, e, _⟩ => by rw [hsL] at e; cases e
    go_enter Try.func34, Try.ntmps34
    go_wp2_with fail
    refine hsp.out.mono ?_
    rintro e w1 ⟨⟨ro, rc, rfl, _⟩, b1⟩
    simp only [hsL, Option.getD_none, Option.isSome_none, List.length_nil]
    have B1 := hide b1
    clear b1 hsp hsL
    go_wp2
    go_ret2
    exact ⟨.inr ⟨HN.out, _, _, rfl⟩, B1.out⟩
  | some F =>
    have hF := spread_le hsL
    have hFb : Hid (∀ z ∈ F, 0 ≤ z ∧ z ≤ 255) := spread_bytes HF.out hsL
    go_enter Try.func34, Try.ntmps34
    go_wp2_with fail
    refine hsp.out.mono ?_
    rintro e w1 ⟨⟨ro, rc, rfl, ho1, hrc0⟩, b1⟩
    simp only [hsL, Option.getD_some, Option.isSome_some] at ho1 hrc0 ⊢
    have H1 : Hid (SL .u8 w1 ro F.length (fun i => F.getD i 0) ∧ Below w.heap.size w w1) := ⟨ho1.sl, b1⟩
    have hFf : Hid (∀ i, i < F.length → 0 ≤ F.getD i 0 ∧ F.getD i 0 ≤ 255) := fun i hi => hFb.out _ (getD_mem _ i hi)
    have hrc : F.length ≤ rc := hrc0
    have hcall := hide (readmsgs_impl ro F.length rc (fun i => F.getD i 0) w1 hF hrc H1.out.1 hFf.out)
    have HSL := hide hsL
    clear ho1 b1 hsp hsL
    go_wp2_with fail
    refine hcall.out.mono ?_
    rintro e w2 ⟨h2, b2⟩
    have B2 := hide (H1.out.2.trans (b2.mono H1.out.2.size))
    have hsz1 : Hid (w.heap.size ≤ w1.heap.size) := H1.out.2.size
    clear hcall b2
    rcases h2 with ⟨M, k, v, R, hA, rfl, hU⟩ | ⟨hno, rfl⟩
    · obtain ⟨ao2, c2, rfl, hkc, _⟩ := hU.form
      have HU := hide hU
      have HAl := hide hA
      have hk3 : k ≤ 3000 := by have := hA.1.le; have := hA.2; omega
      have hpk := hide (pack_impl ao2 k c2 M w2 (by omega) (fun i hi => by have := all_gens hA.1 i hi; omega) (hU.msl rfl))
      clear hU hA
      go_wp2_with fail
      refine hpk.out.mono ?_
      rintro e w3 ⟨v3, rfl, ho3, b3⟩
      obtain ⟨ao3, c3, rfl⟩ := (Src.of_owns ho3).form
      have hSL3 := (Src.of_owns ho3).slu
      have HU3 := hide (HU.out.below b3)
      have B3 := hide (B2.out.trans (b3.mono B2.out.size))
      obtain ⟨r, hr⟩ := tellsB (pck M k = bl f n)
      have hlen : (bl f n).length = n := bl_len f n
      have heq := bequal_any ao3 ao c3 cap (pck M k) (bl f n) w3 (pck_byte M k) (fun z hz => by
        simp only [bl, List.mem_map, List.mem_range] at hz
        obtain ⟨i, hi, rfl⟩ := hz
        exact HF.out i hi) hSL3 (by
        rw [hlen]
        intro i hi
        obtain ⟨b, off, e, hl, hc⟩ := (HS.out.below B3.out) i hi
        exact ⟨b, off, e, hl, by rw [hc]; simp [bl, List.getD, hi]⟩) r hr
      rw [hlen] at heq
      have HEQ := hide heq
      have HR := hide hr
      clear ho3 b3 hSL3 hpk heq hr hlen
      cases r with
      | true =>
        go_wp2_with fail
        refine HEQ.out.mono ?_
        rintro e w4 ⟨rfl, hw⟩
        rw [hw]
        clear hw HEQ
        go_wp2
        go_ret2
        exact ⟨.inl ⟨M, k, ao2, c2, R, ⟨F, HSL.out, HAl.out, HR.out.1 rfl⟩, rfl, HU3.out.mono hsz1.out⟩, B3.out⟩
      | false =>
        go_wp2_with fail
        refine HEQ.out.mono ?_
        rintro e w4 ⟨rfl, hw⟩
        rw [hw]
        clear hw HEQ
        go_wp2
        go_ret2
        refine ⟨.inr ⟨?_, _, _, rfl⟩, B3.out⟩
        rintro ⟨M', k', F', e1, e2, e3⟩
        rw [HSL.out] at e1
        cases e1
        obtain ⟨rfl, e4⟩ := all_one HAl.out e2
        have : pck M k = bl f n := by rw [← e3]; unfold pck; rw [frs_congr e4]
        exact absurd (HR.out.2 this) (by simp)
    · have HN : Hid (¬ ∃ M k, Upk (bl f n) M k) := fun ⟨M, k, F', e1, e2, _⟩ => by
        rw [HSL.out] at e1
        cases e1
        exact hno ⟨M, k, e2⟩
      clear hno
      go_wp2
      go_ret2
      exact ⟨.inr ⟨HN.out, _, _, rfl⟩, B2.out⟩
end Go.Proofs.Ytkeojhnifnkpiaa

/- DrawPack, DrawMsgOk, DrawMsgBytes, l1DrawNums of the model. -/
import Derived.Test.YtkeojhnifnkpiaaDrawLZ

namespace Go.Proofs.Ytkeojhnifnkpiaa
open Go.ChangeShapes Go.WideShapes Go.ChangeAt Go.RowKit
set_option linter.unusedVariables false
set_option linter.unusedSimpArgs false
set_option maxRecDepth 100000

theorem curw_below {w w1 w2 : World} {ao : Option Addr} {n cap : Nat} {f : Nat → Int} (b1 : Below w.heap.size w w1) (h : CurW w1 w2 w.heap.size ao n cap f) : Below w.heap.size w w2 :=
  b1.grown h.2.1 b1.size (fun k hk => by cases hk; exact Nat.le_refl _)
/-- A message in memory of a call's own. -/
def MsgN (w w' : World) (e : Ending) : Prop := DrM 5 w w' e ∧ Below w.heap.size w w'
theorem DrM.mono {N : Nat} {w w1 w2 : World} {e : Ending} (h : DrM N w1 w2 e) (hB : w.heap.size ≤ w1.heap.size) : DrM N w w2 e := by
  obtain ⟨m, ro, rc, e1, h1, h2⟩ := h
  exact ⟨m, ro, rc, e1, h1, gmono h2 hB⟩

theorem draw_mok (ao : Option Addr) (n cap : Nat) (f : Nat → Int) (w : World) (hn : n ≤ 1048576) (hs : SL .u8 w ao n f) (hf : ∀ i, i < n → 0 ≤ f i ∧ f i ≤ 255) :
    Calls Try.prog 30 #[.slice ao n cap] w fun e w' => MsgN w w' e := by
  have HS := hide hs
  have HF := hide hf
  clear hs hf
  go_enter Try.func30, Try.ntmps30
  go_wp2_with fail
  have ba : Below w.heap.size w (w.alloc (.cells #[.int .i64 0, .int .i64 0, .int .i64 0, .int .i64 0, .slice none 0 0] 40)) := (Below.refl _ _).alloc (Nat.le_refl _) _
  have hM0 := MB.new w 40 0 0 0 0 none 0 0
  have hsz : (w.alloc (.cells #[.int .i64 0, .int .i64 0, .int .i64 0, .int .i64 0, .slice none 0 0] 40)).heap.size = w.heap.size + 1 := by simp
  refine (new_any ao n cap f _ hn (HS.out.below ba) HF.out).mono ?_
  rintro e w1 ⟨rfl, hc, b1⟩
  have H1 : Hid (Cur w1 (w.heap.size + 1) ao n cap f ∧ MB w1 w.heap.size 40 0 0 0 0 none 0 0 ∧ Below w.heap.size w w1 ∧ w.heap.size + 1 ≤ w1.heap.size) := ⟨by rw [← hsz]; exact hc, hM0.below b1 hM0.lt, ba.trans (b1.mono ba.size), by rw [← hsz]; exact b1.size⟩
  rw [hsz]
  clear ba hM0 hsz hc b1
  go_wp2_with fail
  refine (draw4 (w.heap.size + 1) n cap ao f _ H1.out.1).mono ?_
  rintro e w2 ⟨⟨m, ro, rc, rfl, hl5, hO⟩, hcw⟩
  have hM2 : MB w2 w.heap.size 40 0 0 0 0 none 0 0 := (hcw.2.1.block w.heap.size H1.out.2.1.lt (by simp)).trans H1.out.2.1
  have HB2 : Hid (Below w.heap.size w w2) := H1.out.2.2.1.grown hcw.2.1 H1.out.2.2.1.size (fun k hk => by cases hk; omega)
  have HO := hide hO
  have hs1 : Hid (w.heap.size + 1 ≤ w1.heap.size) := H1.out.2.2.2
  obtain ⟨r0, r1, r2, r3, r4⟩ := hM2.cells
  have z0 := hM2.froz
  clear hM2 hO hcw H1
  go_wp2_with fail
  refine bodyPost_ret (v := .agg #[.int .i64 m.k, .int .i64 m.c, .int .i64 m.v, .int .i64 m.h, .slice ro m.g.length rc]) (by simp [results, Try.results30, go_sem, r0, r1, r2, r3, r4]) rfl ⟨⟨m, ro, rc, rfl, hl5, ?_⟩, put5_below (o := 0) _ _ _ _ _ HB2.out (Nat.le_refl _)⟩
  obtain ⟨h1, h2⟩ := HO.out
  refine ⟨h1, ?_⟩
  rcases h2 with h2 | ⟨b, cp, cur, e, hb, hh, r⟩
  · exact .inl h2
  · exact .inr ⟨b, cp, cur, e, by have := hs1.out; omega, (put5_far (o := 0) _ _ _ _ _ (by have := hs1.out; omega)).trans hh, r⟩
theorem draw_mby (ao : Option Addr) (n cap : Nat) (f : Nat → Int) (w : World) (hn : n ≤ 1048576) (hs : SL .u8 w ao n f) (hf : ∀ i, i < n → 0 ≤ f i ∧ f i ≤ 255) :
    Calls Try.prog 25 #[.slice ao n cap] w fun e w' => MsgN w w' e := by
  have HS := hide hs
  have HF := hide hf
  clear hs hf
  go_enter Try.func25, Try.ntmps25
  go_wp2_with fail
  have ba : Below w.heap.size w (w.alloc (.cells #[.int .i64 0, .int .i64 0, .int .i64 0, .int .i64 0, .slice none 0 0] 40)) := (Below.refl _ _).alloc (Nat.le_refl _) _
  have hM0 := MB.new w 40 0 0 0 0 none 0 0
  have hsz : (w.alloc (.cells #[.int .i64 0, .int .i64 0, .int .i64 0, .int .i64 0, .slice none 0 0] 40)).heap.size = w.heap.size + 1 := by simp
  refine (new_any ao n cap f _ hn (HS.out.below ba) HF.out).mono ?_
  rintro e w1 ⟨rfl, hc, b1⟩
  have H1 : Hid (Cur w1 (w.heap.size + 1) ao n cap f ∧ MB w1 w.heap.size 40 0 0 0 0 none 0 0 ∧ Below w.heap.size w w1 ∧ w.heap.size + 1 ≤ w1.heap.size) := ⟨by rw [← hsz]; exact hc, hM0.below b1 hM0.lt, ba.trans (b1.mono ba.size), by rw [← hsz]; exact b1.size⟩
  rw [hsz]
  clear ba hM0 hsz hc b1
  go_wp2_with fail
  refine (draw4 (w.heap.size + 1) n cap ao f _ H1.out.1).mono ?_
  rintro e w2 ⟨⟨m, ro, rc, rfl, hl5, hO⟩, hcw⟩
  have hM2 : MB w2 w.heap.size 40 0 0 0 0 none 0 0 := (hcw.2.1.block w.heap.size H1.out.2.1.lt (by simp)).trans H1.out.2.1
  have HB2 : Hid (Below w.heap.size w w2) := H1.out.2.2.1.grown hcw.2.1 H1.out.2.2.1.size (fun k hk => by cases hk; omega)
  have HO := hide hO
  have hs1 : Hid (w.heap.size + 1 ≤ w1.heap.size) := H1.out.2.2.2
  obtain ⟨r0, r1, r2, r3, r4⟩ := hM2.cells
  have z0 := hM2.froz
  clear hM2 hO hcw H1
  go_wp2_with fail
  refine bodyPost_ret (v := .agg #[.int .i64 m.k, .int .i64 m.c, .int .i64 m.v, .int .i64 m.h, .slice ro m.g.length rc]) (by simp [results, Try.results25, go_sem, r0, r1, r2, r3, r4]) rfl ⟨⟨m, ro, rc, rfl, hl5, ?_⟩, put5_below (o := 0) _ _ _ _ _ HB2.out (Nat.le_refl _)⟩
  obtain ⟨h1, h2⟩ := HO.out
  refine ⟨h1, ?_⟩
  rcases h2 with h2 | ⟨b, cp, cur, e, hb, hh, r⟩
  · exact .inl h2
  · exact .inr ⟨b, cp, cur, e, by have := hs1.out; omega, (put5_far (o := 0) _ _ _ _ _ (by have := hs1.out; omega)).trans hh, r⟩
theorem draw_pack (ao : Option Addr) (n cap : Nat) (f : Nat → Int) (w : World) (hn : n ≤ 1048576) (hs : SL .u8 w ao n f) (hf : ∀ i, i < n → 0 ≤ f i ∧ f i ≤ 255) :
    Calls Try.prog 31 #[.slice ao n cap] w fun e w' => ∃ v k M R, e = .returned v ∧ k ≤ 7 ∧ UL w' w.heap.size v k M R ∧ (∀ i, i < k → (M i).g.length ≤ 5) ∧ Below w.heap.size w w' := by
  obtain ⟨i0, hi, hz0, hz1, hz2⟩ := info_parts Try.info26
  have HS := hide hs
  have HF := hide hf
  clear hs hf
  go_enter Try.func31, Try.ntmps31
  go_wp2_with fail
  refine (new_any ao n cap f _ hn HS.out HF.out).mono ?_
  rintro e w1 ⟨rfl, hc, b1⟩
  have HB := hide b1
  have HC := hide hc
  clear b1 hc
  go_wp2_with fail
  refine (draw4l w.heap.size n cap ao f _ HC.out).mono ?_
  rintro e w2 ⟨v2, k, rfl, hk, hL⟩
  have H2 := hide hL
  clear hL
  go_wp2_with fail
  refine (once_any w.heap.size n cap 5 ao f _ (by decide) (by decide) H2.out.curw).mono ?_
  rintro e w3 ⟨⟨b, rfl⟩, hcur, hgr⟩
  have H3 := hide (H2.out.cur hcur hgr)
  clear hcur hgr H2
  cases b with
  | false =>
    go_wp2
    go_ret
    obtain ⟨M, R, h1, h2, h3⟩ := H3.out
    exact ⟨_, k, M, R, rfl, by omega, h1.mono HB.out.size, h2, curw_below HB.out h3⟩
  | true =>
    go_wp2_with fail
    refine (draw4 w.heap.size n cap ao f _ H3.out.curw).mono ?_
    rintro e w4 ⟨⟨m, ro, rc, rfl, hl5, hO⟩, hcw⟩
    have bW : Below w4.heap.size w4 (w4.alloc (.cells #[.int .i64 m.k, .int .i64 m.c, .int .i64 m.v, .int .i64 m.h, .slice ro m.g.length rc] 40)) := (Below.refl _ _).alloc (Nat.le_refl _) _
    obtain ⟨xs, hx⟩ : ∃ xs, (w4.alloc (.cells #[.int .i64 m.k, .int .i64 m.c, .int .i64 m.v, .int .i64 m.h, .slice ro m.g.length rc] 40)).ownsRow w1.heap.size 40 5 v2 k xs := by
      obtain ⟨M, R, h1, h2, h3⟩ := H3.out
      exact ⟨_, ((h1.cur hcw.2.1 h3.2.2).below bW).1⟩
    have HX := hide hx
    have HCW := hide (And.intro hcw hO)
    have HBW := hide bW
    have HBs : Hid (w1.heap.size ≤ (w4.alloc (.cells #[.int .i64 m.k, .int .i64 m.c, .int .i64 m.v, .int .i64 m.h, .slice ro m.g.length rc] 40)).heap.size) := by
      obtain ⟨M, R, h1, h2, h3⟩ := H3.out
      exact Nat.le_trans h3.2.1.size (Nat.le_trans hcw.2.1.size bW.size)
    have h1c : ∀ u ∈ mcell m (ro, rc), u.oneCell' = true := by
      intro u hu
      simp only [mcell, List.mem_cons, List.not_mem_nil, or_false] at hu
      rcases hu with rfl | rfl | rfl | rfl | rfl <;> rfl
    clear hx hO hcw bW
    go_wp2_with (first
      | (at_builtin; refine wpList_append_lies _ rfl _ _ 47 rfl w1.heap.size 40 i0 (.agg #[.int .i64 0, .int .i64 0, .int .i64 0, .int .i64 0, .slice none 0 0]) 5 56 Try.underlying47 hi hz0 hz1 hz2 rfl (by decide) _ _ _ rfl HX.out ⟨w4.heap.size, 0, none⟩ 1 1 (mcell m (ro, rc)) rfl rfl (gcells w4 (mcell m (ro, rc)) 40) h1c (by decide) (by unfold maxLen; omega) (by omega) HBs.out _ rfl ?_; intro g4 c4 w5 hown4 hgrow4 hat4 hlt4))
    have H4 := hide (DL.push (N := 5) H3.out HCW.out.1 (by omega) HCW.out.2 HBW.out HX.out hown4 hgrow4 hat4)
    clear hown4 hgrow4 hat4 hlt4
    go_wp2
    go_ret
    obtain ⟨M, R, h1, h2, h3⟩ := H4.out
    exact ⟨_, k + 1, M, R, rfl, by omega, h1.mono HB.out.size, h2, curw_below HB.out h3⟩
end Go.Proofs.Ytkeojhnifnkpiaa

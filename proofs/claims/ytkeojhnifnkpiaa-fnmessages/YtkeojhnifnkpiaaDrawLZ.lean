/- l4DrawList, DrawPack, DrawMsgOk, DrawMsgBytes of the model. -/
import Derived.Test.YtkeojhnifnkpiaaDrawM3Z

namespace Go.Proofs.Ytkeojhnifnkpiaa
open Go.ChangeShapes Go.WideShapes Go.ChangeAt Go.RowKit
set_option linter.unusedVariables false
set_option linter.unusedSimpArgs false
set_option maxRecDepth 100000

theorem UL.cur {w w' : World} {B g n : Nat} {v : Value} {M : Nat → Mg} {R : Nat → Option Addr × Nat} (h : UL w B v n M R) (hg : w.grownBy w' (some g)) (hB : g < B) : UL w' B v n M R :=
  ⟨owns_cur h.1 hg hB, fun i hi => ⟨⟨(h.2 i hi).1.1, own_cur (h.2 i hi).1.2 hg hB⟩, fun γ e hp => ⟨⟨Nat.lt_of_lt_of_le ((h.2 i hi).2 γ e hp).1.1 hg.size, ((h.2 i hi).2 γ e hp).1.2⟩, ((h.2 i hi).2 γ e hp).2⟩⟩⟩
/-- A list that the draws build. -/
def DL (w wr : World) (g : Nat) (ao : Option Addr) (n cap : Nat) (f : Nat → Int) (v : Value) (k : Nat) : Prop := ∃ M R, UL wr w.heap.size v k M R ∧ (∀ i, i < k → (M i).g.length ≤ 5) ∧ CurW w wr g ao n cap f
theorem DL.cur {w wr w1 : World} {g k : Nat} {ao : Option Addr} {n cap : Nat} {f : Nat → Int} {v : Value} (h : DL w wr g ao n cap f v k) (hc : Cur w1 g ao n cap f) (hg : wr.grownBy w1 (some g)) : DL w w1 g ao n cap f v k := by
  obtain ⟨M, R, h1, h2, h3⟩ := h
  exact ⟨M, R, h1.cur hg h3.2.2, h2, h3.step hc hg⟩
theorem DL.curw {w wr : World} {g k : Nat} {ao : Option Addr} {n cap : Nat} {f : Nat → Int} {v : Value} (h : DL w wr g ao n cap f v k) : Cur wr g ao n cap f := by
  obtain ⟨M, R, h1, h2, h3⟩ := h
  exact h3.1
theorem DL.own {w wr : World} {g k : Nat} {ao : Option Addr} {n cap : Nat} {f : Nat → Int} {v : Value} (h : DL w wr g ao n cap f v k) : ∃ xs, wr.ownsRow w.heap.size 40 5 v k xs := by
  obtain ⟨M, R, h1, h2, h3⟩ := h
  exact ⟨_, h1.1⟩

/-- Behind an append of a message that a draw has made: w0 is the world ahead of that draw, w1 behind it, W where the append is done. -/
theorem DL.push {w w0 w1 W w2 : World} {g k N : Nat} {ao : Option Addr} {n cap g4 c4 : Nat} {f : Nat → Int} {v : Value} {m : Mg} {ro : Option Addr} {rc : Nat} {xs : List Value} (h : DL w w0 g ao n cap f v k) (hcw : CurW w0 w1 g ao n cap f) (hN : m.g.length ≤ 5) (ho : w1.ownsRow w0.heap.size 3 1 (.slice ro m.g.length rc) m.g.length (m.g.map (.int .i64)))
    (hW : Below w1.heap.size w1 W) (hx : W.ownsRow w.heap.size 40 5 v k xs)
    (hown : w2.ownsRow w.heap.size 40 5 (.slice (some ⟨g4, 0, none⟩) (k + 1) c4) (k + 1) (xs ++ mcell m (ro, rc))) (hg : W.grownBy w2 v.ownBlock) (hat : v.ownBlock = some g4 ∨ g4 = W.heap.size) : DL w w2 g ao n cap f (.slice (some ⟨g4, 0, none⟩) (k + 1) c4) (k + 1) := by
  obtain ⟨M, R, h1, h2, h3⟩ := h
  have hU : UL W w.heap.size v k M R := (h1.cur hcw.2.1 h3.2.2).below hW
  have exs : xs = mcells M R k := by
    rcases hU.1.2 with ⟨e1, e2⟩ | ⟨b, cp, cur, e1, _, hh, _, _, _, ht⟩
    · subst e2
      have := hx.1
      simp at this
      simp [this, mcells]
    · rcases hx.2 with ⟨e3, _⟩ | ⟨b', cp', cur', e3, _, hh', _, _, _, ht'⟩
      · rw [e1] at e3; cases e3
      · rw [e1] at e3; cases e3
        rw [hh] at hh'
        cases hh'
        rw [← ht, ← ht']
  subst exs
  obtain ⟨ro', rc', e, hlc, hO⟩ := Own.of_owns ho
  cases e
  have hO' : Own W w0.heap.size 3 ro m.g.length (fun j => .int .i64 (m.g.getD j 0)) := hO.below hW
  have hp := hU.push (H := w0.heap.size) (m := m) (r := (ro, rc)) (fun t ht => (World.ownsRow.lt h1.1 t ht).2) (fun i hi γ e hp => ((h1.2 i hi).2 γ e hp).1.1) h3.2.1.size hlc.2.1 hO' hown hg hat
  refine ⟨_, _, hp, fun i hi => ?_, ((h3.trans hcw).below hW).app hg (fun t ht => (World.ownsRow.lt hU.1 t ht).1)⟩
  by_cases e : i = k
  · subst e; rw [setM_at]; exact hN
  · rw [← setM_lt M k m i (by omega)]; exact h2 i (by omega)

set_option maxHeartbeats 1000000 in
theorem draw4l (g n cap : Nat) (ao : Option Addr) (f : Nat → Int) (w : World) (hc : Cur w g ao n cap f) :
    Calls Try.prog 88 #[.pointer (some ⟨g, 0, none⟩)] w fun e w' => ∃ v k, e = .returned v ∧ k ≤ 6 ∧ DL w w' g ao n cap f v k := by
  obtain ⟨i0, hi, hz0, hz1, hz2⟩ := info_parts Try.info26
  have HC := hide hc
  clear hc
  go_enter Try.func88, Try.ntmps88
  go_wp2
  go_loopw [3, 4] (fun v i wr => ∃ (k : Nat), k ≤ 6 ∧ i = .int .i64 k ∧ Hid (DL w wr g ao n cap f v k)) (fun _ i _ => 6 - (intOf i).toNat)
  case atStart => exact ⟨0, by omega, rfl, fun _ => mg0, fun _ => (none, 0), UL.empty (Nat.le_refl _), fun i hi => absurd hi (Nat.not_lt_zero _), (CurW.refl HC.out).alloc _⟩
  case round =>
    obtain ⟨k, hk, rfl, HI⟩ := hrel
    go_wp2_with fail
    refine (below_any g n cap 6 ao f _ (by decide) (by decide) HI.out.curw).mono ?_
    rintro e w1 ⟨⟨x, rfl, hx0, hx1⟩, hcur, hgr⟩
    have H1 := hide (HI.out.cur hcur hgr)
    clear hcur hgr HI
    by_cases hlt : (k : Int) < x
    · go_wp2_with fail
      refine (draw4r g n cap ao f _ H1.out.curw).mono ?_
      rintro e w2 ⟨⟨m, ro, rc, rfl, hl5, hO⟩, hcw⟩
      have bW : Below w2.heap.size w2 (w2.alloc (.cells #[.int .i64 m.k, .int .i64 m.c, .int .i64 m.v, .int .i64 m.h, .slice ro m.g.length rc] 40)) := (Below.refl _ _).alloc (Nat.le_refl _) _
      obtain ⟨xs, hx⟩ : ∃ xs, (w2.alloc (.cells #[.int .i64 m.k, .int .i64 m.c, .int .i64 m.v, .int .i64 m.h, .slice ro m.g.length rc] 40)).ownsRow w.heap.size 40 5 u3 k xs := by
        obtain ⟨M, R, h1, h2, h3⟩ := H1.out
        exact ⟨_, ((h1.cur hcw.2.1 h3.2.2).below bW).1⟩
      have HX := hide hx
      have HCW := hide (And.intro hcw hO)
      have HBW := hide bW
      have HBs : Hid (w.heap.size ≤ (w2.alloc (.cells #[.int .i64 m.k, .int .i64 m.c, .int .i64 m.v, .int .i64 m.h, .slice ro m.g.length rc] 40)).heap.size) := by
        obtain ⟨M, R, h1, h2, h3⟩ := H1.out
        exact Nat.le_trans h3.2.1.size (Nat.le_trans hcw.2.1.size bW.size)
      have h1c : ∀ u ∈ mcell m (ro, rc), u.oneCell' = true := by
        intro u hu
        simp only [mcell, List.mem_cons, List.not_mem_nil, or_false] at hu
        rcases hu with rfl | rfl | rfl | rfl | rfl <;> rfl
      clear hx hO hcw bW
      go_wp2_with (first
        | (at_builtin; refine wpList_append_lies _ rfl _ _ 47 rfl w.heap.size 40 i0 (.agg #[.int .i64 0, .int .i64 0, .int .i64 0, .int .i64 0, .slice none 0 0]) 5 56 Try.underlying47 hi hz0 hz1 hz2 rfl (by decide) _ _ _ rfl HX.out ⟨w2.heap.size, 0, none⟩ 1 1 (mcell m (ro, rc)) rfl rfl (gcells w2 (mcell m (ro, rc)) 40) h1c (by decide) (by unfold maxLen; omega) (by omega) HBs.out _ rfl ?_; intro g4 c4 w4 hown4 hgrow4 hat4 hlt4))
      have H4 := hide (DL.push (N := 4) H1.out HCW.out.1 (by omega) HCW.out.2 HBW.out HX.out hown4 hgrow4 hat4)
      clear hown4 hgrow4 hat4 hlt4
      go_wp2
      go_roundw
      case rel => exact ⟨k + 1, by omega, by go_num, H4.out⟩
      case measure => simp [intOf]; omega
    · go_wp2
      go_ret
      exact ⟨_, k, rfl, by omega, H1.out⟩
end Go.Proofs.Ytkeojhnifnkpiaa

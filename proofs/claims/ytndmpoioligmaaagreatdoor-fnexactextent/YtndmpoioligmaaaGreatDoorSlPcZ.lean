/- l6Copy of the model. -/
import Derived.Test.YtndmpoioligmaaaGreatDoorGl
import Derived.Deep.RegionHeld3
import Derived.Deep.AppendLies

namespace Go.Proofs.YtndmpoioligmaaaGreatDoor
open Go.ChangeShapes Go.WideShapes Go.ChangeAt Go.RowKit
set_option linter.unusedVariables false
set_option linter.unusedSimpArgs false
set_option maxRecDepth 100000

/-- A row that append has laid: in its own block, or a new one. -/
def Laid (w w' : World) (b : Nat) (ao : Option Addr) (L : List Int) : Prop :=
  L.length = 0 ∨ ∃ g, ao = some ⟨g, 0, none⟩ ∧ (g = b ∨ g = w.heap.size) ∧ g < w'.heap.size ∧ ∃ cs : Array Value, w'.heap[g]? = some (.cells cs 5 (0, 0)) ∧ L.length ≤ cs.size ∧ ∀ i, i < L.length → cs[i]? = some (bv L i)
theorem own_empty {w : World} {b : Nat} (hb : w.heap[b]? = some (.cells #[] 5 (0, 0))) : w.ownsRow b 5 1 (.slice (some ⟨b, 0, none⟩) 0 0) ([] : List Int).length (([] : List Int).map (.int .u8)) :=
  ⟨rfl, .inr ⟨b, 0, #[], rfl, Nat.le_refl _, hb, Nat.le_refl _, by unfold maxLen; omega, rfl, rfl⟩⟩
theorem laid_of {w w' : World} {b g cap : Nat} {L : List Int} (h : w'.ownsRow b 5 1 (.slice (some ⟨g, 0, none⟩) (0 + L.length) cap) (0 + L.length) (([] : List Value) ++ L.map (.int .u8))) (hl : g = b ∨ g = w.heap.size) (hlt : g < w'.heap.size) : L.length ≤ cap ∧ Laid w w' b (some ⟨g, 0, none⟩) L := by
  have h' : w'.ownsRow b 5 1 (.slice (some ⟨g, 0, none⟩) L.length cap) L.length (L.map (.int .u8)) := by simpa using h
  obtain ⟨ao, c, e, h1, ho⟩ := Own.of_owns h'
  cases e
  refine ⟨h1.2.1, ?_⟩
  rcases ho with h0 | ⟨g', e, _, cs, hc, hs, hF⟩
  · exact .inl h0
  · cases e
    exact .inr ⟨g, rfl, hl, hlt, cs, hc, hs, hF⟩

theorem step_app {w : World} {ops : Array Oper} {o : Oper} {a : Act} {K : Act → World → Prop} {Q : Exit → Act → World → Prop} {E : Prop} (hgd : o.guard = none) (s x : Operand)
    (ho : o.op = .call { callee := .builtin .append, args := #[s, x], argTypes := #[26, 26] }) (b : Nat) (hb : w.heap[b]? = some (.cells #[] 5 (0, 0))) (hs : a.eval s = .slice (some ⟨b, 0, none⟩) 0 0)
    (xv : Value) (L : List Int) (hx : a.eval x = xv) (hsrc : Src .u8 w xv L) (hl : L.length ≤ 1048576)
    (h : ∀ ao c w', L.length ≤ c → NC ao c → Laid w w' b ao L → w.grownBy w' (some b) → K (a.put o.dst (.slice ao L.length c)) w') :
    if Region.wanted o (yielded ops a.tmps) = true then Oper.wp Tryz.prog o a w K Q else E := by
  obtain ⟨i0, hi, hz0, hz1, hz2⟩ := info_parts Tryz.info5
  have hw : Region.wanted o (yielded ops a.tmps) = true := by simp [Region.wanted, hgd]
  rw [if_pos hw]
  have hbw : b < w.heap.size := (Array.getElem?_eq_some_iff.1 hb).1
  rcases hsrc with ⟨e1, rfl⟩ | ⟨ad, c, e1, hc⟩
  · have hrun := run_append_owned_none (P := Tryz.prog) (w := w) b 26 o.type 5 i0 1 Tryz.underlying26 hi _ _ _ (own_empty hb)
    unfold Oper.wp
    simp [execOp, ho, resolve, invoke, builtin, hs, hx.trans e1, hrun, Result.andThen]
    exact h _ 0 w (Nat.le_refl _) (fun e => by cases e) (.inl rfl) (grownBy_refl _ _)
  · by_cases h0 : 0 < L.length
    · refine wp_append_lies w s x 26 ho b 5 i0 (.int .u8 0) 1 1 Tryz.underlying26 hi hz0 hz1 hz2 rfl (by decide) _ 0 [] hs (own_empty hb) ad L.length c (L.map (.int .u8)) (hx.trans e1) (by simp) hc (gones _ _) h0 (by unfold maxLen; omega) (by omega) (Nat.le_of_lt hbw) _ rfl ?_
      intro g cap w' ho' hg' hat hlt
      obtain ⟨q1, q2⟩ := laid_of ho' (hat.imp (fun e => by cases e; rfl) id) hlt
      have := h (some ⟨g, 0, none⟩) cap w' q1 (fun e => by cases e) q2 hg'
      rwa [← Nat.zero_add L.length] at this
    · have hl0 : L.length = 0 := by omega
      obtain rfl : L = [] := List.length_eq_zero_iff.1 hl0
      refine wp_append_own w s x 26 ho b 5 i0 (.int .u8 0) 1 1 Tryz.underlying26 hi hz0 hz1 hz2 rfl (by decide) _ 0 [] hs (own_empty hb) ad 0 c [] (hx.trans e1) rfl (fun j u hu => by simp at hu) (fun u hu => by cases hu) (by unfold maxLen; omega) (by omega) (Nat.le_of_lt hbw) ?_
      intro v' w' ho' hg' hnn
      have hv : ∃ ao c, v' = .slice ao 0 c ∧ NC ao c := by
        rcases ho'.2 with ⟨e, _⟩ | ⟨g, cap, cur, e, _⟩
        · exact ⟨none, 0, e, fun _ => rfl⟩
        · exact ⟨_, cap, e, fun e => by cases e⟩
      obtain ⟨ao, c', rfl, hn⟩ := hv
      exact h ao c' w' (Nat.zero_le _) hn (.inl rfl) hg'

/-- The two rows, the second one laid last. -/
theorem cp_two {w W5 w7 w0 : World} {aA aB bA bB : Option Addr} {cA cB dA dB B b1 b2 : Nat} {A C : List Int} (hk : CpK w W5 aA aB cA cB A C) (h1 : Laid w0 W5 b1 bA A) (hB : w.heap.size + 1 + 1 ≤ B) (hb1 : B ≤ b1) (hw0 : B ≤ w0.heap.size) (hne : ∀ g, bA = some ⟨g, 0, none⟩ → 0 < A.length → g ≠ b2) (hb2 : B ≤ b2) (hb2w : b2 < W5.heap.size)
    (h2 : Laid W5 w7 b2 bB C) (hg : W5.grownBy w7 (some b2)) (q1 : A.length ≤ dA) (q2 : C.length ≤ dB) : CpK w w7 aA aB cA cB A C ∧ OSl w7 B w7.heap.size bA dA bB dB A C := by
  have hs := hg.size
  refine ⟨⟨hk.1.grown hg hk.1.size (fun k e => by cases e; omega), (hg.block _ hk.2.1.lt (by simp; omega)).trans hk.2.1, (hg.block _ hk.2.2.1.lt (by simp; omega)).trans hk.2.2.1, Nat.le_trans hk.2.2.2 hs⟩, ⟨⟨by have := hk.2.2.2; omega, Nat.le_refl _⟩, ⟨q1, q2⟩, ?_, ?_, ?_⟩⟩
  · rcases h1 with h | ⟨g, e, hg1, hlt, cs, hc, r⟩
    · exact .inl h
    · by_cases h0 : A.length = 0
      · exact .inl h0
      · have := hne g e (by omega)
        exact .inr ⟨g, e, ⟨by omega, by omega⟩, cs, (hg.block g hlt (fun e => by simp only [Option.some.injEq] at e; omega)).trans hc, r⟩
  · rcases h2 with h | ⟨g, e, hg1, hlt, cs, hc, r⟩
    · exact .inl h
    · exact .inr ⟨g, e, ⟨by omega, hlt⟩, cs, hc, r⟩
  · intro γ e hp hp2 e2
    rcases h1 with h | ⟨g, e', hg1, hlt, _⟩
    · omega
    · rcases h2 with h | ⟨g2, e2', hg2, hlt2, _⟩
      · omega
      · have := hne g e' hp
        rw [e'] at e
        rw [e2'] at e2
        simp only [Option.some.injEq, Addr.mk.injEq] at e e2
        omega
theorem Laid.lt {w w' : World} {b : Nat} {ao : Option Addr} {L : List Int} (h : Laid w w' b ao L) : ∀ g, ao = some ⟨g, 0, none⟩ → 0 < L.length → g < w'.heap.size ∧ (g = b ∨ g = w.heap.size) := by
  intro g e hp
  rcases h with h | ⟨g', e', hg1, hlt, _⟩
  · omega
  · rw [e'] at e
    cases e
    exact ⟨hlt, hg1⟩
theorem CpK.grown {w W5 w7 : World} {aA aB : Option Addr} {cA cB b2 : Nat} {A C : List Int} (hk : CpK w W5 aA aB cA cB A C) (hg : W5.grownBy w7 (some b2)) (hb2 : w.heap.size + 1 + 1 ≤ b2) : CpK w w7 aA aB cA cB A C :=
  ⟨hk.1.grown hg hk.1.size (fun k e => by cases e; omega), (hg.block _ hk.2.1.lt (by simp; omega)).trans hk.2.1, (hg.block _ hk.2.2.1.lt (by simp; omega)).trans hk.2.2.1, Nat.le_trans hk.2.2.2 hg.size⟩
theorem Laid.b {w w' w'' : World} {b : Nat} {ao : Option Addr} {L : List Int} (h : Laid w w' b ao L) (hb : Below w'.heap.size w' w'') : Laid w w'' b ao L := by
  rcases h with h | ⟨g, e, hg1, hlt, cs, hc, r⟩
  · exact .inl h
  · exact .inr ⟨g, e, hg1, Nat.lt_of_lt_of_le hlt hb.size, cs, (hb.block g hlt).trans hc, r⟩

end Go.Proofs.YtndmpoioligmaaaGreatDoor

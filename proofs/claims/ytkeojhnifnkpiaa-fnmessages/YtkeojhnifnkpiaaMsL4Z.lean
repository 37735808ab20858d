/- Lists of messages: marked, and found so. -/
import Derived.Test.YtkeojhnifnkpiaaMsL2Z

namespace Go.Proofs.Ytkeojhnifnkpiaa
open Go.ChangeShapes Go.WideShapes Go.ChangeAt Go.RowKit
set_option linter.unusedVariables false
set_option linter.unusedSimpArgs false
set_option maxRecDepth 100000

/-- A message of m's length, marked from K on. -/
def mkd (m : Mg) (K : Int) : Mg := ⟨K, K + 1, K + 1 + 1, K + 1 + 1 + 1, (List.range m.g.length).map (fun t : Nat => K + 1 + 1 + 1 + 1 + (t : Int))⟩
theorem mkd_len (m : Mg) (K : Int) : (mkd m K).g.length = m.g.length := by simp [mkd]
theorem mkd_get (m : Mg) (K : Int) (t : Nat) (h : t < m.g.length) : (mkd m K).g.getD t 0 = K + 1 + 1 + 1 + 1 + t := by simp [mkd, List.getD, h]
/-- The first j of them marked. -/
def mkp (M : Nat → Mg) (k0 : Int) (j : Nat) (i : Nat) : Mg := if i < j then mkd (M i) (k0 + 4 * i + gsum M i) else M i

theorem mkp_zero (M : Nat → Mg) (k0 : Int) : mkp M k0 0 = M := by funext i; simp [mkp]
theorem imark_zero (ao : Option Addr) (cap : Nat) (k0 : Int) (w : World) :
    Calls Try.prog 107 #[.slice ao 0 cap, .int .i64 k0] w fun e w' => e = .returned (.int .i64 k0) ∧ w' = w := by
  go_enter Try.func107, Try.ntmps107
  go_wp2
  refine wp_loop_rounds 1 ?_
  rw [rounds_succ]
  go_wp2
  go_ret
  exact ⟨rfl, rfl⟩

/-- Of what was there nothing but blocks from B on below T was written. -/
def OnlyBT (B T : Nat) (w w' : World) : Prop := Below B w w' ∧ w'.heap.size = w.heap.size ∧ ∀ j, ¬ (B ≤ j ∧ j < T) → w'.heap[j]? = w.heap[j]?
theorem OnlyBT.refl (B T : Nat) (w : World) : OnlyBT B T w w := ⟨Below.refl _ _, rfl, fun _ _ => rfl⟩
theorem OnlyBT.set {B T g i : Nat} {w w' : World} (h : OnlyBT B T w w') (hg : B ≤ g ∧ g < T) (v : Value) : OnlyBT B T w (w'.setCell ⟨g, i, none⟩ v) :=
  ⟨h.1.setCell (p := ⟨g, i, none⟩) hg.1 v, by simpa [World.setCell] using h.2.1, fun j hj => (heap_far (fun e => hj (by rw [e]; exact hg)) v).trans (h.2.2 j hj)⟩
theorem OnlyBT.only {B T g : Nat} {w w' w'' : World} (h : OnlyBT B T w w') (hg : B ≤ g ∧ g < T) (ho : Only g w' w'') : OnlyBT B T w w'' :=
  ⟨h.1.trans (ho.1.mono hg.1), ho.2.1.trans h.2.1, fun j hj => (ho.2.2 j (fun e => hj (by rw [e]; exact hg))).trans (h.2.2 j hj)⟩

/-- One more marked: first the four numbers. -/
def put4 (w : World) (g o : Nat) (a b c d : Value) : World := (((w.setCell ⟨g, o, none⟩ a).setCell ⟨g, o + 1, none⟩ b).setCell ⟨g, o + 2, none⟩ c).setCell ⟨g, o + 3, none⟩ d
def arr4 (x : Array Value) (o : Nat) (a b c d : Value) : Array Value := (((x.setIfInBounds o a).setIfInBounds (o + 1) b).setIfInBounds (o + 2) c).setIfInBounds (o + 3) d
theorem put4_blk {w : World} {g o : Nat} {x : Array Value} {t : TypeId} (a b c d : Value) (h : w.heap[g]? = some (.cells x t (0, 0))) : (put4 w g o a b c d).heap[g]? = some (.cells (arr4 x o a b c d) t (0, 0)) :=
  set_blk d (set_blk c (set_blk b (set_blk a h)))
theorem put4_far {w : World} {g o j : Nat} (a b c d : Value) (h : ¬ j = g) : (put4 w g o a b c d).heap[j]? = w.heap[j]? :=
  (heap_far h d).trans ((heap_far h c).trans ((heap_far h b).trans (heap_far h a)))
theorem put4_size {w : World} {g o : Nat} (a b c d : Value) : (put4 w g o a b c d).heap.size = w.heap.size := by simp [put4, World.setCell]
theorem arr4_size (x : Array Value) (o : Nat) (a b c d : Value) : (arr4 x o a b c d).size = x.size := by simp [arr4]
theorem arr4_far (x : Array Value) (o j : Nat) (a b c d : Value) (h : j < o ∨ o + 3 < j) : (arr4 x o a b c d)[j]? = x[j]? := by
  unfold arr4
  rw [Array.getElem?_setIfInBounds, if_neg (by omega), Array.getElem?_setIfInBounds, if_neg (by omega), Array.getElem?_setIfInBounds, if_neg (by omega), Array.getElem?_setIfInBounds, if_neg (by omega)]
theorem arr4_at (x : Array Value) (o : Nat) (a b c d : Value) (h : o + 3 < x.size) : (arr4 x o a b c d)[o]? = some a ∧ (arr4 x o a b c d)[o + 1]? = some b ∧ (arr4 x o a b c d)[o + 2]? = some c ∧ (arr4 x o a b c d)[o + 3]? = some d := by
  have h0 : o < x.size := by omega
  have h1 : o + 1 < x.size := by omega
  have h2 : o + 2 < x.size := by omega
  refine ⟨?_, ?_, ?_, ?_⟩ <;> simp [arr4, Array.getElem?_setIfInBounds, h, h0, h1, h2]

theorem OM.mark {w w' : World} {B T g n j : Nat} {M M' : Nat → Mg} {c : Array Value} {R : Nat → Option Addr × Nat} {K : Int} (h : OM w B T g n M c R) (hj : j < n)
    (hM : ∀ i, M' i = if i = j then mkd (M j) K else M i)
    (hw : (M j).g.length = 0 ∧ w' = put4 w g (j * 5) (.int .i64 K) (.int .i64 (K + 1)) (.int .i64 (K + 1 + 1)) (.int .i64 (K + 1 + 1 + 1)) ∨
      ∃ γ, (R j).1 = some ⟨γ, 0, none⟩ ∧ 0 < (M j).g.length ∧ Only γ (put4 w g (j * 5) (.int .i64 K) (.int .i64 (K + 1)) (.int .i64 (K + 1 + 1)) (.int .i64 (K + 1 + 1 + 1))) w' ∧ Own w' B 3 (R j).1 (M j).g.length (fun t => .int .i64 (K + 1 + 1 + 1 + 1 + t))) :
    OM w' B T g n M' (arr4 c (j * 5) (.int .i64 K) (.int .i64 (K + 1)) (.int .i64 (K + 1 + 1)) (.int .i64 (K + 1 + 1 + 1))) R := by
  obtain ⟨hb, hg, hsz, hm⟩ := h
  have hlen : ∀ i, (M' i).g.length = (M i).g.length := fun i => by
    rw [hM]
    by_cases e : i = j
    · rw [if_pos e, mkd_len, e]
    · rw [if_neg e]
  have hfar : ∀ b, b ≠ g → (∀ γ, (R j).1 = some ⟨γ, 0, none⟩ → 0 < (M j).g.length → b ≠ γ) → w'.heap[b]? = w.heap[b]? := fun b h1 h2 => by
    rcases hw with ⟨_, rfl⟩ | ⟨γ, e, hp, ho, _⟩
    · exact put4_far _ _ _ _ h1
    · exact (ho.2.2 b (h2 γ e hp)).trans (put4_far _ _ _ _ h1)
  have hsize : w'.heap.size = w.heap.size := by
    rcases hw with ⟨_, rfl⟩ | ⟨γ, e, hp, ho, _⟩
    · exact put4_size _ _ _ _
    · rw [ho.2.1, put4_size]
  have hgb : w'.heap[g]? = some (.cells (arr4 c (j * 5) (.int .i64 K) (.int .i64 (K + 1)) (.int .i64 (K + 1 + 1)) (.int .i64 (K + 1 + 1 + 1))) 40 (0, 0)) := by
    rcases hw with ⟨_, rfl⟩ | ⟨γ, e, hp, ho, _⟩
    · exact put4_blk _ _ _ _ hg
    · exact (ho.2.2 g (fun e2 => ((hm j hj).2.2.2 γ e hp).1.2 e2.symm)).trans (put4_blk _ _ _ _ hg)
  refine ⟨by rw [hsize]; exact hb, hgb, by rw [arr4_size]; exact hsz, fun i hi => ?_⟩
  obtain ⟨⟨c0, c1, c2, c3, c4⟩, h2, h3, h4⟩ := hm i hi
  rw [hlen i]
  refine ⟨?_, h2, ?_, fun γ e hp => ⟨(h4 γ e hp).1, fun j' hj' hne hp' => (h4 γ e hp).2 j' hj' hne (by rw [← hlen]; exact hp')⟩⟩
  · by_cases e : i = j
    · subst e
      obtain ⟨a0, a1, a2, a3⟩ := arr4_at c (i * 5) (.int .i64 K) (.int .i64 (K + 1)) (.int .i64 (K + 1 + 1)) (.int .i64 (K + 1 + 1 + 1)) (by omega)
      rw [hM, if_pos rfl]
      exact ⟨a0, a1, a2, a3, (arr4_far c _ _ _ _ _ _ (by omega)).trans c4⟩
    · rw [hM, if_neg e]
      exact ⟨(arr4_far c _ _ _ _ _ _ (by omega)).trans c0, (arr4_far c _ _ _ _ _ _ (by omega)).trans c1, (arr4_far c _ _ _ _ _ _ (by omega)).trans c2, (arr4_far c _ _ _ _ _ _ (by omega)).trans c3, (arr4_far c _ _ _ _ _ _ (by omega)).trans c4⟩
  · by_cases e : i = j
    · subst e
      rcases hw with ⟨h0, rfl⟩ | ⟨γ, e, hp, ho, hO⟩
      · exact .inl h0
      · refine hO.congr fun t ht => ?_
        rw [hM, if_pos rfl, mkd_get _ _ _ ht]
    · rcases h3 with h3 | ⟨γ', e', hB, cs, hcs, hl, hF⟩
      · exact .inl h3
      · by_cases h0 : (M i).g.length = 0
        · exact .inl h0
        · refine .inr ⟨γ', e', hB, cs, (hfar γ' (h4 γ' e' (by omega)).1.2 (fun γ e2 hp2 e3 => ?_)).trans hcs, hl, fun t ht => ?_⟩
          · subst e3
            exact (h4 γ' e' (by omega)).2 j hj (fun e4 => e e4.symm) hp2 e2
          · rw [hM, if_neg e]; exact hF t ht

end Go.Proofs.Ytkeojhnifnkpiaa

/- What the law of messages keeps in view. -/
import Derived.Test.YtkeojhnifnkpiaaMzZ

namespace Go.Proofs.Ytkeojhnifnkpiaa
open Go.ChangeShapes Go.WideShapes Go.ChangeAt Go.RowKit
set_option linter.unusedVariables false
set_option linter.unusedSimpArgs false
set_option maxRecDepth 100000

theorem zal1 (w : World) (o : Obj) : Below w.heap.size w (w.alloc o) := (Below.refl _ _).alloc (Nat.le_refl _) _
def ZB (w W : World) : Prop := Below w.heap.size w W
theorem ZB.st {w W W' : World} (h : ZB w W) (hb : Below W.heap.size W W') : ZB w W' := h.trans (hb.mono h.size)
def VB (W : World) (ao : Option Addr) (L : List Int) : Prop := SL .u8 W ao L.length (fun i => L.getD i 0)
theorem VB.st {W W' : World} {ao : Option Addr} {L : List Int} (h : VB W ao L) (hb : Below W.heap.size W W') : VB W' ao L := SL.below h hb
def VM (W : World) (X : Nat) (m : Mg) (ro : Option Addr) (rc : Nat) : Prop := MB W X 40 m.k m.c m.v m.h ro m.g.length rc ∧ m.g.length ≤ rc ∧ SL .i64 W ro m.g.length (fun i => m.g.getD i 0)
theorem VM.st {W W' : World} {X : Nat} {m : Mg} {ro : Option Addr} {rc : Nat} (h : VM W X m ro rc) (hb : Below W.heap.size W W') : VM W' X m ro rc := ⟨h.1.below hb h.1.lt, h.2.1, h.2.2.below hb⟩
def ML (W : World) (ao : Option Addr) (n : Nat) (M : Nat → Mg) : Prop := MSL W ao n M
theorem ML.st {W W' : World} {ao : Option Addr} {n : Nat} {M : Nat → Mg} (h : ML W ao n M) (hb : Below W.heap.size W W') : ML W' ao n M := MSL.below h hb
theorem VB.conv {W : World} {ao : Option Addr} {cap : Nat} {L : List Int} (h : VB W ao L) (hz : ∀ z ∈ L, 0 ≤ z ∧ z ≤ 255) : (convert 22 9 (.slice ao L.length cap)).run Try.prog W = .ok (.string (bstr L)) W := conv_str h hz

/-- What is read of bytes, by both. -/
theorem mof_both (L : List Int) (p : Int) (hL : L.length ≤ 1048576) (hp0 : -9223372036854775808 ≤ p) (hp : p ≤ 9223372036854775807) (hb : ∀ z ∈ L, 0 ≤ z ∧ z ≤ 255) : ∃ (r : Mg) (nx : Int) (ok : Bool), r.g.length ≤ 12 ∧ (ok = true → BgM L.length (fun i => L.getD i 0) p r ∧ nx = p + (mby r).length) ∧ ((∃ m, BgM L.length (fun i => L.getD i 0) p m) → ok = true) ∧ (0 ≤ nx ∨ ok = true) ∧ (-9223372036854775808 ≤ nx ∧ nx ≤ 9223372036854775807 ∨ ok = true) ∧
    (∀ W xo xc, L.length ≤ xc → VB W xo L → Calls Try.prog 29 #[.slice xo L.length xc, .int .i64 p] W fun e w' => ∃ ro rc, e = .returned (.tuple #[.agg #[.int .i64 r.k, .int .i64 r.c, .int .i64 r.v, .int .i64 r.h, .slice ro r.g.length rc], .int .i64 nx, .bool ok]) ∧ r.g.length ≤ rc ∧ SL .i64 w' ro r.g.length (fun i => r.g.getD i 0) ∧ Below W.heap.size W w') ∧
    (∀ W xo xc, L.length ≤ xc → VB W xo L → Calls Try.prog 28 #[.slice xo L.length xc, .int .i64 p] W fun e w' => ∃ ro rc, e = .returned (.tuple #[.agg #[.int .i64 r.k, .int .i64 r.c, .int .i64 r.v, .int .i64 r.h, .slice ro r.g.length rc], .int .i64 nx, .bool ok]) ∧ r.g.length ≤ rc ∧ SL .i64 w' ro r.g.length (fun i => r.g.getD i 0) ∧ Below W.heap.size W w') := by
  have hf : ∀ i, i < L.length → 0 ≤ L.getD i 0 ∧ L.getD i 0 ≤ 255 := fun i hi => hb _ (getD_mem L i hi)
  by_cases hB : ∃ k c v d G, Begins L.length (fun i => L.getD i 0) p k c v d G
  · obtain ⟨k, c, v, d, G, hB⟩ := hB
    have hG := (mok_bd hB.2.1).1
    refine ⟨⟨k, c, v, d, G⟩, p + (mby ⟨k, c, v, d, G⟩).length, true, hG, fun _ => ⟨hB, rfl⟩, fun _ => rfl, .inr rfl, .inr rfl, fun W xo xc hc hs => (msgof_spec xo L.length xc p _ W hL hc hp0 hp hs hf).mono ?_, fun W xo xc hc hs => (msgof_impl xo L.length xc p _ W hL hc hp0 hp hs hf).mono ?_⟩
    all_goals
      rintro e w' ⟨h, hbb⟩
      rcases h with ⟨k', c', v', d', G', ro, rc, hB', rfl, hrc, ho⟩ | ⟨hno, _⟩
      · obtain ⟨rfl, rfl, rfl, rfl, rfl⟩ := begins_one hB hB'
        exact ⟨ro, rc, rfl, hrc, ho.sl, hbb⟩
      · exact absurd ⟨k, c, v, d, G, hB⟩ hno
  · refine ⟨mg0, 0, false, by simp [mg0], (fun h => by cases h), fun ⟨m, hm⟩ => absurd ⟨m.k, m.c, m.v, m.h, m.g, hm⟩ hB, .inl (by omega), .inl (by omega), fun W xo xc hc hs => (msgof_spec xo L.length xc p _ W hL hc hp0 hp hs hf).mono ?_, fun W xo xc hc hs => (msgof_impl xo L.length xc p _ W hL hc hp0 hp hs hf).mono ?_⟩
    all_goals
      rintro e w' ⟨h, hbb⟩
      rcases h with ⟨k', c', v', d', G', ro, rc, hB', _⟩ | ⟨_, rfl⟩
      · exact absurd ⟨k', c', v', d', G', hB'⟩ hB
      · exact ⟨none, 0, rfl, Nat.le_refl _, fun i hi => absurd hi (by simp [mg0]), hbb⟩
theorem unp_both (L : List Int) (hL : L.length ≤ 1048576) (hb : ∀ z ∈ L, 0 ≤ z ∧ z ≤ 255) : ∃ (U : Nat → Mg) (k : Nat) (ok : Bool), k ≤ 3000 ∧ (∀ i, i < k → (U i).g.length ≤ 12) ∧ (ok = true → Upk L U k) ∧ ((∃ M j, Upk L M j) → ok = true) ∧
    (∀ W xo xc, VB W xo L → Calls Try.prog 35 #[.slice xo L.length xc] W fun e w' => ∃ uo uc, e = .returned (.tuple #[.slice uo k uc, .bool ok]) ∧ ML w' uo k U ∧ Below W.heap.size W w') ∧
    (∀ W xo xc, VB W xo L → Calls Try.prog 34 #[.slice xo L.length xc] W fun e w' => ∃ uo uc, e = .returned (.tuple #[.slice uo k uc, .bool ok]) ∧ ML w' uo k U ∧ Below W.heap.size W w') := by
  have hf : ∀ i, i < L.length → 0 ≤ L.getD i 0 ∧ L.getD i 0 ≤ 255 := fun i hi => hb _ (getD_mem L i hi)
  have hbl : bl (fun i => L.getD i 0) L.length = L := range_getD L
  by_cases hB : ∃ M k, Upk L M k
  · obtain ⟨M, k, hB⟩ := hB
    obtain ⟨F, e1, e2, e3⟩ := hB
    have hk : k ≤ 3000 := by have h1 := e2.1.le; have h2 := spread_le e1; omega
    have hg := all_gens e2.1
    have hB : Upk L M k := ⟨F, e1, e2, e3⟩
    refine ⟨M, k, true, hk, hg, fun _ => hB, fun _ => rfl, fun W xo xc hs => (unpack_spec xo L.length xc _ W hL hs hf).mono ?_, fun W xo xc hs => (unpack_impl xo L.length xc _ W hL hs hf).mono ?_⟩
    all_goals
      rintro e w' ⟨h, hbb⟩
      rw [hbl] at h
      rcases h with ⟨M', k', uo, uc, R, hB', rfl, hU⟩ | ⟨hno, _⟩
      · obtain ⟨rfl, he⟩ := upk_one hB' hB
        refine ⟨uo, uc, rfl, fun i hi => ?_, hbb⟩
        have := hU.msl rfl i hi
        rwa [he i hi] at this
      · exact absurd ⟨M, k, hB⟩ hno
  · refine ⟨fun _ => mg0, 0, false, by omega, fun i hi => absurd hi (by omega), (fun h => by cases h), fun h => absurd h hB, fun W xo xc hs => (unpack_spec xo L.length xc _ W hL hs hf).mono ?_, fun W xo xc hs => (unpack_impl xo L.length xc _ W hL hs hf).mono ?_⟩
    all_goals
      rintro e w' ⟨h, hbb⟩
      rw [hbl] at h
      rcases h with ⟨M', k', uo, uc, R, hB', _⟩ | ⟨_, uo, uc, rfl⟩
      · exact absurd ⟨M', k', hB'⟩ hB
      · exact ⟨uo, uc, rfl, fun i hi => absurd hi (by omega), hbb⟩
/-- Bytes that were made. -/
theorem vb_of {W w' : World} {B : Nat} {v : Value} {L : List Int} (h : w'.ownsRow B 5 1 v L.length (L.map (.int .u8))) : ∃ ao cap, v = .slice ao L.length cap ∧ L.length ≤ cap ∧ VB w' ao L := by
  obtain ⟨ao, cap, e, ⟨_, h1, _⟩, ho⟩ := Own.of_owns h
  exact ⟨ao, cap, e, h1, ho.sl⟩
end Go.Proofs.Ytkeojhnifnkpiaa

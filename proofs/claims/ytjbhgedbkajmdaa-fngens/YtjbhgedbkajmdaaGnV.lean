/- Lists of ints as FnGens keeps them in view; the functions upon them. -/
import Derived.Test.YtjbhgedbkajmdaaGnP
import Derived.Test.YtjbhgedbkajmdaaGpP
import Derived.Test.YtjbhgedbkajmdaaGpS
import Derived.Test.YtjbhgedbkajmdaaNwI
import Derived.Test.YtjbhgedbkajmdaaCurW
namespace Go.Proofs.Ytjbhgedbkajmdaa
open Go.ChangeShapes Go.WideShapes Go.ChangeAt Go.RowKit
set_option linter.unusedVariables false
set_option linter.unusedSimpArgs false
set_option maxRecDepth 100000

/-- A list in a row of its own. -/
def VI (w : World) (v : Value) (L : List Int) : Prop := w.ownsRow 0 3 1 v L.length (L.map (.int .i64))
theorem VI.of {w : World} {B : Nat} {v : Value} {L : List Int} (h : w.ownsRow B 3 1 v L.length (L.map (.int .i64))) : VI w v L := gmono h (Nat.zero_le _)
theorem VI.grown {w w' : World} {v : Value} {L : List Int} {row : Option Nat} (h : VI w v L) (hg : w.grownBy w' row) (hr : ∀ k, row = some k → v.ownBlock ≠ some k) : VI w' v L := by
  obtain ⟨h1, h2⟩ := h
  refine ⟨h1, ?_⟩
  rcases h2 with h2 | ⟨b, c, cur, e, hb, hh, r⟩
  · exact .inl h2
  · refine .inr ⟨b, c, cur, e, hb, (hg.block b (Array.getElem?_eq_some_iff.1 hh).1 (fun e2 => hr b e2.symm ?_)).trans hh, r⟩
    rw [e]; rfl
theorem VI.below {w w' : World} {v : Value} {L : List Int} (h : VI w v L) (hb : Below w.heap.size w w') : VI w' v L := h.grown (grown_of_below hb none) (fun k hk => by cases hk)
theorem VI.src {w : World} {v : Value} {L : List Int} (h : VI w v L) : Src .i64 w v L := Src.of_owns h
theorem VI.form {w : World} {v : Value} {L : List Int} (h : VI w v L) : ∃ ao c, v = .slice ao L.length c ∧ Sl ao L.length c ∧ SL .i64 w ao L.length (fun i => L.getD i 0) ∧ L.length ≤ c := by
  have hs := h.src
  rcases h.2 with ⟨e, h0⟩ | ⟨b, c, cur, e, hb, hh, hn, _⟩
  · exact ⟨none, 0, by rw [e, h0], .inl ⟨rfl, h0, rfl⟩, fun i hi => absurd hi (by omega), by omega⟩
  · subst e
    exact ⟨_, c, rfl, .inr ⟨b, 0, rfl, hn⟩, hs.slu, hn⟩

theorem tell_of {e : Ending} {P : Prop} (h : (P ∧ e = .returned (.bool true)) ∨ (¬ P ∧ e = .returned (.bool false))) : ∃ b : Bool, e = .returned (.bool b) ∧ (b = true ↔ P) := by
  rcases h with ⟨h, e⟩ | ⟨h, e⟩
  · exact ⟨true, e, by simp [h]⟩
  · exact ⟨false, e, by simp [h]⟩
theorem drew_below (w : World) (q : Nat) : Below w.heap.size w (w.drewN q) := Below.drawn (Below.refl _ _) q
theorem gensS (v : Value) (L : List Int) (w : World) (hl : L.length ≤ 20) (h : VI w v L) :
    Calls Try.prog 32 #[v] w fun e w' => (∃ b : Bool, e = .returned (.bool b) ∧ (b = true ↔ LGo L)) ∧ Below w.heap.size w w' := by
  obtain ⟨ao, c, rfl, _, hs, hc⟩ := h.form
  refine (gens_any ao L.length c _ w (by omega) hc hs).mono ?_
  rintro e w' ⟨h1, q, rfl⟩
  exact ⟨tell_of h1, drew_below w q⟩
theorem gensI (v : Value) (L : List Int) (w : World) (hl : L.length ≤ 20) (h : VI w v L) :
    Calls Try.prog 31 #[v] w fun e w' => (∃ b : Bool, e = .returned (.bool b) ∧ (b = true ↔ LGo L)) ∧ Below w.heap.size w w' := by
  obtain ⟨ao, c, rfl, _, hs, hc⟩ := h.form
  refine (gensok_impl ao L.length c _ w (by omega) hc hs).mono ?_
  rintro e w' ⟨h1, q, rfl⟩
  exact ⟨tell_of h1, drew_below w q⟩
/-- What Newer answers of two lists. -/
def NwL (L M : List Int) (r : Int) : Prop := NewIs (fun i => L.getD i 0) (fun i => M.getD i 0) L.length M.length r
theorem newS (v u : Value) (L M : List Int) (w : World) (hl : L.length ≤ 20) (hm : M.length ≤ 20) (h : VI w v L) (h' : VI w u M) :
    Calls Try.prog 30 #[v, u] w fun e w' => (∃ r : Int, e = .returned (.int .i64 r) ∧ NwL L M r) ∧ Below w.heap.size w w' := by
  obtain ⟨ao, c, rfl, _, hs, _⟩ := h.form
  obtain ⟨bo, d, rfl, _, ht, _⟩ := h'.form
  refine (newer_spec ao bo _ _ c d _ _ w (by omega) (by omega) hs ht).mono ?_
  rintro e w' ⟨r, rfl, hr, q, rfl⟩
  exact ⟨⟨r, rfl, hr⟩, drew_below w q⟩
theorem newI (v u : Value) (L M : List Int) (w : World) (hl : L.length ≤ 20) (hm : M.length ≤ 20) (h : VI w v L) (h' : VI w u M) :
    Calls Try.prog 26 #[v, u] w fun e w' => (∃ r : Int, e = .returned (.int .i64 r) ∧ NwL L M r) ∧ Below w.heap.size w w' := by
  obtain ⟨ao, c, rfl, sa, hs, _⟩ := h.form
  obtain ⟨bo, d, rfl, sb, ht, _⟩ := h'.form
  refine (newer_impl ao bo _ _ c d _ _ w (by omega) (by omega) hs ht sa sb).mono ?_
  rintro e w' ⟨r, rfl, hr, q, rfl⟩
  exact ⟨⟨r, rfl, hr⟩, drew_below w q⟩

theorem sints_one (ao bo : Option Addr) (n ca cb : Nat) (f g : Nat → Int) (w : World) (hn : n ≤ 1048576) (hA : SL .i64 w ao n f) (hB : SL .i64 w bo n g) (he : ∀ i, i < n → f i = g i) :
    Calls Try.prog 28 #[.slice ao n ca, .slice bo n cb] w fun e w' => e = .returned (.bool true) ∧ ∃ q, w' = w.drewN q := by
  have HA := hide hA
  have HB := hide hB
  have HE := hide he
  clear hA hB he
  go_enter Try.func28, Try.ntmps28
  go_wp2
  go_loopw [5] (fun i wr => ∃ k : Nat, k ≤ n ∧ i = .int .i64 k ∧ ∃ q, wr = w.drewN q) (fun i _ => n - (intOf i).toNat)
  case atStart => exact ⟨0, by omega, rfl, 0, rfl⟩
  case round =>
    obtain ⟨k, hk, rfl, q, rfl⟩ := hrel
    by_cases hlt : k < n
    · obtain ⟨b, off, rfl, hb, hc⟩ := HA.out k hlt
      obtain ⟨b', off', rfl, hb', hc'⟩ := HB.out k hlt
      rw [← HE.out k hlt] at hc'
      generalize f k = y at *
      go_wp2
      go_quiet (fail)
      go_wp2
      go_roundw
      case rel => exact ⟨k + 1, by omega, by go_num, _, rfl⟩
      case measure => simp [intOf]; omega
    · obtain rfl : k = n := by omega
      go_wp2
      go_ret
      exact ⟨rfl, q, rfl⟩
theorem sameL (v u : Value) (L : List Int) (w : World) (hl : L.length ≤ 20) (h : VI w v L) (h' : VI w u L) :
    Calls Try.prog 28 #[v, u] w fun e w' => e = .returned (.bool true) ∧ Below w.heap.size w w' := by
  obtain ⟨ao, c, rfl, _, hs, _⟩ := h.form
  obtain ⟨bo, d, rfl, _, ht, _⟩ := h'.form
  refine (sints_one ao bo _ c d _ _ w (by omega) hs ht (fun _ _ => rfl)).mono ?_
  rintro e w' ⟨rfl, q, rfl⟩
  exact ⟨rfl, drew_below w q⟩
theorem within_any (ao : Option Addr) (n cap : Nat) (f : Nat → Int) (x : Int) (w : World) (hn : n ≤ 1048576) (hs : SL .i64 w ao n f) :
    Calls Try.prog 33 #[.slice ao n cap, .int .i64 x] w fun e w' => (((∃ i, i < n ∧ f i = x) ∧ e = .returned (.bool true)) ∨ ((¬ ∃ i, i < n ∧ f i = x) ∧ e = .returned (.bool false))) ∧ w' = w := by
  have HS := hide hs
  clear hs
  go_enter Try.func33, Try.ntmps33
  go_wp2
  go_loop [5] (fun i => ∃ k : Nat, k ≤ n ∧ i = .int .i64 k ∧ Hid (∀ j, j < k → f j ≠ x)) (fun i => n - (intOf i).toNat)
  case atStart => exact ⟨0, by omega, rfl, fun j hj => absurd hj (by omega)⟩
  case round =>
    obtain ⟨k, hk, rfl, A⟩ := hrel
    by_cases hlt : k < n
    · obtain ⟨b, off, rfl, hb, hc⟩ := HS.out k hlt
      generalize hy : f k = y at *
      have B := hide hy
      clear hy
      by_cases he : y = x
      · subst he
        go_wp2
        go_ret
        exact ⟨.inl ⟨⟨k, hlt, B.out⟩, rfl⟩, rfl⟩
      · have hd : decide (y = x) = false := by simpa using he
        go_wp2
        go_round
        case rel =>
          refine ⟨k + 1, by omega, by go_num, fun j hj => ?_⟩
          by_cases e : j = k
          · subst e; rw [B.out]; exact he
          · exact A.out j (by omega)
        case measure => simp [intOf]; omega
    · obtain rfl : k = n := by omega
      go_wp2
      go_ret
      exact ⟨.inr ⟨fun i hi e => A.out i hi e, rfl⟩, rfl⟩
theorem withinL (v : Value) (L : List Int) (x : Int) (w : World) (hl : L.length ≤ 20) (h : VI w v L) :
    Calls Try.prog 33 #[v, .int .i64 x] w fun e w' => (∃ b : Bool, e = .returned (.bool b) ∧ (b = true ↔ x ∈ L)) ∧ Below w.heap.size w w' := by
  obtain ⟨ao, c, rfl, _, hs, _⟩ := h.form
  refine (within_any ao L.length c _ x w (by omega) hs).mono ?_
  rintro e w' ⟨h1, rfl⟩
  obtain ⟨b, rfl, hb⟩ := tell_of h1
  refine ⟨⟨b, rfl, hb.trans ?_⟩, Below.refl _ _⟩
  constructor
  · rintro ⟨i, hi, rfl⟩
    simp only [getD_at hi]
    exact List.getElem_mem hi
  · intro hm
    obtain ⟨i, hi, rfl⟩ := List.getElem_of_mem hm
    exact ⟨i, hi, getD_at hi⟩
end Go.Proofs.Ytjbhgedbkajmdaa

/- Messages read back, packed and unpacked: plain facts; two messages that are alike. -/
import Derived.Test.YtkeojhnifnkpiaaDrawUZ
import Derived.Test.YtkeojhnifnkpiaaUpSZ
import Derived.Test.YtkeojhnifnkpiaaBigZ

namespace Go.Proofs.Ytkeojhnifnkpiaa
open Go.ChangeShapes Go.WideShapes Go.ChangeAt Go.RowKit
set_option linter.unusedVariables false
set_option linter.unusedSimpArgs false
set_option maxRecDepth 100000

theorem has_mono {n n' : Nat} {f : Nat → Int} {a : Nat} {L : List Int} (h : Has n f a L) (hn : n ≤ n') : Has n' f a L := ⟨by have := h.1; omega, h.2⟩
/-- What is packed of messages that are ones is unpacked as it was. -/
theorem upk_pck {M : Nat → Mg} {k : Nat} (hk : k ≤ 30) (hok : ∀ i, i < k → MgOk (M i)) : Upk (pck M k) M k := by
  have hl := frs_len M k
  have hb := frs_byte M k
  have hs := spread_squeeze (fun i => (frs M k).getD i 0) (frs M k).length (by omega) (fun i hi => hb _ (getD_mem _ i hi))
  have hbl : bl (fun i => (frs M k).getD i 0) (frs M k).length = frs M k := range_getD (frs M k)
  rw [hbl] at hs
  refine ⟨frs M k, hs, ⟨fun i hi => ?_, rfl⟩, rfl⟩
  have hsp : ∀ j, i < j → j ≤ k → ∃ R, frs M j = frs M i ++ (mby (M i) ++ R) := by
    intro j hj hjk
    induction j with
    | zero => omega
    | succ j ih =>
      by_cases e : i = j
      · subst e; exact ⟨[], by simp [frs]⟩
      · obtain ⟨R, hR⟩ := ih (by omega) (by omega)
        exact ⟨R ++ mby (M j), by simp [frs, hR]⟩
  obtain ⟨R, hR⟩ := hsp k hi (Nat.le_refl _)
  refine ⟨by omega, hok i hi, ?_⟩
  have h0 : Has (frs M k).length (fun i => (frs M k).getD i 0) 0 (frs M k) := ⟨by omega, fun i _ => by rw [Nat.zero_add]⟩
  rw [show ((((frs M i).length : Nat) : Int)).toNat = (frs M i).length by omega]
  have h1 := h0
  conv at h1 => arg 4; rw [hR]
  have h2 := h1.right.left
  rw [Nat.zero_add] at h2
  exact h2
/-- A message that is one is read from its bytes; cut short it is none. -/
theorem mg_reads {m : Mg} (h : MgOk m) : BgM (mby m).length (fun i => (mby m).getD i 0) 0 m := ⟨by omega, h, ⟨by simp only [mby]; omega, fun i _ => by rw [show ((0 : Int)).toNat + i = i by omega]; rfl⟩⟩
theorem mg_cut {m : Mg} (h : MgOk m) : ¬ ∃ k c v d G, Begins ((mby m).length - 1) (fun i => (mby m).getD i 0) 0 k c v d G := by
  rintro ⟨k, c, v, d, G, h1, h2, h3⟩
  have hB : Begins (mby m).length (fun i => (mby m).getD i 0) 0 k c v d G := ⟨h1, h2, has_mono h3 (by omega)⟩
  obtain ⟨rfl, rfl, rfl, rfl, rfl⟩ := begins_one hB (mg_reads h)
  have hl := h3.1
  have hp := mb_pos h2
  have e : mb m.k m.c m.v m.h (fun i => m.g.getD i 0) m.g.length = mby m := rfl
  rw [e] at hl hp
  simp at hl
  omega
/-- The bytes that a message was read from are its bytes. -/
theorem bg_bytes {L : List Int} {p : Int} {m : Mg} (h : BgM L.length (fun i => L.getD i 0) p m) : (L.drop p.toNat).take (mby m).length = mby m ∧ p.toNat + (mby m).length ≤ L.length := by
  have h3 := h.2.2
  have hl : p.toNat + (mby m).length ≤ L.length := h3.1
  refine ⟨?_, hl⟩
  refine List.ext_getElem? fun j => ?_
  by_cases hj : j < (mby m).length
  · have h5 : L.getD (p.toNat + j) 0 = (mby m).getD j 0 := h3.2 j hj
    have h1 : p.toNat + j < L.length := by omega
    rw [List.getElem?_take, if_pos hj, List.getElem?_drop, List.getElem?_eq_getElem h1, List.getElem?_eq_getElem hj]
    simp only [List.getD, List.getElem?_eq_getElem h1, List.getElem?_eq_getElem hj, Option.getD_some] at h5
    rw [h5]
  · rw [List.getElem?_eq_none (by simp; omega), List.getElem?_eq_none (by omega)]

theorem sints_yes (ao bo : Option Addr) (n ca cb : Nat) (f g : Nat → Int) (w : World) (hn : n ≤ 1048576) (hA : SL .i64 w ao n f) (hB : SL .i64 w bo n g) (he : ∀ i, i < n → f i = g i) :
    Calls Try.prog 100 #[.slice ao n ca, .slice bo n cb] w fun e w' => e = .returned (.bool true) ∧ ∃ q, w' = w.drewN q := by
  go_enter Try.func100, Try.ntmps100
  go_wp2
  go_loopw [5] (fun i wr => ∃ k : Nat, k ≤ n ∧ i = .int .i64 k ∧ ∃ q, wr = w.drewN q) (fun i _ => n - (intOf i).toNat)
  case atStart => exact ⟨0, Nat.zero_le _, rfl, 0, rfl⟩
  case round =>
    obtain ⟨k, hk, rfl, q, rfl⟩ := hrel
    by_cases hlt : k < n
    · obtain ⟨b, off, rfl, hb, hc⟩ := hA k hlt
      obtain ⟨b', off', rfl, hb', hc'⟩ := hB k hlt
      rw [← he k hlt] at hc'
      clear hA hB he
      go_wp2
      go_quiet (fail)
      go_wp2
      go_roundw
      case rel => exact ⟨k + 1, by omega, by go_num, _, rfl⟩
      case measure => simp [intOf]; omega
    · go_wp2
      go_ret
      exact ⟨rfl, q, rfl⟩
theorem smsg_yes (m : Mg) (ro so : Option Addr) (rc sc : Nat) (w : World) (hn : m.g.length ≤ 1048576) (hA : SL .i64 w ro m.g.length (fun i => m.g.getD i 0)) (hB : SL .i64 w so m.g.length (fun i => m.g.getD i 0)) :
    Calls Try.prog 40 #[.agg #[.int .i64 m.k, .int .i64 m.c, .int .i64 m.v, .int .i64 m.h, .slice ro m.g.length rc], .agg #[.int .i64 m.k, .int .i64 m.c, .int .i64 m.v, .int .i64 m.h, .slice so m.g.length sc]] w fun e w' => e = .returned (.bool true) ∧ Below w.heap.size w w' := by
  have hb : Below w.heap.size w ((w.alloc (.cells #[.int .i64 m.k, .int .i64 m.c, .int .i64 m.v, .int .i64 m.h, .slice ro m.g.length rc] 40)).alloc (.cells #[.int .i64 m.k, .int .i64 m.c, .int .i64 m.v, .int .i64 m.h, .slice so m.g.length sc] 40)) := ((Below.refl _ _).alloc (Nat.le_refl _) _).alloc (by simp) _
  have hc := hide (sints_yes ro so m.g.length rc sc (fun i => m.g.getD i 0) (fun i => m.g.getD i 0) _ hn (hA.below hb) (hB.below hb) (fun _ _ => rfl))
  have HB := hide hb
  clear hA hB hb
  go_enter Try.func40, Try.ntmps40
  go_wp2_with (first | (go_at_call 100; refine hc.out.mono ?_; rintro e w1 ⟨rfl, q, hw⟩; rw [hw]; clear hw) | fail)
  go_ret
  exact ⟨rfl, Below.drawn HB.out _⟩
end Go.Proofs.Ytkeojhnifnkpiaa

/- What is put is read as it was, and what is read is put as it was: plain arithmetic; and a slice of bytes as a string. -/
import Derived.Test.YtbkfkaodpknjmacDoorPut
import Derived.Test.YtbkfkaodpknjmacDoorOwn2
import Derived.Laws.BytesArg
import Derived.Laws.IdiomStrings
namespace Go.Proofs.YtbkfkaodpknjmacDoor
open Go.ChangeShapes Go.WideShapes Go.ChangeAt Go.RowKit

theorem read_back (n : Nat) (f : Nat → Int) (a : Nat) (hf : ∀ i, i < n → 0 ≤ f i ∧ f i ≤ 255) (fuel : Nat) : ∀ (k : Nat) (z s : Int), gr n f a (fuel + 1) k = some (z, s) →
    ∃ (y : Int) (m : Nat), 0 ≤ y ∧ (0 < k → 0 < y) ∧ z = gacc f a k + 128 ^ k * y ∧ z ≤ 2147483647 ∧ pb fuel y = (List.range m).map (fun i => f (a + k + i)) ∧ s = a + k + m ∧ a + k + m ≤ n := by
  induction fuel with
  | zero =>
    intro k z s h
    by_cases hin : a + k < n
    · rw [gr_in hin] at h
      have hz := hf _ hin
      by_cases hd : f (a + k) < 128
      · rw [if_pos hd] at h
        split at h
        · cases h
        · rename_i hno
          simp at h
          obtain ⟨rfl, rfl⟩ := h
          refine ⟨f (a + k), 1, hz.1, fun hk => ?_, ?_, by omega, by simp [pb], by omega, by omega⟩
          · have : ¬ f (a + k) = 0 := fun e => hno (.inl ⟨hk, e⟩)
            omega
          · rw [gacc, Int.emod_eq_of_lt hz.1 hd, Int.mul_comm]
      · rw [if_neg hd] at h
        simp [gr] at h
    · rw [gr_out hin] at h; cases h
  | succ fuel ih =>
    intro k z s h
    by_cases hin : a + k < n
    · rw [gr_in hin] at h
      have hz := hf _ hin
      by_cases hd : f (a + k) < 128
      · rw [if_pos hd] at h
        split at h
        · cases h
        · rename_i hno
          simp at h
          obtain ⟨rfl, rfl⟩ := h
          refine ⟨f (a + k), 1, hz.1, fun hk => ?_, ?_, by omega, by simp [pb_last _ _ hd], by omega, by omega⟩
          · have : ¬ f (a + k) = 0 := fun e => hno (.inl ⟨hk, e⟩)
            omega
          · rw [gacc, Int.emod_eq_of_lt hz.1 hd, Int.mul_comm]
      · rw [if_neg hd] at h
        obtain ⟨y, m, h0, h1, h2, h3, h4, h5, h6⟩ := ih (k + 1) z s h
        have hy := h1 (by omega)
        refine ⟨f (a + k) - 128 + 128 * y, m + 1, by omega, fun _ => by omega, ?_, h3, ?_, by omega, by omega⟩
        · rw [h2, gacc, show f (a + k) % 128 = f (a + k) - 128 by omega, Int.pow_succ]
          generalize (128 : Int) ^ k = P
          rw [Int.mul_add, Int.mul_assoc P 128 y, Int.mul_comm (f (a + k) - 128) P]
          omega
        · rw [pb_more _ _ (by omega), show (f (a + k) - 128 + 128 * y) % 128 + 128 = f (a + k) by omega, show (f (a + k) - 128 + 128 * y) / 128 = y by omega, h4, List.range_succ_eq_map]
          simp [Function.comp_def, Nat.add_assoc, Nat.add_comm 1]
    · rw [gr_out hin] at h; cases h

theorem put_back (f : Nat → Int) (a : Nat) (fuel : Nat) : ∀ (k : Nat) (x : Int), 0 ≤ x → x < 128 ^ (fuel + 1) → (0 < k → 0 < x) → gacc f a k + 128 ^ k * x ≤ 2147483647 → (∀ i, i < (pb fuel x).length → f (a + k + i) = (pb fuel x).getD i 0) →
    gr (a + k + (pb fuel x).length) f a (fuel + 1) k = some (gacc f a k + 128 ^ k * x, (a : Int) + k + (pb fuel x).length) := by
  induction fuel with
  | zero =>
    intro k x h0 h1 h2 h3 h4
    have hx : x < 128 := by simpa using h1
    have hd : f (a + k) = x := by have := h4 0 (by simp [pb]); simpa [pb] using this
    have hl : (pb 0 x).length = 1 := by simp [pb]
    rw [hl, gr_in (by omega), hd, if_pos hx]
    have e : gacc f a (k + 1) = gacc f a k + 128 ^ k * x := by rw [gacc, hd, Int.emod_eq_of_lt h0 hx, Int.mul_comm]
    rw [e, if_neg]
    · simp
    · rintro (⟨p, q⟩ | r)
      · have := h2 p; omega
      · omega
  | succ fuel ih =>
    intro k x h0 h1 h2 h3 h4
    by_cases hx : x < 128
    · have hpb := pb_last (fuel + 1) x hx
      rw [hpb] at h4 ⊢
      have hd : f (a + k) = x := by have := h4 0 (by simp); simpa using this
      rw [show [x].length = 1 from rfl, gr_in (by omega), hd, if_pos hx]
      have e : gacc f a (k + 1) = gacc f a k + 128 ^ k * x := by rw [gacc, hd, Int.emod_eq_of_lt h0 hx, Int.mul_comm]
      rw [e, if_neg]
      · simp
      · rintro (⟨p, q⟩ | r)
        · have := h2 p; omega
        · omega
    · have hpb := pb_more fuel x hx
      rw [hpb] at h4 ⊢
      have hd : f (a + k) = x % 128 + 128 := by have := h4 0 (by simp); simpa using this
      have e1 : gacc f a (k + 1) + 128 ^ (k + 1) * (x / 128) = gacc f a k + 128 ^ k * x := by
        rw [gacc, hd, show (x % 128 + 128) % 128 = x % 128 by omega, Int.pow_succ]
        generalize hP : (128 : Int) ^ k = P
        have e2 : P * x = P * (128 * (x / 128) + x % 128) := by rw [Int.mul_ediv_add_emod]
        rw [e2, Int.mul_add, Int.mul_assoc P 128 (x / 128), Int.mul_comm (x % 128) P]
        omega
      have hlen : ((x % 128 + 128) :: pb fuel (x / 128)).length = (pb fuel (x / 128)).length + 1 := rfl
      have hx2 : x / 128 < 128 ^ (fuel + 1) := by
        rw [Int.pow_succ] at h1
        generalize (128 : Int) ^ (fuel + 1) = P at h1 ⊢
        omega
      have := ih (k + 1) (x / 128) (by omega) hx2 (fun _ => by omega) (by rw [e1]; exact h3) (fun i hi => by
        have := h4 (i + 1) (by rw [hlen]; omega)
        rw [show a + (k + 1) + i = a + k + (i + 1) by omega, this]; simp)
      rw [hlen, gr_in (by omega), hd, if_neg (by omega)]
      rw [show a + (k + 1) + (pb fuel (x / 128)).length = a + k + ((pb fuel (x / 128)).length + 1) by omega] at this
      rw [this, e1]
      simp
      omega

/-- A list of bytes as a text. -/
def bstr (L : List Int) : ByteArray := ⟨(L.map fun z => UInt8.ofNat z.toNat).toArray⟩

theorem conv_str {w : World} {ao : Option Addr} {cap : Nat} {L : List Int} (hs : SL .u8 w ao L.length (fun i => L.getD i 0)) (hz : ∀ z ∈ L, 0 ≤ z ∧ z ≤ 255) :
    (convert 22 9 (.slice ao L.length cap)).run Tryd.prog w = .ok (.string (bstr L)) w := by
  have h255 : ∀ j (hj : j < L.length), ((UInt8.ofNat L[j].toNat).toNat : Int) = L[j] := by
    intro j hj
    have := hz L[j] (List.getElem_mem hj)
    simp [UInt8.toNat_ofNat']
    omega
  cases ao with
  | some a =>
    have h := run_convert_bytes_back (P := Tryd.prog) w 22 9 5 a cap (L.map fun z => UInt8.ofNat z.toNat) Tryd.underlying22 Tryd.underlying5 Tryd.underlying9 (fun j hj => by
      have hj' : j < L.length := by simpa using hj
      obtain ⟨b, off, e, _, hc⟩ := hs j hj'
      simp at e
      subst e
      rw [Addr.add_lit, hc]
      simp only [List.getElem_map]
      rw [h255 j hj']
      simp [List.getD, hj'])
    simp only [List.length_map] at h
    exact h
  | none =>
    have hL : L = [] := by
      cases L with
      | nil => rfl
      | cons x L => obtain ⟨b, off, e, _⟩ := hs 0 (by simp); simp at e
    subst hL
    exact (run_convert_bytes_nil (P := Tryd.prog) (w := w) 22 5 Tryd.underlying22 Tryd.underlying5 0 cap 9 Tryd.underlying9).trans rfl
end Go.Proofs.YtbkfkaodpknjmacDoor

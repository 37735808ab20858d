/- MsgOf of the model. -/
import Derived.Test.YtcffhjpdkdaaeaaGreatDoorGo
import Derived.Test.YtcffhjpdkdaaeaaGreatDoorConvZ
import Derived.Test.YtcffhjpdkdaaeaaGreatDoorGb
import Derived.Deep.QuietTactic

namespace Go.Proofs.YtcffhjpdkdaaeaaGreatDoor
open Go.ChangeShapes Go.WideShapes Go.ChangeAt Go.RowKit
set_option linter.unusedVariables false
set_option linter.unusedSimpArgs false

/-- What MsgOf hands back. -/
def MsgOut (w w' : World) (n : Nat) (f : Nat → Int) (p : Int) (e : Ending) : Prop :=
  ((∃ k c v d G ro rc, Begins n f p k c v d G ∧ e = .returned (.tuple #[.agg #[.int .i64 k, .int .i64 c, .int .i64 v, .int .i64 d, .slice ro G.length rc], .int .i64 (p + (mb k c v d (fun i => G.getD i 0) G.length).length), .bool true]) ∧ G.length ≤ rc ∧ Own w' w.heap.size 3 ro G.length (fun i => .int .i64 (G.getD i 0))) ∨
   ((¬ ∃ k c v d G, Begins n f p k c v d G) ∧ e = .returned (.tuple #[.agg #[.int .i64 0, .int .i64 0, .int .i64 0, .int .i64 0, .slice none 0 0], .int .i64 0, .bool false]))) ∧ Below w.heap.size w w'

theorem sts_pos {n : Nat} {f : Nat → Int} {p : Int} (j : Nat) : ∀ {q : Int}, sts n f (some p) j = some q → p + j ≤ q ∧ (0 < j → q ≤ n) := by
  induction j with
  | zero => intro q h; cases h; exact ⟨by omega, fun h => absurd h (by omega)⟩
  | succ j ih =>
    intro q h
    rw [sts] at h
    cases hs : sts n f (some p) j with
    | none => rw [hs] at h; cases h
    | some q' =>
      rw [hs] at h
      have h1 := (ih hs).1
      simp only [nx] at h
      cases hr : rdI n f q' with
      | none => rw [hr] at h; cases h
      | some xy =>
        rw [hr] at h
        simp at h
        obtain ⟨x, y⟩ := xy
        have := rdI_pos hr
        simp at h
        omega
theorem rdv_pos (n : Nat) (f : Nat → Int) (st : Option Int) : 0 ≤ rdv n f st ∧ rdv n f st ≤ 2147483647 := by
  cases st with
  | none => simp [rdv]
  | some p =>
    simp only [rdv]
    cases hr : rdI n f p with
    | none => simp
    | some xy => obtain ⟨x, y⟩ := xy; have := rdI_pos hr; simp; omega

theorem mb_byte (k c v h : Int) (f : Nat → Int) (n : Nat) : ∀ z ∈ mb k c v h f n, 0 ≤ z ∧ z ≤ 255 := by
  unfold mb
  split
  · next hok =>
    obtain ⟨hn12, hfb, hkb, hcb, hvb, hhb⟩ := mok_bd hok
    have hl := mbody_len (k := k) (c := c) (v := v) (h := h) (f := f) hn12
    intro z hz
    simp only [framed, List.mem_append] at hz
    rcases hz with (hz | hz) | hz
    · exact pb_byte _ (by omega) (by omega) z hz
    · refine nums_byte ([k, c, v, h, (n : Int)] ++ (List.range n).map f) ?_ z hz
      intro x hx
      simp at hx
      rcases hx with rfl | rfl | rfl | rfl | rfl | ⟨j, hj, rfl⟩
      · exact hkb
      · exact hcb
      · exact hvb
      · exact hhb
      · omega
      · exact hfb j hj
    · simp [s4] at hz
      omega
  · simp
theorem bstr_inj {L M : List Int} (hL : ∀ z ∈ L, 0 ≤ z ∧ z ≤ 255) (hM : ∀ z ∈ M, 0 ≤ z ∧ z ≤ 255) (h : bstr L = bstr M) : L = M := by
  have back : ∀ N : List Int, (∀ z ∈ N, 0 ≤ z ∧ z ≤ 255) → (N.map fun z => UInt8.ofNat z.toNat).map (fun u => ((u.toNat : Nat) : Int)) = N := by
    intro N hN
    rw [List.map_map]
    conv => rhs; rw [← List.map_id N]
    refine List.map_congr_left fun z hz => ?_
    have := hN z hz
    simp [UInt8.toNat_ofNat']
    omega
  have e : (L.map fun z => UInt8.ofNat z.toNat) = (M.map fun z => UInt8.ofNat z.toNat) := by
    have := congrArg (fun b : ByteArray => b.data.toList) h
    simpa [bstr] using this
  rw [← back L hL, ← back M hM, e]

theorem bytes_ne {a b : ByteArray} (h : ¬ a = b) : (a.toList == b.toList) = false := by
  rw [beq_eq_false_iff_ne]
  intro e
  rw [ByteArray.toList_eq, ByteArray.toList_eq] at e
  exact h (WideShapes.bytes_inj e)
theorem own_set {w : World} {B g i n : Nat} {t : TypeId} {ao : Option Addr} {F : Nat → Value} (h : Own w B t ao n F) (hg : g < B) (v : Value) : Own (w.setCell ⟨g, i, none⟩ v) B t ao n F := by
  rcases h with h | ⟨g', ea, hB', c, hc, hs, hF⟩
  · exact .inl h
  · refine .inr ⟨g', ea, hB', c, ?_, hs, hF⟩
    simp only [World.setCell, Array.getElem?_modify]
    rw [if_neg (by omega)]
    exact hc
theorem own_put5 {w : World} {R B B' n : Nat} {t : TypeId} {ao : Option Addr} {F : Nat → Value} (h : Own w B t ao n F) (hR : R < B) (hB : B' ≤ B) (a b c d e : Value) :
    Own (((((w.setCell ⟨R, 0, none⟩ a).setCell ⟨R, 1, none⟩ b).setCell ⟨R, 2, none⟩ c).setCell ⟨R, 3, none⟩ d).setCell ⟨R, 4, none⟩ e) B' t ao n F := by
  have := own_set (i := 4) (own_set (i := 3) (own_set (i := 2) (own_set (i := 1) (own_set (i := 0) h hR a) hR b) hR c) hR d) hR e
  rcases this with h | ⟨g', ea, hB', c, hc, hs, hF⟩
  · exact .inl h
  · exact .inr ⟨g', ea, by omega, c, hc, hs, hF⟩

theorem below_put5 {w wr : World} (h : Below w.heap.size w wr) (a b c d e : Value) : Below w.heap.size w (((((wr.setCell ⟨w.heap.size, 0, none⟩ a).setCell ⟨w.heap.size, 1, none⟩ b).setCell ⟨w.heap.size, 2, none⟩ c).setCell ⟨w.heap.size, 3, none⟩ d).setCell ⟨w.heap.size, 4, none⟩ e) :=
  ((((h.setCell (p := ⟨w.heap.size, 0, none⟩) (Nat.le_refl _) a).setCell (p := ⟨w.heap.size, 1, none⟩) (Nat.le_refl _) b).setCell (p := ⟨w.heap.size, 2, none⟩) (Nat.le_refl _) c).setCell (p := ⟨w.heap.size, 3, none⟩) (Nat.le_refl _) d).setCell (p := ⟨w.heap.size, 4, none⟩) (Nat.le_refl _) e

end Go.Proofs.YtcffhjpdkdaaeaaGreatDoor

/- DrawUnpack of the model. -/
import Derived.Test.YtkeojhnifnkpiaaDrawQZ
import Derived.Test.YtkeojhnifnkpiaaUpIZ

namespace Go.Proofs.Ytkeojhnifnkpiaa
open Go.ChangeShapes Go.WideShapes Go.ChangeAt Go.RowKit
set_option linter.unusedVariables false
set_option linter.unusedSimpArgs false
set_option maxRecDepth 100000

theorem some_of {w : World} {B n : Nat} {v : Value} {xs : List Value} (h : w.ownsRow B 5 1 v n xs) (hv : v ≠ .slice none 0 0) : ∃ k c, v = .slice (some ⟨k, 0, none⟩) n c := by
  rcases h.2 with ⟨e, _⟩ | ⟨k, c, _, e, _⟩
  · exact absurd e hv
  · exact ⟨k, c, e⟩

theorem pack_some (ao : Option Addr) (n cap : Nat) (M : Nat → Mg) (w : World) (hn : n ≤ 1048576) (hg : ∀ i, i < n → (M i).g.length ≤ 1048576) (hs : MSL w ao n M) :
    Calls Try.prog 39 #[.slice ao n cap] w fun e w' => ∃ k c, e = .returned (.slice (some ⟨k, 0, none⟩) (pck M n).length c) ∧ w'.ownsRow w.heap.size 5 1 (.slice (some ⟨k, 0, none⟩) (pck M n).length c) (pck M n).length ((pck M n).map (.int .u8)) ∧ Below w.heap.size w w' := by
  obtain ⟨i0, hi, hz0, hz1, hz2⟩ := info_parts Try.info5
  have HS := hide hs
  have HG := hide hg
  clear hs hg
  go_enter Try.func39, Try.ntmps39
  go_wp2
  go_loopw [3, 4] (fun v i wr => ∃ j : Nat, j ≤ n ∧ i = .int .i64 j ∧ Hid (wr.ownsRow w.heap.size 5 1 v (frs M j).length ((frs M j).map (.int .u8)) ∧ Below w.heap.size w wr)) (fun _ i _ => n - (intOf i).toNat)
  case atStart => exact ⟨0, by omega, rfl, gempty (Nat.le_refl _), (Below.refl _ _).alloc (Nat.le_refl _) _⟩
  case round =>
    obtain ⟨j, hj, rfl, HI⟩ := hrel
    have hFl := frs_len M j
    by_cases hlt : j < n
    · obtain ⟨b, off, rfl, ro, rc, hrc, hsl, c0, c1, c2, c3, c4⟩ := (HS.out.below HI.out.2) j hlt
      have hG := HG.out j hlt
      have E : Hid (frs M (j + 1) = frs M j ++ mby (M j)) := rfl
      have hml := mby_len (M j)
      have HSL := hide hsl
      generalize M j = m at *
      generalize frs M j = F at *
      clear hsl
      go_wp2_with fail
      refine (mby_spec ro rc _ hG hrc HSL.out).mono ?_
      rintro e w3 ⟨v3, rfl, ho3, hb3⟩
      have HSR := hide (Src.of_owns ho3)
      have HI3 : Hid (w3.ownsRow w.heap.size 5 1 u3 F.length (F.map (.int .u8)) ∧ Below w.heap.size w w3) := ⟨gbelow HI.out.1 hb3, HI.out.2.trans (hb3.mono HI.out.2.size)⟩
      have hsz := HI3.out.2.size
      clear ho3 hb3 HI c0 c1 c2 c3 c4 HSL
      generalize mby m = B at *
      go_wp2_with (first
        | (at_builtin; refine wpList_append_src rfl _ _ 22 rfl w.heap.size 5 i0 (.int .u8 0) 1 Try.underlying22 hi hz0 hz1 hz2 rfl .u8 _ F rfl HI3.out.1 _ B rfl HSR.out (by unfold maxLen; omega) (by omega) hsz ?_; intro v' w4 hown' hgrow))
      have R := hide (And.intro hown' (ggrown HI3.out.2 hsz HI3.out.1 hgrow))
      clear hown' hgrow
      go_wp2
      go_roundw
      case rel => exact ⟨j + 1, by omega, by go_num, by rw [E.out]; exact R.out⟩
      case measure => simp [intOf]; omega
    · obtain rfl : j = n := by omega
      obtain ⟨ao', c', rfl⟩ := (Src.of_owns HI.out.1).form
      have hsl := (Src.of_owns HI.out.1).slu
      have hsq := hide (squeeze_spec ao' (frs M j).length c' (fun i => (frs M j).getD i 0) wr (by omega) hsl (fun i hi => frs_byte M j _ (getD_mem _ i hi)))
      clear hsl
      go_wp2_with fail
      refine hsq.out.mono ?_
      rintro e w5 ⟨v5, rfl, o5, hne5, b5⟩
      obtain ⟨k5, c5, rfl⟩ := some_of o5 hne5
      have R := hide (And.intro (gmono o5 HI.out.2.size) (HI.out.2.trans (b5.mono HI.out.2.size)))
      clear o5 b5 hsq
      go_wp2
      go_ret
      exact ⟨_, _, rfl, R.out⟩

set_option maxHeartbeats 400000 in
theorem draw_unp (ao : Option Addr) (n cap : Nat) (f : Nat → Int) (w : World) (hn : n ≤ 1048576) (hs : SL .u8 w ao n f) (hf : ∀ i, i < n → 0 ≤ f i ∧ f i ≤ 255) :
    Calls Try.prog 33 #[.slice ao n cap] w fun e w' => ∃ v L, e = .returned v ∧ (L : List Int).length ≤ 2001 ∧ (∀ z ∈ L, 0 ≤ z ∧ z ≤ 255) ∧ w'.ownsRow w.heap.size 5 1 v L.length (L.map (.int .u8)) ∧ Below w.heap.size w w' := by
  have HS := hide hs
  have HF := hide hf
  clear hs hf
  go_enter Try.func33, Try.ntmps33
  go_wp2_with fail
  refine (new_any ao n cap f _ hn HS.out HF.out).mono ?_
  rintro e w1 ⟨rfl, hc, b1⟩
  have H1 : Hid (Cur w1 w.heap.size ao n cap f ∧ Below w.heap.size w w1) := ⟨hc, b1⟩
  clear hc b1
  go_wp2_with fail
  refine (draw4l w.heap.size n cap ao f _ H1.out.1).mono ?_
  rintro e w2 ⟨v2, k, rfl, hk, M, R, hU, hM5, hcw⟩
  obtain ⟨o2, c2, rfl, _⟩ := hU.form
  have H2 := hide hcw
  have HU := hide (hU.msl rfl)
  have HM5 := hide hM5
  have hlt1 := hcw.2.2
  have hb2 : w1.heap.size ≤ w2.heap.size := hcw.2.1.size
  clear hU hM5 hcw
  go_wp2_with fail
  refine (pack_some o2 k c2 M _ (by omega) (fun i hi => by have := HM5.out i hi; omega) HU.out).mono ?_
  rintro e w3 ⟨k3, c3, rfl, ho3, hb3⟩
  have H3 : Hid (w3.ownsRow w2.heap.size 5 1 (.slice (some ⟨k3, 0, none⟩) (pck M k).length c3) (pck M k).length ((pck M k).map (.int .u8)) ∧ CurW w1 w3 w.heap.size ao n cap f) := ⟨ho3, H2.out.below hb3⟩
  have hb23 := hb3.size
  have HP := hide (pck_byte M k)
  have hpl : (pck M k).length ≤ 2000 := by
    have h1 := squeeze_len (fun i => (frs M k).getD i 0) (frs M k).length
    have h2 := frs_len M k
    unfold pck
    omega
  clear ho3 hb3 H2 HU HM5
  generalize pck M k = Y at H3 HP hpl ⊢
  go_wp2_with fail
  refine (dent w.heap.size n cap ao f k3 c3 w2.heap.size Y _ H3.out.2.1 hpl HP.out (by omega) hb23 H3.out.1).mono ?_
  rintro e w6 ⟨v6, L6, rfl, hl6, hb6, ho6, hcw6⟩
  have H6 : Hid (w6.ownsRow w2.heap.size 5 1 v6 L6.length (L6.map (.int .u8)) ∧ CurW w1 w6 w.heap.size ao n cap f) := ⟨ho6, H3.out.2.trans hcw6⟩
  have HB6 := hide hb6
  clear ho6 hcw6 hb6 H3 HP
  go_wp2
  go_ret
  exact ⟨_, L6, rfl, hl6, HB6.out, gmono H6.out.1 (by omega), H1.out.2.grown H6.out.2.2.1 H1.out.2.size (fun k hk => by cases hk; exact Nat.le_refl _)⟩
end Go.Proofs.Ytkeojhnifnkpiaa

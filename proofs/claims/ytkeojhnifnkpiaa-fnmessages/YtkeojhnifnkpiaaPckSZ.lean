/- Pack of the model and of the program. -/
import Derived.Test.YtkeojhnifnkpiaaMsLZ
import Derived.Test.YtkeojhnifnkpiaaSqzSZ
import Derived.Test.YtkeojhnifnkpiaaSqzIZ

namespace Go.Proofs.Ytkeojhnifnkpiaa
open Go.ChangeShapes Go.WideShapes Go.ChangeAt Go.RowKit
set_option linter.unusedVariables false
set_option linter.unusedSimpArgs false
set_option maxRecDepth 100000

/-- The messages packed. -/
def pck (M : Nat → Mg) (n : Nat) : List Int := squeeze (fun i => (frs M n).getD i 0) (frs M n).length

theorem pack_spec (ao : Option Addr) (n cap : Nat) (M : Nat → Mg) (w : World) (hn : n ≤ 1048576) (hg : ∀ i, i < n → (M i).g.length ≤ 1048576) (hs : MSL w ao n M) :
    Calls Try.prog 39 #[.slice ao n cap] w fun e w' => ∃ v, e = .returned v ∧ w'.ownsRow w.heap.size 5 1 v (pck M n).length ((pck M n).map (.int .u8)) ∧ Below w.heap.size w w' := by
  obtain ⟨i0, hi, hz0, hz1, hz2⟩ := info_parts Try.info5
  have HS := hide hs
  have HG := hide hg
  clear hs hg
  go_enter Try.func39, Try.ntmps39
  go_wp2
  go_loopw [3, 4] (fun v i wr => ∃ j : Nat, j ≤ n ∧ i = .int .i64 j ∧ Hid (wr.ownsRow w.heap.size 5 1 v (frs M j).length ((frs M j).map (.int .u8)) ∧ Below w.heap.size w wr)) (fun _ i _ => n - (intOf i).toNat)
  case atStart => exact ⟨0, by omega, rfl, gempty (Nat.le_refl _), (Below.refl _ _).alloc (Nat.le_refl _) _⟩
  case round =>
    obtain ⟨j, hj, rfl, HI⟩ := hrel
    have hFl := frs_len M j
    by_cases hlt : j < n
    · obtain ⟨b, off, rfl, ro, rc, hrc, hsl, c0, c1, c2, c3, c4⟩ := (HS.out.below HI.out.2) j hlt
      have hG := HG.out j hlt
      have E : Hid (frs M (j + 1) = frs M j ++ mby (M j)) := rfl
      have hml := mby_len (M j)
      have HSL := hide hsl
      generalize M j = m at *
      generalize frs M j = F at *
      clear hsl
      go_wp2_with fail
      refine (mby_spec ro rc _ hG hrc HSL.out).mono ?_
      rintro e w3 ⟨v3, rfl, ho3, hb3⟩
      have HSR := hide (Src.of_owns ho3)
      have HI3 : Hid (w3.ownsRow w.heap.size 5 1 u3 F.length (F.map (.int .u8)) ∧ Below w.heap.size w w3) := ⟨gbelow HI.out.1 hb3, HI.out.2.trans (hb3.mono HI.out.2.size)⟩
      have hsz := HI3.out.2.size
      clear ho3 hb3 HI c0 c1 c2 c3 c4 HSL
      generalize mby m = B at *
      go_wp2_with (first
        | (at_builtin; refine wpList_append_src rfl _ _ 22 rfl w.heap.size 5 i0 (.int .u8 0) 1 Try.underlying22 hi hz0 hz1 hz2 rfl .u8 _ F rfl HI3.out.1 _ B rfl HSR.out (by unfold maxLen; omega) (by omega) hsz ?_; intro v' w4 hown' hgrow))
      have R := hide (And.intro hown' (ggrown HI3.out.2 hsz HI3.out.1 hgrow))
      clear hown' hgrow
      go_wp2
      go_roundw
      case rel => exact ⟨j + 1, by omega, by go_num, by rw [E.out]; exact R.out⟩
      case measure => simp [intOf]; omega
    · obtain rfl : j = n := by omega
      obtain ⟨ao', c', rfl⟩ := (Src.of_owns HI.out.1).form
      have hsl := (Src.of_owns HI.out.1).slu
      have hsq := hide (squeeze_spec ao' (frs M j).length c' (fun i => (frs M j).getD i 0) wr (by omega) hsl (fun i hi => frs_byte M j _ (getD_mem _ i hi)))
      clear hsl
      go_wp2_with fail
      refine hsq.out.mono ?_
      rintro e w5 ⟨v5, rfl, o5, _, b5⟩
      have R := hide (And.intro (gmono o5 HI.out.2.size) (HI.out.2.trans (b5.mono HI.out.2.size)))
      clear o5 b5 hsq
      go_wp2
      go_ret
      exact ⟨_, rfl, R.out⟩
theorem pack_impl (ao : Option Addr) (n cap : Nat) (M : Nat → Mg) (w : World) (hn : n ≤ 1048576) (hg : ∀ i, i < n → (M i).g.length ≤ 1048576) (hs : MSL w ao n M) :
    Calls Try.prog 32 #[.slice ao n cap] w fun e w' => ∃ v, e = .returned v ∧ w'.ownsRow w.heap.size 5 1 v (pck M n).length ((pck M n).map (.int .u8)) ∧ Below w.heap.size w w' := by
  obtain ⟨i0, hi, hz0, hz1, hz2⟩ := info_parts Try.info5
  have HS := hide hs
  have HG := hide hg
  clear hs hg
  go_enter Try.func32, Try.ntmps32
  go_wp2
  go_loopw [3, 5, 8] (fun v _ i wr => ∃ j : Nat, j ≤ n ∧ i = .int .i64 j ∧ Hid (wr.ownsRow w.heap.size 5 1 v (frs M j).length ((frs M j).map (.int .u8)) ∧ Below w.heap.size w wr)) (fun _ _ i _ => n - (intOf i).toNat)
  case atStart => exact ⟨0, by omega, rfl, gnil, Below.refl _ _⟩
  case round =>
    obtain ⟨j, hj, rfl, HI⟩ := hrel
    have hFl := frs_len M j
    by_cases hlt : j < n
    · obtain ⟨b, off, rfl, ro, rc, hrc, hsl, c0, c1, c2, c3, c4⟩ := (HS.out.below HI.out.2) j hlt
      have hG := HG.out j hlt
      have E : Hid (frs M (j + 1) = frs M j ++ mby (M j)) := rfl
      have hml := mby_len (M j)
      have HSL := hide hsl
      generalize M j = m at *
      generalize frs M j = F at *
      clear hsl
      go_wp2_with fail
      have hbA : Below wr.heap.size wr (wr.alloc (.cells #[.int .i64 m.k, .int .i64 m.c, .int .i64 m.v, .int .i64 m.h, .slice ro m.g.length rc] 40)) := (Below.refl _ _).alloc (Nat.le_refl _) _
      refine (mby_impl ro rc _ hG hrc (HSL.out.below hbA)).mono ?_
      rintro e w3 ⟨v3, rfl, ho3, hb3'⟩
      have hb3 := hbA.trans (hb3'.mono hbA.size)
      clear hb3' hbA
      have HSR := hide (Src.of_owns ho3)
      have HI3 : Hid (w3.ownsRow w.heap.size 5 1 u3 F.length (F.map (.int .u8)) ∧ Below w.heap.size w w3) := ⟨gbelow HI.out.1 hb3, HI.out.2.trans (hb3.mono HI.out.2.size)⟩
      have hsz := HI3.out.2.size
      clear ho3 hb3 HI c0 c1 c2 c3 c4 HSL
      generalize mby m = B at *
      go_wp2_with (first
        | (at_builtin; refine wpList_append_src rfl _ _ 22 rfl w.heap.size 5 i0 (.int .u8 0) 1 Try.underlying22 hi hz0 hz1 hz2 rfl .u8 _ F rfl HI3.out.1 _ B rfl HSR.out (by unfold maxLen; omega) (by omega) hsz ?_; intro v' w4 hown' hgrow))
      have R := hide (And.intro hown' (ggrown HI3.out.2 hsz HI3.out.1 hgrow))
      clear hown' hgrow
      go_wp2
      go_roundw
      case rel => exact ⟨j + 1, by omega, by go_num, by rw [E.out]; exact R.out⟩
      case measure => simp [intOf]; omega
    · obtain rfl : j = n := by omega
      obtain ⟨ao', c', rfl⟩ := (Src.of_owns HI.out.1).form
      have hsl := (Src.of_owns HI.out.1).slu
      have hsq := hide (squeeze_impl ao' (frs M j).length c' (fun i => (frs M j).getD i 0) wr (by omega) hsl (fun i hi => frs_byte M j _ (getD_mem _ i hi)))
      clear hsl
      go_wp2_with fail
      refine hsq.out.mono ?_
      rintro e w5 ⟨v5, rfl, o5, b5⟩
      have R := hide (And.intro (gmono o5 HI.out.2.size) (HI.out.2.trans (b5.mono HI.out.2.size)))
      clear o5 b5 hsq
      go_wp2
      go_ret
      exact ⟨_, rfl, R.out⟩
end Go.Proofs.Ytkeojhnifnkpiaa

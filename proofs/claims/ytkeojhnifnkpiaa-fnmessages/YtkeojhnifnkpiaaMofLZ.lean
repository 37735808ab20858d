/- A message that MsgOf handed back, marked and found again; that it is one alone. -/
import Derived.Test.YtkeojhnifnkpiaaGd

namespace Go.Proofs.Ytkeojhnifnkpiaa
open Go.ChangeShapes Go.WideShapes Go.ChangeAt Go.RowKit
set_option linter.unusedVariables false
set_option linter.unusedSimpArgs false

theorem begins_one {n : Nat} {f : Nat → Int} {p k c v d k' c' v' d' : Int} {G G' : List Int} (h : Begins n f p k c v d G) (h' : Begins n f p k' c' v' d' G') : k = k' ∧ c = c' ∧ v = v' ∧ d = d' ∧ G = G' := by
  obtain ⟨_, _, e1, e2, e3, e4, e5, e6⟩ := begins_read h
  obtain ⟨_, _, g1, g2, g3, g4, g5, g6⟩ := begins_read h'
  have hl : G.length = G'.length := by omega
  refine ⟨e1.symm.trans g1, e2.symm.trans g2, e3.symm.trans g3, e4.symm.trans g4, ?_⟩
  rw [← range_getD G, ← range_getD G', hl]
  refine List.map_congr_left fun i hi => ?_
  have hi' : i < G'.length := by simpa using hi
  rw [← e6 i (by omega), ← g6 i hi']

theorem imark_own (g n cap B : Nat) (k0 : Int) (F : Nat → Value) (w : World) (hn : n ≤ 1048576) (h0 : 0 ≤ k0) (h1 : k0 ≤ 1099511627776) (ho : Own w B 3 (some ⟨g, 0, none⟩) n F) :
    Calls Try.prog 107 #[.slice (some ⟨g, 0, none⟩) n cap, .int .i64 k0] w fun e w' => e = .returned (.int .i64 (k0 + n)) ∧ Own w' B 3 (some ⟨g, 0, none⟩) n (fun j => .int .i64 (k0 + j)) ∧ Only g w w' := by
  go_enter Try.func107, Try.ntmps107
  go_wp2
  go_loopw [1, 5] (fun m i wr => ∃ k : Nat, k ≤ n ∧ i = .int .i64 k ∧ m = .int .i64 (k0 + k) ∧ Own wr B 3 (some ⟨g, 0, none⟩) n (fun j => if j < k then .int .i64 (k0 + j) else F j) ∧ Only g w wr) (fun _ i _ => n - (intOf i).toNat)
  case atStart => exact ⟨0, Nat.zero_le _, rfl, by simp, ho.congr (by intro i _; simp), Only.refl _ _⟩
  case round =>
    obtain ⟨k, hk, rfl, rfl, hrow, hbel⟩ := hrel
    by_cases hlt : k < n
    · obtain ⟨g', e, hB, hg, hc, hf⟩ := hrow.at hlt
      cases e
      have R := imark_step hrow
      have R2 := hbel.setCell (i := k) (.int .i64 (k0 + k))
      clear hrow ho
      go_wp2
      go_roundw
      case rel => exact ⟨k + 1, by omega, by go_num, by go_num, R, R2⟩
      case measure => simp [intOf]; omega
    · have hkn : k = n := by omega
      subst hkn
      go_wp2
      go_ret
      exact ⟨rfl, hrow.congr (by intro i hi; rw [if_pos (by omega)]), hbel⟩

end Go.Proofs.Ytkeojhnifnkpiaa

/- l1Below over more than 256. -/
import Derived.Test.YtjbhgedbkajmdaaGa

namespace Go.Proofs.Ytjbhgedbkajmdaa
open Go.ChangeShapes Go.WideShapes Go.ChangeAt Go.RowKit
set_option linter.unusedVariables false
set_option linter.unusedSimpArgs false

theorem below_big (g n cap : Nat) (m : Int) (ao : Option Addr) (f : Nat → Int) (w : World) (h0 : 256 < m) (h1 : m ≤ 1000000) (hc : Cur w g ao n cap f) :
    Calls Try.prog 76 #[.pointer (some ⟨g, 0, none⟩), .int .i64 m] w fun e w' => (∃ x : Int, e = .returned (.int .i64 x) ∧ 0 ≤ x ∧ x < m) ∧ Cur w' g ao n cap f ∧ w.grownBy w' (some g) := by
  have HC : Hid (Cur w g ao n cap f) := hc
  clear hc
  go_enter Try.func76, Try.ntmps76
  go_wp2_with fail
  refine (byte_any g n cap ao f _ HC.out).mono ?_
  rintro e w1 ⟨⟨x, rfl, hx0, hx1⟩, hcur, hgr⟩
  have HC1 : Hid (Cur w1 g ao n cap f ∧ w.grownBy w1 (some g)) := ⟨hcur, hgr⟩
  clear hcur hgr HC
  go_wp2_with fail
  refine (byte_any g n cap ao f _ HC1.out.1).mono ?_
  rintro e w2 ⟨⟨y, rfl, hy0, hy1⟩, hcur, hgr⟩
  have HC2 : Hid (Cur w2 g ao n cap f ∧ w.grownBy w2 (some g)) := ⟨hcur, grown_trans HC1.out.2 hgr⟩
  clear hcur hgr HC1
  go_wp2_with fail
  refine (byte_any g n cap ao f _ HC2.out.1).mono ?_
  rintro e w3 ⟨⟨z, rfl, hz0, hz1⟩, hcur, hgr⟩
  have HC3 : Hid (Cur w3 g ao n cap f ∧ w.grownBy w3 (some g)) := ⟨hcur, grown_trans HC2.out.2 hgr⟩
  clear hcur hgr HC2
  go_wp2_with fail
  refine (byte_any g n cap ao f _ HC3.out.1).mono ?_
  rintro e w4 ⟨⟨u, rfl, hu0, hu1⟩, hcur, hgr⟩
  have HC4 : Hid (Cur w4 g ao n cap f ∧ w.grownBy w4 (some g)) := ⟨hcur, grown_trans HC3.out.2 hgr⟩
  clear hcur hgr HC3
  go_wp2
  go_ret
  exact ⟨⟨_, rfl, Int.emod_nonneg _ (by omega), Int.emod_lt_of_pos _ (by omega)⟩, HC4.out⟩

theorem below_all (g n cap : Nat) (m : Int) (ao : Option Addr) (f : Nat → Int) (w : World) (h0 : 1 ≤ m) (h1 : m ≤ 1000000) (hc : Cur w g ao n cap f) :
    Calls Try.prog 76 #[.pointer (some ⟨g, 0, none⟩), .int .i64 m] w fun e w' => (∃ x : Int, e = .returned (.int .i64 x) ∧ 0 ≤ x ∧ x < m) ∧ Cur w' g ao n cap f ∧ w.grownBy w' (some g) := by
  by_cases h : m ≤ 256
  · exact below_any g n cap m ao f w h0 h hc
  · exact below_big g n cap m ao f w (by omega) h1 hc
end Go.Proofs.Ytjbhgedbkajmdaa

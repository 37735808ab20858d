/- MsgOk of the program: what is in bounds. -/
import Derived.Test.YtjbhgedbkajmdaaMokI2Z
import Derived.Test.YtjbhgedbkajmdaaGd

namespace Go.Proofs.Ytjbhgedbkajmdaa
open Go.ChangeShapes Go.WideShapes Go.ChangeAt Go.RowKit
set_option linter.unusedVariables false
set_option linter.unusedSimpArgs false

/-- b tells whether p holds. -/
def TellsB (b : Bool) (p : Prop) : Prop := b = true ↔ p
theorem tellsB (p : Prop) : ∃ b : Bool, TellsB b p := by
  by_cases h : p
  · exact ⟨true, by simp [TellsB, h]⟩
  · exact ⟨false, by simp [TellsB, h]⟩
theorem tellsB_of (p : Prop) [Decidable p] : TellsB (decide p) p := by simp [TellsB]
theorem gensok_b (ao : Option Addr) (n cap : Nat) (f : Nat → Int) (w : World) (hn : n ≤ 1048576) (hcap : n ≤ cap) (hs : SL .i64 w ao n f) (b : Bool) (hb : TellsB b (GOk f n)) :
    Calls Try.prog 31 #[.slice ao n cap] w fun e w' => e = .returned (.bool b) ∧ ∃ q, w' = w.drewN q :=
  (gensok_impl ao n cap f w hn hcap hs).mono fun e w' ⟨h1, h2⟩ => ⟨by
    rcases h1 with ⟨h, rfl⟩ | ⟨h, rfl⟩
    · rw [hb.2 h]
    · cases b with
      | false => rfl
      | true => exact absurd (hb.1 rfl) h, h2⟩
end Go.Proofs.Ytjbhgedbkajmdaa

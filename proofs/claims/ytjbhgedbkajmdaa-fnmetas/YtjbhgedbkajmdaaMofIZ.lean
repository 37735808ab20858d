/- MsgOf of the program: numbers read, bytes held against each other. -/
import Derived.Test.YtjbhgedbkajmdaaGet4Z
import Derived.Test.YtjbhgedbkajmdaaMofSZ
import Derived.Test.YtjbhgedbkajmdaaMbyI3Z

namespace Go.Proofs.Ytjbhgedbkajmdaa
open Go.ChangeShapes Go.WideShapes Go.ChangeAt Go.RowKit
set_option linter.unusedVariables false
set_option linter.unusedSimpArgs false

theorem geti_any (ao : Option Addr) (n cap : Nat) (p : Int) (f : Nat → Int) (w : World) (hn : n ≤ 1048576) (hp0 : -9223372036854775808 ≤ p) (hp : p ≤ 9223372036854775807) (hs : SL .u8 w ao n f) (hf : ∀ i, i < n → 0 ≤ f i ∧ f i ≤ 255) :
    Calls Try.prog 84 #[.slice ao n cap, .int .i64 p] w fun e w' => e = .returned (gres (rdI n f p)) ∧ w' = w := by
  by_cases h : p < 0
  · have e : rdI n f p = none := by unfold rdI; rw [if_pos h]
    rw [e]
    exact get_impl_of ao n cap p none w (read_neg ao n cap p w h hp0)
  · obtain ⟨a, rfl⟩ := Int.eq_ofNat_of_zero_le (Int.not_lt.1 h)
    have e : rdI n f (a : Int) = gr n f a 5 0 := by unfold rdI; rw [if_neg h]; simp
    rw [e]
    exact get_impl_of ao n cap a _ w (read_any ao n cap a f w hn hp hs hf)

/-- The numbers that are read from p on. -/
def rdl (n : Nat) (f : Nat → Int) (p : Int) (c : Nat) : List Int := (List.range c).map (fun j => rdv n f (sts n f (some p) j))
theorem rdl_succ (n : Nat) (f : Nat → Int) (p : Int) (c : Nat) : rdl n f p (c + 1) = rdl n f p c ++ [rdv n f (sts n f (some p) c)] := by simp [rdl, List.range_succ]
theorem rdl_len (n : Nat) (f : Nat → Int) (p : Int) (c : Nat) : (rdl n f p c).length = c := by simp [rdl]
theorem sts_bd (n : Nat) (f : Nat → Int) (p : Int) (c : Nat) (q : Int) (h : sts n f (some p) c = some q) : q = p ∨ (0 ≤ q ∧ q ≤ n) := by
  cases c with
  | zero => simp [sts] at h; omega
  | succ c =>
    rw [sts] at h
    cases hs : sts n f (some p) c with
    | none => rw [hs] at h; cases h
    | some r =>
      rw [hs] at h
      simp only [nx, Option.map_eq_some_iff] at h
      obtain ⟨⟨x, y⟩, h1, h2⟩ := h
      have := rdI_pos h1
      simp at h2
      omega
theorem sts_none_le (n : Nat) (f : Nat → Int) (st : Option Int) (c d : Nat) (h : sts n f st c = none) (hd : c ≤ d) : sts n f st d = none := by
  induction d with
  | zero => obtain rfl : c = 0 := by omega
            exact h
  | succ d ih =>
    by_cases e : c = d + 1
    · subst e; exact h
    · rw [sts, ih (by omega)]; rfl

/-- What getNums hands back. -/
def GnOut (w w' : World) (n : Nat) (f : Nat → Int) (p : Int) (c : Nat) (e : Ending) : Prop :=
  ((∃ q v, sts n f (some p) c = some q ∧ e = .returned (.tuple #[v, .int .i64 q, .bool true]) ∧ w'.ownsRow w.heap.size 3 1 v c ((rdl n f p c).map (.int .i64))) ∨
   (sts n f (some p) c = none ∧ e = .returned (.tuple #[.slice none 0 0, .int .i64 0, .bool false]))) ∧ Below w.heap.size w w'

set_option maxRecDepth 100000 in
theorem bequal_any (ao bo : Option Addr) (ca cb : Nat) (L M : List Int) (w : World) (hL : ∀ z ∈ L, 0 ≤ z ∧ z ≤ 255) (hM : ∀ z ∈ M, 0 ≤ z ∧ z ≤ 255) (hA : SL .u8 w ao L.length (fun i => L.getD i 0)) (hB : SL .u8 w bo M.length (fun i => M.getD i 0)) (b : Bool) (hb : TellsB b (L = M)) :
    Calls Try.prog 48 #[.slice ao L.length ca, .slice bo M.length cb] w fun e w' => e = .returned (.bool b) ∧ w' = w := by
  have hcv1 : (convert 22 9 (.slice ao L.length ca)).run Try.prog w = .ok (.string (bstr L)) w := conv_str hA hL
  have hcv2 : (convert 22 9 (.slice bo M.length cb)).run Try.prog w = .ok (.string (bstr M)) w := conv_str hB hM
  have HT : Hid (TellsB b (bstr L = bstr M)) := ⟨fun h => by rw [hb.1 h], fun h => hb.2 (bstr_inj hL hM h)⟩
  clear hb hL hM hA hB
  generalize bstr L = sL at *
  generalize bstr M = sM at *
  by_cases h : sL = sM
  · obtain rfl : b = true := HT.out.2 h
    subst h
    clear HT
    go_enter Try.func48, Try.ntmps48
    go_wp2
    go_ret
    exact ⟨by simp, rfl⟩
  · obtain rfl : b = false := by
      cases b with
      | false => rfl
      | true => exact absurd (HT.out.1 rfl) h
    clear HT
    have h1 : (sL.toList == sM.toList) = false := by
      rw [beq_eq_false_iff_ne]
      intro e
      exact h (by rw [ByteArray.toList_eq, ByteArray.toList_eq] at e; exact WideShapes.bytes_inj e)
    go_enter Try.func48, Try.ntmps48
    go_wp2
    go_ret
    exact ⟨by simp [h1, h], rfl⟩
end Go.Proofs.Ytjbhgedbkajmdaa

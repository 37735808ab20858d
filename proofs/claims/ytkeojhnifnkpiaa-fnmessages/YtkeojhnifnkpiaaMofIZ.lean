/- MsgOf of the program: numbers read, bytes held against each other. -/
import Derived.Test.YtkeojhnifnkpiaaGb
import Derived.Test.YtkeojhnifnkpiaaGd
import Derived.Test.YtkeojhnifnkpiaaMbyI3Z

namespace Go.Proofs.Ytkeojhnifnkpiaa
open Go.ChangeShapes Go.WideShapes Go.ChangeAt Go.RowKit
set_option linter.unusedVariables false
set_option linter.unusedSimpArgs false

theorem geti_any (ao : Option Addr) (n cap : Nat) (p : Int) (f : Nat → Int) (w : World) (hn : n ≤ 1048576) (hp0 : -9223372036854775808 ≤ p) (hp : p ≤ 9223372036854775807) (hs : SL .u8 w ao n f) (hf : ∀ i, i < n → 0 ≤ f i ∧ f i ≤ 255) :
    Calls Try.prog 85 #[.slice ao n cap, .int .i64 p] w fun e w' => e = .returned (gres (rdI n f p)) ∧ w' = w := by
  by_cases h : p < 0
  · have e : rdI n f p = none := by unfold rdI; rw [if_pos h]
    rw [e]
    exact get_impl_of ao n cap p none w (read_neg ao n cap p w h hp0)
  · obtain ⟨a, rfl⟩ := Int.eq_ofNat_of_zero_le (Int.not_lt.1 h)
    have e : rdI n f (a : Int) = gr n f a 5 0 := by unfold rdI; rw [if_neg h]; simp
    rw [e]
    exact get_impl_of ao n cap a _ w (read_any ao n cap a f w hn hp hs hf)

/-- The numbers that are read from p on. -/
def rdl (n : Nat) (f : Nat → Int) (p : Int) (c : Nat) : List Int := (List.range c).map (fun j => rdv n f (sts n f (some p) j))
theorem rdl_succ (n : Nat) (f : Nat → Int) (p : Int) (c : Nat) : rdl n f p (c + 1) = rdl n f p c ++ [rdv n f (sts n f (some p) c)] := by simp [rdl, List.range_succ]
theorem rdl_len (n : Nat) (f : Nat → Int) (p : Int) (c : Nat) : (rdl n f p c).length = c := by simp [rdl]
theorem sts_bd (n : Nat) (f : Nat → Int) (p : Int) (c : Nat) (q : Int) (h : sts n f (some p) c = some q) : q = p ∨ (0 ≤ q ∧ q ≤ n) := by
  cases c with
  | zero => simp [sts] at h; omega
  | succ c =>
    rw [sts] at h
    cases hs : sts n f (some p) c with
    | none => rw [hs] at h; cases h
    | some r =>
      rw [hs] at h
      simp only [nx, Option.map_eq_some_iff] at h
      obtain ⟨⟨x, y⟩, h1, h2⟩ := h
      have := rdI_pos h1
      simp at h2
      omega
theorem sts_none_le (n : Nat) (f : Nat → Int) (st : Option Int) (c d : Nat) (h : sts n f st c = none) (hd : c ≤ d) : sts n f st d = none := by
  induction d with
  | zero => obtain rfl : c = 0 := by omega
            exact h
  | succ d ih =>
    by_cases e : c = d + 1
    · subst e; exact h
    · rw [sts, ih (by omega)]; rfl

/-- What getNums hands back. -/
def GnOut (w w' : World) (n : Nat) (f : Nat → Int) (p : Int) (c : Nat) (e : Ending) : Prop :=
  ((∃ q v, sts n f (some p) c = some q ∧ e = .returned (.tuple #[v, .int .i64 q, .bool true]) ∧ w'.ownsRow w.heap.size 3 1 v c ((rdl n f p c).map (.int .i64))) ∨
   (sts n f (some p) c = none ∧ e = .returned (.tuple #[.slice none 0 0, .int .i64 0, .bool false]))) ∧ Below w.heap.size w w'

set_option maxHeartbeats 1000000 in
set_option maxRecDepth 100000 in
theorem getnums_impl (ao : Option Addr) (n cap : Nat) (p : Int) (c : Nat) (f : Nat → Int) (w : World) (hn : n ≤ 1048576) (hc : c ≤ 100) (hp0 : -9223372036854775808 ≤ p) (hp : p ≤ 9223372036854775807) (hs : SL .u8 w ao n f) (hf : ∀ i, i < n → 0 ≤ f i ∧ f i ≤ 255) :
    Calls Try.prog 130 #[.slice ao n cap, .int .i64 p, .int .i64 (c : Int)] w fun e w' => GnOut w w' n f p c e := by
  obtain ⟨i0, hi, hz0, hz1, hz2⟩ := info_parts Try.info3
  have HS := hide hs
  have HF := hide hf
  clear hs hf
  go_enter Try.func130, Try.ntmps130
  go_wp2
  go_loopw [1, 9, 10, 11, 12, 14] (fun y v _ _ _ i wr => ∃ (k : Nat) (q : Int), k ≤ c ∧ i = .int .i64 k ∧ y = .int .i64 q ∧ Hid (sts n f (some p) k = some q) ∧ Hid (wr.ownsRow w.heap.size 3 1 v k ((rdl n f p k).map (.int .i64)) ∧ Below w.heap.size w wr)) (fun _ _ _ _ _ i _ => c - (intOf i).toNat)
  case atStart => exact ⟨0, p, by omega, rfl, rfl, rfl, gnil, Below.refl _ _⟩
  case round =>
    obtain ⟨k, q, hk, rfl, rfl, HQ, HI⟩ := hrel
    have hq := sts_bd n f p k q HQ.out
    by_cases hlt : k < c
    · have hcall := hide (geti_any ao n cap q f wr hn (by omega) (by omega) (HS.out.below HI.out.2) HF.out)
      have E0 : Hid (sts n f (some p) (k + 1) = nx n f (some q)) := (show _ = _ by rw [sts, HQ.out])
      have E1 : Hid (rdl n f p (k + 1) = rdl n f p k ++ [rdv n f (some q)]) := (show _ = _ by rw [rdl_succ, HQ.out])
      cases hr : rdI n f q with
      | none =>
        have HN : Hid (sts n f (some p) c = none) := sts_none_le n f (some p) (k + 1) c (by rw [E0.out]; simp [nx, hr]) (by omega)
        rw [hr] at hcall
        unfold gres at hcall
        have HB := hide HI.out.2
        clear hr E0 E1 HI HQ
        go_wp2_with fail
        refine hcall.out.mono ?_
        rintro e w3 ⟨rfl, hw⟩
        rw [hw]
        clear hw hcall
        go_wp2
        go_ret3
        exact ⟨.inr ⟨HN.out, rfl⟩, HB.out⟩
      | some xy =>
        obtain ⟨x, y⟩ := xy
        have hxy := rdI_pos hr
        have E0' : Hid (sts n f (some p) (k + 1) = some y) := (show _ = _ by rw [E0.out]; simp [nx, hr])
        have E1' : Hid (rdl n f p (k + 1) = rdl n f p k ++ [x]) := (show _ = _ by rw [E1.out]; simp [rdv, hr])
        rw [hr] at hcall
        unfold gres at hcall
        clear hr E0 E1
        have hL := rdl_len n f p k
        generalize rdl n f p k = L at *
        have HI2 : Hid (∀ o, (wr.alloc o).ownsRow w.heap.size 3 1 u9 L.length (L.map (.int .i64))) := fun o => by rw [hL]; exact HI.out.1.alloc o
        have HI3 : Hid (wr.ownsRow w.heap.size 3 1 u9 L.length (L.map (.int .i64))) := by rw [hL]; exact HI.out.1
        have HB2 : Hid (∀ o, Below w.heap.size w (wr.alloc o)) := fun o => HI.out.2.alloc HI.out.2.size o
        have HSR : Hid (Src .i64 (wr.alloc (.cells #[.int .i64 x] 3)) (.slice (some ⟨wr.heap.size, 0, none⟩) 1 1) [x]) := .inr ⟨⟨wr.heap.size, 0, none⟩, 1, rfl, gcells wr [.int .i64 x] 3⟩
        have hL2 : L.length ≤ 100 := by omega
        have HL := hide hL
        clear hL HI
        go_wp2_with fail
        refine hcall.out.mono ?_
        rintro e w3 ⟨rfl, hw⟩
        rw [hw]
        clear hw hcall
        go_wp2_with (first
          | (at_builtin; refine wpList_append_src rfl _ _ 24 rfl w.heap.size 3 i0 (.int .i64 0) 8 Try.underlying24 hi hz0 hz1 hz2 rfl .i64 _ L rfl (HI2.out _) _ [x] rfl HSR.out (glens (by simp; omega)) (by simp; omega) (HB2.out _).size ?_; intro v' w4 hown' hgrow))
        have R := hide (And.intro hown' (ggrown (HB2.out _) (HB2.out _).size HI3.out hgrow))
        clear hown' hgrow HI2 HB2 HSR HI3
        go_wp2
        go_roundw
        case rel =>
          refine ⟨k + 1, y, by omega, by go_num, rfl, E0'.out, ?_⟩
          rw [E1'.out]
          have := R.out
          rw [List.length_append, HL.out] at this
          exact this
        case measure => simp [intOf]; omega
    · obtain rfl : k = c := by omega
      go_wp2
      go_ret3
      exact ⟨.inl ⟨q, _, HQ.out, rfl, HI.out.1⟩, HI.out.2⟩
set_option maxRecDepth 100000 in
theorem bequal_any (ao bo : Option Addr) (ca cb : Nat) (L M : List Int) (w : World) (hL : ∀ z ∈ L, 0 ≤ z ∧ z ≤ 255) (hM : ∀ z ∈ M, 0 ≤ z ∧ z ≤ 255) (hA : SL .u8 w ao L.length (fun i => L.getD i 0)) (hB : SL .u8 w bo M.length (fun i => M.getD i 0)) (b : Bool) (hb : TellsB b (L = M)) :
    Calls Try.prog 60 #[.slice ao L.length ca, .slice bo M.length cb] w fun e w' => e = .returned (.bool b) ∧ w' = w := by
  have hcv1 : (convert 22 9 (.slice ao L.length ca)).run Try.prog w = .ok (.string (bstr L)) w := conv_str hA hL
  have hcv2 : (convert 22 9 (.slice bo M.length cb)).run Try.prog w = .ok (.string (bstr M)) w := conv_str hB hM
  have HT : Hid (TellsB b (bstr L = bstr M)) := ⟨fun h => by rw [hb.1 h], fun h => hb.2 (bstr_inj hL hM h)⟩
  clear hb hL hM hA hB
  generalize bstr L = sL at *
  generalize bstr M = sM at *
  by_cases h : sL = sM
  · obtain rfl : b = true := HT.out.2 h
    subst h
    clear HT
    go_enter Try.func60, Try.ntmps60
    go_wp2
    go_ret
    exact ⟨by simp, rfl⟩
  · obtain rfl : b = false := by
      cases b with
      | false => rfl
      | true => exact absurd (HT.out.1 rfl) h
    clear HT
    have h1 : (sL.toList == sM.toList) = false := by
      rw [beq_eq_false_iff_ne]
      intro e
      exact h (by rw [ByteArray.toList_eq, ByteArray.toList_eq] at e; exact WideShapes.bytes_inj e)
    go_enter Try.func60, Try.ntmps60
    go_wp2
    go_ret
    exact ⟨by simp [h1, h], rfl⟩
end Go.Proofs.Ytkeojhnifnkpiaa

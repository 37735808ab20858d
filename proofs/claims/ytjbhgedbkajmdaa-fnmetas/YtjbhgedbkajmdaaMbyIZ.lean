/- MsgBytes of the program: its parts. -/
import Derived.Test.YtjbhgedbkajmdaaGc
import Derived.Test.YtjbhgedbkajmdaaPut2Z
import Derived.Test.YtjbhgedbkajmdaaMokI5Z
import Derived.Test.YtjbhgedbkajmdaaGf

namespace Go.Proofs.Ytjbhgedbkajmdaa
open Go.ChangeShapes Go.WideShapes Go.ChangeAt Go.RowKit
set_option linter.unusedVariables false
set_option linter.unusedSimpArgs false

set_option maxRecDepth 100000 in
theorem putnums_impl (ao : Option Addr) (n cap : Nat) (f : Nat → Int) (w : World) (hn : n ≤ 100) (hs : SL .i64 w ao n f) (hf : ∀ i, i < n → 0 ≤ f i ∧ f i ≤ 2147483647) :
    Calls Try.prog 78 #[.slice ao n cap] w fun e w' => ∃ x, e = .returned x ∧ w'.ownsRow w.heap.size 5 1 x (nums ((List.range n).map f)).length ((nums ((List.range n).map f)).map (.int .u8)) ∧ Below w.heap.size w w' := by
  obtain ⟨i0, hi, hz0, hz1, hz2⟩ := info_parts Try.info5
  have HS := hide hs
  have HF := hide hf
  clear hs hf
  go_enter Try.func78, Try.ntmps78
  go_wp2
  go_loopw [3, 5, 8] (fun v _ i wr => ∃ (j : Nat) (L : List Int), j ≤ n ∧ i = .int .i64 j ∧ Hid (L = nums ((List.range j).map f)) ∧ Hid (wr.ownsRow w.heap.size 5 1 v L.length (L.map (.int .u8)) ∧ Below w.heap.size w wr)) (fun _ _ i _ => n - (intOf i).toNat)
  case atStart => exact ⟨0, [], by omega, rfl, rfl, gnil, Below.refl _ _⟩
  case round =>
    obtain ⟨j, L, hj, rfl, HL, HI⟩ := hrel
    have hLl : L.length ≤ 5 * j := by have := nums_len ((List.range j).map f); rw [← HL.out] at this; simpa using this
    by_cases hlt : j < n
    · obtain ⟨b, off, rfl, hb, hcj0⟩ := HS.out j hlt
      have hcj := (HI.out.2.cell (p := ⟨b, off + j, none⟩) hb).trans hcj0
      obtain ⟨hz1', hz2'⟩ := HF.out j hlt
      have hnx : Hid (nums ((List.range (j + 1)).map f) = L ++ pb 4 (f j)) := (show _ = _ by
        rw [List.range_succ, List.map_append, nums_app, ← HL.out]; simp [nums_one])
      generalize f j = z at *
      clear hcj0
      go_wp2_with fail
      refine (put_impl z _ hz1' hz2').mono ?_
      rintro e w3 ⟨v3, rfl, ho3, hb3⟩
      have hpl := pb_len 4 z
      have HSR := hide (Src.of_owns ho3)
      have HI3 : Hid (w3.ownsRow w.heap.size 5 1 u3 (L.length) (L.map (.int .u8)) ∧ Below w.heap.size w w3) := ⟨gbelow HI.out.1 hb3, HI.out.2.trans (hb3.mono HI.out.2.size)⟩
      generalize pb 4 z = M at hpl HSR hnx
      have hsz := HI3.out.2.size
      clear ho3 hb3 HI hcj
      go_wp2_with (first
        | (at_builtin; refine wpList_append_src rfl _ _ 22 rfl w.heap.size 5 i0 (.int .u8 0) 1 Try.underlying22 hi hz0 hz1 hz2 rfl .u8 _ L rfl HI3.out.1 _ M rfl HSR.out (glens (by omega)) (by omega) hsz ?_; intro v' w4 hown' hgrow))
      have R := hide (And.intro hown' (ggrown HI3.out.2 hsz HI3.out.1 hgrow))
      clear hown' hgrow
      go_wp2
      go_roundw
      case rel => exact ⟨j + 1, L ++ M, by omega, by go_num, (show _ = _ by rw [hnx.out]), R.out⟩
      case measure => simp [intOf]; omega
    · obtain rfl : j = n := by omega
      go_wp2
      go_ret
      rw [← HL.out]
      exact ⟨_, rfl, HI.out⟩

/-- What is left behind k bytes, and the first k of them. -/
def dk (x : Int) : Nat → Int
  | 0 => x
  | k + 1 => dk x k / 256
def fk (x : Int) : Nat → List Int
  | 0 => []
  | k + 1 => fk x k ++ [dk x k % 256]
theorem fk_len (x : Int) (k : Nat) : (fk x k).length = k := by
  induction k with
  | zero => rfl
  | succ k ih => simp [fk, ih]
theorem dk_bd (x : Int) (k : Nat) (h0 : 0 ≤ x) (h1 : x < 4294967296) : 0 ≤ dk x k ∧ dk x k < 4294967296 := by
  induction k with
  | zero => exact ⟨h0, h1⟩
  | succ k ih => simp only [dk]; omega
theorem fk_four (x : Int) : fk x 4 = s4 x := by
  simp only [fk, dk, s4, List.nil_append, List.cons_append]
  rw [show x / 256 / 256 = x / 65536 by omega, show x / 65536 / 256 = x / 16777216 by omega]

theorem bconcat3 (vb : Nat) (a0 a1 a2 : Option Addr) (c0 c1 c2 : Nat) (L0 L1 L2 : List Int) (w : World) (hlen : L0.length + L1.length + L2.length ≤ 1048576) (hv : w.heap[vb]? = some (.cells #[.slice a0 L0.length c0, .slice a1 L1.length c1, .slice a2 L2.length c2] 22 (0, 0)))
    (h0 : Src .u8 w (.slice a0 L0.length c0) L0) (h1 : Src .u8 w (.slice a1 L1.length c1) L1) (h2 : Src .u8 w (.slice a2 L2.length c2) L2) :
    Calls Try.prog 41 #[.slice (some ⟨vb, 0, none⟩) 3 3] w fun e w' => ∃ v, e = .returned v ∧ w'.ownsRow w.heap.size 5 1 v (L0 ++ L1 ++ L2).length ((L0 ++ L1 ++ L2).map (.int .u8)) ∧ Below w.heap.size w w' := by
  have h := bconcat_any vb 3 (fun k => if k = 0 then a0 else if k = 1 then a1 else a2) (fun k => if k = 0 then c0 else if k = 1 then c1 else c2) (fun k => if k = 0 then L0 else if k = 1 then L1 else L2) w (by omega) (by simp [catk]; omega) (Array.getElem?_eq_some_iff.1 hv).1
    (fun k hk => by
      obtain rfl | rfl | rfl : k = 0 ∨ k = 1 ∨ k = 2 := by omega
      · exact blk_cell hv rfl
      · exact blk_cell hv rfl
      · exact blk_cell hv rfl)
    (fun k hk => by
      obtain rfl | rfl | rfl : k = 0 ∨ k = 1 ∨ k = 2 := by omega
      · exact h0
      · exact h1
      · exact h2)
  simpa [catk] using h
end Go.Proofs.Ytjbhgedbkajmdaa

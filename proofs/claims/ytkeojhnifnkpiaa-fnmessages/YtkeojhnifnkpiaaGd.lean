/- MsgBytes of the model. -/
import Derived.Test.YtkeojhnifnkpiaaGc
import Derived.Deep.Cut
import Derived.Test.YtkeojhnifnkpiaaGa
import Derived.Laws.BytesArg
import Derived.Laws.IdiomStrings
import Derived.Test.YtkeojhnifnkpiaaGb
import Derived.Deep.QuietTactic
import Derived.Laws.AppendOwnNone
import Derived.Lib.AppendZeros

namespace Go.Proofs.Ytkeojhnifnkpiaa
open Go.ChangeShapes Go.WideShapes Go.ChangeAt Go.RowKit
set_option linter.unusedVariables false
set_option linter.unusedSimpArgs false

/-- A number as four bytes, the low ones first. -/
def s4 (x : Int) : List Int := [x % 256, x / 256 % 256, x / 65536 % 256, x / 16777216 % 256]

theorem i64_and255 (x : Int) (h0 : 0 ≤ x) (h1 : x < 4611686018427387904) : bits .and .i64 x 255 = x % 256 := by
  obtain ⟨a, rfl⟩ := Int.eq_ofNat_of_zero_le h0
  have e : (BitVec.ofInt 64 (a : Int) &&& BitVec.ofInt 64 ((255 : Nat) : Int)).toNat = a % 256 := by
    rw [BitVec.toNat_and, ofInt_u64 a (by omega), ofInt_u64 255 (by omega)]
    exact Nat.and_two_pow_sub_one_eq_mod a 8
  show IntKind.i64.wrap (((BitVec.ofInt 64 (a : Int) &&& BitVec.ofInt 64 ((255 : Nat) : Int)).toNat : Nat) : Int) = _
  rw [e, IntKind.wrap_i64]
  omega

theorem sum4_spec (x : Int) (w : World) (h0 : 0 ≤ x) (h1 : x < 4294967296) :
    Calls Try.prog 94 #[.int .i64 x] w fun e w' => ∃ v, e = .returned v ∧ w'.ownsRow w.heap.size 5 1 v (s4 x).length ((s4 x).map (.int .u8)) ∧ Below w.heap.size w w' := by
  go_enter Try.func94, Try.ntmps94
  go_wp2
  go_ret
  refine ⟨_, rfl, ?_, (Below.refl _ _).alloc (Nat.le_refl _) _⟩
  rw [i64_and255 x h0 (by omega), i64_and255 (x / 256) (by omega) (by omega), i64_and255 (x / 65536) (by omega) (by omega), i64_and255 (x / 16777216) (by omega) (by omega)]
  refine ⟨rfl, .inr ⟨_, _, _, rfl, Nat.le_refl _, Deep.blk_alloc_new _ _, by simp [s4], by simp [maxLen], by simp, ?_⟩⟩
  simp [s4]

def mokDec (k c v h : Int) (f : Nat → Int) (n : Nat) : Decidable (MOk k c v h f n) := by unfold MOk GOk GIn; exact inferInstance

/-- The sum of bytes. -/
def asum (L : List Int) : Int := sB (fun i => L.getD i 0) L.length * 65536 + sA (fun i => L.getD i 0) L.length
theorem asum_bd (L : List Int) : 0 ≤ asum L ∧ asum L < 4294967296 := by
  have h1 := sA_bd (fun i => L.getD i 0) L.length
  have h2 := sB_bd (fun i => L.getD i 0) L.length
  unfold asum
  omega
/-- A body with its length ahead and its sum behind. -/
def framed (B : List Int) : List Int := pb 4 B.length ++ B ++ s4 (asum B)
def mbody (k c v h : Int) (f : Nat → Int) (n : Nat) : List Int := nums ([k, c, v, h, (n : Int)] ++ (List.range n).map f)
/-- The bytes of a message; nothing where it is none. -/
def mb (k c v h : Int) (f : Nat → Int) (n : Nat) : List Int := @ite (List Int) (MOk k c v h f n) (mokDec k c v h f n) (framed (mbody k c v h f n)) []

theorem mok_bd {k c v h : Int} {f : Nat → Int} {n : Nat} (x : MOk k c v h f n) : n ≤ 12 ∧ (∀ i, i < n → 0 ≤ f i ∧ f i ≤ 2147483647) ∧ (0 ≤ k ∧ k ≤ 2147483647) ∧ (0 ≤ c ∧ c ≤ 2147483647) ∧ (0 ≤ v ∧ v ≤ 2147483647) ∧ (0 ≤ h ∧ h ≤ 2147483647) := by
  unfold MOk at x
  rcases x with ⟨h1, ⟨h2, h3⟩, h4, h5, h6⟩ | ⟨h1, h2, h3, h4, h5⟩
  · exact ⟨h2, fun i hi => by have := (h3 i hi).1; omega, by omega, by omega, by omega, by omega⟩
  · refine ⟨by omega, fun i hi => by omega, by omega, by omega, ?_, by omega⟩
    split at h4 <;> omega
theorem mbody_len {k c v h : Int} {f : Nat → Int} {n : Nat} (hn : n ≤ 12) : (mbody k c v h f n).length ≤ 85 := by
  have := nums_len ([k, c, v, h, (n : Int)] ++ (List.range n).map f)
  simp at this
  unfold mbody
  simp
  omega

theorem getD_mem (L : List Int) (i : Nat) (hi : i < L.length) : L.getD i 0 ∈ L := by simp [List.getD, hi]

theorem msgok_yes (ao : Option Addr) (n cap : Nat) (f : Nat → Int) (k c v h : Int) (w : World) (hn : n ≤ 1048576) (hcap : n ≤ cap) (hs : SL .i64 w ao n f) (hok : MOk k c v h f n) :
    Calls Try.prog 38 #[.agg #[.int .i64 k, .int .i64 c, .int .i64 v, .int .i64 h, .slice ao n cap]] w fun e w' => e = .returned (.bool true) ∧ Below w.heap.size w w' :=
  (msgok_spec ao n cap f k c v h w hn hcap hs).mono fun _ _ ⟨h1, h2⟩ => ⟨h1.elim (·.2) (fun x => absurd hok x.1), h2⟩
theorem msgok_no (ao : Option Addr) (n cap : Nat) (f : Nat → Int) (k c v h : Int) (w : World) (hn : n ≤ 1048576) (hcap : n ≤ cap) (hs : SL .i64 w ao n f) (hok : ¬ MOk k c v h f n) :
    Calls Try.prog 38 #[.agg #[.int .i64 k, .int .i64 c, .int .i64 v, .int .i64 h, .slice ao n cap]] w fun e w' => e = .returned (.bool false) ∧ Below w.heap.size w w' :=
  (msgok_spec ao n cap f k c v h w hn hcap hs).mono fun _ _ ⟨h1, h2⟩ => ⟨h1.elim (fun x => absurd x.1 hok) (·.2), h2⟩

theorem mb_len (k c v h : Int) (f : Nat → Int) (n : Nat) : (mb k c v h f n).length ≤ 1048576 := by
  unfold mb
  split
  · next hok =>
    have h1 := mbody_len (k := k) (c := c) (v := v) (h := h) (f := f) (mok_bd hok).1
    have h2 := pb_len 4 ((mbody k c v h f n).length : Int)
    simp [framed, s4]
    omega
  · simp

theorem gbelow_far {B n s : Nat} {w w' : World} {e : TypeId} {v : Value} {xs : List Value} {row : Option Nat} (h : w.ownsRow B e s v n xs) (hg : w.grownBy w' row) (hr : v.ownBlock ≠ row) : w'.ownsRow B e s v n xs :=
  h.kept hg (.inr hr)

set_option maxRecDepth 100000 in
theorem msgbytes_spec (ao : Option Addr) (n cap : Nat) (f : Nat → Int) (k c v h : Int) (w : World) (hn : n ≤ 1048576) (hcap : n ≤ cap) (hs : SL .i64 w ao n f) :
    Calls Try.prog 36 #[.agg #[.int .i64 k, .int .i64 c, .int .i64 v, .int .i64 h, .slice ao n cap]] w fun e w' => ∃ x, e = .returned x ∧ w'.ownsRow w.heap.size 5 1 x (mb k c v h f n).length ((mb k c v h f n).map (.int .u8)) ∧ Below w.heap.size w w' := by
  obtain ⟨i0, hi, hz0, hz1, hz2⟩ := info_parts Try.info5
  have HS := hide hs
  clear hs
  by_cases hok : MOk k c v h f n
  · skip
    obtain ⟨hn12, hfb, hkb, hcb, hvb, hhb⟩ := mok_bd hok
    have hmb : mb k c v h f n = framed (mbody k c v h f n) := by unfold mb; rw [if_pos hok]
    rw [hmb]
    have hbl := mbody_len (k := k) (c := c) (v := v) (h := h) (f := f) hn12
    have hb0 : 0 < (mbody k c v h f n).length := by
      have := mpb_pos 4 k
      unfold mbody
      simp [nums_cons]
      omega
    have hbb : Hid (∀ i, i < (mbody k c v h f n).length → 0 ≤ (mbody k c v h f n).getD i 0 ∧ (mbody k c v h f n).getD i 0 ≤ 255) := fun i hi => by
      refine nums_byte ([k, c, v, h, (n : Int)] ++ (List.range n).map f) ?_ _ (getD_mem _ i hi)
      intro x hx
      simp at hx
      rcases hx with rfl | rfl | rfl | rfl | rfl | ⟨j, hj, rfl⟩
      · exact hkb
      · exact hcb
      · exact hvb
      · exact hhb
      · omega
      · exact hfb j hj
    have hcallA : Hid (∀ W, SL .i64 W ao n f → Calls Try.prog 93 #[.agg #[.int .i64 k, .int .i64 c, .int .i64 v, .int .i64 h, .slice ao n cap]] W fun e w' => ∃ x, e = .returned x ∧ w'.ownsRow W.heap.size 5 1 x (mbody k c v h f n).length ((mbody k c v h f n).map (.int .u8)) ∧ Below W.heap.size W w') := fun W hW => body_spec ao n cap f k c v h W hn12 hW hfb hkb hcb hvb hhb
    generalize mbody k c v h f n = B at *
    generalize hR : framed B = R at *
    have HR := hide hR
    clear hR hmb hfb hkb hcb hvb hhb
    go_enter Try.func36, Try.ntmps36
    go_wp2_with fail
    refine (msgok_yes ao n cap f k c v h _ hn hcap (HS.out.below ((Below.refl _ _).alloc (Nat.le_refl _) _)) hok).mono ?_
    rintro e w1 ⟨rfl, b1⟩
    have hblk : w1.heap[w.heap.size]? = some (.cells #[.int .i64 k, .int .i64 c, .int .i64 v, .int .i64 h, .slice ao n cap] 40 (0, 0)) := (b1.block w.heap.size (by simp)).trans (Deep.blk_alloc_new _ _)
    have B1 := hide (((Below.refl _ _).alloc (Nat.le_refl _) _).trans (b1.mono (by simp)) : Below w.heap.size w w1)
    clear b1
    have hc0 := blk_cell (i := 0) hblk rfl
    have hc1 := blk_cell (i := 1) hblk rfl
    have hc2 := blk_cell (i := 2) hblk rfl
    have hc3 := blk_cell (i := 3) hblk rfl
    have hc4 := blk_cell (i := 4) hblk rfl
    have hcall := hide (hcallA.out w1 (HS.out.below B1.out))
    clear hblk HS hcallA
    go_wp2_with fail
    refine hcall.out.mono ?_
    rintro e w2 ⟨v2, rfl, ho2, hb2⟩
    clear hcall hc0 hc1 hc2 hc3 hc4
    obtain ⟨g2, c2, rfl, hg2, _, hsrc2⟩ := msrc ho2 hb0
    have B2 := hide (B1.out.trans (hb2.mono B1.out.size))
    have O2 := hide ho2
    have S2 := hide hsrc2
    clear hb2 B1 ho2 hsrc2
    go_wp2_with fail
    refine (put_spec (B.length : Int) _ (by omega) (by omega)).mono ?_
    rintro e w3 ⟨v3, rfl, ho3, hb3⟩
    have hpl := pb_len 4 (B.length : Int)
    have B3 := hide hb3
    have O3 := hide ho3
    have S3 : Hid (∀ j u, (B.map (Value.int .u8))[j]? = some u → w3.cell? ((⟨g2, 0, none⟩ : Addr).add j) = some u) := fun j u hu => by
      have := S2.out j u hu
      rw [Addr.add_lit] at this ⊢
      exact (hb3.cell (p := ⟨g2, 0 + j, none⟩) hg2).trans this
    have O2' := hide (gbelow O2.out hb3)
    have HP : Hid (framed B = pb 4 (B.length : Int) ++ B ++ s4 (asum B)) := rfl
    generalize pb 4 (B.length : Int) = P at *
    clear ho3 hb3 S2 O2
    go_upto_region 5 with (first | (at_builtin; refine wpList_append_lies _ rfl _ _ 22 rfl w2.heap.size 5 i0 (.int .u8 0) 1 1 Try.underlying22 hi hz0 hz1 hz2 rfl (by decide) _ _ _ rfl O3.out ⟨g2, 0, none⟩ B.length c2 (B.map (.int .u8)) rfl (by simp) S3.out (gones _ _) hb0 (glens (by omega)) (by omega) B3.out.size _ rfl ?_; intro g4 c4 w4 hown4 hgrow4 hat4 hlt4))
    have hne3 : v3.ownBlock ≠ some g2 := fun e => by have := (World.ownsRow.lt O3.out) g2 e; omega
    have O4 : Hid (w4.ownsRow w2.heap.size 5 1 (.slice (some ⟨g4, 0, none⟩) (P.length + B.length) c4) (P ++ B).length ((P ++ B).map (.int .u8))) := (show World.ownsRow _ _ _ _ _ _ _ by simpa using hown4)
    have B4 := hide (ggrown B3.out B3.out.size O3.out hgrow4)
    have O2'' := hide (gbelow_far O2'.out hgrow4 (fun e => hne3 e.symm))
    clear hown4 hgrow4 hat4 O2' S3 B3 O3
    obtain ⟨_, _, e2, _, hO2⟩ := Own.of_owns O2''.out
    cases e2
    have hsum := hide (sum_spec (some ⟨g2, 0, none⟩) B.length c2 (fun i => B.getD i 0) w4 (by omega) hO2.sl hbb.out)
    rw [show sB (fun i => B.getD i 0) B.length * 65536 + sA (fun i => B.getD i 0) B.length = asum B from rfl] at hsum
    obtain ⟨ha0, ha1⟩ := asum_bd B
    generalize asum B = a at *
    clear hO2 O2''
    go_wp2_with fail
    refine hsum.out.mono ?_
    rintro e w4' ⟨rfl, hw⟩
    rw [hw]
    clear hw hsum
    go_wp2_with fail
    refine (sum4_spec a _ ha0 ha1).mono ?_
    rintro e w5 ⟨v5, rfl, ho5, hb5⟩
    obtain ⟨g5, c5, rfl, _, _, hsrc5⟩ := msrc ho5 (by simp [s4])
    have O5 := hide (gbelow O4.out hb5)
    have B5 := hide (B4.out.trans (hb5.mono B4.out.size))
    have S5 := hide hsrc5
    have h4 : Hid ((s4 a).length = 4) := rfl
    generalize s4 a = T at *
    clear ho5 hb5 hsrc5 O4 B4
    have e1 : (P ++ B).length = P.length + B.length := by simp
    rw [e1] at O5
    go_wp2_with (first | (at_builtin; refine wpList_append_lies _ rfl _ _ 22 rfl w2.heap.size 5 i0 (.int .u8 0) 1 1 Try.underlying22 hi hz0 hz1 hz2 rfl (by decide) _ _ _ rfl O5.out ⟨g5, 0, none⟩ T.length c5 (T.map (.int .u8)) rfl (by simp) S5.out (gones _ _) (by have := h4.out; omega) (glens (by have := h4.out; omega)) (by have := h4.out; omega) B5.out.size _ rfl ?_; intro g6 c6 w6 hown6 hgrow6 hat6 hlt6))
    go_ret
    refine ⟨_, rfl, ?_, B2.out.trans ((ggrown B5.out B5.out.size O5.out hgrow6).mono B2.out.size)⟩
    have := gmono hown6 B2.out.size
    rw [← HR.out, HP.out, show (P ++ B ++ T).length = P.length + B.length + T.length by simp; omega]
    simpa using this
  · have hmb : mb k c v h f n = [] := by unfold mb; rw [if_neg hok]
    rw [hmb]
    clear hmb
    go_enter Try.func36, Try.ntmps36
    go_wp2_with fail
    refine (msgok_no ao n cap f k c v h _ hn hcap (HS.out.below ((Below.refl _ _).alloc (Nat.le_refl _) _)) hok).mono ?_
    rintro e w1 ⟨rfl, b1⟩
    have hblk : w1.heap[w.heap.size]? = some (.cells #[.int .i64 k, .int .i64 c, .int .i64 v, .int .i64 h, .slice ao n cap] 40 (0, 0)) := (b1.block w.heap.size (by simp)).trans (Deep.blk_alloc_new _ _)
    have B1 := hide (((Below.refl _ _).alloc (Nat.le_refl _) _).trans (b1.mono (by simp)) : Below w.heap.size w w1)
    clear b1
    clear hblk HS
    go_wp2
    go_ret
    exact ⟨_, rfl, gmono (gempty (ik := .u8) (Nat.le_refl _)) B1.out.size, B1.out.alloc B1.out.size _⟩
end Go.Proofs.Ytkeojhnifnkpiaa

/- A message read back from its bytes: plain arithmetic. -/
namespace Go.Proofs.Ytkeojhnifnkpiaa
open Go.ChangeShapes Go.WideShapes Go.ChangeAt Go.RowKit
set_option linter.unusedVariables false
set_option linter.unusedSimpArgs false

theorem mput_back (f : Nat → Int) (a : Nat) (fuel : Nat) : ∀ (k : Nat) (x : Int), 0 ≤ x → x < 128 ^ (fuel + 1) → (0 < k → 0 < x) → gacc f a k + 128 ^ k * x ≤ 2147483647 → (∀ i, i < (pb fuel x).length → f (a + k + i) = (pb fuel x).getD i 0) →
    gr (a + k + (pb fuel x).length) f a (fuel + 1) k = some (gacc f a k + 128 ^ k * x, (a : Int) + k + (pb fuel x).length) := by
  induction fuel with
  | zero =>
    intro k x h0 h1 h2 h3 h4
    have hx : x < 128 := by simpa using h1
    have hd : f (a + k) = x := by have := h4 0 (by simp [pb]); simpa [pb] using this
    have hl : (pb 0 x).length = 1 := by simp [pb]
    rw [hl, gr_in (by omega), hd, if_pos hx]
    have e : gacc f a (k + 1) = gacc f a k + 128 ^ k * x := by rw [gacc, hd, Int.emod_eq_of_lt h0 hx, Int.mul_comm]
    rw [e, if_neg]
    · simp
    · rintro (⟨p, q⟩ | r)
      · have := h2 p; omega
      · omega
  | succ fuel ih =>
    intro k x h0 h1 h2 h3 h4
    by_cases hx : x < 128
    · have hpb := pb_last (fuel + 1) x hx
      rw [hpb] at h4 ⊢
      have hd : f (a + k) = x := by have := h4 0 (by simp); simpa using this
      rw [show [x].length = 1 from rfl, gr_in (by omega), hd, if_pos hx]
      have e : gacc f a (k + 1) = gacc f a k + 128 ^ k * x := by rw [gacc, hd, Int.emod_eq_of_lt h0 hx, Int.mul_comm]
      rw [e, if_neg]
      · simp
      · rintro (⟨p, q⟩ | r)
        · have := h2 p; omega
        · omega
    · have hpb := pb_more fuel x hx
      rw [hpb] at h4 ⊢
      have hd : f (a + k) = x % 128 + 128 := by have := h4 0 (by simp); simpa using this
      have e1 : gacc f a (k + 1) + 128 ^ (k + 1) * (x / 128) = gacc f a k + 128 ^ k * x := by
        rw [gacc, hd, show (x % 128 + 128) % 128 = x % 128 by omega, Int.pow_succ]
        generalize hP : (128 : Int) ^ k = P
        have e2 : P * x = P * (128 * (x / 128) + x % 128) := by rw [Int.mul_ediv_add_emod]
        rw [e2, Int.mul_add, Int.mul_assoc P 128 (x / 128), Int.mul_comm (x % 128) P]
        omega
      have hlen : ((x % 128 + 128) :: pb fuel (x / 128)).length = (pb fuel (x / 128)).length + 1 := rfl
      have hx2 : x / 128 < 128 ^ (fuel + 1) := by
        rw [Int.pow_succ] at h1
        generalize (128 : Int) ^ (fuel + 1) = P at h1 ⊢
        omega
      have := ih (k + 1) (x / 128) (by omega) hx2 (fun _ => by omega) (by rw [e1]; exact h3) (fun i hi => by
        have := h4 (i + 1) (by rw [hlen]; omega)
        rw [show a + (k + 1) + i = a + k + (i + 1) by omega, this]; simp)
      rw [hlen, gr_in (by omega), hd, if_neg (by omega)]
      rw [show a + (k + 1) + (pb fuel (x / 128)).length = a + k + ((pb fuel (x / 128)).length + 1) by omega] at this
      rw [this, e1]
      simp
      omega

theorem gr_mono (n n' : Nat) (f : Nat → Int) (a fuel k : Nat) (x y : Int) (hn : n ≤ n') (h : gr n f a fuel k = some (x, y)) : gr n' f a fuel k = some (x, y) := by
  induction fuel generalizing k with
  | zero => cases h
  | succ fuel ih =>
    by_cases hin : a + k < n
    · rw [gr_in hin] at h
      rw [gr_in (by omega)]
      split at h
      · next h1 => rw [if_pos h1]; exact h
      · next h1 => rw [if_neg h1]; exact ih _ h
    · rw [gr_out hin] at h; cases h

/-- The bytes L lie at a. -/
def Has (n : Nat) (f : Nat → Int) (a : Nat) (L : List Int) : Prop := a + L.length ≤ n ∧ ∀ i, i < L.length → f (a + i) = L.getD i 0
theorem Has.left {n : Nat} {f : Nat → Int} {a : Nat} {L M : List Int} (h : Has n f a (L ++ M)) : Has n f a L := by
  refine ⟨by have := h.1; simp at this; omega, fun i hi => ?_⟩
  rw [h.2 i (by simp; omega)]
  simp [List.getD, List.getElem?_append_left hi]
theorem Has.right {n : Nat} {f : Nat → Int} {a : Nat} {L M : List Int} (h : Has n f a (L ++ M)) : Has n f (a + L.length) M := by
  refine ⟨by have := h.1; simp at this; omega, fun i hi => ?_⟩
  rw [Nat.add_assoc, h.2 (L.length + i) (by simp; omega)]
  simp [List.getD, List.getElem?_append_right (Nat.le_add_right _ _)]
theorem Has.num {n : Nat} {f : Nat → Int} {a : Nat} {x : Int} {R : List Int} (h : Has n f a (pb 4 x ++ R)) (h0 : 0 ≤ x) (h1 : x ≤ 2147483647) :
    rdI n f (a : Int) = some (x, ((a + (pb 4 x).length : Nat) : Int)) ∧ Has n f (a + (pb 4 x).length) R := by
  refine ⟨?_, h.right⟩
  have hl := h.left
  have g := mput_back f a 4 0 x h0 (by omega) (fun h => absurd h (by omega)) (by simp [gacc]; omega) (fun i hi => by have := hl.2 i hi; simpa using this)
  have g' := gr_mono _ n f a 5 0 _ _ (by have := hl.1; omega) g
  unfold rdI
  rw [if_neg (by omega)]
  simp [gacc] at g'
  simpa using g'

/-- The state behind j numbers. -/
def sts (n : Nat) (f : Nat → Int) (st : Option Int) : Nat → Option Int
  | 0 => st
  | j + 1 => nx n f (sts n f st j)
theorem sts_none (n : Nat) (f : Nat → Int) (j : Nat) : sts n f none j = none := by
  induction j with
  | zero => rfl
  | succ j ih => rw [sts, ih]; rfl
theorem sts_succ (n : Nat) (f : Nat → Int) (st : Option Int) (j : Nat) : sts n f st (j + 1) = sts n f (nx n f st) j := by
  induction j with
  | zero => rfl
  | succ j ih => rw [sts, ih]; rfl
/-- Numbers that lie one behind the other are read as they are. -/
theorem Has.nums {n : Nat} {f : Nat → Int} {R : List Int} (l : List Int) (hl : ∀ x ∈ l, 0 ≤ x ∧ x ≤ 2147483647) : ∀ {a : Nat}, Has n f a (nums l ++ R) →
    (∀ j, j ≤ l.length → ∃ q : Nat, sts n f (some (a : Int)) j = some (q : Int) ∧ q ≤ n) ∧ (∀ j, j < l.length → rdv n f (sts n f (some (a : Int)) j) = l.getD j 0) ∧ Has n f (a + (nums l).length) R := by
  induction l with
  | nil =>
    intro a h
    refine ⟨fun j hj => ?_, fun j hj => absurd hj (by simp), by simpa [Proofs.Ytkeojhnifnkpiaa.nums] using h⟩
    obtain rfl : j = 0 := by simpa using hj
    exact ⟨a, rfl, by have := h.1; omega⟩
  | cons x l ih =>
    intro a h
    rw [nums_cons, List.append_assoc] at h
    obtain ⟨h0, h1⟩ := hl x (by simp)
    obtain ⟨g, hr⟩ := h.num h0 h1
    obtain ⟨i1, i2, i3⟩ := ih (fun y hy => hl y (by simp [hy])) hr
    have e1 : nx n f (some (a : Int)) = some ((a + (pb 4 x).length : Nat) : Int) := by simp only [nx, g, Option.map_some]
    refine ⟨fun j hj => ?_, fun j hj => ?_, ?_⟩
    · cases j with
      | zero => exact ⟨a, rfl, by have := h.1; omega⟩
      | succ j => rw [sts_succ, e1]; exact i1 j (by simpa using hj)
    · cases j with
      | zero => simp [sts, rdv, g]
      | succ j => rw [sts_succ, e1, i2 j (by simpa using hj)]; simp
    · rw [nums_cons, List.length_append, ← Nat.add_assoc]; exact i3

/-- A message whose bytes begin at p. -/
def Begins (n : Nat) (f : Nat → Int) (p k c v d : Int) (G : List Int) : Prop :=
  0 ≤ p ∧ MOk k c v d (fun i => G.getD i 0) G.length ∧ Has n f p.toNat (mb k c v d (fun i => G.getD i 0) G.length)
theorem range_getD (G : List Int) : (List.range G.length).map (fun i => G.getD i 0) = G := by
  refine List.ext_getElem? fun j => ?_
  by_cases h : j < G.length
  · simp [h, List.getD]
  · rw [List.getElem?_eq_none (by simp; omega), List.getElem?_eq_none (by omega)]
theorem begins_read {n : Nat} {f : Nat → Int} {p k c v d : Int} {G : List Int} (h : Begins n f p k c v d G) :
    (∃ q : Int, sts n f (some p) 1 = some q ∧ rdv n f (some p) ≤ (n : Int) - q - 4) ∧ (∀ j, j ≤ 6 + G.length → (sts n f (some p) j).isSome = true) ∧
    rdv n f (sts n f (some p) 1) = k ∧ rdv n f (sts n f (some p) 2) = c ∧ rdv n f (sts n f (some p) 3) = v ∧ rdv n f (sts n f (some p) 4) = d ∧ rdv n f (sts n f (some p) 5) = G.length ∧ ∀ i, i < G.length → rdv n f (sts n f (some p) (6 + i)) = G.getD i 0 := by
  obtain ⟨h0, hok, hh⟩ := h
  obtain ⟨a, rfl⟩ := Int.eq_ofNat_of_zero_le h0
  obtain ⟨hn12, hfb, hkb, hcb, hvb, hdb⟩ := mok_bd hok
  have hbl := mbody_len (k := k) (c := c) (v := v) (h := d) (f := fun i => G.getD i 0) hn12
  unfold mb at hh
  rw [if_pos hok] at hh
  unfold framed at hh
  have e : mbody k c v d (fun i => G.getD i 0) G.length = nums ([k, c, v, d, (G.length : Int)] ++ G) := by unfold mbody; rw [range_getD]
  have e1 : pb 4 ((mbody k c v d (fun i => G.getD i 0) G.length).length : Int) ++ mbody k c v d (fun i => G.getD i 0) G.length ++ s4 (asum (mbody k c v d (fun i => G.getD i 0) G.length)) =
      nums (((mbody k c v d (fun i => G.getD i 0) G.length).length : Int) :: ([k, c, v, d, (G.length : Int)] ++ G)) ++ s4 (asum (mbody k c v d (fun i => G.getD i 0) G.length)) := by rw [nums_cons, ← e]
  have e2 : pb 4 ((mbody k c v d (fun i => G.getD i 0) G.length).length : Int) ++ mbody k c v d (fun i => G.getD i 0) G.length ++ s4 (asum (mbody k c v d (fun i => G.getD i 0) G.length)) =
      pb 4 ((mbody k c v d (fun i => G.getD i 0) G.length).length : Int) ++ (mbody k c v d (fun i => G.getD i 0) G.length ++ s4 (asum (mbody k c v d (fun i => G.getD i 0) G.length))) := by rw [List.append_assoc]
  have hN := hh
  rw [e1] at hN
  have hA := hh
  rw [e2] at hA
  have ha : ((a : Int)).toNat = a := by omega
  rw [ha] at hN hA
  obtain ⟨g, hr⟩ := hA.num (by omega) (by omega)
  have hsz := hr.1
  have hs4 : (s4 (asum (mbody k c v d (fun i => G.getD i 0) G.length))).length = 4 := rfl
  rw [List.length_append, hs4] at hsz
  generalize hB : (mbody k c v d (fun i => G.getD i 0) G.length).length = L at *
  have hmem : ∀ x ∈ ((L : Int) :: ([k, c, v, d, (G.length : Int)] ++ G)), 0 ≤ x ∧ x ≤ 2147483647 := by
    intro x hx
    simp at hx
    rcases hx with rfl | rfl | rfl | rfl | rfl | rfl | hx
    · omega
    · exact hkb
    · exact hcb
    · exact hvb
    · exact hdb
    · omega
    · obtain ⟨i, hi, rfl⟩ := List.getElem_of_mem hx
      have := hfb i hi
      simpa [List.getD, hi] using this
  obtain ⟨i1, i2, _⟩ := hN.nums _ hmem
  have hlen : ((L : Int) :: ([k, c, v, d, (G.length : Int)] ++ G)).length = 6 + G.length := by simp; omega
  rw [hlen] at i1 i2
  refine ⟨⟨((a + (pb 4 (L : Int)).length : Nat) : Int), by simp only [sts, nx, g, Option.map_some], by simp only [rdv, g, Option.map_some, Option.getD_some]; omega⟩, fun j hj => ?_, by simpa using i2 1 (by omega), by simpa using i2 2 (by omega), by simpa using i2 3 (by omega), by simpa using i2 4 (by omega), by simpa using i2 5 (by omega), fun i hi => ?_⟩
  · obtain ⟨q, hq, _⟩ := i1 j hj
    rw [hq]; rfl
  · have := i2 (6 + i) (by omega)
    rw [this]
    rw [show 6 + i = i + 1 + 5 by omega]
    simp [List.getD]
end Go.Proofs.Ytkeojhnifnkpiaa

/- A slice of bytes as a string. -/
namespace Go.Proofs.Ytkeojhnifnkpiaa
open Go.ChangeShapes Go.WideShapes Go.ChangeAt Go.RowKit
set_option linter.unusedVariables false
set_option linter.unusedSimpArgs false

/-- The bytes as a string. -/
def bstr (L : List Int) : ByteArray := ⟨(L.map fun z => UInt8.ofNat z.toNat).toArray⟩

theorem conv_str {w : World} {ao : Option Addr} {cap : Nat} {L : List Int} (hs : SL .u8 w ao L.length (fun i => L.getD i 0)) (hz : ∀ z ∈ L, 0 ≤ z ∧ z ≤ 255) :
    (convert 22 9 (.slice ao L.length cap)).run Try.prog w = .ok (.string (bstr L)) w := by
  have h255 : ∀ j (hj : j < L.length), ((UInt8.ofNat L[j].toNat).toNat : Int) = L[j] := by
    intro j hj
    have := hz L[j] (List.getElem_mem hj)
    simp [UInt8.toNat_ofNat']
    omega
  cases ao with
  | some a =>
    have h := run_convert_bytes_back (P := Try.prog) w 22 9 5 a cap (L.map fun z => UInt8.ofNat z.toNat) Try.underlying22 Try.underlying5 Try.underlying9 (fun j hj => by
      have hj' : j < L.length := by simpa using hj
      obtain ⟨b, off, e, _, hc⟩ := hs j hj'
      simp at e
      subst e
      rw [Addr.add_lit, hc]
      simp only [List.getElem_map]
      rw [h255 j hj']
      simp [List.getD, hj'])
    simp only [List.length_map] at h
    exact h
  | none =>
    have hL : L = [] := by
      cases L with
      | nil => rfl
      | cons x L => obtain ⟨b, off, e, _⟩ := hs 0 (by simp); simp at e
    subst hL
    exact (run_convert_bytes_nil (P := Try.prog) (w := w) 22 5 Try.underlying22 Try.underlying5 0 cap 9 Try.underlying9).trans rfl
end Go.Proofs.Ytkeojhnifnkpiaa

/- (Beside the bytes' own.) Slices of ints as the laws hand them on: toIntS copies its argument into memory of its own, eqIntS tells whether two are alike. -/
namespace Go.Proofs.Ytkeojhnifnkpiaa
open Go.ChangeShapes Go.WideShapes Go.ChangeAt Go.RowKit
set_option linter.unusedVariables false
set_option linter.unusedSimpArgs false

theorem Try.info3 : (Try.prog.info? 3).map (fun i => (i.zero, i.size, i.bytes)) = some (some (.int .i64 0), 1, 8) := by kernel_rfl

theorem ito_step {wr : World} {g n k : Nat} {t : TypeId} {f : Nat → Int} (h : wr.rowIs g t n (fun j => if j < k then .int .i64 (f j) else .int .i64 0)) :
    (wr.setCell ⟨g, k, none⟩ (.int .i64 (f k))).rowIs g t n (fun j => if j < k + 1 then .int .i64 (f j) else .int .i64 0) := by
  refine (h.set k (.int .i64 (f k))).congr fun j hj => ?_
  by_cases e : j = k
  · subst e; simp
  · simp only [if_neg e]
    by_cases e2 : j < k
    · rw [if_pos e2, if_pos (by omega)]
    · rw [if_neg e2, if_neg (by omega)]

theorem ito_any (ao : Option Addr) (n cap : Nat) (f : Nat → Int) (w : World) (hn : n ≤ 1048576) (hs : SL .i64 w ao n f) :
    Calls Try.prog 103 #[.slice ao n cap] w fun e w' => e = .returned (.slice (some ⟨w.heap.size, 0, none⟩) n n) ∧ w'.rowIs w.heap.size 3 n (fun i => .int .i64 (f i)) ∧ Below w.heap.size w w' := by
  have hmk := run_make_row' (P := Try.prog) 24 3 (.int .i64 0) 8 Try.underlying24 Try.info3 rfl .i64 .i64 n (by omega) (by omega)
  go_enter Try.func103, Try.ntmps103
  go_wp2
  go_loopw [4] (fun i wr => ∃ k : Nat, k ≤ n ∧ i = .int .i64 k ∧ wr.rowIs w.heap.size 3 n (fun j => if j < k then .int .i64 (f j) else .int .i64 0) ∧ Below w.heap.size w wr) (fun i _ => n - (intOf i).toNat)
  case atStart => exact ⟨0, Nat.zero_le _, rfl, (World.rowIs_made _ _ _ _).congr (by intro i _; simp), (Below.refl _ _).alloc (Nat.le_refl _) _⟩
  case round =>
    obtain ⟨k, hk, rfl, hrow, hbel⟩ := hrel
    clear hmk
    by_cases hlt : k < n
    · obtain ⟨b, off, rfl, hb, hc⟩ := hs k hlt
      have hc' := (hbel.cell (p := ⟨b, off + k, none⟩) hb).trans hc
      have hf := hrow.frozen k
      have hcell := hrow.cell hlt
      have R := ito_step (f := f) hrow
      have R2 := hbel.setCell (p := ⟨w.heap.size, k, none⟩) (Nat.le_refl _) (.int .i64 (f k))
      clear hc hs hrow
      go_wp2
      go_roundw
      case rel => exact ⟨k + 1, by omega, by go_num, R, R2⟩
      case measure => simp [intOf]; omega
    · have hkn : n = k := by omega
      go_wp2
      go_ret
      exact ⟨rfl, hrow.congr (by intro i hi; rw [if_pos (by omega)]), hbel⟩

theorem ieq_yes (ao bo : Option Addr) (n ca cb : Nat) (f g : Nat → Int) (w : World) (hn : n ≤ 1048576) (hA : SL .i64 w ao n f) (hB : SL .i64 w bo n g) (he : ∀ i, i < n → f i = g i) :
    Calls Try.prog 105 #[.slice ao n ca, .slice bo n cb] w fun e w' => e = .returned (.bool true) ∧ ∃ q, w' = w.drewN q := by
  go_enter Try.func105, Try.ntmps105
  go_wp2
  go_loopw [5] (fun i wr => ∃ k : Nat, k ≤ n ∧ i = .int .i64 k ∧ ∃ q, wr = w.drewN q) (fun i _ => n - (intOf i).toNat)
  case atStart => exact ⟨0, Nat.zero_le _, rfl, 0, rfl⟩
  case round =>
    obtain ⟨k, hk, rfl, q, rfl⟩ := hrel
    by_cases hlt : k < n
    · obtain ⟨b, off, rfl, hb, hc⟩ := hA k hlt
      obtain ⟨b', off', rfl, hb', hc'⟩ := hB k hlt
      rw [← he k hlt] at hc'
      clear hA hB he
      go_wp2
      go_quiet (fail)
      go_wp2
      go_roundw
      case rel => exact ⟨k + 1, by omega, by go_num, _, rfl⟩
      case measure => simp [intOf]; omega
    · go_wp2
      go_ret
      exact ⟨rfl, q, rfl⟩

end Go.Proofs.Ytkeojhnifnkpiaa

/- (Beside the bytes' own.) markIntS writes a running number into memory that was handed back, heldIntS finds it there. -/
namespace Go.Proofs.Ytkeojhnifnkpiaa
open Go.ChangeShapes Go.WideShapes Go.ChangeAt Go.RowKit
set_option linter.unusedVariables false
set_option linter.unusedSimpArgs false

theorem imark_step {wr : World} {B g n k : Nat} {k0 : Int} {t : TypeId} {F : Nat → Value} (h : Own wr B t (some ⟨g, 0, none⟩) n (fun j => if j < k then .int .i64 (k0 + j) else F j)) :
    Own (wr.setCell ⟨g, k, none⟩ (.int .i64 (k0 + k))) B t (some ⟨g, 0, none⟩) n (fun j => if j < k + 1 then .int .i64 (k0 + j) else F j) := by
  refine (h.set k _).congr fun j hj => ?_
  by_cases e : j = k
  · subst e; simp
  · simp only [if_neg e]
    by_cases e2 : j < k
    · rw [if_pos e2, if_pos (by omega)]
    · rw [if_neg e2, if_neg (by omega)]

theorem imark_any (ao : Option Addr) (n cap B : Nat) (k0 : Int) (F : Nat → Value) (w : World) (hn : n ≤ 1048576) (h0 : 0 ≤ k0) (h1 : k0 ≤ 1099511627776) (ho : Own w B 3 ao n F) :
    Calls Try.prog 107 #[.slice ao n cap, .int .i64 k0] w fun e w' => e = .returned (.int .i64 (k0 + n)) ∧ Own w' B 3 ao n (fun j => .int .i64 (k0 + j)) ∧ Below B w w' := by
  go_enter Try.func107, Try.ntmps107
  go_wp2
  go_loopw [1, 5] (fun m i wr => ∃ k : Nat, k ≤ n ∧ i = .int .i64 k ∧ m = .int .i64 (k0 + k) ∧ Own wr B 3 ao n (fun j => if j < k then .int .i64 (k0 + j) else F j) ∧ Below B w wr) (fun _ i _ => n - (intOf i).toNat)
  case atStart => exact ⟨0, Nat.zero_le _, rfl, by simp, ho.congr (by intro i _; simp), Below.refl _ _⟩
  case round =>
    obtain ⟨k, hk, rfl, rfl, hrow, hbel⟩ := hrel
    by_cases hlt : k < n
    · obtain ⟨g, rfl, hB, hg, hc, hf⟩ := hrow.at hlt
      have R := imark_step hrow
      have R2 := hbel.setCell (p := ⟨g, k, none⟩) hB (.int .i64 (k0 + k))
      clear hrow ho
      go_wp2
      go_roundw
      case rel => exact ⟨k + 1, by omega, by go_num, by go_num, R, R2⟩
      case measure => simp [intOf]; omega
    · have hkn : k = n := by omega
      subst hkn
      go_wp2
      go_ret
      exact ⟨rfl, hrow.congr (by intro i hi; rw [if_pos (by omega)]), hbel⟩

theorem iheld_any (ao : Option Addr) (n cap : Nat) (k0 : Int) (w : World) (hn : n ≤ 1048576) (h0 : 0 ≤ k0) (h1 : k0 ≤ 1099511627776) (hs : SL .i64 w ao n (fun j => k0 + j)) :
    Calls Try.prog 109 #[.slice ao n cap, .int .i64 k0] w fun e w' => e = .returned (.int .i64 (k0 + n)) ∧ w' = w := by
  go_enter Try.func109, Try.ntmps109
  go_wp2
  go_loop [1, 5] (fun m i => ∃ k : Nat, k ≤ n ∧ i = .int .i64 k ∧ m = .int .i64 (k0 + k)) (fun _ i => n - (intOf i).toNat)
  case atStart => exact ⟨0, Nat.zero_le _, rfl, by simp⟩
  case round =>
    obtain ⟨k, hk, rfl, rfl⟩ := hrel
    by_cases hlt : k < n
    · obtain ⟨b, off, rfl, hb, hc⟩ := hs k hlt
      clear hs
      go_wp2
      go_round
      case rel => exact ⟨k + 1, by omega, by go_num, by go_num⟩
      case measure => simp [intOf]; omega
    · have hkn : k = n := by omega
      subst hkn
      go_wp2
      go_ret
      exact ⟨rfl, rfl⟩

theorem imark_row_step {wr : World} {g n k : Nat} {k0 : Int} {t : TypeId} {F : Nat → Value} (h : wr.rowIs g t n (fun j => if j < k then .int .i64 (k0 + j) else F j)) :
    (wr.setCell ⟨g, k, none⟩ (.int .i64 (k0 + k))).rowIs g t n (fun j => if j < k + 1 then .int .i64 (k0 + j) else F j) := by
  refine (h.set k _).congr fun j hj => ?_
  by_cases e : j = k
  · subst e; simp
  · simp only [if_neg e]
    by_cases e2 : j < k
    · rw [if_pos e2, if_pos (by omega)]
    · rw [if_neg e2, if_neg (by omega)]

theorem imark_row (g n cap : Nat) (k0 : Int) (F : Nat → Value) (w : World) (hn : n ≤ 1048576) (h0 : 0 ≤ k0) (h1 : k0 ≤ 1099511627776) (ho : w.rowIs g 3 n F) :
    Calls Try.prog 107 #[.slice (some ⟨g, 0, none⟩) n cap, .int .i64 k0] w fun e w' => e = .returned (.int .i64 (k0 + n)) ∧ w'.rowIs g 3 n (fun j => .int .i64 (k0 + j)) ∧ Only g w w' := by
  go_enter Try.func107, Try.ntmps107
  go_wp2
  go_loopw [1, 5] (fun m i wr => ∃ k : Nat, k ≤ n ∧ i = .int .i64 k ∧ m = .int .i64 (k0 + k) ∧ wr.rowIs g 3 n (fun j => if j < k then .int .i64 (k0 + j) else F j) ∧ Only g w wr) (fun _ i _ => n - (intOf i).toNat)
  case atStart => exact ⟨0, Nat.zero_le _, rfl, by simp, ho.congr (by intro i _; simp), Only.refl _ _⟩
  case round =>
    obtain ⟨k, hk, rfl, rfl, hrow, hbel⟩ := hrel
    by_cases hlt : k < n
    · have hf := hrow.frozen k
      have hc := hrow.cell hlt
      have R := imark_row_step hrow
      have R2 := hbel.setCell (i := k) (.int .i64 (k0 + k))
      clear hrow ho
      go_wp2
      go_roundw
      case rel => exact ⟨k + 1, by omega, by go_num, by go_num, R, R2⟩
      case measure => simp [intOf]; omega
    · have hkn : k = n := by omega
      subst hkn
      go_wp2
      go_ret
      exact ⟨rfl, hrow.congr (by intro i hi; rw [if_pos (by omega)]), hbel⟩
end Go.Proofs.Ytkeojhnifnkpiaa

/- Messages as the laws hand them on: szMsg, toMsg, eqMsg, markMsg, heldMsg. -/
namespace Go.Proofs.Ytkeojhnifnkpiaa
open Go.ChangeShapes Go.WideShapes Go.ChangeAt Go.RowKit
set_option linter.unusedVariables false
set_option linter.unusedSimpArgs false

theorem szi_yes (ao : Option Addr) (n cap : Nat) (x : Int) (w : World) (h0 : (n : Int) ≤ x) (h1 : x ≤ 1048576) :
    Calls Try.prog 101 #[.slice ao n cap, .int .i64 x] w fun e w' => e = .returned (.int .i64 (x - n)) ∧ w' = w := by
  have hd : ¬ x - (n : Int) < 0 := by omega
  go_enter Try.func101, Try.ntmps101
  go_wp2
  go_ret
  exact ⟨rfl, rfl⟩
theorem szi_no (ao : Option Addr) (n cap : Nat) (x : Int) (w : World) (h0 : x < (n : Int)) (h1 : 0 ≤ x) (h2 : n ≤ cap) (h3 : cap ≤ maxLen) :
    Calls Try.prog 101 #[.slice ao n cap, .int .i64 x] w fun e w' => e = .returned (.int .i64 (-1)) ∧ w' = w := by
  have hm : cap ≤ 9223372036854775807 := by unfold maxLen at h3; omega
  have hd : x - (n : Int) < 0 := by omega
  go_enter Try.func101, Try.ntmps101
  go_wp2
  go_ret
  exact ⟨rfl, rfl⟩

theorem row_set {w : World} {g n : Nat} {t : TypeId} {F : Nat → Value} (h : w.rowIs g t n F) (p : Addr) (hp : p.block ≠ g) (v : Value) : (w.setCell p v).rowIs g t n F :=
  h.of_block (by simp only [World.setCell, Array.getElem?_modify]; rw [if_neg hp])

/-- Of what was there block g alone was written. -/
def OnlyG (g : Nat) (w w' : World) : Prop := Below g w w' ∧ ∀ j, j < w.heap.size → j ≠ g → w'.heap[j]? = w.heap[j]?
theorem OnlyG.own {g n B : Nat} {w w' : World} {t : TypeId} {ao : Option Addr} {F : Nat → Value} (h : OnlyG g w w') (r : Own w B t ao n F) (hB : g < B) : Own w' B t ao n F := by
  rcases r with r | ⟨g', ea, hB', c, hc, hs, hF⟩
  · exact .inl r
  · exact .inr ⟨g', ea, hB', c, (h.2 g' (Array.getElem?_eq_some_iff.1 hc).1 (by omega)).trans hc, hs, hF⟩
theorem OnlyG.own' {g n B : Nat} {w w' : World} {t : TypeId} {ao : Option Addr} {F : Nat → Value} (h : OnlyG g w w') (r : Own w B t ao n F) (hB : ∀ g', ao = some ⟨g', 0, none⟩ → g' ≠ g) : Own w' B t ao n F := by
  rcases r with r | ⟨g', ea, hB', c, hc, hs, hF⟩
  · exact .inl r
  · exact .inr ⟨g', ea, hB', c, (h.2 g' (Array.getElem?_eq_some_iff.1 hc).1 (hB g' ea)).trans hc, hs, hF⟩

end Go.Proofs.Ytkeojhnifnkpiaa

/- A message in a block. -/
namespace Go.Proofs.Ytkeojhnifnkpiaa
open Go.ChangeShapes Go.WideShapes Go.ChangeAt Go.RowKit
set_option linter.unusedVariables false
set_option linter.unusedSimpArgs false

/-- Block g holds a message. -/
def MB (w : World) (g : Nat) (t : TypeId) (k c v d : Int) (ao : Option Addr) (n cap : Nat) : Prop :=
  w.heap[g]? = some (.cells #[.int .i64 k, .int .i64 c, .int .i64 v, .int .i64 d, .slice ao n cap] t (0, 0))
theorem MB.lt {w : World} {g : Nat} {t : TypeId} {k c v d : Int} {ao : Option Addr} {n cap : Nat} (h : MB w g t k c v d ao n cap) : g < w.heap.size := (Array.getElem?_eq_some_iff.1 h).1
theorem MB.new (w : World) (t : TypeId) (k c v d : Int) (ao : Option Addr) (n cap : Nat) : MB (w.alloc (.cells #[.int .i64 k, .int .i64 c, .int .i64 v, .int .i64 d, .slice ao n cap] t)) w.heap.size t k c v d ao n cap := Deep.blk_alloc_new _ _
theorem MB.below {w w' : World} {g B : Nat} {t : TypeId} {k c v d : Int} {ao : Option Addr} {n cap : Nat} (h : MB w g t k c v d ao n cap) (hb : Below B w w') (hg : g < B) : MB w' g t k c v d ao n cap := (hb.block g hg).trans h
theorem MB.cells {w : World} {g : Nat} {t : TypeId} {k c v d : Int} {ao : Option Addr} {n cap : Nat} (h : MB w g t k c v d ao n cap) :
    w.cell? ⟨g, 0, none⟩ = some (.int .i64 k) ∧ w.cell? ⟨g, 1, none⟩ = some (.int .i64 c) ∧ w.cell? ⟨g, 2, none⟩ = some (.int .i64 v) ∧ w.cell? ⟨g, 3, none⟩ = some (.int .i64 d) ∧ w.cell? ⟨g, 4, none⟩ = some (.slice ao n cap) :=
  ⟨blk_cell h rfl, blk_cell h rfl, blk_cell h rfl, blk_cell h rfl, blk_cell h rfl⟩
end Go.Proofs.Ytkeojhnifnkpiaa

/- MsgOf of the model. -/
namespace Go.Proofs.Ytkeojhnifnkpiaa
open Go.ChangeShapes Go.WideShapes Go.ChangeAt Go.RowKit
set_option linter.unusedVariables false
set_option linter.unusedSimpArgs false

/-- What MsgOf hands back. -/
def MsgOut (w w' : World) (n : Nat) (f : Nat → Int) (p : Int) (e : Ending) : Prop :=
  ((∃ k c v d G ro rc, Begins n f p k c v d G ∧ e = .returned (.tuple #[.agg #[.int .i64 k, .int .i64 c, .int .i64 v, .int .i64 d, .slice ro G.length rc], .int .i64 (p + (mb k c v d (fun i => G.getD i 0) G.length).length), .bool true]) ∧ G.length ≤ rc ∧ Own w' w.heap.size 3 ro G.length (fun i => .int .i64 (G.getD i 0))) ∨
   ((¬ ∃ k c v d G, Begins n f p k c v d G) ∧ e = .returned (.tuple #[.agg #[.int .i64 0, .int .i64 0, .int .i64 0, .int .i64 0, .slice none 0 0], .int .i64 0, .bool false]))) ∧ Below w.heap.size w w'

/-- The result's block, a cursor behind it, a message behind that. -/
def MoS (w0 wr : World) (ao : Option Addr) (n cap : Nat) (st : Option Int) (k c v d : Int) (gv : Value) (G : List Int) : Prop :=
  MB wr w0.heap.size 40 0 0 0 0 none 0 0 ∧ Cu wr (w0.heap.size + 1) ao n cap st ∧ wr.heap[w0.heap.size + 1 + 1]? = some (.cells #[.int .i64 k, .int .i64 c, .int .i64 v, .int .i64 d, gv] 40 (0, 0)) ∧
  wr.ownsRow (w0.heap.size + 1 + 1 + 1) 3 1 gv G.length (G.map (.int .i64)) ∧ w0.heap.size + 1 + 1 + 1 ≤ wr.heap.size ∧ Below w0.heap.size w0 wr

theorem MoS.num {w0 wr w' : World} {ao : Option Addr} {n cap : Nat} {st st' : Option Int} {k c v d : Int} {gv : Value} {G : List Int} (h : MoS w0 wr ao n cap st k c v d gv G) (ho : Only (w0.heap.size + 1) wr w') (hc : Cu w' (w0.heap.size + 1) ao n cap st') :
    MoS w0 w' ao n cap st' k c v d gv G := by
  obtain ⟨h1, h2, h3, h4, h5, h6⟩ := h
  refine ⟨(ho.2.2 _ (by omega)).trans h1, hc, (ho.2.2 _ (by omega)).trans h3, ⟨h4.1, ?_⟩, by rw [ho.2.1]; exact h5, h6.trans (ho.1.mono (by omega))⟩
  rcases h4.2 with e | ⟨g, cp, cur, e, hge, hh, r⟩
  · exact .inl e
  · exact .inr ⟨g, cp, cur, e, hge, (ho.2.2 g (by omega)).trans hh, r⟩
theorem mo_put {w0 wr : World} {ao : Option Addr} {n cap : Nat} {st : Option Int} {k c v d k' c' v' d' : Int} {gv gv' : Value} {G' : List Int}
    (h1 : MB wr w0.heap.size 40 0 0 0 0 none 0 0) (h2 : Cu wr (w0.heap.size + 1) ao n cap st) (h3 : wr.heap[w0.heap.size + 1 + 1]? = some (.cells #[.int .i64 k, .int .i64 c, .int .i64 v, .int .i64 d, gv] 40 (0, 0)))
    (h5 : w0.heap.size + 1 + 1 + 1 ≤ wr.heap.size) (h6 : Below w0.heap.size w0 wr) (i : Nat) (x : Value)
    (hx : (#[.int .i64 k, .int .i64 c, .int .i64 v, .int .i64 d, gv] : Array Value).setIfInBounds i x = #[.int .i64 k', .int .i64 c', .int .i64 v', .int .i64 d', gv'])
    (hg : wr.ownsRow (w0.heap.size + 1 + 1 + 1) 3 1 gv' G'.length (G'.map (.int .i64))) :
    MoS w0 (wr.setCell ⟨w0.heap.size + 1 + 1, i, none⟩ x) ao n cap st k' c' v' d' gv' G' := by
  obtain ⟨p, h2, h2'⟩ := h2
  have far : ∀ j, j ≠ w0.heap.size + 1 + 1 → (wr.setCell ⟨w0.heap.size + 1 + 1, i, none⟩ x).heap[j]? = wr.heap[j]? := fun j hj => by
    simp only [World.setCell, Array.getElem?_modify]
    rw [if_neg (fun e => hj e.symm)]
  refine ⟨(far _ (by omega)).trans h1, ⟨p, (far _ (by omega)).trans h2, h2'⟩, ?_, ⟨hg.1, ?_⟩, by simpa [World.setCell] using h5, h6.setCell (p := ⟨w0.heap.size + 1 + 1, i, none⟩) (by simp; omega) _⟩
  · simp only [World.setCell, Array.getElem?_modify, if_true, h3, Option.map_some]
    rw [← hx]
    rfl
  · rcases hg.2 with e | ⟨g, cp, cur, e, hge, hh, r⟩
    · exact .inl e
    · exact .inr ⟨g, cp, cur, e, hge, (far g (by omega)).trans hh, r⟩
theorem MoS.put {w0 wr : World} {ao : Option Addr} {n cap : Nat} {st : Option Int} {k c v d k' c' v' d' : Int} {gv : Value} {G : List Int} (h : MoS w0 wr ao n cap st k c v d gv G) (i : Nat) (x : Value)
    (hx : (#[.int .i64 k, .int .i64 c, .int .i64 v, .int .i64 d, gv] : Array Value).setIfInBounds i x = #[.int .i64 k', .int .i64 c', .int .i64 v', .int .i64 d', gv]) :
    MoS w0 (wr.setCell ⟨w0.heap.size + 1 + 1, i, none⟩ x) ao n cap st k' c' v' d' gv G := mo_put h.1 h.2.1 h.2.2.1 h.2.2.2.2.1 h.2.2.2.2.2 i x hx h.2.2.2.1
theorem MoS.alloc {w0 wr : World} {ao : Option Addr} {n cap : Nat} {st : Option Int} {k c v d : Int} {gv : Value} {G : List Int} (h : MoS w0 wr ao n cap st k c v d gv G) (o : Obj) : MoS w0 (wr.alloc o) ao n cap st k c v d gv G := by
  have ba : Below wr.heap.size wr (wr.alloc o) := (Below.refl _ _).alloc (Nat.le_refl _) _
  obtain ⟨h1, ⟨p, h2, h2'⟩, h3, h4, h5, h6⟩ := h
  exact ⟨h1.below ba h1.lt, ⟨p, (ba.block _ (by omega)).trans h2, h2'⟩, (ba.block _ (by omega)).trans h3, h4.alloc o, Nat.le_trans h5 ba.size, h6.trans (ba.mono h6.size)⟩
theorem MoS.step {w0 wr w' : World} {ao : Option Addr} {n cap : Nat} {st : Option Int} {k c v d : Int} {gv : Value} {G : List Int} (h : MoS w0 wr ao n cap st k c v d gv G) (ba : Below wr.heap.size wr w') : MoS w0 w' ao n cap st k c v d gv G := by
  obtain ⟨h1, ⟨p, h2, h2'⟩, h3, h4, h5, h6⟩ := h
  exact ⟨h1.below ba h1.lt, ⟨p, (ba.block _ (by omega)).trans h2, h2'⟩, (ba.block _ (by omega)).trans h3, gbelow h4 ba, Nat.le_trans h5 ba.size, h6.trans (ba.mono h6.size)⟩
theorem MoS.grow {w0 wr w' : World} {ao : Option Addr} {n cap : Nat} {st : Option Int} {k c v d : Int} {gv gv' : Value} {G G' : List Int} (h : MoS w0 wr ao n cap st k c v d gv G) (hg : wr.grownBy w' gv.ownBlock)
    (hn : w'.ownsRow (w0.heap.size + 1 + 1 + 1) 3 1 gv' G'.length (G'.map (.int .i64))) : MB w' w0.heap.size 40 0 0 0 0 none 0 0 ∧ Cu w' (w0.heap.size + 1) ao n cap st ∧ w'.heap[w0.heap.size + 1 + 1]? = some (.cells #[.int .i64 k, .int .i64 c, .int .i64 v, .int .i64 d, gv] 40 (0, 0)) ∧
      w'.ownsRow (w0.heap.size + 1 + 1 + 1) 3 1 gv' G'.length (G'.map (.int .i64)) ∧ w0.heap.size + 1 + 1 + 1 ≤ w'.heap.size ∧ Below w0.heap.size w0 w' := by
  obtain ⟨h1, ⟨p, h2, h2'⟩, h3, h4, h5, h6⟩ := h
  have hne : ∀ j, j < w0.heap.size + 1 + 1 + 1 → some j ≠ gv.ownBlock := fun j hj e => by have := (World.ownsRow.lt h4) j e.symm; omega
  refine ⟨(hg.block _ (by omega) (hne _ (by omega))).trans h1, ⟨p, (hg.block _ (by omega) (hne _ (by omega))).trans h2, h2'⟩, (hg.block _ (by omega) (hne _ (by omega))).trans h3, hn, Nat.le_trans h5 hg.size, h6.grown hg h6.size ?_⟩
  intro j hj
  have := (World.ownsRow.lt h4) j hj
  omega
theorem MoS.cells {w0 wr : World} {ao : Option Addr} {n cap : Nat} {st : Option Int} {k c v d : Int} {gv : Value} {G : List Int} (h : MoS w0 wr ao n cap st k c v d gv G) :
    (wr.cell? ⟨w0.heap.size + 1 + 1, 0, none⟩ = some (.int .i64 k) ∧ wr.cell? ⟨w0.heap.size + 1 + 1, 1, none⟩ = some (.int .i64 c) ∧ wr.cell? ⟨w0.heap.size + 1 + 1, 2, none⟩ = some (.int .i64 v) ∧ wr.cell? ⟨w0.heap.size + 1 + 1, 3, none⟩ = some (.int .i64 d) ∧ wr.cell? ⟨w0.heap.size + 1 + 1, 4, none⟩ = some gv) ∧
    (∀ i, wr.frozen? ⟨w0.heap.size + 1 + 1, i, none⟩ = false) :=
  ⟨⟨blk_cell h.2.2.1 rfl, blk_cell h.2.2.1 rfl, blk_cell h.2.2.1 rfl, blk_cell h.2.2.1 rfl, blk_cell h.2.2.1 rfl⟩, fun i => by simp [World.frozen?, h.2.2.1]⟩
theorem MoS.cur {w0 wr : World} {ao : Option Addr} {n cap : Nat} {st : Option Int} {k c v d : Int} {gv : Value} {G : List Int} (h : MoS w0 wr ao n cap st k c v d gv G) :
    wr.cell? ⟨w0.heap.size + 1, 2, none⟩ = some (.bool st.isSome) := by
  obtain ⟨_, ⟨p, h2, _⟩, _⟩ := h
  exact blk_cell h2 rfl

theorem sts_pos {n : Nat} {f : Nat → Int} {p : Int} (j : Nat) : ∀ {q : Int}, sts n f (some p) j = some q → p + j ≤ q ∧ (0 < j → q ≤ n) := by
  induction j with
  | zero => intro q h; cases h; exact ⟨by omega, fun h => absurd h (by omega)⟩
  | succ j ih =>
    intro q h
    rw [sts] at h
    cases hs : sts n f (some p) j with
    | none => rw [hs] at h; cases h
    | some q' =>
      rw [hs] at h
      have h1 := (ih hs).1
      simp only [nx] at h
      cases hr : rdI n f q' with
      | none => rw [hr] at h; cases h
      | some xy =>
        rw [hr] at h
        simp at h
        obtain ⟨x, y⟩ := xy
        have := rdI_pos hr
        simp at h
        omega
theorem rdv_pos (n : Nat) (f : Nat → Int) (st : Option Int) : 0 ≤ rdv n f st ∧ rdv n f st ≤ 2147483647 := by
  cases st with
  | none => simp [rdv]
  | some p =>
    simp only [rdv]
    cases hr : rdI n f p with
    | none => simp
    | some xy => obtain ⟨x, y⟩ := xy; have := rdI_pos hr; simp; omega

theorem mb_byte (k c v h : Int) (f : Nat → Int) (n : Nat) : ∀ z ∈ mb k c v h f n, 0 ≤ z ∧ z ≤ 255 := by
  unfold mb
  split
  · next hok =>
    obtain ⟨hn12, hfb, hkb, hcb, hvb, hhb⟩ := mok_bd hok
    have hl := mbody_len (k := k) (c := c) (v := v) (h := h) (f := f) hn12
    intro z hz
    simp only [framed, List.mem_append] at hz
    rcases hz with (hz | hz) | hz
    · exact pb_byte _ (by omega) (by omega) z hz
    · refine nums_byte ([k, c, v, h, (n : Int)] ++ (List.range n).map f) ?_ z hz
      intro x hx
      simp at hx
      rcases hx with rfl | rfl | rfl | rfl | rfl | ⟨j, hj, rfl⟩
      · exact hkb
      · exact hcb
      · exact hvb
      · exact hhb
      · omega
      · exact hfb j hj
    · simp [s4] at hz
      omega
  · simp
theorem bstr_inj {L M : List Int} (hL : ∀ z ∈ L, 0 ≤ z ∧ z ≤ 255) (hM : ∀ z ∈ M, 0 ≤ z ∧ z ≤ 255) (h : bstr L = bstr M) : L = M := by
  have back : ∀ N : List Int, (∀ z ∈ N, 0 ≤ z ∧ z ≤ 255) → (N.map fun z => UInt8.ofNat z.toNat).map (fun u => ((u.toNat : Nat) : Int)) = N := by
    intro N hN
    rw [List.map_map]
    conv => rhs; rw [← List.map_id N]
    refine List.map_congr_left fun z hz => ?_
    have := hN z hz
    simp [UInt8.toNat_ofNat']
    omega
  have e : (L.map fun z => UInt8.ofNat z.toNat) = (M.map fun z => UInt8.ofNat z.toNat) := by
    have := congrArg (fun b : ByteArray => b.data.toList) h
    simpa [bstr] using this
  rw [← back L hL, ← back M hM, e]

theorem bytes_ne {a b : ByteArray} (h : ¬ a = b) : (a.toList == b.toList) = false := by
  rw [beq_eq_false_iff_ne]
  intro e
  rw [ByteArray.toList_eq, ByteArray.toList_eq] at e
  exact h (WideShapes.bytes_inj e)
theorem own_set {w : World} {B g i n : Nat} {t : TypeId} {ao : Option Addr} {F : Nat → Value} (h : Own w B t ao n F) (hg : g < B) (v : Value) : Own (w.setCell ⟨g, i, none⟩ v) B t ao n F := by
  rcases h with h | ⟨g', ea, hB', c, hc, hs, hF⟩
  · exact .inl h
  · refine .inr ⟨g', ea, hB', c, ?_, hs, hF⟩
    simp only [World.setCell, Array.getElem?_modify]
    rw [if_neg (by omega)]
    exact hc
theorem own_put5 {w : World} {R B B' n : Nat} {t : TypeId} {ao : Option Addr} {F : Nat → Value} (h : Own w B t ao n F) (hR : R < B) (hB : B' ≤ B) (a b c d e : Value) :
    Own (((((w.setCell ⟨R, 0, none⟩ a).setCell ⟨R, 1, none⟩ b).setCell ⟨R, 2, none⟩ c).setCell ⟨R, 3, none⟩ d).setCell ⟨R, 4, none⟩ e) B' t ao n F := by
  have := own_set (i := 4) (own_set (i := 3) (own_set (i := 2) (own_set (i := 1) (own_set (i := 0) h hR a) hR b) hR c) hR d) hR e
  rcases this with h | ⟨g', ea, hB', c, hc, hs, hF⟩
  · exact .inl h
  · exact .inr ⟨g', ea, by omega, c, hc, hs, hF⟩

theorem below_put5 {w wr : World} (h : Below w.heap.size w wr) (a b c d e : Value) : Below w.heap.size w (((((wr.setCell ⟨w.heap.size, 0, none⟩ a).setCell ⟨w.heap.size, 1, none⟩ b).setCell ⟨w.heap.size, 2, none⟩ c).setCell ⟨w.heap.size, 3, none⟩ d).setCell ⟨w.heap.size, 4, none⟩ e) :=
  ((((h.setCell (p := ⟨w.heap.size, 0, none⟩) (Nat.le_refl _) a).setCell (p := ⟨w.heap.size, 1, none⟩) (Nat.le_refl _) b).setCell (p := ⟨w.heap.size, 2, none⟩) (Nat.le_refl _) c).setCell (p := ⟨w.heap.size, 3, none⟩) (Nat.le_refl _) d).setCell (p := ⟨w.heap.size, 4, none⟩) (Nat.le_refl _) e

set_option maxHeartbeats 4000000 in
set_option maxRecDepth 100000 in
theorem msgof_spec (ao : Option Addr) (n cap : Nat) (p : Int) (f : Nat → Int) (w : World) (hn : n ≤ 1048576) (hcap : n ≤ cap) (hp0 : -9223372036854775808 ≤ p) (hp : p ≤ 9223372036854775807) (hs : SL .u8 w ao n f) (hf : ∀ i, i < n → 0 ≤ f i ∧ f i ≤ 255) :
    Calls Try.prog 29 #[.slice ao n cap, .int .i64 p] w fun e w' => MsgOut w w' n f p e := by
  obtain ⟨i0, hi, hz0, hz1, hz2⟩ := info_parts Try.info3
  have HS := hide hs
  have HF := hide hf
  clear hs hf
  go_enter Try.func29, Try.ntmps29
  go_wp2_with fail
  have hb2 : Below w.heap.size w ((w.alloc (.cells #[.int .i64 0, .int .i64 0, .int .i64 0, .int .i64 0, .slice none 0 0] 40)).alloc (.cells #[.slice ao n cap, .int .i64 p, .bool true] 75)) := ((Below.refl _ _).alloc (Nat.le_refl _) _).alloc (by simp) _
  have hR := (MB.new w 40 0 0 0 0 none 0 0)
  have hC : ((w.alloc (.cells #[.int .i64 0, .int .i64 0, .int .i64 0, .int .i64 0, .slice none 0 0] 40)).alloc (.cells #[.slice ao n cap, .int .i64 p, .bool true] 75)).heap[w.heap.size + 1]? = some (.cells #[.slice ao n cap, .int .i64 p, .bool true] 75 (0, 0)) := by
    have := Deep.blk_alloc_new (w.alloc (.cells #[.int .i64 0, .int .i64 0, .int .i64 0, .int .i64 0, .slice none 0 0] 40)) (.cells #[.slice ao n cap, .int .i64 p, .bool true] 75)
    simpa using this
  refine (num_any (w.heap.size + 1) ao n cap f (some p) _ hn (HS.out.below hb2) HF.out ⟨p, hC, (fun _ e => by cases e; rfl), hp⟩).mono ?_
  rintro e w1 ⟨rfl, hc1, ho1⟩
  have hR1 : MB w1 w.heap.size 40 0 0 0 0 none 0 0 := (ho1.2.2 _ (by omega)).trans ((hR.below ((Below.refl _ _).alloc (Nat.le_refl _) _) (by simp) : MB ((w.alloc (.cells #[.int .i64 0, .int .i64 0, .int .i64 0, .int .i64 0, .slice none 0 0] 40)).alloc (.cells #[.slice ao n cap, .int .i64 p, .bool true] 75)) w.heap.size 40 0 0 0 0 none 0 0))
  have hsz1 : w1.heap.size = w.heap.size + 1 + 1 := by rw [ho1.2.1]; simp
  have B1 := hide (hb2.trans (ho1.1.mono (by omega)))
  have HR1 := hide hR1
  have HC1 := hide hc1
  clear hb2 hR hC hR1 hc1 ho1
  cases hs1 : nx n f (some p) with
  | none =>
    have hno : Hid (¬ ∃ k c v d G, Begins n f p k c v d G) := fun ⟨k, c, v, d, G, hB⟩ => by
      obtain ⟨⟨q, hq, _⟩, _⟩ := begins_read hB
      rw [show sts n f (some p) 1 = nx n f (some p) from rfl, hs1] at hq
      cases hq
    obtain ⟨q, hblk, _, _⟩ := HC1.out
    rw [hs1] at hblk
    have c2 := blk_cell (i := 2) hblk rfl
    change w1.cell? ⟨w.heap.size + 1, 2, none⟩ = some (.bool false) at c2
    obtain ⟨r0, r1, r2, r3, r4⟩ := HR1.out.cells
    have zr : ∀ i, w1.frozen? ⟨w.heap.size, i, none⟩ = false := fun i => by have := HR1.out; unfold MB at this; simp [World.frozen?, this]
    clear hblk hs1 HC1
    go_wp2_with fail
    refine bodyPost_ret (v := .tuple #[.agg #[.int .i64 0, .int .i64 0, .int .i64 0, .int .i64 0, .slice none 0 0], .int .i64 0, .bool false]) (by simp [results, Try.results29, go_sem, r0, r1, r2, r3, r4]) rfl ?_
    exact ⟨.inr ⟨hno.out, rfl⟩, below_put5 B1.out _ _ _ _ _⟩
  | some q1 =>
    obtain ⟨q, hblk, hq, _⟩ := HC1.out
    rw [hs1] at hblk hq HC1
    obtain rfl : q = q1 := hq q1 rfl
    obtain ⟨x, hx⟩ : ∃ x, rdI n f p = some (x, q) := by
      simp only [nx] at hs1
      cases hr : rdI n f p with
      | none => rw [hr] at hs1; cases hs1
      | some xy => rw [hr] at hs1; simp at hs1; exact ⟨xy.1, by rw [← hs1]⟩
    have hxp := rdI_pos hx
    have hxv : rdv n f (some p) = x := by simp [rdv, hx]
    have HX1 := hide (And.intro hs1 hxv)
    have HXP := hide hxp
    rw [hxv]
    have c1 := blk_cell (i := 1) hblk rfl
    have c2 := blk_cell (i := 2) hblk rfl
    change w1.cell? ⟨w.heap.size + 1, 1, none⟩ = some (.int .i64 q) at c1
    change w1.cell? ⟨w.heap.size + 1, 2, none⟩ = some (.bool true) at c2
    clear hblk hq hs1 hx hxv
    by_cases hbig : (n : Int) - q - 4 < x
    · have hno : Hid (¬ ∃ k c v d G, Begins n f p k c v d G) := fun ⟨k, c, v, d, G, hB⟩ => by
        obtain ⟨⟨q', hq', hle⟩, _⟩ := begins_read hB
        rw [show sts n f (some p) 1 = nx n f (some p) from rfl, HX1.out.1] at hq'
        cases hq'
        rw [HX1.out.2] at hle
        omega
      obtain ⟨r0, r1, r2, r3, r4⟩ := HR1.out.cells
      have zr : ∀ i, w1.frozen? ⟨w.heap.size, i, none⟩ = false := fun i => by have := HR1.out; unfold MB at this; simp [World.frozen?, this]
      clear HC1
      go_wp2_with fail
      refine bodyPost_ret (v := .tuple #[.agg #[.int .i64 0, .int .i64 0, .int .i64 0, .int .i64 0, .slice none 0 0], .int .i64 0, .bool false]) (by simp [results, Try.results29, go_sem, r0, r1, r2, r3, r4]) rfl ?_
      exact ⟨.inr ⟨hno.out, rfl⟩, below_put5 B1.out _ _ _ _ _⟩
    · have hM0 : Hid (MoS w (w1.alloc (.cells #[.int .i64 0, .int .i64 0, .int .i64 0, .int .i64 0, .slice none 0 0] 40)) ao n cap (sts n f (some p) 1) 0 0 0 0 (.slice none 0 0) []) := by
        have ba : Below w1.heap.size w1 (w1.alloc (.cells #[.int .i64 0, .int .i64 0, .int .i64 0, .int .i64 0, .slice none 0 0] 40)) := (Below.refl _ _).alloc (Nat.le_refl _) _
        rw [show sts n f (some p) 1 = nx n f (some p) from rfl, HX1.out.1]
        obtain ⟨q', hb', hq', hle'⟩ := HC1.out
        refine ⟨HR1.out.below ba HR1.out.lt, ⟨q', (ba.block _ (by omega)).trans hb', hq', hle'⟩, ?_, gnil, by simp; omega, B1.out.trans (ba.mono B1.out.size)⟩
        have := Deep.blk_alloc_new w1 (.cells #[.int .i64 0, .int .i64 0, .int .i64 0, .int .i64 0, .slice none 0 0] 40)
        rw [hsz1] at this
        exact this
      clear HC1 HR1 B1
      go_wp2_with fail
      refine (num_any (w.heap.size + 1) ao n cap f (sts n f (some p) 1) _ hn (HS.out.below hM0.out.2.2.2.2.2) HF.out hM0.out.2.1).mono ?_
      rintro e wN1 ⟨rfl, hcN, hoN⟩
      have hN1 := hide (hM0.out.num hoN (show Cu wN1 (w.heap.size + 1) ao n cap (sts n f (some p) 2) from hcN))
      obtain ⟨⟨m0, m1, m2, m3, m4⟩, mz⟩ := hN1.out.cells
      have HK1 : Hid (∃ K1, rdv n f (sts n f (some p) 1) = K1) := ⟨_, rfl⟩
      obtain ⟨K1, hK1⟩ := HK1.out
      have HE1 := hide hK1
      rw [hK1]
      have hM1 := hide (hN1.out.put 0 (.int .i64 K1) rfl)
      clear hcN hoN hM0 hK1 HK1 hN1
      go_wp2_with fail
      clear m0 m1 m2 m3 m4 mz
      refine (num_any (w.heap.size + 1) ao n cap f (sts n f (some p) 2) _ hn (HS.out.below hM1.out.2.2.2.2.2) HF.out hM1.out.2.1).mono ?_
      rintro e wN2 ⟨rfl, hcN, hoN⟩
      have hN2 := hide (hM1.out.num hoN (show Cu wN2 (w.heap.size + 1) ao n cap (sts n f (some p) 3) from hcN))
      obtain ⟨⟨m0, m1, m2, m3, m4⟩, mz⟩ := hN2.out.cells
      have HK2 : Hid (∃ K2, rdv n f (sts n f (some p) 2) = K2) := ⟨_, rfl⟩
      obtain ⟨K2, hK2⟩ := HK2.out
      have HE2 := hide hK2
      rw [hK2]
      have hM2 := hide (hN2.out.put 1 (.int .i64 K2) rfl)
      clear hcN hoN hM1 hK2 HK2 hN2
      go_wp2_with fail
      clear m0 m1 m2 m3 m4 mz
      refine (num_any (w.heap.size + 1) ao n cap f (sts n f (some p) 3) _ hn (HS.out.below hM2.out.2.2.2.2.2) HF.out hM2.out.2.1).mono ?_
      rintro e wN3 ⟨rfl, hcN, hoN⟩
      have hN3 := hide (hM2.out.num hoN (show Cu wN3 (w.heap.size + 1) ao n cap (sts n f (some p) 4) from hcN))
      obtain ⟨⟨m0, m1, m2, m3, m4⟩, mz⟩ := hN3.out.cells
      have HK3 : Hid (∃ K3, rdv n f (sts n f (some p) 3) = K3) := ⟨_, rfl⟩
      obtain ⟨K3, hK3⟩ := HK3.out
      have HE3 := hide hK3
      rw [hK3]
      have hM3 := hide (hN3.out.put 2 (.int .i64 K3) rfl)
      clear hcN hoN hM2 hK3 HK3 hN3
      go_wp2_with fail
      clear m0 m1 m2 m3 m4 mz
      refine (num_any (w.heap.size + 1) ao n cap f (sts n f (some p) 4) _ hn (HS.out.below hM3.out.2.2.2.2.2) HF.out hM3.out.2.1).mono ?_
      rintro e wN4 ⟨rfl, hcN, hoN⟩
      have hN4 := hide (hM3.out.num hoN (show Cu wN4 (w.heap.size + 1) ao n cap (sts n f (some p) 5) from hcN))
      obtain ⟨⟨m0, m1, m2, m3, m4⟩, mz⟩ := hN4.out.cells
      have HK4 : Hid (∃ K4, rdv n f (sts n f (some p) 4) = K4) := ⟨_, rfl⟩
      obtain ⟨K4, hK4⟩ := HK4.out
      have HE4 := hide hK4
      rw [hK4]
      have hM4 := hide (hN4.out.put 3 (.int .i64 K4) rfl)
      clear hcN hoN hM3 hK4 HK4 hN4
      go_wp2_with fail
      clear m0 m1 m2 m3 m4 mz c1 c2
      refine (num_any (w.heap.size + 1) ao n cap f (sts n f (some p) 5) _ hn (HS.out.below hM4.out.2.2.2.2.2) HF.out hM4.out.2.1).mono ?_
      rintro e w6 ⟨rfl, hcN, hoN⟩
      have hM6 := hide (hM4.out.num hoN (show Cu w6 (w.heap.size + 1) ao n cap (sts n f (some p) 6) from hcN))
      obtain ⟨hct0, hct1⟩ := rdv_pos n f (sts n f (some p) 5)
      have HK5 : Hid (∃ K5, rdv n f (sts n f (some p) 5) = K5) := ⟨_, rfl⟩
      obtain ⟨cnt, hK5⟩ := HK5.out
      have HE5 := hide hK5
      rw [hK5] at hct0 hct1 ⊢
      clear hcN hoN hM4 hK5 HK5
      clear hbig
      go_wp2
      go_loopw [11, 12] (fun i _ wr => ∃ (j : Nat) (gv : Value) (G : List Int), j ≤ n ∧ (j : Int) ≤ cnt ∧ i = .int .i64 j ∧ Hid (G = (List.range j).map (fun i => rdv n f (sts n f (some p) (6 + i)))) ∧ Hid (MoS w wr ao n cap (sts n f (some p) (6 + j)) K1 K2 K3 K4 gv G)) (fun i _ _ => cnt.toNat - (intOf i).toNat)
      case atStart => exact ⟨0, _, [], by omega, by omega, rfl, rfl, hM6.out⟩
      case round =>
        clear hM6
        obtain ⟨j, gv, G, hjn, hjc, rfl, HG, HM⟩ := hrel
        have HGL : Hid (G.length = j) := (show _ = _ by rw [HG.out]; simp)
        have hcur := HM.out.cur
        cases hst : sts n f (some p) (6 + j) with
        | none =>
          rw [hst] at hcur HM
          simp only [Option.isSome_none] at hcur
          have hno : Hid (¬ ∃ k c v d G, Begins n f p k c v d G) := fun ⟨k, c, v, d, G0, hB⟩ => by
            obtain ⟨_, hs, _, _, _, _, h5, _⟩ := begins_read hB
            have h := hs (6 + j) (by rw [HE5.out] at h5; omega)
            rw [hst] at h
            cases h
          clear hst
          by_cases hjl : (j : Int) < cnt
          · skip
            obtain ⟨ro, rc, rfl, ⟨_, hrc, _⟩, hOw⟩ := Own.of_owns HM.out.2.2.2.1
            obtain ⟨⟨m0, m1, m2, m3, m4⟩, _⟩ := HM.out.cells
            have hGl := HGL.out
            have HOW := hide (And.intro hrc hOw.sl)
            clear hrc hOw hGl
            go_wp2_with fail
            refine (msgbytes_spec ro G.length rc (fun i => G.getD i 0) K1 K2 K3 K4 _ (by have := HGL.out; omega) HOW.out.1 HOW.out.2).mono ?_
            rintro e w9 ⟨v9, rfl, ho9, hb9⟩
            obtain ⟨bo, bc, rfl, ⟨_, hbc, _⟩, hO9⟩ := Own.of_owns ho9
            have HM9 := hide (HM.out.step hb9)
            have hcur9 := HM9.out.cur
            obtain ⟨r0, r1, r2, r3, r4⟩ := HM9.out.1.cells
            have zr : ∀ i, w9.frozen? ⟨w.heap.size, i, none⟩ = false := fun i => by have := HM9.out.1; unfold MB at this; simp [World.frozen?, this]
            clear m0 m1 m2 m3 m4 hcur HM
            simp only [Option.isSome_none] at hcur9
            clear ho9 hb9 hO9 hbc HOW
            go_wp2_with fail
            go_quiet (fail)
            go_wp2_with fail
            refine bodyPost_ret (v := .tuple #[.agg #[.int .i64 0, .int .i64 0, .int .i64 0, .int .i64 0, .slice none 0 0], .int .i64 0, .bool false]) (by simp [results, Try.results29, go_sem, r0, r1, r2, r3, r4]) rfl ?_
            exact ⟨.inr ⟨hno.out, rfl⟩, below_put5 (Below.drawn HM9.out.2.2.2.2.2 _) _ _ _ _ _⟩
          · skip
            obtain ⟨ro, rc, rfl, ⟨_, hrc, _⟩, hOw⟩ := Own.of_owns HM.out.2.2.2.1
            obtain ⟨⟨m0, m1, m2, m3, m4⟩, _⟩ := HM.out.cells
            have hGl := HGL.out
            have HOW := hide (And.intro hrc hOw.sl)
            clear hrc hOw hGl
            go_wp2_with fail
            refine (msgbytes_spec ro G.length rc (fun i => G.getD i 0) K1 K2 K3 K4 _ (by have := HGL.out; omega) HOW.out.1 HOW.out.2).mono ?_
            rintro e w9 ⟨v9, rfl, ho9, hb9⟩
            obtain ⟨bo, bc, rfl, ⟨_, hbc, _⟩, hO9⟩ := Own.of_owns ho9
            have HM9 := hide (HM.out.step hb9)
            have hcur9 := HM9.out.cur
            obtain ⟨r0, r1, r2, r3, r4⟩ := HM9.out.1.cells
            have zr : ∀ i, w9.frozen? ⟨w.heap.size, i, none⟩ = false := fun i => by have := HM9.out.1; unfold MB at this; simp [World.frozen?, this]
            clear m0 m1 m2 m3 m4 hcur HM
            simp only [Option.isSome_none] at hcur9
            clear ho9 hb9 hO9 hbc HOW
            go_wp2_with fail
            go_quiet (fail)
            go_wp2_with fail
            refine bodyPost_ret (v := .tuple #[.agg #[.int .i64 0, .int .i64 0, .int .i64 0, .int .i64 0, .slice none 0 0], .int .i64 0, .bool false]) (by simp [results, Try.results29, go_sem, r0, r1, r2, r3, r4]) rfl ?_
            exact ⟨.inr ⟨hno.out, rfl⟩, below_put5 (Below.drawn HM9.out.2.2.2.2.2 _) _ _ _ _ _⟩
        | some q6 =>
          rw [hst] at hcur
          simp only [Option.isSome_some] at hcur
          have hq6 := sts_pos (6 + j) hst
          by_cases hjl : (j : Int) < cnt
          · have hjn' : j + 1 ≤ n := by have := hq6.2 (by omega); omega
            clear hst hq6
            go_wp2_with fail
            refine (num_any (w.heap.size + 1) ao n cap f (sts n f (some p) (6 + j)) _ hn (HS.out.below HM.out.2.2.2.2.2) HF.out HM.out.2.1).mono ?_
            rintro e w7 ⟨rfl, hcN, hoN⟩
            have hN := hide (HM.out.num hoN (show Cu w7 (w.heap.size + 1) ao n cap (sts n f (some p) (6 + (j + 1))) from hcN))
            obtain ⟨⟨m0, m1, m2, m3, m4⟩, mz⟩ := hN.out.cells
            have hnx : Hid (G ++ [rdv n f (sts n f (some p) (6 + j))] = (List.range (j + 1)).map (fun i => rdv n f (sts n f (some p) (6 + i)))) := (show _ = _ by rw [List.range_succ, List.map_append, ← HG.out]; rfl)
            generalize rdv n f (sts n f (some p) (6 + j)) = z at *
            have hGl := HGL.out
            clear hcN hoN HM hcur
            go_wp2_with (first | (at_builtin; refine wpList_append_lies _ rfl _ _ 24 rfl (w.heap.size + 1 + 1 + 1) 3 i0 (.int .i64 0) 1 8 Try.underlying24 hi hz0 hz1 hz2 rfl (by decide) _ _ _ rfl (hN.out.2.2.2.1.alloc _) ⟨w7.heap.size, 0, none⟩ 1 1 ([z].map (.int .i64)) rfl rfl (gcells _ _ _) (gones _ _) (by omega) (glens (by omega)) (by omega) (by have := hN.out.2.2.2.2.1; simp; omega) _ rfl ?_; intro g8 c8 w8 hown8 hgrow8 hat8 hlt8; have H8 := hide ((hN.out.alloc _).grow (G' := G ++ [z]) (gv' := .slice (some ⟨g8, 0, none⟩) (G.length + 1) c8) hgrow8 (by simpa using hown8)); have c84 : w8.cell? ⟨w.heap.size + 1 + 1, 4, none⟩ = some gv := blk_cell H8.out.2.2.1 rfl; have z84 : w8.frozen? ⟨w.heap.size + 1 + 1, 4, none⟩ = false := (by have := H8.out.2.2.1; simp [World.frozen?, this]); clear hown8 hgrow8 hat8 hlt8 m0 m1 m2 m3 m4 mz))
            have HM8 := hide (mo_put H8.out.1 H8.out.2.1 H8.out.2.2.1 H8.out.2.2.2.2.1 H8.out.2.2.2.2.2 4 (.slice (some ⟨g8, 0, none⟩) (G.length + 1) c8) rfl H8.out.2.2.2.1)
            go_roundw
            case rel => exact ⟨j + 1, _, G ++ [z], hjn', by omega, by go_num, hnx.out, (by have h := HM8.out; rw [hGl] at h; exact h)⟩
            case measure => simp [intOf]; omega
          · skip
            obtain ⟨ro, rc, rfl, ⟨_, hrc, _⟩, hOw⟩ := Own.of_owns HM.out.2.2.2.1
            obtain ⟨⟨m0, m1, m2, m3, m4⟩, _⟩ := HM.out.cells
            have hGl := HGL.out
            have HOW := hide (And.intro hrc hOw.sl)
            clear hrc hOw hGl
            go_wp2_with fail
            refine (msgbytes_spec ro G.length rc (fun i => G.getD i 0) K1 K2 K3 K4 _ (by have := HGL.out; omega) HOW.out.1 HOW.out.2).mono ?_
            rintro e w9 ⟨v9, rfl, ho9, hb9⟩
            obtain ⟨bo, bc, rfl, ⟨_, hbc, _⟩, hO9⟩ := Own.of_owns ho9
            have HM9 := hide (HM.out.step hb9)
            have hcur9 := HM9.out.cur
            obtain ⟨r0, r1, r2, r3, r4⟩ := HM9.out.1.cells
            have zr : ∀ i, w9.frozen? ⟨w.heap.size, i, none⟩ = false := fun i => by have := HM9.out.1; unfold MB at this; simp [World.frozen?, this]
            clear m0 m1 m2 m3 m4 hcur HM
            rw [hst] at hcur9
            simp only [Option.isSome_some] at hcur9
            have hjc' : (j : Int) = cnt := by omega
            have hpar : Hid (∀ k c v d G0, Begins n f p k c v d G0 → K1 = k ∧ K2 = c ∧ K3 = v ∧ K4 = d ∧ G = G0) := fun k c v d G0 hB => by
              obtain ⟨_, _, e1, e2, e3, e4, e5, e6⟩ := begins_read hB
              rw [HE1.out] at e1
              rw [HE2.out] at e2
              rw [HE3.out] at e3
              rw [HE4.out] at e4
              rw [HE5.out] at e5
              refine ⟨e1, e2, e3, e4, ?_⟩
              have ej : j = G0.length := by omega
              rw [HG.out, ej]
              conv => rhs; rw [← range_getD G0]
              refine List.map_congr_left fun i hi => ?_
              simp at hi
              rw [e6 i hi]
            have HB9 := hide HM9.out.2.2.2.2.2
            have hq0 := hq6.1
            have hq1 := hq6.2 (by omega)
            clear hb9 hst hjc' HOW ho9 hq6
            by_cases hok : MOk K1 K2 K3 K4 (fun i => G.getD i 0) G.length
            · have hmbl : 0 < (mb K1 K2 K3 K4 (fun i => G.getD i 0) G.length).length := by
                unfold mb
                rw [if_pos hok]
                simp [framed, s4]
                omega
              have hmb1 := mb_len K1 K2 K3 K4 (fun i => G.getD i 0) G.length
              have hbyt := hide (mb_byte K1 K2 K3 K4 (fun i => G.getD i 0) G.length)
              generalize hMB : mb K1 K2 K3 K4 (fun i => G.getD i 0) G.length = L at *
              have HMB := hide hMB
              clear hMB
              have d0 : decide ((L.length : Int) = 0) = false := decide_eq_false (by omega)
              have d1 : ((L.length : Int) == 0) = false := by rw [beq_eq_false_iff_ne]; omega
              by_cases hlong : (n : Int) - p < (L.length : Int)
              · have hno : Hid (¬ ∃ k c v d G, Begins n f p k c v d G) := fun ⟨k, c, v, d, G0, hB⟩ => by
                  obtain ⟨rfl, rfl, rfl, rfl, rfl⟩ := hpar.out k c v d G0 hB
                  have := hB.2.2.1
                  rw [HMB.out] at this
                  omega
                clear hpar
                go_wp2_with fail
                go_quiet (fail)
                go_wp2_with fail
                refine bodyPost_ret (v := .tuple #[.agg #[.int .i64 0, .int .i64 0, .int .i64 0, .int .i64 0, .slice none 0 0], .int .i64 0, .bool false]) (by simp [results, Try.results29, go_sem, r0, r1, r2, r3, r4]) rfl ?_
                exact ⟨.inr ⟨hno.out, rfl⟩, below_put5 (Below.drawn HM9.out.2.2.2.2.2 _) _ _ _ _ _⟩
              · obtain ⟨a, rfl⟩ : ∃ a : Nat, p = a := ⟨p.toNat, by have := HXP.out; omega⟩
                obtain ⟨b, off, rfl, hb, _⟩ := HS.out 0 (by have := HXP.out; omega)
                have HSb := hide (HS.out.below HB9.out)
                have hLbl : Hid (((List.range L.length).map (fun i => f (a + i))).length = L.length) := (show _ = _ by simp)
                have hLbb : Hid (∀ z ∈ (List.range L.length).map (fun i => f (a + i)), 0 ≤ z ∧ z ≤ 255) := fun z hz => by
                  simp at hz
                  obtain ⟨i, hi, rfl⟩ := hz
                  exact HF.out (a + i) (by omega)
                have hcv1 : ∀ q, (convert 22 9 (.slice bo L.length bc)).run Try.prog (w9.drewN q) = .ok (.string (bstr L)) (w9.drewN q) := fun q => conv_str (hO9.drawn q).sl hbyt.out
                have hcv2 : ∀ q c, (convert 22 9 (.slice (some ⟨b, off + a, none⟩) L.length c)).run Try.prog (w9.drewN q) = .ok (.string (bstr ((List.range L.length).map (fun i => f (a + i))))) (w9.drewN q) := fun q c => by
                  have h := conv_str (w := w9.drewN q) (ao := some ⟨b, off + a, none⟩) (cap := c) (L := (List.range L.length).map (fun i => f (a + i))) (fun i hi => by
                    have hi' : i < L.length := by simpa using hi
                    obtain ⟨b', off', e', hb', hc'⟩ := HSb.out (a + i) (by omega)
                    simp only [Option.some.injEq, Addr.mk.injEq] at e'
                    obtain ⟨rfl, rfl, _⟩ := e'
                    refine ⟨b, off + a, rfl, hb', ?_⟩
                    rw [Nat.add_assoc]
                    simp [List.getD, hi']
                    exact hc') hLbb.out
                  rw [hLbl.out] at h
                  exact h
                have HTR : Hid (bstr L = bstr ((List.range L.length).map (fun i => f (a + i))) ↔ Has n f a L) := ⟨fun h => by
                    have e := bstr_inj hbyt.out hLbb.out h
                    refine ⟨by omega, fun i hi => ?_⟩
                    have this : L.getD i 0 = ((List.range L.length).map (fun i => f (a + i))).getD i 0 := congrArg (fun l => l.getD i 0) e
                    rw [this]
                    simp [List.getD, hi], fun h => by
                    congr 1
                    refine List.ext_getElem (by simp) fun i h1 h2 => ?_
                    have := h.2 i h1
                    simp [List.getD, h1] at this
                    simp [this]⟩
                generalize bstr ((List.range L.length).map (fun i => f (a + i))) = sb at *
                generalize bstr L = sl at *
                have t1 : IntKind.i64.wrap ((a : Int) + (L.length : Int)) = (a : Int) + (L.length : Int) := by rw [IntKind.wrap_i64]; omega
                have t2 : (0 : Int) ≤ (a : Int) := by omega
                have t3 : (a : Int) ≤ (a : Int) + (L.length : Int) := by omega
                have t4 : (a : Int) + (L.length : Int) ≤ (cap : Int) := by omega
                have t5 : ((a : Int) + (L.length : Int)).toNat = a + L.length := by omega
                have t7 : IntKind.i64.wrap ((n : Int) - (a : Int)) = (n : Int) - (a : Int) := by rw [IntKind.wrap_i64]; omega
                have t6 : decide ((n : Int) - (a : Int) < (L.length : Int)) = false := decide_eq_false hlong
                clear hLbl hLbb hbyt HSb HF HS hO9 hbc
                have t8 : ¬ cap = a := by omega
                by_cases hEq : sl = sb
                · have hHas := hide (HTR.out.1 hEq)
                  subst hEq
                  obtain ⟨⟨m0, m1, m2, m3, m4⟩, _⟩ := HM9.out.cells
                  have hgl : Hid (G.length ≤ rc ∧ Own w9 (w.heap.size + 1 + 1 + 1) 3 ro G.length (fun i => .int .i64 (G.getD i 0))) := by
                    obtain ⟨ro', rc', e', ⟨_, h2, _⟩, h3⟩ := Own.of_owns HM9.out.2.2.2.1
                    cases e'
                    exact ⟨h2, h3⟩
                  go_wp2_with fail
                  go_quiet (fail)
                  go_wp2_with fail
                  refine bodyPost_ret (v := .tuple #[.agg #[.int .i64 K1, .int .i64 K2, .int .i64 K3, .int .i64 K4, .slice ro G.length rc], .int .i64 ((a : Int) + (L.length : Int)), .bool true]) (by simp [results, Try.results29, go_sem, r0, r1, r2, r3, r4]) rfl ?_
                  refine ⟨.inl ⟨K1, K2, K3, K4, G, ro, rc, ⟨by omega, hok, ?_⟩, by rw [HMB.out], hgl.out.1, own_put5 (hgl.out.2.drawn _) (by omega) (by omega) _ _ _ _ _⟩, below_put5 (Below.drawn HM9.out.2.2.2.2.2 _) _ _ _ _ _⟩
                  rw [HMB.out]
                  exact hHas.out
                · have hno : Hid (¬ ∃ k c v d G, Begins n f (a : Int) k c v d G) := fun ⟨k, c, v, d, G0, hB⟩ => by
                    obtain ⟨rfl, rfl, rfl, rfl, rfl⟩ := hpar.out k c v d G0 hB
                    have h := hB.2.2
                    rw [HMB.out] at h
                    exact hEq (HTR.out.2 h)
                  have hne : (sl.toList == sb.toList) = false := bytes_ne hEq
                  clear hpar
                  go_wp2_with fail
                  go_quiet (fail)
                  go_wp2_with fail
                  refine bodyPost_ret (v := .tuple #[.agg #[.int .i64 0, .int .i64 0, .int .i64 0, .int .i64 0, .slice none 0 0], .int .i64 0, .bool false]) (by simp [results, Try.results29, go_sem, r0, r1, r2, r3, r4]) rfl ?_
                  exact ⟨.inr ⟨hno.out, rfl⟩, below_put5 (Below.drawn HM9.out.2.2.2.2.2 _) _ _ _ _ _⟩
            · have hmb : mb K1 K2 K3 K4 (fun i => G.getD i 0) G.length = [] := by unfold mb; rw [if_neg hok]
              have hno : Hid (¬ ∃ k c v d G, Begins n f p k c v d G) := fun ⟨k, c, v, d, G0, hB⟩ => by
                obtain ⟨rfl, rfl, rfl, rfl, rfl⟩ := hpar.out k c v d G0 hB
                exact hok hB.2.1
              rw [hmb] at hbc hO9 ⊢
              clear hmb hok hpar hO9 hbc
              simp only [List.length_nil] at *
              go_wp2_with fail
              go_quiet (fail)
              go_wp2_with fail
              refine bodyPost_ret (v := .tuple #[.agg #[.int .i64 0, .int .i64 0, .int .i64 0, .int .i64 0, .slice none 0 0], .int .i64 0, .bool false]) (by simp [results, Try.results29, go_sem, r0, r1, r2, r3, r4]) rfl ?_
              exact ⟨.inr ⟨hno.out, rfl⟩, below_put5 (Below.drawn HM9.out.2.2.2.2.2 _) _ _ _ _ _⟩
end Go.Proofs.Ytkeojhnifnkpiaa

/- slices.Concat at bytes; what is appended may be nil. -/
namespace Go.Proofs.Ytkeojhnifnkpiaa
open Go.ChangeShapes Go.WideShapes Go.ChangeAt Go.RowKit
set_option linter.unusedVariables false
set_option linter.unusedSimpArgs false

/-- A slice that holds the numbers L, or nil where there are none. -/
def Src (k : IntKind) (w : World) (x : Value) (L : List Int) : Prop :=
  (x = .slice none 0 0 ∧ L = []) ∨ ∃ ad c, x = .slice (some ad) L.length c ∧ ∀ j u, (L.map (Value.int k))[j]? = some u → w.cell? (ad.add j) = some u
theorem Src.of_owns {w : World} {B : Nat} {v : Value} {L : List Int} {k : IntKind} {t : TypeId} (h : w.ownsRow B t 1 v L.length (L.map (.int k))) : Src k w v L := by
  rcases h.2 with ⟨e, h0⟩ | ⟨g, cap, cur, e, hge, hc, _⟩
  · exact .inl ⟨e, List.length_eq_zero_iff.1 h0⟩
  · exact .inr ⟨⟨g, 0, none⟩, cap, e, h.cells (by rw [e]; rfl)⟩
theorem Src.below {k : IntKind} {w w' : World} {x : Value} {L : List Int} (h : Src k w x L) (hb : Below w.heap.size w w') : Src k w' x L := by
  rcases h with h | ⟨ad, c, e, hc⟩
  · exact .inl h
  · refine .inr ⟨ad, c, e, fun j u hu => ?_⟩
    have h1 := hc j u hu
    exact (hb.cell (lt_of_cell h1)).trans h1
theorem Src.form {k : IntKind} {w : World} {x : Value} {L : List Int} (h : Src k w x L) : ∃ ao c, x = .slice ao L.length c := by
  rcases h with ⟨e, rfl⟩ | ⟨ad, c, e, _⟩
  · exact ⟨none, 0, e⟩
  · exact ⟨some ad, c, e⟩
theorem Src.of_sl {k : IntKind} {w : World} {ao : Option Addr} {n c : Nat} {f : Nat → Int} (h : SL k w ao n f) (h0 : ao = none → n = 0 ∧ c = 0) : Src k w (.slice ao n c) ((List.range n).map f) := by
  cases ao with
  | none =>
    obtain ⟨rfl, rfl⟩ := h0 rfl
    exact .inl ⟨rfl, rfl⟩
  | some ad =>
    refine .inr ⟨ad, c, by simp, fun j u hu => ?_⟩
    have hj : j < n := by
      by_cases hj : j < n
      · exact hj
      · rw [List.getElem?_eq_none (by simp; omega)] at hu; cases hu
    obtain ⟨b, off, e, hlt, hc⟩ := h j hj
    simp only [Option.some.injEq] at e
    subst e
    rw [Addr.add_lit, hc]
    simpa [hj] using hu

theorem grownBy_refl (w : World) (r : Option Nat) : w.grownBy w r := by
  constructor <;> first | exact Nat.le_refl _ | (intros; rfl) | skip

theorem wpList_append_src {P : Program} {w : World} {ops : Array Oper} {rest : List Oper} {o : Oper} {a : Act} {Q : Exit → Act → World → Prop} (hgd : o.guard = none) (s x : Operand) (t : TypeId)
    (ho : o.op = .call { callee := .builtin .append, args := #[s, x], argTypes := #[t, t] })
    (base : Nat) (e : TypeId) (i : TypeInfo) (z : Value) (bytes : Nat) (ht : P.underlying t = some (.slice e)) (hi : P.info? e = some i) (hz : i.zero = some z)
    (hsize : i.size = 1) (hby : i.bytes = bytes) (hzs : z.cells.size = 1) (k : IntKind)
    (v : Value) (M : List Int) (hs : a.eval s = v) (hown : w.ownsRow base e 1 v M.length (M.map (.int k)))
    (xv : Value) (L : List Int) (hx : a.eval x = xv) (hsrc : Src k w xv L)
    (h63 : M.length + L.length ≤ maxLen) (hbytes : (M.length + L.length) * bytes ≤ 140737488355328) (hbase : base ≤ w.heap.size)
    (h : ∀ v' w', w'.ownsRow base e 1 v' (M ++ L).length ((M ++ L).map (.int k)) → w.grownBy w' v.ownBlock → wpList P ops Q rest (a.put o.dst v') w') : wpList P ops Q (o :: rest) a w := by
  rcases hsrc with ⟨e1, rfl⟩ | ⟨ad, c, e1, hc⟩
  · refine wpList_append_own_none hgd s x t ho base e i 1 ht hi v M.length (M.map (.int k)) hs hown (hx.trans e1) ?_
    exact h v w (by simpa using hown) (grownBy_refl _ _)
  · refine wpList_append_own w hgd s x t ho base e i z 1 bytes ht hi hz hsize hby hzs (by decide) v M.length (M.map (.int k)) hs hown ad L.length c (L.map (.int k)) (hx.trans e1) (by simp) hc (gones _ _) h63 hbytes hbase ?_
    intro v' w' h1 h2 _
    exact h v' w' (by simpa using h1) h2

set_option maxRecDepth 100000 in
theorem bgrow_any (n : Nat) (w : World) (hn : n ≤ 4194304) :
    Calls Try.prog 114 #[.slice none 0 0, .int .i64 (n : Int)] w fun e w' => ∃ v, e = .returned v ∧ w'.ownsRow w.heap.size 5 1 v 0 (([] : List Int).map (.int .u8)) ∧ Below w.heap.size w w' := by
  obtain ⟨i0, hi0, hz0, hz1, hz2⟩ := info_parts Try.info5
  by_cases h0 : n = 0
  · subst h0
    go_enter Try.func114, Try.ntmps114
    go_wp2
    go_ret
    exact ⟨_, rfl, gnil, Below.refl _ _⟩
  · have hrz : ∀ ty, (Builtin.append_ #[22, 3] ty #[.slice none 0 0, .int .i64 (n : Int)]).run Try.prog w =
        .ok (.slice (some ⟨w.heap.size, 0, none⟩) n (grownCap w n 0 5)) (w.drew.alloc (.cells (Builtin.zeroCells (Value.int .u8 0).cells n ++ Builtin.zeroCells (Value.int .u8 0).cells (grownCap w n 0 5 - n)) 5)) := fun ty =>
      Lib.run_append_nil_zeros w 22 3 ty 5 i0 _ .u8 .i64 Try.underlying22 Try.underlying3 hi0 hz0 n (by omega) (by omega) (by omega) (by rw [hz2]; omega)
    have hGn : n ≤ grownCap w n 0 5 := grownCap_ge w _ _ _
    have hGm : grownCap w n 0 5 ≤ maxLen := grownCap_le_maxLen w n 0 5 (by unfold maxLen; omega)
    generalize grownCap w n 0 5 = G at *
    obtain ⟨ROW, hROW⟩ : ∃ ROW : Array Value, ROW = Builtin.zeroCells (Value.int .u8 0).cells n ++ Builtin.zeroCells (Value.int .u8 0).cells (G - n) := ⟨_, rfl⟩
    have hRs : ROW.size = G := by rw [hROW]; simp [Builtin.zeroCells, Value.cells]; omega
    rw [← hROW] at hrz
    have hfin : (w.drew.alloc (.cells ROW 5)).ownsRow w.heap.size 5 1 (.slice (some ⟨w.heap.size, 0, none⟩) 0 G) 0 (([] : List Int).map (.int .u8)) :=
      ⟨rfl, .inr ⟨_, G, ROW, rfl, Nat.le_refl _, Deep.blk_alloc_new w.drew _, by omega, hGm, by omega, by simp⟩⟩
    have hB : Below w.heap.size w (w.drew.alloc (.cells ROW 5)) := (Below.drawn (Below.refl _ w) 1).alloc (Nat.le_refl _) _
    obtain ⟨W1, hW⟩ : ∃ W1, W1 = w.drew.alloc (.cells ROW 5) := ⟨_, rfl⟩
    rw [← hW] at hrz hfin hB
    have R := hide (And.intro hfin hB)
    clear hfin hB hW hROW hRs
    unfold maxLen at hGm
    have hpos : (0 : Int) < (n : Int) := by omega
    go_enter Try.func114, Try.ntmps114
    go_wp2_with (first
      | (at_builtin; refine Lib.wpList_append_run _ rfl _ _ _ _ rfl _ _ rfl rfl _ _ (hrz _) ?_))
    go_wp2
    go_ret
    exact ⟨_, rfl, R.out⟩

/-- The first k lists, one behind the other. -/
def catk (L : Nat → List Int) : Nat → List Int
  | 0 => []
  | k + 1 => catk L k ++ L k
theorem catk_len (L : Nat → List Int) (k : Nat) : (catk L (k + 1)).length = (catk L k).length + (L k).length := by simp [catk]
theorem catk_le (L : Nat → List Int) (k n : Nat) (h : k ≤ n) : (catk L k).length ≤ (catk L n).length := by
  induction n with
  | zero => obtain rfl : k = 0 := by omega
            exact Nat.le_refl _
  | succ n ih =>
    by_cases e : k = n + 1
    · subst e; exact Nat.le_refl _
    · have := ih (by omega); rw [catk_len]; omega

set_option maxRecDepth 100000 in
theorem bconcat_any (vb N : Nat) (ao : Nat → Option Addr) (c : Nat → Nat) (L : Nat → List Int) (w : World) (hN : N ≤ 16) (hlen : (catk L N).length ≤ 1048576) (hvlt : vb < w.heap.size)
    (hv : ∀ k, k < N → w.cell? ⟨vb, k, none⟩ = some (.slice (ao k) (L k).length (c k))) (hs : ∀ k, k < N → Src .u8 w (.slice (ao k) (L k).length (c k)) (L k)) :
    Calls Try.prog 53 #[.slice (some ⟨vb, 0, none⟩) N N] w fun e w' => ∃ v, e = .returned v ∧ w'.ownsRow w.heap.size 5 1 v (catk L N).length ((catk L N).map (.int .u8)) ∧ Below w.heap.size w w' := by
  obtain ⟨i0, hi, hz0, hz1, hz2⟩ := info_parts Try.info5
  have HV := hide hv
  have HS := hide hs
  clear hv hs
  go_enter Try.func53, Try.ntmps53
  go_wp2
  go_loop [3, 5, 11] (fun s _ i => ∃ k : Nat, k ≤ N ∧ i = .int .i64 k ∧ s = .int .i64 ((catk L k).length : Nat)) (fun _ _ i => N - (intOf i).toNat)
  case atStart => exact ⟨0, by omega, rfl, rfl⟩
  case round =>
    obtain ⟨k, hk, rfl, rfl⟩ := hrel
    by_cases hlt : k < N
    · have c0 := HV.out k hlt
      have hk1 := catk_le L (k + 1) N (by omega)
      have hk2 := catk_len L k
      generalize hx : (catk L k).length = x at *
      generalize hy : (L k).length = y at *
      have hle : (0 : Int) ≤ (x : Int) + (y : Int) := by omega
      go_wp2
      go_round
      case rel => exact ⟨k + 1, by omega, by go_num, by rw [hk2]; go_num⟩
      case measure => simp [intOf]; omega
    · obtain rfl : k = N := by omega
      go_wp2_with fail
      refine (bgrow_any (catk L k).length _ (by omega)).mono ?_
      rintro e w1 ⟨v1, rfl, ho1, b1⟩
      have HO1 := hide ho1
      have HB1 := hide b1
      clear ho1 b1
      go_wp2_with fail
      go_loopw [6, 8, 27] (fun v _ i wr => ∃ j : Nat, j ≤ k ∧ i = .int .i64 j ∧ Hid (wr.ownsRow w.heap.size 5 1 v (catk L j).length ((catk L j).map (.int .u8)) ∧ Below w.heap.size w wr)) (fun _ _ i _ => k - (intOf i).toNat)
      case atStart => exact ⟨0, by omega, rfl, HO1.out, HB1.out⟩
      case round =>
        obtain ⟨j, hj, rfl, HI⟩ := hrel
        clear HO1 HB1
        by_cases hlt : j < k
        · have d0 := (HI.out.2.cell (p := ⟨vb, j, none⟩) hvlt).trans (HV.out j hlt)
          have hsrc := hide ((HS.out j hlt).below HI.out.2)
          have hsz := HI.out.2.size
          have hk1 := catk_le L (j + 1) k (by omega)
          have hk2 := catk_len L j
          have hLj : Hid (catk L (j + 1) = catk L j ++ L j) := rfl
          generalize L j = M at *
          generalize catk L j = C at *
          go_wp2_with (first
            | (at_builtin; refine wpList_append_src rfl _ _ 22 rfl w.heap.size 5 i0 (.int .u8 0) 1 Try.underlying22 hi hz0 hz1 hz2 rfl .u8 _ C rfl HI.out.1 _ M rfl hsrc.out (glens (by omega)) (by omega) hsz ?_; intro v' w2 hown' hgrow))
          have R := hide (And.intro hown' (ggrown HI.out.2 hsz HI.out.1 hgrow))
          clear hown' hgrow
          go_wp2
          go_roundw
          case rel => exact ⟨j + 1, by omega, by go_num, by rw [hLj.out]; exact R.out⟩
          case measure => simp [intOf]; omega
        · obtain rfl : j = k := by omega
          go_wp2
          go_ret
          exact ⟨_, rfl, HI.out⟩
end Go.Proofs.Ytkeojhnifnkpiaa

/- PutNum of the program: its bytes lie in memory of its own; nothing where there is no number. -/
namespace Go.Proofs.Ytkeojhnifnkpiaa
open Go.ChangeShapes Go.WideShapes Go.ChangeAt Go.RowKit
set_option linter.unusedVariables false
set_option linter.unusedSimpArgs false

theorem num_bytes (x : Int) (w : World) (h0 : 0 ≤ x) (h1 : x ≤ 2147483647) :
    Calls Try.prog 116 #[.int .i64 x] w fun e w' => ∃ v, e = .returned v ∧ w'.ownsRow w.heap.size 5 1 v (pb 4 x).length ((pb 4 x).map (.int .u8)) ∧ Below w.heap.size w w' := by
  obtain ⟨i0, hi, hz0, hz1, hz2⟩ := info_parts Try.info5
  go_enter Try.func116, Try.ntmps116
  go_wp2
  go_loopw [0, 3] (fun xv v wr => ∃ (k : Nat) (y : Int) (L : List Int), k ≤ 4 ∧ Hid (L.length = k) ∧ 0 ≤ y ∧ y < lim k ∧ xv = .int .i64 y ∧ Hid (L ++ pb (4 - k) y = pb 4 x) ∧ wr.ownsRow w.heap.size 5 1 v k (L.map (.int .u8)) ∧ Below w.heap.size w wr) (fun xv _ _ => (intOf xv).toNat)
  case atStart => exact ⟨0, x, [], by omega, rfl, h0, by simp [lim]; omega, rfl, rfl, World.ownsRow_nil _ _ _ _, Below.refl _ _⟩
  case round =>
    obtain ⟨k, y, L, hk, hl, hy0, hy1, rfl, hp, hown, hbel⟩ := hrel
    have hlim := lim_le k
    by_cases hlt : 128 ≤ y
    · obtain ⟨hk4, hd0, hd1⟩ := lim_step k y hlt hy1
      go_wp2_with (first
        | (at_builtin; refine wpList_append_own _ rfl _ _ 22 rfl w.heap.size 5 i0 (.int .u8 0) 1 1 Try.underlying22 hi hz0 hz1 hz2 rfl (by decide) _ _ _ rfl (hown.alloc _) ⟨wr.heap.size, 0, none⟩ 1 1 [.int .u8 (y % 128 + 128)] rfl rfl (app_cell _ _ _) (app_one _ _) (app_len (by omega)) (by omega) (by have := hbel.size; simp; omega) ?_; intro v' w1 hown' hgrow hnn))
      · have R := put_step hk4 hl.out (by omega) hp.out hown' hbel hown hgrow
        clear hown' hgrow hown
        go_wp2
        go_roundw
        case rel => exact ⟨k + 1, y / 128, _, by omega, R.1, hd0, hd1, by go_num, R.2.1, R.2.2.1, R.2.2.2⟩
        case measure => simp [intOf]; omega
    · go_wp2_with (first
        | (at_builtin; refine wpList_append_own _ rfl _ _ 22 rfl w.heap.size 5 i0 (.int .u8 0) 1 1 Try.underlying22 hi hz0 hz1 hz2 rfl (by decide) _ _ _ rfl (hown.alloc _) ⟨wr.heap.size, 0, none⟩ 1 1 [.int .u8 y] rfl rfl (app_cell _ _ _) (app_one _ _) (app_len (by omega)) (by omega) (by have := hbel.size; simp; omega) ?_; intro v' w1 hown' hgrow hnn))
      · have R := put_end hl.out (by omega) hp.out hown' hbel hown hgrow
        clear hown' hgrow hown
        go_wp2
        go_ret
        exact ⟨_, rfl, R⟩

theorem catch17 (u : TypeId) (pv : Value) (older : List PanicEntry) (w : World) :
    CallsD Try.prog 115 #[] (.panicking ({ v := .iface u pv, recovered := false } :: older)) w fun e u' w' =>
      e = .returned (.tuple #[]) ∧ u' = .panicking ({ v := .iface u pv, recovered := true } :: older) ∧ w' = w := by
  refine callsD_of_wpS Try.func115 rfl fun c₀ cs hu => ?_
  apply wpS_region
  simp [wpOpsS, go_sem, recoverD, hu, Try.ntmps115, bodyPostS, results, Try.results115]

theorem idle17 (w : World) :
    CallsD Try.prog 115 #[] .returning w fun e u' w' => e = .returned (.tuple #[]) ∧ u' = .returning ∧ w' = w := by
  refine callsD_of_wpS Try.func115 rfl fun c₀ cs hu => ?_
  apply wpS_region
  simp [wpOpsS, go_sem, recoverD, hu, Try.ntmps115, bodyPostS, results, Try.results115]
  cases c₀
  simp_all

theorem put_impl_no (x : Int) (w : World) (h : x < 0 ∨ 2147483647 < x) :
    Calls Try.prog 54 #[.int .i64 x] w fun e w' => e = .returned (.slice none 0 0) ∧ w' = w := by
  go_enter_defers Try.func54, Try.ntmps54
  go_wp2_with (go_at_call 117; refine (num_no x _ h).mono ?_; rintro e w' ⟨⟨pv, rfl⟩, rfl⟩)
  refine leaves_cons (f := 115) (args := #[]) (by simp) (by simp [go_sem]) ?_
  refine (catch17 143 _ [] _).mono ?_
  rintro e u' w'' ⟨rfl, rfl, rfl⟩
  simp [Leaves, settle, results, Try.results54, go_sem]

theorem put_impl (x : Int) (w : World) (h0 : 0 ≤ x) (h1 : x ≤ 2147483647) :
    Calls Try.prog 54 #[.int .i64 x] w fun e w' => ∃ v, e = .returned v ∧ w'.ownsRow w.heap.size 5 1 v (pb 4 x).length ((pb 4 x).map (.int .u8)) ∧ Below w.heap.size w w' := by
  go_enter_defers Try.func54, Try.ntmps54
  go_wp2_with (first
    | (go_at_call 117; refine (num_yes x _ ⟨h0, h1⟩).mono ?_; rintro e w' ⟨rfl, rfl⟩)
    | (go_at_call 116; refine (num_bytes x _ h0 h1).mono ?_; rintro e w1 ⟨v, rfl, ho, hb⟩))
  refine leaves_cons (f := 115) (args := #[]) (by simp) (by simp [go_sem]) ?_
  refine (idle17 _).mono ?_
  rintro e u' w'' ⟨rfl, rfl, rfl⟩
  simp [Leaves, settle, results, Try.results54, go_sem]
  exact ⟨by assumption, by assumption⟩
end Go.Proofs.Ytkeojhnifnkpiaa

/- MsgOk of the program: its parts. -/
namespace Go.Proofs.Ytkeojhnifnkpiaa
open Go.ChangeShapes Go.WideShapes Go.ChangeAt Go.RowKit
set_option linter.unusedVariables false
set_option linter.unusedSimpArgs false

theorem nocell_any (x : Int) (w : World) : Calls Try.prog 139 #[.int .i64 x] w fun e w' => e = .returned (.bool (decide (x < 0 ∨ 8 ≤ x))) ∧ w' = w := by
  by_cases h0 : x < 0
  · go_enter Try.func139, Try.ntmps139
    go_wp2
    go_ret
    exact ⟨by simp [h0], rfl⟩
  · go_enter Try.func139, Try.ntmps139
    go_wp2
    go_ret
    exact ⟨by simp [Int.not_lt.2 h0], rfl⟩
theorem nowrite_any (x : Int) (w : World) : Calls Try.prog 74 #[.int .i64 x] w fun e w' => e = .returned (.bool (decide (x < 0 ∨ 200 < x))) ∧ w' = w := by
  by_cases h0 : x < 0
  · go_enter Try.func74, Try.ntmps74
    go_wp2
    go_ret
    exact ⟨by simp [h0], rfl⟩
  · go_enter Try.func74, Try.ntmps74
    go_wp2
    go_ret
    exact ⟨by simp [Int.not_lt.2 h0], rfl⟩
theorem nonode_any (x : Int) (w : World) : Calls Try.prog 168 #[.int .i64 x] w fun e w' => e = .returned (.bool (decide (x < 0 ∨ 3 ≤ x))) ∧ w' = w := by
  by_cases h0 : x < 0
  · go_enter Try.func168, Try.ntmps168
    go_wp2
    go_ret
    exact ⟨by simp [h0], rfl⟩
  · go_enter Try.func168, Try.ntmps168
    go_wp2
    go_ret
    exact ⟨by simp [Int.not_lt.2 h0], rfl⟩
theorem nogen_any (x : Int) (w : World) : Calls Try.prog 122 #[.int .i64 x] w fun e w' => e = .returned (.bool (decide (x < 1 ∨ 100000 < x))) ∧ w' = w := by
  by_cases h0 : x < 1
  · go_enter Try.func122, Try.ntmps122
    go_wp2
    go_ret
    exact ⟨by simp [h0], rfl⟩
  · go_enter Try.func122, Try.ntmps122
    go_wp2
    go_ret
    exact ⟨by simp [Int.not_lt.2 h0], rfl⟩
end Go.Proofs.Ytkeojhnifnkpiaa

/- MsgBytes of the model. -/
import Derived.Test.YtkeojhnifnkpiaaGc
import Derived.Test.YtkeojhnifnkpiaaSumZ
import Derived.Deep.Cut

namespace Go.Proofs.Ytkeojhnifnkpiaa
open Go.ChangeShapes Go.WideShapes Go.ChangeAt Go.RowKit
set_option linter.unusedVariables false
set_option linter.unusedSimpArgs false

/-- A number as four bytes, the low ones first. -/
def s4 (x : Int) : List Int := [x % 256, x / 256 % 256, x / 65536 % 256, x / 16777216 % 256]

theorem i64_and255 (x : Int) (h0 : 0 ≤ x) (h1 : x < 4611686018427387904) : bits .and .i64 x 255 = x % 256 := by
  obtain ⟨a, rfl⟩ := Int.eq_ofNat_of_zero_le h0
  have e : (BitVec.ofInt 64 (a : Int) &&& BitVec.ofInt 64 ((255 : Nat) : Int)).toNat = a % 256 := by
    rw [BitVec.toNat_and, ofInt_u64 a (by omega), ofInt_u64 255 (by omega)]
    exact Nat.and_two_pow_sub_one_eq_mod a 8
  show IntKind.i64.wrap (((BitVec.ofInt 64 (a : Int) &&& BitVec.ofInt 64 ((255 : Nat) : Int)).toNat : Nat) : Int) = _
  rw [e, IntKind.wrap_i64]
  omega

theorem sum4_spec (x : Int) (w : World) (h0 : 0 ≤ x) (h1 : x < 4294967296) :
    Calls Try.prog 94 #[.int .i64 x] w fun e w' => ∃ v, e = .returned v ∧ w'.ownsRow w.heap.size 5 1 v (s4 x).length ((s4 x).map (.int .u8)) ∧ Below w.heap.size w w' := by
  go_enter Try.func94, Try.ntmps94
  go_wp2
  go_ret
  refine ⟨_, rfl, ?_, (Below.refl _ _).alloc (Nat.le_refl _) _⟩
  rw [i64_and255 x h0 (by omega), i64_and255 (x / 256) (by omega) (by omega), i64_and255 (x / 65536) (by omega) (by omega), i64_and255 (x / 16777216) (by omega) (by omega)]
  refine ⟨rfl, .inr ⟨_, _, _, rfl, Nat.le_refl _, Deep.blk_alloc_new _ _, by simp [s4], by simp [maxLen], by simp, ?_⟩⟩
  simp [s4]

def mokDec (k c v h : Int) (f : Nat → Int) (n : Nat) : Decidable (MOk k c v h f n) := by unfold MOk GOk GIn; exact inferInstance

/-- The sum of bytes. -/
def asum (L : List Int) : Int := sB (fun i => L.getD i 0) L.length * 65536 + sA (fun i => L.getD i 0) L.length
theorem asum_bd (L : List Int) : 0 ≤ asum L ∧ asum L < 4294967296 := by
  have h1 := sA_bd (fun i => L.getD i 0) L.length
  have h2 := sB_bd (fun i => L.getD i 0) L.length
  unfold asum
  omega
/-- A body with its length ahead and its sum behind. -/
def framed (B : List Int) : List Int := pb 4 B.length ++ B ++ s4 (asum B)
def mbody (k c v h : Int) (f : Nat → Int) (n : Nat) : List Int := nums ([k, c, v, h, (n : Int)] ++ (List.range n).map f)
/-- The bytes of a message; nothing where it is none. -/
def mb (k c v h : Int) (f : Nat → Int) (n : Nat) : List Int := @ite (List Int) (MOk k c v h f n) (mokDec k c v h f n) (framed (mbody k c v h f n)) []

theorem mok_bd {k c v h : Int} {f : Nat → Int} {n : Nat} (x : MOk k c v h f n) : n ≤ 12 ∧ (∀ i, i < n → 0 ≤ f i ∧ f i ≤ 2147483647) ∧ (0 ≤ k ∧ k ≤ 2147483647) ∧ (0 ≤ c ∧ c ≤ 2147483647) ∧ (0 ≤ v ∧ v ≤ 2147483647) ∧ (0 ≤ h ∧ h ≤ 2147483647) := by
  unfold MOk at x
  rcases x with ⟨h1, ⟨h2, h3⟩, h4, h5, h6⟩ | ⟨h1, h2, h3, h4, h5⟩
  · exact ⟨h2, fun i hi => by have := (h3 i hi).1; omega, by omega, by omega, by omega, by omega⟩
  · refine ⟨by omega, fun i hi => by omega, by omega, by omega, ?_, by omega⟩
    split at h4 <;> omega
theorem mbody_len {k c v h : Int} {f : Nat → Int} {n : Nat} (hn : n ≤ 12) : (mbody k c v h f n).length ≤ 85 := by
  have := nums_len ([k, c, v, h, (n : Int)] ++ (List.range n).map f)
  simp at this
  unfold mbody
  simp
  omega

theorem getD_mem (L : List Int) (i : Nat) (hi : i < L.length) : L.getD i 0 ∈ L := by simp [List.getD, hi]

theorem msgok_yes (ao : Option Addr) (n cap : Nat) (f : Nat → Int) (k c v h : Int) (w : World) (hn : n ≤ 1048576) (hcap : n ≤ cap) (hs : SL .i64 w ao n f) (hok : MOk k c v h f n) :
    Calls Try.prog 38 #[.agg #[.int .i64 k, .int .i64 c, .int .i64 v, .int .i64 h, .slice ao n cap]] w fun e w' => e = .returned (.bool true) ∧ Below w.heap.size w w' :=
  (msgok_spec ao n cap f k c v h w hn hcap hs).mono fun _ _ ⟨h1, h2⟩ => ⟨h1.elim (·.2) (fun x => absurd hok x.1), h2⟩
theorem msgok_no (ao : Option Addr) (n cap : Nat) (f : Nat → Int) (k c v h : Int) (w : World) (hn : n ≤ 1048576) (hcap : n ≤ cap) (hs : SL .i64 w ao n f) (hok : ¬ MOk k c v h f n) :
    Calls Try.prog 38 #[.agg #[.int .i64 k, .int .i64 c, .int .i64 v, .int .i64 h, .slice ao n cap]] w fun e w' => e = .returned (.bool false) ∧ Below w.heap.size w w' :=
  (msgok_spec ao n cap f k c v h w hn hcap hs).mono fun _ _ ⟨h1, h2⟩ => ⟨h1.elim (fun x => absurd x.1 hok) (·.2), h2⟩

theorem mb_len (k c v h : Int) (f : Nat → Int) (n : Nat) : (mb k c v h f n).length ≤ 1048576 := by
  unfold mb
  split
  · next hok =>
    have h1 := mbody_len (k := k) (c := c) (v := v) (h := h) (f := f) (mok_bd hok).1
    have h2 := pb_len 4 ((mbody k c v h f n).length : Int)
    simp [framed, s4]
    omega
  · simp

theorem gbelow_far {B n s : Nat} {w w' : World} {e : TypeId} {v : Value} {xs : List Value} {row : Option Nat} (h : w.ownsRow B e s v n xs) (hg : w.grownBy w' row) (hr : v.ownBlock ≠ row) : w'.ownsRow B e s v n xs :=
  h.kept hg (.inr hr)

set_option maxRecDepth 100000 in
theorem msgbytes_spec (ao : Option Addr) (n cap : Nat) (f : Nat → Int) (k c v h : Int) (w : World) (hn : n ≤ 1048576) (hcap : n ≤ cap) (hs : SL .i64 w ao n f) :
    Calls Try.prog 36 #[.agg #[.int .i64 k, .int .i64 c, .int .i64 v, .int .i64 h, .slice ao n cap]] w fun e w' => ∃ x, e = .returned x ∧ w'.ownsRow w.heap.size 5 1 x (mb k c v h f n).length ((mb k c v h f n).map (.int .u8)) ∧ Below w.heap.size w w' := by
  obtain ⟨i0, hi, hz0, hz1, hz2⟩ := info_parts Try.info5
  have HS := hide hs
  clear hs
  by_cases hok : MOk k c v h f n
  · skip
    obtain ⟨hn12, hfb, hkb, hcb, hvb, hhb⟩ := mok_bd hok
    have hmb : mb k c v h f n = framed (mbody k c v h f n) := by unfold mb; rw [if_pos hok]
    rw [hmb]
    have hbl := mbody_len (k := k) (c := c) (v := v) (h := h) (f := f) hn12
    have hb0 : 0 < (mbody k c v h f n).length := by
      have := mpb_pos 4 k
      unfold mbody
      simp [nums_cons]
      omega
    have hbb : Hid (∀ i, i < (mbody k c v h f n).length → 0 ≤ (mbody k c v h f n).getD i 0 ∧ (mbody k c v h f n).getD i 0 ≤ 255) := fun i hi => by
      refine nums_byte ([k, c, v, h, (n : Int)] ++ (List.range n).map f) ?_ _ (getD_mem _ i hi)
      intro x hx
      simp at hx
      rcases hx with rfl | rfl | rfl | rfl | rfl | ⟨j, hj, rfl⟩
      · exact hkb
      · exact hcb
      · exact hvb
      · exact hhb
      · omega
      · exact hfb j hj
    have hcallA : Hid (∀ W, SL .i64 W ao n f → Calls Try.prog 93 #[.agg #[.int .i64 k, .int .i64 c, .int .i64 v, .int .i64 h, .slice ao n cap]] W fun e w' => ∃ x, e = .returned x ∧ w'.ownsRow W.heap.size 5 1 x (mbody k c v h f n).length ((mbody k c v h f n).map (.int .u8)) ∧ Below W.heap.size W w') := fun W hW => body_spec ao n cap f k c v h W hn12 hW hfb hkb hcb hvb hhb
    generalize mbody k c v h f n = B at *
    generalize hR : framed B = R at *
    have HR := hide hR
    clear hR hmb hfb hkb hcb hvb hhb
    go_enter Try.func36, Try.ntmps36
    go_wp2_with fail
    refine (msgok_yes ao n cap f k c v h _ hn hcap (HS.out.below ((Below.refl _ _).alloc (Nat.le_refl _) _)) hok).mono ?_
    rintro e w1 ⟨rfl, b1⟩
    have hblk : w1.heap[w.heap.size]? = some (.cells #[.int .i64 k, .int .i64 c, .int .i64 v, .int .i64 h, .slice ao n cap] 40 (0, 0)) := (b1.block w.heap.size (by simp)).trans (Deep.blk_alloc_new _ _)
    have B1 := hide (((Below.refl _ _).alloc (Nat.le_refl _) _).trans (b1.mono (by simp)) : Below w.heap.size w w1)
    clear b1
    have hc0 := blk_cell (i := 0) hblk rfl
    have hc1 := blk_cell (i := 1) hblk rfl
    have hc2 := blk_cell (i := 2) hblk rfl
    have hc3 := blk_cell (i := 3) hblk rfl
    have hc4 := blk_cell (i := 4) hblk rfl
    have hcall := hide (hcallA.out w1 (HS.out.below B1.out))
    clear hblk HS hcallA
    go_wp2_with fail
    refine hcall.out.mono ?_
    rintro e w2 ⟨v2, rfl, ho2, hb2⟩
    clear hcall hc0 hc1 hc2 hc3 hc4
    obtain ⟨g2, c2, rfl, hg2, _, hsrc2⟩ := msrc ho2 hb0
    have B2 := hide (B1.out.trans (hb2.mono B1.out.size))
    have O2 := hide ho2
    have S2 := hide hsrc2
    clear hb2 B1 ho2 hsrc2
    go_wp2_with fail
    refine (put_spec (B.length : Int) _ (by omega) (by omega)).mono ?_
    rintro e w3 ⟨v3, rfl, ho3, hb3⟩
    have hpl := pb_len 4 (B.length : Int)
    have B3 := hide hb3
    have O3 := hide ho3
    have S3 : Hid (∀ j u, (B.map (Value.int .u8))[j]? = some u → w3.cell? ((⟨g2, 0, none⟩ : Addr).add j) = some u) := fun j u hu => by
      have := S2.out j u hu
      rw [Addr.add_lit] at this ⊢
      exact (hb3.cell (p := ⟨g2, 0 + j, none⟩) hg2).trans this
    have O2' := hide (gbelow O2.out hb3)
    have HP : Hid (framed B = pb 4 (B.length : Int) ++ B ++ s4 (asum B)) := rfl
    generalize pb 4 (B.length : Int) = P at *
    clear ho3 hb3 S2 O2
    go_upto_region 5 with (first | (at_builtin; refine wpList_append_lies _ rfl _ _ 22 rfl w2.heap.size 5 i0 (.int .u8 0) 1 1 Try.underlying22 hi hz0 hz1 hz2 rfl (by decide) _ _ _ rfl O3.out ⟨g2, 0, none⟩ B.length c2 (B.map (.int .u8)) rfl (by simp) S3.out (gones _ _) hb0 (glens (by omega)) (by omega) B3.out.size _ rfl ?_; intro g4 c4 w4 hown4 hgrow4 hat4 hlt4))
    have hne3 : v3.ownBlock ≠ some g2 := fun e => by have := (World.ownsRow.lt O3.out) g2 e; omega
    have O4 : Hid (w4.ownsRow w2.heap.size 5 1 (.slice (some ⟨g4, 0, none⟩) (P.length + B.length) c4) (P ++ B).length ((P ++ B).map (.int .u8))) := (show World.ownsRow _ _ _ _ _ _ _ by simpa using hown4)
    have B4 := hide (ggrown B3.out B3.out.size O3.out hgrow4)
    have O2'' := hide (gbelow_far O2'.out hgrow4 (fun e => hne3 e.symm))
    clear hown4 hgrow4 hat4 O2' S3 B3 O3
    obtain ⟨_, _, e2, _, hO2⟩ := Own.of_owns O2''.out
    cases e2
    have hsum := hide (sum_spec (some ⟨g2, 0, none⟩) B.length c2 (fun i => B.getD i 0) w4 (by omega) hO2.sl hbb.out)
    rw [show sB (fun i => B.getD i 0) B.length * 65536 + sA (fun i => B.getD i 0) B.length = asum B from rfl] at hsum
    obtain ⟨ha0, ha1⟩ := asum_bd B
    generalize asum B = a at *
    clear hO2 O2''
    go_wp2_with fail
    refine hsum.out.mono ?_
    rintro e w4' ⟨rfl, hw⟩
    rw [hw]
    clear hw hsum
    go_wp2_with fail
    refine (sum4_spec a _ ha0 ha1).mono ?_
    rintro e w5 ⟨v5, rfl, ho5, hb5⟩
    obtain ⟨g5, c5, rfl, _, _, hsrc5⟩ := msrc ho5 (by simp [s4])
    have O5 := hide (gbelow O4.out hb5)
    have B5 := hide (B4.out.trans (hb5.mono B4.out.size))
    have S5 := hide hsrc5
    have h4 : Hid ((s4 a).length = 4) := rfl
    generalize s4 a = T at *
    clear ho5 hb5 hsrc5 O4 B4
    have e1 : (P ++ B).length = P.length + B.length := by simp
    rw [e1] at O5
    go_wp2_with (first | (at_builtin; refine wpList_append_lies _ rfl _ _ 22 rfl w2.heap.size 5 i0 (.int .u8 0) 1 1 Try.underlying22 hi hz0 hz1 hz2 rfl (by decide) _ _ _ rfl O5.out ⟨g5, 0, none⟩ T.length c5 (T.map (.int .u8)) rfl (by simp) S5.out (gones _ _) (by have := h4.out; omega) (glens (by have := h4.out; omega)) (by have := h4.out; omega) B5.out.size _ rfl ?_; intro g6 c6 w6 hown6 hgrow6 hat6 hlt6))
    go_ret
    refine ⟨_, rfl, ?_, B2.out.trans ((ggrown B5.out B5.out.size O5.out hgrow6).mono B2.out.size)⟩
    have := gmono hown6 B2.out.size
    rw [← HR.out, HP.out, show (P ++ B ++ T).length = P.length + B.length + T.length by simp; omega]
    simpa using this
  · have hmb : mb k c v h f n = [] := by unfold mb; rw [if_neg hok]
    rw [hmb]
    clear hmb
    go_enter Try.func36, Try.ntmps36
    go_wp2_with fail
    refine (msgok_no ao n cap f k c v h _ hn hcap (HS.out.below ((Below.refl _ _).alloc (Nat.le_refl _) _)) hok).mono ?_
    rintro e w1 ⟨rfl, b1⟩
    have hblk : w1.heap[w.heap.size]? = some (.cells #[.int .i64 k, .int .i64 c, .int .i64 v, .int .i64 h, .slice ao n cap] 40 (0, 0)) := (b1.block w.heap.size (by simp)).trans (Deep.blk_alloc_new _ _)
    have B1 := hide (((Below.refl _ _).alloc (Nat.le_refl _) _).trans (b1.mono (by simp)) : Below w.heap.size w w1)
    clear b1
    clear hblk HS
    go_wp2
    go_ret
    exact ⟨_, rfl, gmono (gempty (ik := .u8) (Nat.le_refl _)) B1.out.size, B1.out.alloc B1.out.size _⟩
end Go.Proofs.Ytkeojhnifnkpiaa

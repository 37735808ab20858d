/- A slot of the model: its bytes, and what is read of it. -/
import Derived.Test.YtkndnndildnbpaaGreatDoorGo
import Derived.Test.YtkndnndildnbpaaGreatDoorMtOS3Z

namespace Go.Proofs.YtkndnndildnbpaaGreatDoor
open Go.ChangeShapes Go.WideShapes Go.ChangeAt Go.RowKit
set_option linter.unusedVariables false
set_option linter.unusedSimpArgs false
set_option maxRecDepth 100000

theorem mtb_151 (g : List Int) (n : Nat) (L : Nat → List Int) (fi ol he : Bool) (la : Int) : ((mtb Classical.propDecidable) g n L fi ol he la).length ≤ 151 := by
  by_cases h : MtOk g n L ol he la
  · rw [mtb_yes h]; have := mt_len (fi := fi) h; omega
  · rw [mtb_no h]; simp
def lenOf : Value → Nat
  | .slice _ n _ => n
  | _ => 0

set_option maxHeartbeats 1000000 in
theorem slot_spec (go bo : Option Addr) (gc bc : Nat) (g : List Int) (n : Nat) (L : Nat → List Int) (fi ol he : Bool) (la q : Int) (w : World) (hd : Bd g n L) (hv : MV w go gc bo bc g n L) (h0 : 0 ≤ q) (h1 : q < 4294967296) :
    Calls Tryz.prog 135 #[.agg #[.slice go g.length gc, .slice bo n bc, .bool fi, .bool ol, .bool he, .int .i64 la], .int .i64 q] w fun e w' => ∃ x, e = .returned x ∧ w'.ownsRow w.heap.size 5 1 x (slb ((mtb Classical.propDecidable) g n L fi ol he la) q).length ((slb ((mtb Classical.propDecidable) g n L fi ol he la) q).map (.int .u8)) ∧ Below w.heap.size w w' := by
  obtain ⟨i0, hi, hz0, hz1, hz2⟩ := info_parts Tryz.info5
  have hlen := mtb_151 g n L fi ol he la
  have hx := bal1 w (.cells #[.slice go g.length gc, .slice bo n bc, .bool fi, .bool ol, .bool he, .int .i64 la] 25)
  have hcall := hide (mtbytes_spec go bo gc bc g n L fi ol he la _ hd (hv.below hx))
  have HX := hide hx
  generalize (mtb Classical.propDecidable) g n L fi ol he la = M at *
  clear hd hv hx
  go_enter Tryz.func135, Tryz.ntmps135
  go_wp2_with fail
  refine hcall.out.mono ?_
  rintro e w1 ⟨v1, rfl, ho1, hb1⟩
  have S1 := hide (Src.of_owns ho1)
  have B1 := hide (HX.out.trans (hb1.mono HX.out.size))
  obtain ⟨a1, c1, rfl⟩ := S1.out.form
  clear ho1 hb1 hcall HX
  go_wp2_with fail
  refine (sum4_spec q _ h0 h1).mono ?_
  rintro e w2 ⟨v2, rfl, ho2, hb2⟩
  have h4 : (s4 q).length = 4 := rfl
  have E4 : Hid (slb M q = ((s4 q ++ [(M.length : Int)]) ++ M) ++ (List.replicate (151 - M.length) 0 ++ s4 q)) := (show _ = _ by simp [slb])
  have HQ := hide (sum4_spec q)
  generalize s4 q = Q at *
  have O2 := hide ho2
  have B2 := hide hb2
  clear ho2 hb2
  have A2 : Hid (∀ o, (w2.alloc o).ownsRow w1.heap.size 5 1 v2 Q.length (Q.map (.int .u8)) ∧ Below w1.heap.size w1 (w2.alloc o)) := fun o => ⟨O2.out.alloc o, B2.out.alloc B2.out.size o⟩
  have hm : (M.length : Int) % 256 = M.length := by omega
  have SR2 : Hid (Src .u8 (w2.alloc (.cells #[.int .u8 (M.length : Int)] 5)) (.slice (some ⟨w2.heap.size, 0, none⟩) 1 1) [(M.length : Int)]) := .inr ⟨⟨w2.heap.size, 0, none⟩, 1, rfl, gcells w2 [.int .u8 (M.length : Int)] 5⟩
  go_upto_region 3 with (first
    | (at_builtin; refine wpList_append_src rfl _ _ 26 rfl w1.heap.size 5 i0 (.int .u8 0) 1 Tryz.underlying26 hi hz0 hz1 hz2 rfl .u8 _ Q rfl (A2.out _).1 _ [(M.length : Int)] rfl SR2.out (glens (by simp; omega)) (by simp; omega) (A2.out _).2.size ?_; intro v3 w3 ho3 hg3))
  have B3 := hide (ggrown (A2.out _).2 (A2.out _).2.size O2.out hg3)
  have O3 := hide ho3
  have S3 := hide (S1.out.below B3.out)
  have e3 : (Q ++ [(M.length : Int)]).length = 5 := by simp [h4]
  clear ho3 hg3 A2 SR2 O2 B2
  generalize Q ++ [(M.length : Int)] = P at *
  go_wp2_with (first
    | (at_builtin; refine wpList_append_src rfl _ _ 26 rfl w1.heap.size 5 i0 (.int .u8 0) 1 Tryz.underlying26 hi hz0 hz1 hz2 rfl .u8 _ P rfl O3.out _ M rfl S3.out (glens (by omega)) (by omega) B3.out.size ?_; intro v4 w4 ho4 hg4))
  have B4 := hide (ggrown B3.out B3.out.size O3.out hg4)
  have O4 := hide ho4
  have e4 : (P ++ M).length = 5 + M.length := by simp [e3]
  obtain ⟨k0, hk0⟩ : ∃ k0, k0 = 151 - M.length := ⟨_, rfl⟩
  have E5 : Hid (slb M q = (P ++ M) ++ (List.replicate k0 0 ++ Q)) := by rw [hk0]; exact E4.out
  have e5 : (P ++ M).length + k0 = 156 := by omega
  clear ho4 hg4 S3 O3 B3 E4 hm
  generalize P ++ M = R at *
  clear hk0 e4
  go_loopw [6] (fun v wr => ∃ k : Nat, k ≤ k0 ∧ lenOf v = R.length + k ∧ Hid (wr.ownsRow w1.heap.size 5 1 v (R ++ List.replicate k 0).length ((R ++ List.replicate k 0).map (.int .u8)) ∧ Below w1.heap.size w1 wr)) (fun v _ => 156 - lenOf v)
  case atStart =>
    refine ⟨0, by omega, ?_, by simpa using O4.out, B4.out⟩
    obtain ⟨a, c, e⟩ := (Src.of_owns O4.out).form
    rw [e]; rfl
  case round =>
    obtain ⟨k, hk, hl, HI⟩ := hrel
    obtain ⟨a6, c6, rfl⟩ := (Src.of_owns HI.out.1).form
    have eL : (R ++ List.replicate k (0 : Int)).length = R.length + k := by simp
    by_cases hlt : k < k0
    · have HA : Hid (∀ o, (wr.alloc o).ownsRow w1.heap.size 5 1 (.slice a6 (R ++ List.replicate k 0).length c6) (R ++ List.replicate k 0).length ((R ++ List.replicate k 0).map (.int .u8)) ∧ Below w1.heap.size w1 (wr.alloc o)) := fun o => ⟨HI.out.1.alloc o, HI.out.2.alloc HI.out.2.size o⟩
      have HSR : Hid (Src .u8 (wr.alloc (.cells #[.int .u8 0] 5)) (.slice (some ⟨wr.heap.size, 0, none⟩) 1 1) [0]) := .inr ⟨⟨wr.heap.size, 0, none⟩, 1, rfl, gcells wr [.int .u8 0] 5⟩
      have E6 : Hid ((R ++ List.replicate k (0 : Int)) ++ [0] = R ++ List.replicate (k + 1) 0) := (show _ = _ by simp [List.replicate_succ'])
      generalize R ++ List.replicate k (0 : Int) = T at *
      have hT : (T.length : Int) < 156 := by omega
      go_wp2_with (first
        | (at_builtin; refine wpList_append_src rfl _ _ 26 rfl w1.heap.size 5 i0 (.int .u8 0) 1 Tryz.underlying26 hi hz0 hz1 hz2 rfl .u8 _ T rfl (HA.out _).1 _ [0] rfl HSR.out (glens (by simp; omega)) (by simp; omega) (HA.out _).2.size ?_; intro v7 w7 ho7 hg7))
      have R7 := hide (And.intro ho7 (ggrown (HA.out _).2 (HA.out _).2.size HI.out.1 hg7))
      rw [E6.out] at R7
      clear ho7 hg7 HA HSR
      obtain ⟨a7, c7, rfl⟩ := (Src.of_owns R7.out.1).form
      have e7 : (R ++ List.replicate (k + 1) (0 : Int)).length = R.length + (k + 1) := by simp
      rw [e7] at R7 ⊢
      have R8 : Hid (w7.ownsRow w1.heap.size 5 1 (.slice a7 (R.length + (k + 1)) c7) (R ++ List.replicate (k + 1) 0).length ((R ++ List.replicate (k + 1) 0).map (.int .u8)) ∧ Below w1.heap.size w1 w7) := by rw [e7]; exact R7.out
      clear R7 E6
      go_wp2
      go_roundw
      case rel => exact ⟨k + 1, by omega, rfl, R8.out⟩
      case measure => simp [lenOf]; omega
    · obtain rfl : k = k0 := by omega
      have E6 : Hid (slb M q = (R ++ List.replicate k 0) ++ Q) := (show _ = _ by rw [E5.out]; simp)
      generalize R ++ List.replicate k (0 : Int) = T at *
      have hT : ¬ (T.length : Int) < 156 := by omega
      go_wp2_with fail
      refine (HQ.out _ h0 h1).mono ?_
      rintro e w7 ⟨v7, rfl, ho7, hb7⟩
      have S7 := hide (Src.of_owns ho7)
      have O7 : Hid (w7.ownsRow w1.heap.size 5 1 (.slice a6 156 c6) T.length (T.map (.int .u8))) := by
        have h := gbelow HI.out.1 hb7
        have eT : T.length = 156 := by omega
        rw [eT] at h ⊢
        exact h
      have B7 := hide (HI.out.2.trans (hb7.mono HI.out.2.size))
      clear ho7 hb7 HI
      go_wp2_with (first
        | (at_builtin; refine wpList_append_src rfl _ _ 26 rfl w1.heap.size 5 i0 (.int .u8 0) 1 Tryz.underlying26 hi hz0 hz1 hz2 rfl .u8 _ T rfl O7.out _ Q rfl S7.out (glens (by omega)) (by omega) B7.out.size ?_; intro v8 w8 ho8 hg8))
      go_ret
      refine ⟨_, rfl, ?_, B1.out.trans ((ggrown B7.out B7.out.size O7.out hg8).mono B1.out.size)⟩
      rw [E6.out]
      exact gmono ho8 B1.out.size

/-- What is handed back of a slot. -/
def SlOut (w w' : World) (B : List Int) (e : Ending) : Prop :=
  ((∃ g L fi ol he la q go bo gc bc, SlIs B g L fi ol he la q ∧ e = .returned (.tuple #[.agg #[.slice go g.length gc, .slice bo 3 bc, .bool fi, .bool ol, .bool he, .int .i64 la], .int .i64 q, .bool true]) ∧ OKm w' w.heap.size w'.heap.size go gc bo bc g 3 L) ∨
   (¬ Whole B ∧ e = .returned (.tuple #[.agg #[.slice none 0 0, .slice none 0 0, .bool false, .bool false, .bool false, .int .i64 0], .int .i64 0, .bool false]))) ∧ Below w.heap.size w w'
end Go.Proofs.YtkndnndildnbpaaGreatDoor

/- What the laws of slots and of what is known want besides. -/
import Derived.Test.YtcffhjpdkdaaeaaGreatDoorSlPuZ

namespace Go.Proofs.YtcffhjpdkdaaeaaGreatDoor
open Go.ChangeShapes Go.WideShapes Go.ChangeAt Go.RowKit
set_option linter.unusedVariables false
set_option linter.unusedSimpArgs false
set_option maxRecDepth 100000

set_option maxHeartbeats 1000000 in
theorem markm_any2 (go bo : Option Addr) (gc bc B T : Nat) (g : List Int) (n : Nat) (L : Nat → List Int) (fi ol he : Bool) (la k0 : Int) (w : World) (hb : g.length + (n + psum L n) ≤ 1048576) (h0 : 0 ≤ k0) (h1 : k0 ≤ 4194304) (ho : OKm w B T go gc bo bc g n L) :
    Calls Tryz.prog 21 #[.agg #[.slice go g.length gc, .slice bo n bc, .bool fi, .bool ol, .bool he, .int .i64 la], .int .i64 k0] w fun e w' => e = .returned (.int .i64 (k0 + (g.length + psum L n))) ∧ OKm w' B T go gc bo bc (mgs g k0) n (mbs g L n k0) ∧ OnB B T w w' := by
  obtain ⟨W, hW⟩ : ∃ W, W = w.alloc (.cells #[.slice go g.length gc, .slice bo n bc, .bool fi, .bool ol, .bool he, .int .i64 la] 25) := ⟨_, rfl⟩
  have hbl : Below w.heap.size w W := by rw [hW]; exact (Below.refl _ _).alloc (Nat.le_refl _) _
  have hblk : W.heap[w.heap.size]? = some (.cells #[.slice go g.length gc, .slice bo n bc, .bool fi, .bool ol, .bool he, .int .i64 la] 25 (0, 0)) := by rw [hW]; exact Deep.blk_alloc_new _ _
  obtain ⟨⟨hBT, hTw⟩, hnb, R, hO, hS⟩ := ho.below hbl ho.1.2
  have hTs := ho.1.2
  have p0 : W.cell? ⟨w.heap.size, 0, none⟩ = some (.slice go g.length gc) := mblk hblk rfl
  have hr0 : Rt W B T go g.length (lv g) := (hO 0 (by omega)).2.1
  have hcall := hide (kmark_any go g.length gc B T k0 (lv g) W (by omega) (by omega) (by omega) hr0)
  have HO := hide hO
  have HS := hide hS
  have HR0 := hide hr0
  have HBL := hide hbl
  clear hO hS hr0 ho hbl
  go_enter Tryz.func21, Tryz.ntmps21
  go_wp2_with fail
  rw [← hW]
  refine hcall.out.mono ?_
  rintro e w1 ⟨rfl, hm⟩
  have hO1 : OR w1 B T (n + 1) (rows (mgs g k0) L) (rws (go, gc) R) := (HO.out.mkd (j := 0) (by omega) hm).congr fun i hi => by
    match i with
    | 0 => rfl
    | i + 1 => rfl
  have hS1 := HS.out.mkd HR0.out hm
  have HN1 := hide ((OnB.of_below HBL.out (B := B) (T := T) (by omega)).trans hm.onb)
  have hne : w1.heap[w.heap.size]? = W.heap[w.heap.size]? := by
    rcases hm with ⟨_, rfl⟩ | ⟨γ, e, hp, hon, hrt⟩
    · rfl
    · obtain ⟨γ', e', _, hg⟩ := hrt.at hp
      rw [e] at e'
      cases e'
      exact hon.2.2 _ (by omega)
  have p1 : w1.cell? ⟨w.heap.size, 1, none⟩ = some (.slice bo n bc) := mblk (hne.trans hblk) rfl
  have hcall2 := hide (markss_any bo bc B T n (k0 + g.length) (mgs g k0) L (go, gc) R w1 (by omega) (by omega) (by omega) hO1 hS1)
  clear hm hO1 hS1 hne hblk hcall HO HS HR0 HBL hW
  generalize hps : psum L n = p at *
  have HPS := hide hps
  clear hps
  go_wp2_with fail
  refine hcall2.out.mono ?_
  rintro e w2 ⟨rfl, hO2, hS2, hN2⟩
  have HF : Hid (OKm w2 B T go gc bo bc (mgs g k0) n (mbs g L n k0) ∧ OnB B T w w2) := by
    refine ⟨⟨⟨hBT, ?_⟩, hnb, R, hO2, hS2.lens fun i hi => (mrk_len _ _ _ _).symm⟩, HN1.out.trans hN2⟩
    exact Nat.le_trans hTs (HN1.out.trans hN2).1.size
  clear hcall2 hO2 hS2 hN2 HN1
  go_wp2
  go_ret
  exact ⟨congrArg (fun z => Ending.returned (.int .i64 z)) (show k0 + (g.length : Int) + (p : Int) = k0 + ((g.length : Int) + (psum L n : Int)) by rw [HPS.out]; omega), HF.out⟩


theorem by_of {A : List Int} (h : A.length ≤ 1048576) (hb : ∀ z ∈ A, 0 ≤ z ∧ z ≤ 255) : By A := ⟨h, fun i hi => hb _ (by simp [List.getD, hi])⟩
theorem slm_by (g : List Int) (n : Nat) (L : Nat → List Int) (fi ol he : Bool) (la q : Int) : By ((slm Classical.propDecidable) g n L fi ol he la q) := by
  by_cases h : MtOk g n L ol he la ∧ 1 ≤ q ∧ q ≤ 1000000
  · rw [slm_yes h.1 h.2]
    have hl := mt_len (fi := fi) h.1
    exact by_of (by rw [slb_len (by omega)]; omega) (slb_byte (nums_byte _ (mseq_mem h.1)) (by omega))
  · rw [slm_no h]; exact by_of (by simp) (fun z hz => by cases hz)
theorem ptA_by {A C X : List Int} (hA : By A) (hX : By X) : By ((ptA Classical.propDecidable) A C X) := by unfold ptA; split <;> assumption
theorem ptB_by {A C X : List Int} (hC : By C) (hX : By X) : By ((ptB Classical.propDecidable) A C X) := by unfold ptB; split <;> assumption
end Go.Proofs.YtcffhjpdkdaaeaaGreatDoor

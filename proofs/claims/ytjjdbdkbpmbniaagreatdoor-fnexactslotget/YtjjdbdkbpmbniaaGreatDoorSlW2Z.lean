/- Slots made of slots that came in; marked; held. -/
import Derived.Test.YtjjdbdkbpmbniaaGreatDoorSlWZ

namespace Go.Proofs.YtjjdbdkbpmbniaaGreatDoor
open Go.ChangeShapes Go.WideShapes Go.ChangeAt Go.RowKit
set_option linter.unusedVariables false
set_option linter.unusedSimpArgs false
set_option maxRecDepth 100000

theorem row_rb {w : World} {B T g n : Nat} {F : Nat → Value} (h : w.rowIs g 5 n F) (hB : B ≤ g) (hT : g < T) : Rb w B T (some ⟨g, 0, none⟩) n F := by
  obtain ⟨c, hc, hn, hF⟩ := h
  exact .inr ⟨g, rfl, ⟨hB, hT⟩, c, hc, by omega, hF⟩
theorem SB.set0 {w : World} {b : Nat} {t : TypeId} {aA : Option Addr} {nA cA : Nat} {aB : Option Addr} {nB cB : Nat} {a' : Option Addr} {n' c' : Nat} (h : SB w b t aA nA cA aB nB cB) : SB (w.setCell ⟨b, 0, none⟩ (.slice a' n' c')) b t a' n' c' aB nB cB := by
  unfold SB at *
  simp [World.setCell, Array.getElem?_modify, h]
theorem SB.set1 {w : World} {b : Nat} {t : TypeId} {aA : Option Addr} {nA cA : Nat} {aB : Option Addr} {nB cB : Nat} {a' : Option Addr} {n' c' : Nat} (h : SB w b t aA nA cA aB nB cB) : SB (w.setCell ⟨b, 1, none⟩ (.slice a' n' c')) b t aA nA cA a' n' c' := by
  unfold SB at *
  simp [World.setCell, Array.getElem?_modify, h]
theorem far_set {w : World} {X i j : Nat} {v : Value} (h : j ≠ X) : (w.setCell ⟨X, i, none⟩ v).heap[j]? = w.heap[j]? := Below.heap_setCell w ⟨X, i, none⟩ v j h
theorem SB.far {w : World} {b X i : Nat} {t : TypeId} {aA : Option Addr} {nA cA : Nat} {aB : Option Addr} {nB cB : Nat} {v : Value} (h : SB w b t aA nA cA aB nB cB) (hne : b ≠ X) : SB (w.setCell ⟨X, i, none⟩ v) b t aA nA cA aB nB cB := (far_set hne).trans h

set_option maxHeartbeats 1000000 in
theorem tos_some (aA aB : Option Addr) (cA cB : Nat) (A C : List Int) (w : World) (hA : VBy w aA cA A) (hB : VBy w aB cB C) :
    Calls Tryz.prog 23 #[.agg #[.slice aA A.length cA, .slice aB C.length cB]] w fun e w' => ∃ bA bB dA dB, e = .returned (.agg #[.slice bA A.length dA, .slice bB C.length dB]) ∧ OSl w' w.heap.size w'.heap.size bA dA bB dB A C ∧ Below w.heap.size w w' ∧ (bA = none → dA = 0) ∧ (bB = none → dB = 0) := by
  obtain ⟨W, hW⟩ : ∃ W, W = (((w.alloc (.cells #[.slice aA A.length cA, .slice aB C.length cB] 43)).alloc (.cells #[.slice none 0 0, .slice none 0 0] 25)).alloc (.cells #[.slice none 0 0, .slice none 0 0] 25)) := ⟨_, rfl⟩
  obtain ⟨s0, s1, s2, s4⟩ := bal3 w (.cells #[.slice aA A.length cA, .slice aB C.length cB] 43) (.cells #[.slice none 0 0, .slice none 0 0] 25) (.cells #[.slice none 0 0, .slice none 0 0] 25)
  rw [← hW] at s0 s1 s2 s4
  have hb : Below w.heap.size w W := by rw [hW]; exact ((bal1 _ _).alloc (by simp) _).alloc (by simp; omega) _
  have hcall := hide (to_any aA A.length cA _ W hA.2.2.1 (hA.below hb).1)
  have HB := hide hb
  have HS : Hid (SB W w.heap.size 43 aA A.length cA aB C.length cB ∧ SB W (w.heap.size + 1) 25 none 0 0 none 0 0 ∧ SB W (w.heap.size + 1 + 1) 25 none 0 0 none 0 0) := ⟨s0, s1, s2⟩
  have HVB := hide hB
  clear hA hB hb s0 s1 s2
  go_enter Tryz.func23, Tryz.ntmps23
  go_wp2_with fail
  rw [← hW]
  clear hW
  refine hcall.out.mono ?_
  rintro e w1 ⟨rfl, r1, b1⟩
  rw [s4] at r1
  rw [s4]
  have hz1 := b1.size
  have HS1 : Hid (SB (w1.setCell ⟨w.heap.size + 1 + 1, 0, none⟩ (.slice (some ⟨w.heap.size + 1 + 1 + 1, 0, none⟩) A.length A.length)) w.heap.size 43 aA A.length cA aB C.length cB ∧ SB (w1.setCell ⟨w.heap.size + 1 + 1, 0, none⟩ (.slice (some ⟨w.heap.size + 1 + 1 + 1, 0, none⟩) A.length A.length)) (w.heap.size + 1) 25 none 0 0 none 0 0 ∧ SB (w1.setCell ⟨w.heap.size + 1 + 1, 0, none⟩ (.slice (some ⟨w.heap.size + 1 + 1 + 1, 0, none⟩) A.length A.length)) (w.heap.size + 1 + 1) 25 (some ⟨w.heap.size + 1 + 1 + 1, 0, none⟩) A.length A.length none 0 0) :=
    ⟨(HS.out.1.b b1).far (by omega), (HS.out.2.1.b b1).far (by omega), (HS.out.2.2.b b1).set0⟩
  have HR1 : Hid ((w1.setCell ⟨w.heap.size + 1 + 1, 0, none⟩ (.slice (some ⟨w.heap.size + 1 + 1 + 1, 0, none⟩) A.length A.length)).rowIs (w.heap.size + 1 + 1 + 1) 5 A.length (bv A)) := r1.of_block (far_set (by omega))
  have HB1 : Hid (Below w.heap.size w (w1.setCell ⟨w.heap.size + 1 + 1, 0, none⟩ (.slice (some ⟨w.heap.size + 1 + 1 + 1, 0, none⟩) A.length A.length))) := (HB.out.trans (b1.mono HB.out.size)).setCell (p := ⟨w.heap.size + 1 + 1, 0, none⟩) (show w.heap.size ≤ w.heap.size + 1 + 1 by omega) _
  have hsz1 : (w1.setCell ⟨w.heap.size + 1 + 1, 0, none⟩ (.slice (some ⟨w.heap.size + 1 + 1 + 1, 0, none⟩) A.length A.length)).heap.size = w1.heap.size := by simp [World.setCell]
  have hlt1 : w.heap.size + 1 + 1 + 1 < w1.heap.size := r1.lt
  obtain ⟨t0, t1⟩ := (HS.out.2.2.b b1).cells
  obtain ⟨u0, u1⟩ := (HS.out.1.b b1).cells
  have z0 := (HS.out.2.2.b b1).froz
  clear r1 b1 HB HS hcall
  go_wp2_with fail
  generalize w1.setCell ⟨w.heap.size + 1 + 1, 0, none⟩ (.slice (some ⟨w.heap.size + 1 + 1 + 1, 0, none⟩) A.length A.length) = V at *
  clear t0 t1 u0 u1 z0
  refine (to_any aB C.length cB _ V HVB.out.2.2.1 (HVB.out.below HB1.out).1).mono ?_
  rintro e w2 ⟨rfl, r2, b2⟩
  rw [hsz1] at r2
  rw [hsz1]
  have hlt2 : w1.heap.size < w2.heap.size := r2.lt
  have HR2 : Hid (w2.rowIs (w.heap.size + 1 + 1 + 1) 5 A.length (bv A) ∧ w2.rowIs w1.heap.size 5 C.length (bv C)) := ⟨row_below HR1.out b2 (by omega), r2⟩
  have HB2 := hide (HB1.out.trans (b2.mono HB1.out.size))
  obtain ⟨t0, t1⟩ := (HS1.out.2.2.b b2).cells
  have z0 := (HS1.out.2.2.b b2).froz
  obtain ⟨x0, x1⟩ := (HS1.out.2.1.b b2).cells
  have z1 := (HS1.out.2.1.b b2).froz
  clear r2 b2 HR1 HB1 HS1 HVB
  go_wp2
  refine bodyPost_ret (v := .agg #[.slice (some ⟨w.heap.size + 1 + 1 + 1, 0, none⟩) A.length A.length, .slice (some ⟨w1.heap.size, 0, none⟩) C.length C.length]) (by simp [results, Tryz.results23, go_sem, t0, t1, x0, x1]) rfl ?_
  have hF : OSl w2 (w.heap.size + 1 + 1 + 1) w2.heap.size (some ⟨w.heap.size + 1 + 1 + 1, 0, none⟩) A.length (some ⟨w1.heap.size, 0, none⟩) C.length A C :=
    ⟨⟨by omega, Nat.le_refl _⟩, ⟨Nat.le_refl _, Nat.le_refl _⟩, row_rb HR2.out.1 (by omega) (by omega), row_rb HR2.out.2 (by omega) hlt2, fun γ e _ _ e2 => by simp only [Option.some.injEq, Addr.mk.injEq] at e e2; omega⟩
  refine ⟨_, _, _, _, rfl, ?_, ?_, (fun e => by cases e), (fun e => by cases e)⟩
  · have hfin : ∀ F : World, F.heap.size = w2.heap.size → (∀ j, w.heap.size + 1 + 1 + 1 ≤ j → F.heap[j]? = w2.heap[j]?) → OSl F w.heap.size F.heap.size (some ⟨w.heap.size + 1 + 1 + 1, 0, none⟩) A.length (some ⟨w1.heap.size, 0, none⟩) C.length A C := fun F hs hk =>
      (hF.kept (fun j h1 _ => hk j h1) (by omega)).wider (by omega) (by omega) (Nat.le_refl _)
    exact hfin _ (by simp [World.setCell]) (fun j hj => (far_set (by omega)).trans ((far_set (by omega)).trans (far_set (by omega))))
  · exact ((HB2.out.setCell (p := ⟨w.heap.size + 1 + 1, 1, none⟩) (show w.heap.size ≤ w.heap.size + 1 + 1 by omega) _).setCell (p := ⟨w.heap.size + 1, 0, none⟩) (show w.heap.size ≤ w.heap.size + 1 by omega) _).setCell (p := ⟨w.heap.size + 1, 1, none⟩) (show w.heap.size ≤ w.heap.size + 1 by omega) _

theorem tos_any (aA aB : Option Addr) (cA cB : Nat) (A C : List Int) (w : World) (hA : VBy w aA cA A) (hB : VBy w aB cB C) :
    Calls Tryz.prog 23 #[.agg #[.slice aA A.length cA, .slice aB C.length cB]] w fun e w' => ∃ bA bB dA dB, e = .returned (.agg #[.slice bA A.length dA, .slice bB C.length dB]) ∧ OSl w' w.heap.size w'.heap.size bA dA bB dB A C ∧ Below w.heap.size w w' :=
  (tos_some aA aB cA cB A C w hA hB).mono fun e w' ⟨bA, bB, dA, dB, h1, h2, h3, _⟩ => ⟨bA, bB, dA, dB, h1, h2, h3⟩

theorem Rb.mkb {w : World} {B T : Nat} {ao : Option Addr} {n : Nat} {k : Int} (h : Rb w B T ao n (fun j => .int .u8 ((k + j) % 256))) : Rb w B T ao (mkb k n).length (bv (mkb k n)) := by
  rw [mkb_len]
  rcases h with h | ⟨g, e, hB, c, hc, hs, hF⟩
  · exact .inl h
  · exact .inr ⟨g, e, hB, c, hc, hs, fun i hi => by rw [hF i hi]; unfold bv; rw [mkb_get _ _ _ hi]⟩
theorem Rb.only {w w' : World} {B T γ : Nat} {ao : Option Addr} {n : Nat} {F : Nat → Value} (h : Rb w B T ao n F) (ho : Only γ w w') (hne : 0 < n → ao ≠ some ⟨γ, 0, none⟩) : Rb w' B T ao n F := by
  rcases h with h | ⟨g, e, hB, c, hc, r⟩
  · exact .inl h
  · by_cases h0 : n = 0
    · exact .inl h0
    · exact .inr ⟨g, e, hB, c, (ho.2.2 g (fun e2 => hne (by omega) (by rw [e, e2]))).trans hc, r⟩

set_option maxHeartbeats 1000000 in
theorem marks_any (aA aB : Option Addr) (cA cB B T : Nat) (A C : List Int) (k0 : Int) (w : World) (hl : A.length ≤ 1048576 ∧ C.length ≤ 1048576) (h0 : 0 ≤ k0) (h1 : k0 ≤ 1000) (ho : OSl w B T aA cA aB cB A C) :
    Calls Tryz.prog 26 #[.agg #[.slice aA A.length cA, .slice aB C.length cB], .int .i64 k0] w fun e w' => e = .returned (.int .i64 (k0 + (A.length + C.length))) ∧ OSl w' B T aA cA aB cB (mkb k0 A.length) (mkb (k0 + A.length) C.length) ∧ OnB B T w w' := by
  obtain ⟨W, hW⟩ : ∃ W, W = w.alloc (.cells #[.slice aA A.length cA, .slice aB C.length cB] 25) := ⟨_, rfl⟩
  have hb : Below w.heap.size w W := by rw [hW]; exact bal1 _ _
  have hS : SB W w.heap.size 25 aA A.length cA aB C.length cB := by rw [hW]; exact SB.new w _ _ _ _ _ _ _
  have hoW := ho.below hb ho.1.2
  have hT := ho.1.2
  have hcall := hide (mark_rb aA A.length cA B T k0 (bv A) W (by omega) (by omega) (by omega) hoW.2.2.1)
  have HO := hide hoW
  have HS := hide hS
  have HN := hide (OnB.of_below (B := B) (T := T) hb (by have := ho.1; omega))
  clear ho hb hS hoW
  go_enter Tryz.func26, Tryz.ntmps26
  go_wp2_with fail
  rw [← hW]
  clear hW
  refine hcall.out.mono ?_
  rintro e w1 ⟨rfl, hr, hm⟩
  have hS1 : SB w1 w.heap.size 25 aA A.length cA aB C.length cB := by
    rcases hm with ⟨_, rfl⟩ | ⟨_, γ, e, hγ, hon⟩
    · exact HS.out
    · exact (hon.2.2 _ (by omega)).trans HS.out
  have hB1 : Rb w1 B T aB C.length (bv C) := by
    rcases hm with ⟨_, rfl⟩ | ⟨hp, γ, e, hγ, hon⟩
    · exact HO.out.2.2.2.1
    · exact HO.out.2.2.2.1.only hon (fun hpC => HO.out.2.2.2.2 γ e hp hpC)
  have hN1 : OnB B T W w1 := by
    rcases hm with ⟨_, rfl⟩ | ⟨_, γ, e, hγ, hon⟩
    · exact OnB.refl _ _ _
    · exact OnB.only hon hγ
  have HN1 := hide (HN.out.trans hN1)
  have HR1 := hide hr
  obtain ⟨c0, c1⟩ := hS1.cells
  have hcall2 := hide (mark_rb aB C.length cB B T (k0 + A.length) (bv C) w1 (by omega) (by omega) (by omega) hB1)
  clear hr hm hS1 hB1 hN1 hcall HS HN
  go_wp2_with fail
  refine hcall2.out.mono ?_
  rintro e w2 ⟨rfl, hr2, hm⟩
  have hA2 : Rb w2 B T aA A.length (fun j => .int .u8 ((k0 + j) % 256)) := by
    rcases hm with ⟨_, rfl⟩ | ⟨hp, γ, e, hγ, hon⟩
    · exact HR1.out
    · exact HR1.out.only hon (fun hpA e2 => HO.out.2.2.2.2 γ e2 hpA hp e)
  have hN2 : OnB B T w1 w2 := by
    rcases hm with ⟨_, rfl⟩ | ⟨_, γ, e, hγ, hon⟩
    · exact OnB.refl _ _ _
    · exact OnB.only hon hγ
  have HF : Hid (OSl w2 B T aA cA aB cB (mkb k0 A.length) (mkb (k0 + A.length) C.length) ∧ OnB B T w w2) := by
    refine ⟨⟨⟨HO.out.1.1, Nat.le_trans hT (HN1.out.trans hN2).1.size⟩, by rw [mkb_len, mkb_len]; exact HO.out.2.1, hA2.mkb, hr2.mkb, fun γ e h1 h2 => HO.out.2.2.2.2 γ e (by rw [mkb_len] at h1; exact h1) (by rw [mkb_len] at h2; exact h2)⟩, HN1.out.trans hN2⟩
  clear hr2 hm hA2 hN2 hcall2 HR1 HN1 HO
  go_wp2
  go_ret
  exact ⟨congrArg (fun z => Ending.returned (.int .i64 z)) (show k0 + (A.length : Int) + (C.length : Int) = k0 + ((A.length : Int) + (C.length : Int)) by omega), HF.out⟩

theorem helds_any (aA aB : Option Addr) (cA cB : Nat) (nA nB : Nat) (k0 : Int) (w : World) (hl : nA ≤ 1048576 ∧ nB ≤ 1048576) (h0 : 0 ≤ k0) (h1 : k0 ≤ 1000) (hA : VBy w aA cA (mkb k0 nA)) (hB : VBy w aB cB (mkb (k0 + nA) nB)) :
    Calls Tryz.prog 31 #[.agg #[.slice aA nA cA, .slice aB nB cB], .int .i64 k0] w fun e w' => e = .returned (.int .i64 (k0 + (nA + nB))) ∧ Below w.heap.size w w' := by
  obtain ⟨W, hW⟩ : ∃ W, W = w.alloc (.cells #[.slice aA nA cA, .slice aB nB cB] 25) := ⟨_, rfl⟩
  have hb : Below w.heap.size w W := by rw [hW]; exact bal1 _ _
  have hS : SB W w.heap.size 25 aA nA cA aB nB cB := by rw [hW]; exact SB.new w _ _ _ _ _ _ _
  have hsl : ∀ (ao : Option Addr) (cap n : Nat) (k : Int), VBy W ao cap (mkb k n) → SL .u8 W ao n (fun j => (k + j) % 256) := fun ao cap n k h i hi => by
    have := h.1 i (by rw [mkb_len]; exact hi)
    simp only [mkb_get _ _ _ hi] at this
    exact this
  have hc1 := hide (held_any aA nA cA k0 W (by omega) (by omega) (by omega) (hsl _ _ _ _ (hA.below hb)))
  have hc2 := hide (held_any aB nB cB (k0 + nA) W (by omega) (by omega) (by omega) (hsl _ _ _ _ (hB.below hb)))
  obtain ⟨c0, c1⟩ := hS.cells
  have HB := hide hb
  clear hA hB hb hS hsl
  have hk : ¬ k0 + (nA : Int) < 0 := by omega
  have hk2 : ¬ k0 + (nA : Int) + (nB : Int) < 0 := by omega
  go_enter Tryz.func31, Tryz.ntmps31
  go_wp2_with fail
  rw [← hW]
  clear hW
  refine hc1.out.mono ?_
  rintro e w1 ⟨rfl, hw⟩
  rw [hw]
  clear hw hc1
  go_wp2_with fail
  refine hc2.out.mono ?_
  rintro e w1 ⟨rfl, hw⟩
  rw [hw]
  clear hw hc2
  go_wp2
  go_ret
  exact ⟨congrArg (fun z => Ending.returned (.int .i64 z)) (show k0 + (nA : Int) + (nB : Int) = k0 + ((nA : Int) + (nB : Int)) by omega), HB.out⟩
end Go.Proofs.YtjjdbdkbpmbniaaGreatDoor

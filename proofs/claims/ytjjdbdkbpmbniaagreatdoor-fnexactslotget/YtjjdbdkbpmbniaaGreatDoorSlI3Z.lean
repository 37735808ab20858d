/- SlotOf, seqOf of the program. -/
import Derived.Test.YtjjdbdkbpmbniaaGreatDoorSlI2Z

namespace Go.Proofs.YtjjdbdkbpmbniaaGreatDoor
open Go.ChangeShapes Go.WideShapes Go.ChangeAt Go.RowKit
set_option linter.unusedVariables false
set_option linter.unusedSimpArgs false
set_option maxRecDepth 100000

set_option maxHeartbeats 1000000 in
theorem slotof_impl (ao : Option Addr) (n cap : Nat) (f : Nat → Int) (w : World) (hn : n ≤ 1048576) (hcap : n ≤ cap) (hg : ErrT w) (hs : SL .u8 w ao n f) (hf : ∀ i, i < n → 0 ≤ f i ∧ f i ≤ 255) :
    Calls Tryz.prog 19 #[.slice ao n cap] w fun e w' => SlOut w w' ((List.range n).map f) e := by
  obtain ⟨W, hW⟩ : ∃ W, W = w.alloc (.cells #[.slice none 0 0, .slice none 0 0, .bool false, .bool false, .bool false, .int .i64 0] 29) := ⟨_, rfl⟩
  have hB : Below w.heap.size w W := by rw [hW]; exact bal1 _ _
  have hK : KB W w.heap.size 29 none 0 0 none 0 0 false false false 0 := by rw [hW]; exact KB.new w _ _ _ _ _ _ _ _ _ _ _
  have hcall := hide (readslot_impl ao n cap f W hn hcap (hs.below hB) hf)
  have HB := hide hB
  have HK := hide hK
  have HG := hide hg
  clear hs hf hB hK hg
  go_enter Tryz.func19, Tryz.ntmps19
  go_wp2_with fail
  rw [← hW]
  clear hW
  refine hcall.out.mono ?_
  rintro e w2 ⟨h1, b2⟩
  have HB2 := hide (HB.out.trans (b2.mono HB.out.size))
  have HK2 := hide (HK.out.b b2)
  have hlt2 : w.heap.size < W.heap.size := HK.out.lt
  have hz2 := b2.size
  clear hcall b2 HB HK
  rcases h1 with ⟨g, L, fi, ol, he, la, q, go, bo, gc, bc, hM, rfl, hO⟩ | ⟨hno, s, rfl⟩
  case inr =>
    have HN := hide hno
    have bX := bal1 w2 (.cells #[.slice none 0 0, .slice none 0 0, .bool false, .bool false, .bool false, .int .i64 0] 29)
    have hit := hide (istorn_hit s _ (HG.out.below (HB2.out.trans (bX.mono HB2.out.size))))
    have HB3 := hide (HB2.out.trans (bX.mono HB2.out.size))
    have HK3 := hide (HK2.out.b bX)
    clear hno bX
    go_wp2_with fail
    refine hit.out.mono ?_
    rintro e w3 ⟨rfl, b3⟩
    obtain ⟨r0, r1, r2, r3, r4, r5⟩ := (HK3.out.b b3).cells
    have rz := (HK3.out.b b3).froz
    have HB4 := hide (HB3.out.trans (b3.mono HB3.out.size))
    clear b3 hit
    go_wp2
    refine bodyPost_ret (v := .tuple #[.agg #[.slice none 0 0, .slice none 0 0, .bool false, .bool false, .bool false, .int .i64 0], .int .i64 0, .bool false]) (by simp [results, Tryz.results19, go_sem, r0, r1, r2, r3, r4, r5]) rfl ?_
    refine ⟨.inr ⟨HN.out, rfl⟩, ?_⟩
    iterate 6 (refine Below.setCell ?_ (by show w.heap.size ≤ w.heap.size; omega) _)
    exact HB4.out
  have bX := bal1 w2 (.cells #[.slice go g.length gc, .slice bo 3 bc, .bool fi, .bool ol, .bool he, .int .i64 la] 29)
  have HM0 : Hid (SoK w (w2.alloc (.cells #[.slice go g.length gc, .slice bo 3 bc, .bool fi, .bool ol, .bool he, .int .i64 la] 29)) W.heap.size w2.heap.size go gc bo bc g 3 L fi ol he la) :=
    ⟨HB2.out.trans (bX.mono HB2.out.size), HK2.out.b bX, KB.new w2 _ _ _ _ _ _ _ _ _ _ _, hO.below bX (Nat.le_refl _), hlt2, by rw [alsz]; omega⟩
  have HY := hide hM
  have hX2 : w.heap.size < w2.heap.size := by omega
  clear bX hO hM HB2 HK2
  go_wp2_with fail
  generalize w2.alloc (.cells #[.slice go g.length gc, .slice bo 3 bc, .bool fi, .bool ol, .bool he, .int .i64 la] 29) = W3 at *
  generalize w2.heap.size = X at *
  refine (istorn_nil _).mono ?_
  rintro e w4 ⟨rfl, b4⟩
  have HM4 := hide (HM0.out.below b4)
  clear b4 HM0
  obtain ⟨r0, r1, r2, r3, r4, r5⟩ := HM4.out.2.1.cells
  have rz := HM4.out.2.1.froz
  obtain ⟨m0, m1, m2, m3, m4, m5⟩ := HM4.out.2.2.1.cells
  go_wp2
  refine bodyPost_ret (v := .tuple #[.agg #[.slice go g.length gc, .slice bo 3 bc, .bool fi, .bool ol, .bool he, .int .i64 la], .int .i64 q, .bool true]) (by simp [results, Tryz.results19, go_sem, r0, r1, r2, r3, r4, r5]) rfl ?_
  refine ⟨.inl ⟨g, L, fi, ol, he, la, q, go, bo, gc, bc, HY.out, rfl, ?_⟩, ?_⟩
  · have hfin : ∀ F : World, F.heap.size = w4.heap.size → (∀ j, w.heap.size + 1 ≤ j → F.heap[j]? = w4.heap[j]?) → OKm F w.heap.size F.heap.size go gc bo bc g 3 L := fun F hs hk => by
      have q1 := HM4.out.2.2.2.2
      exact (HM4.out.2.2.2.1.kept (fun j h1 _ => hk j (by omega)) (by omega)).wider (by omega) (by omega) (Nat.le_refl _)
    refine hfin _ (by simp [World.setCell]) ?_
    intro j hj
    simp only [World.setCell, Array.getElem?_modify]
    repeat rw [if_neg (by omega)]
  · iterate 6 (refine Below.setCell ?_ (by show w.heap.size ≤ w.heap.size; omega) _)
    exact HM4.out.1

/-- Bytes of a slice. -/
def VBy (w : World) (ao : Option Addr) (cap : Nat) (A : List Int) : Prop := SL .u8 w ao A.length (fun i => A.getD i 0) ∧ A.length ≤ cap ∧ A.length ≤ 1048576 ∧ ∀ i, i < A.length → 0 ≤ A.getD i 0 ∧ A.getD i 0 ≤ 255
theorem VBy.below {w w' : World} {ao : Option Addr} {cap : Nat} {A : List Int} (h : VBy w ao cap A) (hb : Below w.heap.size w w') : VBy w' ao cap A := ⟨h.1.below hb, h.2⟩
theorem seqof_impl (ao : Option Addr) (cap : Nat) (A : List Int) (w : World) (hg : ErrT w) (hv : VBy w ao cap A) :
    Calls Tryz.prog 79 #[.slice ao A.length cap] w fun e w' => e = .returned (.int .i64 ((sqv Classical.propDecidable) A)) ∧ Below w.heap.size w w' := by
  have hcall := hide (slotof_impl ao A.length cap _ w hv.2.2.1 hv.2.1 hg hv.1 hv.2.2.2)
  rw [krange_self] at hcall
  clear hg hv
  go_enter Tryz.func79, Tryz.ntmps79
  go_wp2_with fail
  refine hcall.out.mono ?_
  rintro e w2 ⟨h1, b2⟩
  have HB := hide b2
  clear b2 hcall
  rcases h1 with ⟨g, L, fi, ol, he, la, q, go, bo, gc, bc, hM, rfl, hO⟩ | ⟨hno, rfl⟩
  · have e := hide (sqv_is hM)
    clear hM hO
    go_wp2
    go_ret
    rw [e.out]
    first | exact ⟨rfl, HB.out⟩ | exact ⟨rfl, HB.out.alloc HB.out.size _⟩
  · have e := hide (sqv_no hno)
    clear hno
    go_wp2
    go_ret
    rw [e.out]
    first | exact ⟨rfl, HB.out⟩ | exact ⟨rfl, HB.out.alloc HB.out.size _⟩
end Go.Proofs.YtjjdbdkbpmbniaaGreatDoor

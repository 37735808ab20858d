/- FnExactSlotOf returns true for every slice of bytes, and the bytes read behind the call as before it: SlotOf of the program answers as SlotOf of its model; the type's handle that errors.As asks for is laid as the library's own text lays it, which the card ties to the program's text. -/
import Derived.Test.YtjjdbdkbpmbniaaDoorCards
import Derived.Test.YtjjdbdkbpmbniaaDoorTie
import Derived.WalkKit
import Derived.ProofKit
import Derived.OpenShut
import Derived.ShutString
import Derived.ChangeOld
import Derived.Below
import Derived.Deep.DeepHandedRow
import Derived.Stop.LaidErr
import Derived.LaidMore
import Derived.LaidHandle
import Derived.Test.YtjjdbdkbpmbniaaDoorSlOZ
import Derived.Test.YtjjdbdkbpmbniaaDoorSlI3Z
import Derived.Test.YtjjdbdkbpmbniaaDoorMtRbZ

namespace Go.Proofs.YtjjdbdkbpmbniaaDoor.fnExactSlotOf
open Go.ChangeShapes Go.WideShapes Go.ChangeAt Go.RowKit
set_option linter.unusedVariables false

theorem own : ownKnob Tryd.prog.godebug = none := by kernel_rfl
theorem laidOut : laidOutB Tryd.prog = true := by kernel_rfl
theorem gErr : Tryd.prog.globalNamed "errors.errorType" = some 0 := by kernel_rfl
theorem rtT : (Tryd.prog.cutTypes.find? (·.1 == "internal/reflectlite.rtype")).map (·.2) = some 92 := by kernel_rfl
theorem tsize : Tryd.prog.types.size = 148 := by kernel_rfl
theorem oneRow : ((List.range 148).filter fun t => Tryd.prog.rowNamed t [101, 114, 114, 111, 114]) = [41] := by kernel_rfl
theorem handle {W : World} (h : laidMetH Tryd.prog Rows.fnExactSlotOfRow.laid W) : ErrT W := by
  have h' : laidMet Tryd.prog [] W ∧ handlesMet Tryd.prog [("errors.errorType", Rows.laid_errors_errorType)] W := h
  obtain ⟨name, u, ty, e1, e2, e3, e4, e5⟩ := h'.2 _ (List.mem_singleton.2 rfl)
  have en : name = [101, 114, 114, 111, 114] := (Option.some.inj e1).symm
  subst en
  obtain rfl := Option.some.inj (rtT.symm.trans e2)
  have hm : ty ∈ (List.range 148).filter fun t => Tryd.prog.rowNamed t [101, 114, 114, 111, 114] := List.mem_filter.2 ⟨List.mem_range.2 (by rw [← tsize]; exact e3), e4⟩
  rw [oneRow] at hm
  obtain rfl := List.mem_singleton.1 hm
  have hh : typeHandle Tryd.prog 41 = .pointer (some ⟨1, 41, none⟩) := by kernel_rfl
  rw [hh] at e5
  show W.cell? ⟨0, 0, none⟩ = _
  simpa using World.var?_cell gErr e5 0

theorem OKm.congr {w : World} {B T : Nat} {go : Option Addr} {gc : Nat} {bo : Option Addr} {bc : Nat} {g : List Int} {n : Nat} {L L' : Nat → List Int} (h : OKm w B T go gc bo bc g n L) (e : ∀ i, i < n → L i = L' i) : OKm w B T go gc bo bc g n L' := by
  obtain ⟨hT, hb, R, ho, hs⟩ := h
  refine ⟨hT, hb, R, ho.congr (fun i hi => ?_), hs.lens (fun i hi => by rw [e i hi])⟩
  match i with
  | 0 => rfl
  | i + 1 => exact e i (by omega)
/-- Whatever is asked: both functions answer the same, each in memory of its own. -/
theorem both (f : Nat → Int) (m : Nat) (hm : m ≤ 1048576) (hf : ∀ i, i < m → 0 ≤ f i ∧ f i ≤ 255) : ∃ (g : List Int) (n : Nat) (L : Nat → List Int) (fi ol he : Bool) (la x : Int) (b : Bool), (g.length + (n + psum L n) ≤ 1000) ∧
    (∀ W ao cap, m ≤ cap → SL .u8 W ao m f → Calls Tryd.prog 4 #[.slice ao m cap] W fun e w' => ∃ go bo gc bc, e = .returned (.tuple #[.agg #[.slice go g.length gc, .slice bo n bc, .bool fi, .bool ol, .bool he, .int .i64 la], .int .i64 x, .bool b]) ∧ OKm w' W.heap.size w'.heap.size go gc bo bc g n L ∧ Below W.heap.size W w') ∧
    (∀ W ao cap, ErrT W → m ≤ cap → SL .u8 W ao m f → Calls Tryd.prog 6 #[.slice ao m cap] W fun e w' => ∃ go bo gc bc, e = .returned (.tuple #[.agg #[.slice go g.length gc, .slice bo n bc, .bool fi, .bool ol, .bool he, .int .i64 la], .int .i64 x, .bool b]) ∧ OKm w' W.heap.size w'.heap.size go gc bo bc g n L ∧ Below W.heap.size W w') := by
  by_cases hB : Whole ((List.range m).map f)
  · obtain ⟨g, L, fi, ol, he, la, x, hB⟩ := hB
    obtain ⟨h1, _, h2, _⟩ := mtok_g hB.1
    refine ⟨g, 3, L, fi, ol, he, la, x, true, ?_, fun W ao cap hc hs => (slotof_spec ao m cap f W hm hc hs hf).mono ?_, fun W ao cap hg hc hs => (slotof_impl ao m cap f W hm hc hg hs hf).mono ?_⟩
    · have a0 := h2 0 (by omega)
      have a1 := h2 1 (by omega)
      have a2 := h2 2 (by omega)
      simp only [psum]
      omega
    all_goals
      rintro e w' ⟨h, hb⟩
      rcases h with ⟨g', L', fi', ol', he', la', x', go, bo, gc, bc, hB', rfl, ho⟩ | ⟨hno, _⟩
      · obtain ⟨rfl, eL, rfl, rfl, rfl, rfl, rfl⟩ := sl_one hB' hB
        exact ⟨go, bo, gc, bc, rfl, OKm.congr ho eL, hb⟩
      · exact absurd ⟨g, L, fi, ol, he, la, x, hB⟩ hno
  · refine ⟨[], 0, fun _ => [], false, false, false, 0, 0, false, by simp [psum], fun W ao cap hc hs => (slotof_spec ao m cap f W hm hc hs hf).mono ?_, fun W ao cap hg hc hs => (slotof_impl ao m cap f W hm hc hg hs hf).mono ?_⟩
    all_goals
      rintro e w' ⟨h, hb⟩
      rcases h with ⟨g', L', fi', ol', he', la', x', go, bo, gc, bc, hB', _⟩ | ⟨_, rfl⟩
      · exact absurd ⟨g', L', fi', ol', he', la', x', hB'⟩ hB
      · exact ⟨none, none, 0, 0, rfl, none_ok hb.size, hb⟩

set_option maxHeartbeats 1000000 in
set_option maxRecDepth 100000 in
theorem walk (a0 : Option Addr) (len0 cap0 : Nat) (f : Nat → Int) (w : World) (hg : ErrT w) (hl0 : len0 ≤ cap0) (hs : SL .u8 w a0 len0 f) (hf : ∀ i, i < len0 → 0 ≤ f i ∧ f i ≤ 255) :
    Calls Tryd.prog 3 #[.slice a0 len0 cap0] w fun e w' => e = .returned (.bool true) ∧ Below w.heap.size w w' := by
  have HG := hide hg
  clear hg
  by_cases hn : len0 ≤ 1048576
  · have hnn : ¬ (1048576 : Int) < (len0 : Int) := by omega
    obtain ⟨g, n, L, fi, ol, he, la, x, b, hbd, hspec0, himpl0⟩ := both f len0 hn hf
    have hd : Hid (Bd g n L) := bd_of (by omega)
    have hspec := hide hspec0
    have himpl := hide himpl0
    have HS := hide hs
    clear hs hspec0 himpl0 hf
    go_enter Tryd.func3, Tryd.ntmps3
    go_wp2_with fail
    refine (to_any a0 len0 cap0 f _ hn HS.out).mono ?_
    rintro e w1 ⟨rfl, r1, b1⟩
    have R1 := hide r1
    have B1 := hide b1
    clear r1 b1 hnn
    go_wp2_with fail
    refine (hspec.out _ _ _ (Nat.le_refl _) (SL.row R1.out)).mono ?_
    rintro e w2 ⟨go2, bo2, gc2, bc2, rfl, o2, b2⟩
    have H2 : Hid (Below w.heap.size w (w2.alloc (.cells #[.slice go2 g.length gc2, .slice bo2 n bc2, .bool fi, .bool ol, .bool he, .int .i64 la] 26)) ∧ KB (w2.alloc (.cells #[.slice go2 g.length gc2, .slice bo2 n bc2, .bool fi, .bool ol, .bool he, .int .i64 la] 26)) (w2.heap.size) 26 go2 g.length gc2 bo2 n bc2 fi ol he la ∧ MV (w2.alloc (.cells #[.slice go2 g.length gc2, .slice bo2 n bc2, .bool fi, .bool ol, .bool he, .int .i64 la] 26)) go2 gc2 bo2 bc2 g n L ∧ (w2.alloc (.cells #[.slice go2 g.length gc2, .slice bo2 n bc2, .bool fi, .bool ol, .bool he, .int .i64 la] 26)).heap.size = w2.heap.size + 1 ∧ w.heap.size ≤ w2.heap.size) := by
      have hx := bal1 w2 (.cells #[.slice go2 g.length gc2, .slice bo2 n bc2, .bool fi, .bool ol, .bool he, .int .i64 la] 26)
      have c2 := B1.out.trans (b2.mono B1.out.size)
      exact ⟨c2.trans (hx.mono c2.size), KB.new w2 _ _ _ _ _ _ _ _ _ _ _, o2.mv.below hx, alsz _ _, c2.size⟩
    clear o2 b2 B1 R1 hspec
    go_wp2_with fail
    generalize w2.alloc (.cells #[.slice go2 g.length gc2, .slice bo2 n bc2, .bool fi, .bool ol, .bool he, .int .i64 la] 26) = W2 at *
    generalize w2.heap.size = X2 at *
    refine (to_any a0 len0 cap0 f _ hn (HS.out.below H2.out.1)).mono ?_
    rintro e w3 ⟨rfl, r3, b3⟩
    have e2 := H2.out.2.2.2.1
    rw [e2] at r3 b3
    rw [e2]
    have H3 : Hid (w3.rowIs (X2 + 1) 5 len0 (fun i => .int .u8 (f i)) ∧ Below (X2 + 1) W2 w3 ∧ X2 + 1 < w3.heap.size) := ⟨r3, b3, r3.lt⟩
    have hLW : w.heap.size ≤ X2 := H2.out.2.2.2.2
    clear r3 b3 e2
    go_wp2_with fail
    refine (himpl.out _ _ _ (HG.out.below (H2.out.1.trans (H3.out.2.1.mono (by omega)))) (Nat.le_refl _) (SL.row H3.out.1)).mono ?_
    rintro e w4 ⟨go4, bo4, gc4, bc4, rfl, o4, b4⟩
    have HV0 : Hid (∀ w', Below (X2 + 1) W2 w' → MV w' go2 gc2 bo2 bc2 g n L ∧ KB w' X2 26 go2 g.length gc2 bo2 n bc2 fi ol he la ∧ Below w.heap.size w w') := fun w' hb => by
      have e2 := H2.out.2.2.2.1
      refine ⟨H2.out.2.2.1.below (by rw [e2]; exact hb), H2.out.2.1.below hb (by omega), H2.out.1.trans (hb.mono (by omega))⟩
    have bX := bal1 w4 (.cells #[.slice go4 g.length gc4, .slice bo4 n bc4, .bool fi, .bool ol, .bool he, .int .i64 la] 26)
    have b34 : Below (X2 + 1) W2 w4 := H3.out.2.1.trans (b4.mono (by have := H3.out.2.2; omega))
    have hz4 := b4.size
    have H4 : Hid ((Below (X2 + 1) W2 (w4.alloc (.cells #[.slice go4 g.length gc4, .slice bo4 n bc4, .bool fi, .bool ol, .bool he, .int .i64 la] 26)) ∧ KB (w4.alloc (.cells #[.slice go4 g.length gc4, .slice bo4 n bc4, .bool fi, .bool ol, .bool he, .int .i64 la] 26)) (w4.heap.size) 26 go4 g.length gc4 bo4 n bc4 fi ol he la ∧ OKm (w4.alloc (.cells #[.slice go4 g.length gc4, .slice bo4 n bc4, .bool fi, .bool ol, .bool he, .int .i64 la] 26)) w3.heap.size w4.heap.size go4 gc4 bo4 bc4 g n L) ∧ (w4.alloc (.cells #[.slice go4 g.length gc4, .slice bo4 n bc4, .bool fi, .bool ol, .bool he, .int .i64 la] 26)).rowIs (X2 + 1) 5 len0 (fun i => .int .u8 (f i)) ∧ (X2 + 1 < w3.heap.size ∧ w3.heap.size ≤ w4.heap.size)) := by
      have h5 := H3.out.2.2
      exact ⟨⟨b34.trans (bX.mono (by omega)), KB.new w4 _ _ _ _ _ _ _ _ _ _ _, o4.below bX (Nat.le_refl _)⟩, row_below (row_below H3.out.1 b4 H3.out.2.2) bX (by omega), H3.out.2.2, hz4⟩
    obtain ⟨y0, y1, y2, y3, y4, y5⟩ := (HV0.out w4 b34).2.1.cells
    have hlt4 : X2 < w4.heap.size := by have := H3.out.2.2; omega
    clear bX b34 b4 o4 H3 hz4
    go_wp2_with fail
    generalize w4.alloc (.cells #[.slice go4 g.length gc4, .slice bo4 n bc4, .bool fi, .bool ol, .bool he, .int .i64 la] 26) = W4 at *
    generalize w4.heap.size = X4 at *
    generalize w3.heap.size = B4 at *
    clear y0 y1 y2 y3 y4 y5
    refine (eqm_yes go4 bo4 go2 bo2 gc4 bc4 gc2 bc2 g n L fi ol he la _ hd.out H4.out.1.2.2.mv (HV0.out _ H4.out.1.1).1).mono ?_
    rintro e w5 ⟨rfl, b5⟩
    have hXs : X2 + 1 ≤ W4.heap.size := H4.out.1.1.size |> fun _ => by have := H4.out.1.2.1.lt; have := H4.out.2.2; omega
    have H5 : Hid ((Below (X2 + 1) W2 w5 ∧ KB (w5) (X4) 26 go4 g.length gc4 bo4 n bc4 fi ol he la ∧ OKm w5 B4 X4 go4 gc4 bo4 bc4 g n L) ∧ w5.rowIs (X2 + 1) 5 len0 (fun i => .int .u8 (f i)) ∧ (X2 + 1 < B4 ∧ B4 ≤ X4)) :=
      ⟨⟨H4.out.1.1.trans (b5.mono hXs), H4.out.1.2.1.b b5, H4.out.1.2.2.below b5 H4.out.1.2.2.1.2⟩, row_below H4.out.2.1 b5 (by have := H4.out.1.2.1.lt; have := H4.out.2.2; omega), H4.out.2.2⟩
    clear b5 H4 hXs hlt4
    cases b
    all_goals
      go_wp2_with fail
      refine (to_any a0 len0 cap0 f _ hn (HS.out.below (HV0.out _ H5.out.1.1).2.2)).mono ?_
      rintro e w6 ⟨rfl, r6, b6⟩
      have hX5 : X4 < w5.heap.size := H5.out.1.2.1.lt
      have H6 : Hid ((Below (X2 + 1) W2 w6 ∧ KB (w6) (X4) 26 go4 g.length gc4 bo4 n bc4 fi ol he la ∧ OKm w6 B4 X4 go4 gc4 bo4 bc4 g n L) ∧ w6.rowIs (X2 + 1) 5 len0 (fun i => .int .u8 (f i)) ∧ (X2 + 1 < B4 ∧ B4 ≤ X4) ∧ SL .u8 w6 (some ⟨w5.heap.size, 0, none⟩) len0 f) := by
        have h7 := H5.out.2.2
        exact ⟨⟨H5.out.1.1.trans (b6.mono (by omega)), H5.out.1.2.1.b b6, H5.out.1.2.2.below b6 H5.out.1.2.2.1.2⟩, row_below H5.out.2.1 b6 (by omega), H5.out.2.2, SL.row r6⟩
      clear r6 b6 H5 hX5
      generalize w5.heap.size = X5 at *
      go_wp2_with fail
      refine (eq_yes _ _ len0 _ _ f f _ hn (SL.row H6.out.2.1) H6.out.2.2.2 (fun _ _ => rfl)).mono ?_
      rintro e w7 ⟨rfl, q7, hw7⟩
      rw [hw7]
      have H7 : Hid ((Below (X2 + 1) W2 (w6.drewN q7) ∧ KB (w6.drewN q7) (X4) 26 go4 g.length gc4 bo4 n bc4 fi ol he la ∧ OKm (w6.drewN q7) B4 X4 go4 gc4 bo4 bc4 g n L) ∧ (w6.drewN q7).rowIs (X2 + 1) 5 len0 (fun i => .int .u8 (f i)) ∧ (X2 + 1 < B4 ∧ B4 ≤ X4)) :=
        ⟨⟨Below.drawn H6.out.1.1 q7, H6.out.1.2.1, H6.out.1.2.2.kept (fun _ _ _ => rfl) (Nat.le_refl _)⟩, H6.out.2.1, H6.out.2.2.1⟩
      clear hw7 H6
      generalize w6.drewN q7 = w7q at *
      go_wp2_with fail
      refine (mark_row (X2 + 1) len0 len0 1 _ _ hn (by decide) (by decide) H7.out.2.1).mono ?_
      rintro e w8 ⟨rfl, _, y8⟩
      have H8 : Hid ((Below (X2 + 1) W2 w8 ∧ KB (w8) (X4) 26 go4 g.length gc4 bo4 n bc4 fi ol he la ∧ OKm w8 B4 X4 go4 gc4 bo4 bc4 g n L) ∧ (X2 + 1 < B4 ∧ B4 ≤ X4)) := by
        have h7 := H7.out.2.2
        exact ⟨⟨H7.out.1.1.trans y8.1, (y8.2.2 X4 (by omega)).trans H7.out.1.2.1, H7.out.1.2.2.kept (fun j h1 h2 => y8.2.2 j (by omega)) (by rw [y8.2.1]; exact Nat.le_refl _)⟩, h7⟩
      clear y8 H7
      obtain ⟨x0, x1, x2, x3, x4, x5⟩ := H8.out.1.2.1.cells
      obtain ⟨y0, y1, y2, y3, y4, y5⟩ := (HV0.out w8 H8.out.1.1).2.1.cells
      have hkp : ¬ (1 : Int) + (len0 : Int) < 0 := by omega
      go_wp2_with fail
      refine (eqm_yes go4 bo4 go2 bo2 gc4 bc4 gc2 bc2 g n L fi ol he la _ hd.out H8.out.1.2.2.mv (HV0.out _ H8.out.1.1).1).mono ?_
      rintro e w9 ⟨rfl, b9⟩
      have H9 : Hid ((Below (X2 + 1) W2 w9 ∧ KB (w9) (X4) 26 go4 g.length gc4 bo4 n bc4 fi ol he la ∧ OKm w9 B4 X4 go4 gc4 bo4 bc4 g n L) ∧ (X2 + 1 < B4 ∧ B4 ≤ X4)) := by
        have h7 := H8.out.2
        have h8 := H8.out.1.2.1.lt
        exact ⟨⟨H8.out.1.1.trans (b9.mono (by omega)), H8.out.1.2.1.b b9, H8.out.1.2.2.below b9 H8.out.1.2.2.1.2⟩, h7⟩
      clear b9 H8 x0 x1 x2 x3 x4 x5 y0 y1 y2 y3 y4 y5 hkp
      obtain ⟨x0, x1, x2, x3, x4, x5⟩ := H9.out.1.2.1.cells
      go_wp2_with fail
      refine (markm_any go4 bo4 gc4 bc4 B4 X4 g n L fi ol he la 1 _ (by omega) (by omega) (by omega) H9.out.1.2.2).mono ?_
      rintro e w10 ⟨rfl, o10, n10⟩
      have H10 : Hid ((Below (X2 + 1) W2 w10 ∧ KB (w10) (X4) 26 go4 g.length gc4 bo4 n bc4 fi ol he la ∧ OKm w10 B4 X4 go4 gc4 bo4 bc4 (mgs g 1) n (mbs g L n 1)) ∧ (X2 + 1 < B4 ∧ B4 ≤ X4)) := by
        have h7 := H9.out.2
        exact ⟨⟨H9.out.1.1.trans (n10.1.mono (by omega)), (n10.2 X4 H9.out.1.2.1.lt (Nat.le_refl _)).trans H9.out.1.2.1, o10⟩, h7⟩
      clear o10 n10 H9 x0 x1 x2 x3 x4 x5
      obtain ⟨x0, x1, x2, x3, x4, x5⟩ := H10.out.1.2.1.cells
      generalize hK : 1 + ((g.length : Int) + (psum L n : Int)) = K at *
      have HK := hide hK
      have hKp : ¬ K < 0 := by omega
      clear hK
      go_wp2_with fail
      refine (heldm_any go4 bo4 gc4 bc4 g n L fi ol he la 1 _ (by omega) (by omega) (by omega) H10.out.1.2.2.mv).mono ?_
      rintro e w11 ⟨rfl, b11⟩
      rw [HK.out]
      have H11 : Hid ((Below (X2 + 1) W2 w11 ∧ KB (w11) (X4) 26 go4 g.length gc4 bo4 n bc4 fi ol he la ∧ MV w11 go4 gc4 bo4 bc4 (mgs g 1) n (mbs g L n 1)) ∧ (X2 + 1 < B4 ∧ B4 ≤ X4)) := by
        have h7 := H10.out.2
        have h8 := H10.out.1.2.1.lt
        exact ⟨⟨H10.out.1.1.trans (b11.mono (by omega)), H10.out.1.2.1.b b11, H10.out.1.2.2.mv.below b11⟩, h7⟩
      clear b11 H10 x0 x1 x2 x3 x4 x5
      go_wp2_with fail
      refine (to_any a0 len0 cap0 f _ hn (HS.out.below (HV0.out _ H11.out.1.1).2.2)).mono ?_
      rintro e w12 ⟨rfl, r12, b12⟩
      have H12 : Hid ((Below (X2 + 1) W2 w12 ∧ KB (w12) (X4) 26 go4 g.length gc4 bo4 n bc4 fi ol he la ∧ MV w12 go4 gc4 bo4 bc4 (mgs g 1) n (mbs g L n 1)) ∧ (X2 + 1 < B4 ∧ B4 ≤ X4) ∧ SL .u8 w12 (some ⟨w11.heap.size, 0, none⟩) len0 f) := by
        have h7 := H11.out.2
        have h8 := H11.out.1.2.1.lt
        exact ⟨⟨H11.out.1.1.trans (b12.mono (by omega)), H11.out.1.2.1.b b12, H11.out.1.2.2.below b12⟩, h7, SL.row r12⟩
      clear r12 b12 H11
      generalize w11.heap.size = X11 at *
      go_wp2_with fail
      refine (himpl.out _ _ _ (HG.out.below (HV0.out _ H12.out.1.1).2.2) (Nat.le_refl _) H12.out.2.2).mono ?_
      rintro e w13 ⟨go13, bo13, gc13, bc13, rfl, o13, b13⟩
      have bX := bal1 w13 (.cells #[.slice go13 g.length gc13, .slice bo13 n bc13, .bool fi, .bool ol, .bool he, .int .i64 la] 26)
      have b13' : Below (X2 + 1) W2 w13 := H12.out.1.1.trans (b13.mono (by have := H12.out.2.1; have := H12.out.1.2.1.lt; omega))
      have H13 : Hid ((Below (X2 + 1) W2 (w13.alloc (.cells #[.slice go13 g.length gc13, .slice bo13 n bc13, .bool fi, .bool ol, .bool he, .int .i64 la] 26)) ∧ KB (w13.alloc (.cells #[.slice go13 g.length gc13, .slice bo13 n bc13, .bool fi, .bool ol, .bool he, .int .i64 la] 26)) (X4) 26 go4 g.length gc4 bo4 n bc4 fi ol he la ∧ MV (w13.alloc (.cells #[.slice go13 g.length gc13, .slice bo13 n bc13, .bool fi, .bool ol, .bool he, .int .i64 la] 26)) go4 gc4 bo4 bc4 (mgs g 1) n (mbs g L n 1)) ∧ MV (w13.alloc (.cells #[.slice go13 g.length gc13, .slice bo13 n bc13, .bool fi, .bool ol, .bool he, .int .i64 la] 26)) go13 gc13 bo13 bc13 g n L ∧ X2 + 1 ≤ (w13.alloc (.cells #[.slice go13 g.length gc13, .slice bo13 n bc13, .bool fi, .bool ol, .bool he, .int .i64 la] 26)).heap.size) := by
        have h7 := H12.out.2.1
        have h8 := H12.out.1.2.1.lt
        have h9 := b13.size
        have h10 := bX.size
        exact ⟨⟨b13'.trans (bX.mono (by omega)), (H12.out.1.2.1.b b13).b bX, (H12.out.1.2.2.below b13).below bX⟩, o13.mv.below bX, by omega⟩
      obtain ⟨y0, y1, y2, y3, y4, y5⟩ := (HV0.out w13 b13').2.1.cells
      have hlt13 : X2 < w13.heap.size := by have := H12.out.2.1; have := H12.out.1.2.1.lt; have := b13.size; omega
      clear o13 b13 b13' bX H12
      go_wp2_with fail
      generalize w13.alloc (.cells #[.slice go13 g.length gc13, .slice bo13 n bc13, .bool fi, .bool ol, .bool he, .int .i64 la] 26) = W13 at *
      clear y0 y1 y2 y3 y4 y5 hlt13
      refine (eqm_yes go13 bo13 go2 bo2 gc13 bc13 gc2 bc2 g n L fi ol he la _ hd.out H13.out.2.1 (HV0.out _ H13.out.1.1).1).mono ?_
      rintro e w14 ⟨rfl, b14⟩
      have H14 : Hid (Below (X2 + 1) W2 w14 ∧ KB (w14) (X4) 26 go4 g.length gc4 bo4 n bc4 fi ol he la ∧ MV w14 go4 gc4 bo4 bc4 (mgs g 1) n (mbs g L n 1)) :=
        ⟨H13.out.1.1.trans (b14.mono H13.out.2.2), H13.out.1.2.1.b b14, H13.out.1.2.2.below b14⟩
      clear b14 H13
      obtain ⟨x0, x1, x2, x3, x4, x5⟩ := H14.out.2.1.cells
      go_wp2_with fail
      refine (heldm_any go4 bo4 gc4 bc4 g n L fi ol he la 1 _ (by omega) (by omega) (by omega) H14.out.2.2).mono ?_
      rintro e w15 ⟨rfl, b15⟩
      rw [HK.out]
      have H15 := hide ((HV0.out _ H14.out.1).2.2.trans (b15.mono (HV0.out _ H14.out.1).2.2.size))
      clear b15
      go_wp2
      go_ret
      exact ⟨rfl, H15.out⟩
  · have hnn : (1048576 : Int) < (len0 : Int) := by omega
    go_enter Tryd.func3, Tryd.ntmps3
    go_wp2
    go_ret
    exact ⟨rfl, Below.refl _ _⟩

set_option maxRecDepth 100000 in
theorem contract (H : Type) (enc : TypeId × Value → H) (W : World) (base : Nat) (args : Array Value) (ds gs : List (DataW H)) (before : List MemPlace)
    (hval : ∀ (j : Nat) t v, Tryd.f3.params[j]? = some t → args[j]? = some v → Value.okWide Tryd.prog W .any base t v)
    (hW : DataW.Whole enc Tryd.prog Tryd.f3.params.toList Rows.fnExactSlotOfSpec.vars false W args.toList ds gs before) (hL0 : laidMetH Tryd.prog Rows.fnExactSlotOfRow.laid W) :
    Calls Tryd.prog 3 args W fun e W' => ∃ v, e = .returned v ∧ Rows.fnExactSlotOfSpec.post enc Tryd.prog Tryd.f3 false true false false W args v W' := by
  have hW' := hW
  obtain ⟨p, q, hA0, hV, rfl, hfz, hnd⟩ := hW
  have hA : DataW.TrodAll enc Tryd.prog W 0 (fun _ => true) true Tryd.f3.params.toList args.toList ds p := hA0
  rw [Tryd.params3] at hA hval
  obtain ⟨v0, vs0, d0, ds0, p0, q0, hargs0, rfl, rfl, h0, r0⟩ := trodAll_cons hA
  obtain ⟨rfl, rfl, rfl⟩ := trodAll_nil r0
  obtain rfl : args = #[v0] := by cases args; simp_all
  obtain ⟨rfl, rfl⟩ := trodVars_none hV
  have k0 := h0
  have lt0 : ∀ x ∈ p0, x.block < W.heap.size := by obtain ⟨m, hm⟩ := k0; exact DataW.trod_lt m _ _ _ hm
  obtain ⟨a0, len0, cap0, rfl⟩ := okWide_slice Tryd.underlying22 (hval 0 22 v0 rfl rfl)
  obtain ⟨f, hl0, hs, hf⟩ : ∃ f : Nat → Int, len0 ≤ cap0 ∧ SL .u8 W a0 len0 f ∧ (∀ i, i < len0 → 0 ≤ f i ∧ f i ≤ 255) := by
    obtain ⟨fuel, hf⟩ := h0
    obtain ⟨ao, cap, l, e, h1, h2, h3, h4⟩ := open_brow hf
    simp only [Value.cells] at e
    cases e
    exact ⟨_, h1, h3, h4⟩
  clear hA0
  refine (walk a0 len0 cap0 f W (handle hL0) hl0 hs hf).mono fun e W' ⟨he, bel⟩ => ?_
  subst he
  exact ⟨_, rfl, _, _, _, [], _, [], hW', trodAll_mk1 (shut_bool Tryd.underlying4 _), (trodAll_cons_mk (Below.trod laidOut (by kernel_rfl) (of_decide_eq_true (by kernel_rfl)) k0 bel lt0) trodAll_mk0), rfl, bel.frame _, fun h => by cases h⟩

/-- A world that meets the condition: the variable's cell laid. -/
def laidWorld (w0 : World) : World :=
  { w0 with heap := w0.heap.modify 0 fun
      | .cells _ t frozen => .cells #[.iface 92 (.agg #[.pointer (some ⟨1, 41, none⟩)])] t frozen
      | o => o }
theorem laid_met (os : Os) (args : Array Value) : laidMetH Tryd.prog Rows.fnExactSlotOfRow.laid ((laidWorld (World.holding Tryd.prog os ⟨#[], #[], []⟩)).forCall (fun _ _ => 0) ⟨#[], args, []⟩).memory :=
  laidMetH_of_parts (laidMet_nil _ _) (by kernel_rfl)
theorem reads (os : Os) {H : Type} (enc : TypeId × Value → H) : ∃ places, DataW.whole enc Tryd.prog ((laidWorld (World.holding Tryd.prog os ⟨#[], #[], []⟩)).forCall (fun _ _ => 0) ⟨#[], #[.slice none 0 0], []⟩).memory Tryd.f3.params.toList Rows.fnExactSlotOfSpec.vars false #[.slice none 0 0].toList 8 = some ([.nil], [], places) :=
  ⟨[], by kernel_rfl⟩

set_option maxRecDepth 100000 in
theorem lifted (os : Os) (started : os.Started) (H : Type) (enc : TypeId × Value → H) (F : Stop.Interp) :
    ReturnsInHanded {} Tryd.checked os 3 .any ((OpenSpec.ofChange Rows.fnExactSlotOfSpec).preRow enc Tryd.prog Tryd.f3 Rows.fnExactSlotOfRow.domain false Rows.fnExactSlotOfRow.laid) (((OpenSpec.ofChange Rows.fnExactSlotOfSpec).at F).post enc Tryd.prog Tryd.f3 false true false false) := by
  obtain ⟨places, hx⟩ := reads os enc
  refine returnsInHanded_of_row (C := Tryd.checked) (s := OpenSpec.ofChange Rows.fnExactSlotOfSpec) own started (by kernel_rfl) Tryd.func3
    (witness_row_at (enc := enc) (C := Tryd.checked) false (laidWorld (World.holding Tryd.prog os ⟨#[], #[], []⟩)) #[.slice none 0 0] rfl (by kernel_rfl) (by kernel_rfl) (by kernel_rfl)
      (OpenSpec.preRow_of_cond 8 hx (by kernel_rfl) (fun k hk => by cases hk) (by kernel_rfl) (laid_met os _))) ?_
  intro W base args ds gs before hval hW _ _ _ hL _ _
  exact contract H enc W base args ds gs before hval hW hL

theorem said : Rows.FnExactSlotOfSaid :=
  OpenClaim.holds_of_cond 3 Tryd.f3 rfl rfl rfl rfl rfl rfl rfl ⟨rfl, rfl, rfl, rfl, rfl⟩ rfl rfl rfl rfl rfl (by kernel_rfl) Tryd.func3 (by kernel_rfl)
    (of_decide_eq_true (by kernel_rfl)) (by unfold Func.isWrapper; first | (rw [if_pos (by decide +kernel)]; kernel_rfl) | (rw [if_neg (by decide +kernel)]; exact ⟨rfl, rfl⟩))
    (fun os started H enc _ F => by rw [OpenClaim.pre_eq_preRow]; exact lifted os started H enc F)

theorem plain (f : FuncId) (fn : Func) (hf : Tryd.pinned.checked.prog.funcNamed "loop.example/g00399/laws.FnExactSlotOf" = some f) (hfn : Tryd.pinned.checked.prog.funcs[f]? = some fn) :
    true = Tryd.pinned.checked.prog.looks [] ∧ ∀ (j : Nat) t, fn.params[j]? = some t → Tryd.pinned.checked.prog.wantsStandIn t = false := by
  obtain rfl : f = 3 := Option.some.inj ((show Tryd.prog.funcNamed "loop.example/g00399/laws.FnExactSlotOf" = some 3 by kernel_rfl).symm.trans hf) |>.symm
  obtain rfl : fn = Tryd.f3 := (Option.some.inj (Tryd.func3.symm.trans hfn)).symm
  refine ⟨by kernel_rfl, fun j t ht => ?_⟩
  rw [Tryd.params3] at ht
  have ht' : t = 22 := by simpa using Array.mem_of_getElem? ht
  rcases ht' with rfl
  · exact (show Tryd.prog.wantsStandIn 22 = false by kernel_rfl)

theorem card : Rows.FnExactSlotOfCardSaid :=
  Claim7.holds_tied_plain_at .later [] _ _ _ _ said (fun _ h => by cases h) (by kernel_rfl) (fun _ h => by cases h) fnExactSlotOf_row_tie rfl ⟨rfl, rfl⟩ (by kernel_rfl) rfl plain (by kernel_rfl)
end Go.Proofs.YtjjdbdkbpmbniaaDoor.fnExactSlotOf
namespace Go.Proofs.YtjjdbdkbpmbniaaDoor
theorem fnExactSlotOf_card : Rows.FnExactSlotOfCardSaid := fnExactSlotOf.card
end Go.Proofs.YtjjdbdkbpmbniaaDoor

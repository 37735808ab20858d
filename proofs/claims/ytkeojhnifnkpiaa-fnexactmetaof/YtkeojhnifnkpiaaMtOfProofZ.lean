/- Whatever is handed in, the law FnExactMetaOf returns true and leaves what it was handed as it was. -/
import Derived.Test.YtkeojhnifnkpiaaRows
import Derived.WalkKit
import Derived.ProofKit
import Derived.OpenShut
import Derived.ShutString
import Derived.Test.YtkeojhnifnkpiaaMtOI4Z
import Derived.Test.YtkeojhnifnkpiaaMtRbZ
import Derived.ChangeOld
import Derived.Below

namespace Go.Proofs.Ytkeojhnifnkpiaa.fnExactMetaOf
open Go.ChangeShapes Go.WideShapes Go.ChangeAt Go.RowKit
open Go.ChangeMaps (open_string shut_string)
set_option linter.unusedVariables false

theorem own : ownKnob Try.prog.godebug = none := by kernel_rfl
theorem laidOut : laidOutB Try.prog = true := by kernel_rfl

/-- WHAT THE WALK IS TOLD OF A SLICE OF INTEGERS THAT CAME IN: it is nil; or it leads to a row of 'cap' cells, the numbers 'zs' (the first 'len' are its elements, the rest its spare room), each fitting its kind. -/
def IsRow (k : IntKind) (w : World) (a : Option Addr) (len cap : Nat) (zs : List Int) : Prop :=
  (a = none ∧ len = 0 ∧ cap = 0 ∧ zs = []) ∨
  ∃ x, a = some x ∧ len ≤ cap ∧ cap ≤ maxLen ∧ zs.length = cap ∧ (∀ i, i < zs.length → w.cell? (x.add i) = some (.int k (zs.getD i 0))) ∧ ∀ n ∈ zs, (Lit.int k n).wf = true

theorem OKm.congr {w : World} {B T : Nat} {go : Option Addr} {gc : Nat} {bo : Option Addr} {bc : Nat} {g : List Int} {n : Nat} {L L' : Nat → List Int} (h : OKm w B T go gc bo bc g n L) (e : ∀ i, i < n → L i = L' i) : OKm w B T go gc bo bc g n L' := by
  obtain ⟨hT, hb, R, ho, hs⟩ := h
  refine ⟨hT, hb, R, ho.congr (fun i hi => ?_), hs.lens (fun i hi => by rw [e i hi])⟩
  match i with
  | 0 => rfl
  | i + 1 => exact e i (by omega)
/-- Whatever is asked: both functions answer the same, each in memory of its own. -/
theorem both (f : Nat → Int) (m : Nat) (hm : m ≤ 1048576) (hf : ∀ i, i < m → 0 ≤ f i ∧ f i ≤ 255) : ∃ (g : List Int) (n : Nat) (L : Nat → List Int) (fi ol he : Bool) (la : Int) (b : Bool), (g.length + (n + psum L n) ≤ 1000) ∧
    (∀ W ao cap, SL .u8 W ao m f → Calls Try.prog 14 #[.slice ao m cap] W fun e w' => ∃ go bo gc bc, e = .returned (.tuple #[.agg #[.slice go g.length gc, .slice bo n bc, .bool fi, .bool ol, .bool he, .int .i64 la], .bool b]) ∧ OKm w' W.heap.size w'.heap.size go gc bo bc g n L ∧ Below W.heap.size W w') ∧
    (∀ W ao cap, SL .u8 W ao m f → Calls Try.prog 13 #[.slice ao m cap] W fun e w' => ∃ go bo gc bc, e = .returned (.tuple #[.agg #[.slice go g.length gc, .slice bo n bc, .bool fi, .bool ol, .bool he, .int .i64 la], .bool b]) ∧ OKm w' W.heap.size w'.heap.size go gc bo bc g n L ∧ Below W.heap.size W w') := by
  by_cases hB : ∃ g L fi ol he la, MtIs ((List.range m).map f) g L fi ol he la
  · obtain ⟨g, L, fi, ol, he, la, hB⟩ := hB
    obtain ⟨h1, _, h2, _⟩ := mtok_g hB.1
    refine ⟨g, 3, L, fi, ol, he, la, true, ?_, fun W ao cap hs => (mtof_spec ao m cap f W hm hs hf).mono ?_, fun W ao cap hs => (mtof_impl ao m cap f W hm hs hf).mono ?_⟩
    · have a0 := h2 0 (by omega)
      have a1 := h2 1 (by omega)
      have a2 := h2 2 (by omega)
      simp only [psum]
      omega
    all_goals
      rintro e w' ⟨h, hb⟩
      rcases h with ⟨g', L', fi', ol', he', la', go, bo, gc, bc, hB', rfl, ho⟩ | ⟨hno, _⟩
      · obtain ⟨rfl, eL, rfl, rfl, rfl, rfl⟩ := mtis_one hB' hB
        exact ⟨go, bo, gc, bc, rfl, OKm.congr ho eL, hb⟩
      · exact absurd ⟨g, L, fi, ol, he, la, hB⟩ hno
  · refine ⟨[], 0, fun _ => [], false, false, false, 0, false, by simp [psum], fun W ao cap hs => (mtof_spec ao m cap f W hm hs hf).mono ?_, fun W ao cap hs => (mtof_impl ao m cap f W hm hs hf).mono ?_⟩
    all_goals
      rintro e w' ⟨h, hb⟩
      rcases h with ⟨g', L', fi', ol', he', la', go, bo, gc, bc, hB', _⟩ | ⟨_, rfl⟩
      · exact absurd ⟨g', L', fi', ol', he', la', hB'⟩ hB
      · exact ⟨none, none, 0, 0, rfl, none_ok hb.size, hb⟩

set_option maxHeartbeats 1000000 in
set_option maxRecDepth 100000 in
theorem walk (a0 : Option Addr) (len0 cap0 : Nat) (z0 : List Int) (w : World) (w0 : IsRow .u8 w a0 len0 cap0 z0) :
    Calls Try.prog 8 #[.slice a0 len0 cap0] w fun e w' => e = .returned (.bool true) ∧ Below w.heap.size w w' := by
  obtain ⟨f, hs, hf0⟩ := view w0
  have hf := view_u8 hf0
  clear w0 hf0
  by_cases hn : len0 ≤ 1048576
  · have hnn : ¬ (1048576 : Int) < (len0 : Int) := by omega
    obtain ⟨g, n, L, fi, ol, he, la, b, hbd, hspec0, himpl0⟩ := both f len0 hn hf
    have hd : Hid (Bd g n L) := bd_of (by omega)
    have hspec := hide hspec0
    have himpl := hide himpl0
    have HS := hide hs
    clear hs hspec0 himpl0 hf
    go_enter Try.func8, Try.ntmps8
    go_wp2_with fail
    refine (to_any a0 len0 cap0 f _ hn HS.out).mono ?_
    rintro e w1 ⟨rfl, r1, b1⟩
    have R1 := hide r1
    have B1 := hide b1
    clear r1 b1 hnn
    go_wp2_with fail
    refine (hspec.out _ _ _ (SL.row R1.out)).mono ?_
    rintro e w2 ⟨go2, bo2, gc2, bc2, rfl, o2, b2⟩
    have H2 : Hid (Below w.heap.size w (w2.alloc (.cells #[.slice go2 g.length gc2, .slice bo2 n bc2, .bool fi, .bool ol, .bool he, .int .i64 la] 27)) ∧ KB (w2.alloc (.cells #[.slice go2 g.length gc2, .slice bo2 n bc2, .bool fi, .bool ol, .bool he, .int .i64 la] 27)) (w2.heap.size) 27 go2 g.length gc2 bo2 n bc2 fi ol he la ∧ MV (w2.alloc (.cells #[.slice go2 g.length gc2, .slice bo2 n bc2, .bool fi, .bool ol, .bool he, .int .i64 la] 27)) go2 gc2 bo2 bc2 g n L ∧ (w2.alloc (.cells #[.slice go2 g.length gc2, .slice bo2 n bc2, .bool fi, .bool ol, .bool he, .int .i64 la] 27)).heap.size = w2.heap.size + 1 ∧ w.heap.size ≤ w2.heap.size) := by
      have hx := bal1 w2 (.cells #[.slice go2 g.length gc2, .slice bo2 n bc2, .bool fi, .bool ol, .bool he, .int .i64 la] 27)
      have c2 := B1.out.trans (b2.mono B1.out.size)
      exact ⟨c2.trans (hx.mono c2.size), KB.new w2 _ _ _ _ _ _ _ _ _ _ _, o2.mv.below hx, alsz _ _, c2.size⟩
    clear o2 b2 B1 R1 hspec
    go_wp2_with fail
    generalize w2.alloc (.cells #[.slice go2 g.length gc2, .slice bo2 n bc2, .bool fi, .bool ol, .bool he, .int .i64 la] 27) = W2 at *
    generalize w2.heap.size = X2 at *
    refine (to_any a0 len0 cap0 f _ hn (HS.out.below H2.out.1)).mono ?_
    rintro e w3 ⟨rfl, r3, b3⟩
    have e2 := H2.out.2.2.2.1
    rw [e2] at r3 b3
    rw [e2]
    have H3 : Hid (w3.rowIs (X2 + 1) 5 len0 (fun i => .int .u8 (f i)) ∧ Below (X2 + 1) W2 w3 ∧ X2 + 1 < w3.heap.size) := ⟨r3, b3, r3.lt⟩
    have hLW : w.heap.size ≤ X2 := H2.out.2.2.2.2
    clear r3 b3 e2
    go_wp2_with fail
    refine (himpl.out _ _ _ (SL.row H3.out.1)).mono ?_
    rintro e w4 ⟨go4, bo4, gc4, bc4, rfl, o4, b4⟩
    have HV0 : Hid (∀ w', Below (X2 + 1) W2 w' → MV w' go2 gc2 bo2 bc2 g n L ∧ KB w' X2 27 go2 g.length gc2 bo2 n bc2 fi ol he la ∧ Below w.heap.size w w') := fun w' hb => by
      have e2 := H2.out.2.2.2.1
      refine ⟨H2.out.2.2.1.below (by rw [e2]; exact hb), H2.out.2.1.below hb (by omega), H2.out.1.trans (hb.mono (by omega))⟩
    have bX := bal1 w4 (.cells #[.slice go4 g.length gc4, .slice bo4 n bc4, .bool fi, .bool ol, .bool he, .int .i64 la] 27)
    have b34 : Below (X2 + 1) W2 w4 := H3.out.2.1.trans (b4.mono (by have := H3.out.2.2; omega))
    have hz4 := b4.size
    have H4 : Hid ((Below (X2 + 1) W2 (w4.alloc (.cells #[.slice go4 g.length gc4, .slice bo4 n bc4, .bool fi, .bool ol, .bool he, .int .i64 la] 27)) ∧ KB (w4.alloc (.cells #[.slice go4 g.length gc4, .slice bo4 n bc4, .bool fi, .bool ol, .bool he, .int .i64 la] 27)) (w4.heap.size) 27 go4 g.length gc4 bo4 n bc4 fi ol he la ∧ OKm (w4.alloc (.cells #[.slice go4 g.length gc4, .slice bo4 n bc4, .bool fi, .bool ol, .bool he, .int .i64 la] 27)) w3.heap.size w4.heap.size go4 gc4 bo4 bc4 g n L) ∧ (w4.alloc (.cells #[.slice go4 g.length gc4, .slice bo4 n bc4, .bool fi, .bool ol, .bool he, .int .i64 la] 27)).rowIs (X2 + 1) 5 len0 (fun i => .int .u8 (f i)) ∧ (X2 + 1 < w3.heap.size ∧ w3.heap.size ≤ w4.heap.size)) := by
      have h5 := H3.out.2.2
      exact ⟨⟨b34.trans (bX.mono (by omega)), KB.new w4 _ _ _ _ _ _ _ _ _ _ _, o4.below bX (Nat.le_refl _)⟩, row_below (row_below H3.out.1 b4 H3.out.2.2) bX (by omega), H3.out.2.2, hz4⟩
    obtain ⟨y0, y1, y2, y3, y4, y5⟩ := (HV0.out w4 b34).2.1.cells
    have hlt4 : X2 < w4.heap.size := by have := H3.out.2.2; omega
    clear bX b34 b4 o4 H3 hz4
    go_wp2_with fail
    generalize w4.alloc (.cells #[.slice go4 g.length gc4, .slice bo4 n bc4, .bool fi, .bool ol, .bool he, .int .i64 la] 27) = W4 at *
    generalize w4.heap.size = X4 at *
    generalize w3.heap.size = B4 at *
    clear y0 y1 y2 y3 y4 y5
    refine (eqm_yes go4 bo4 go2 bo2 gc4 bc4 gc2 bc2 g n L fi ol he la _ hd.out H4.out.1.2.2.mv (HV0.out _ H4.out.1.1).1).mono ?_
    rintro e w5 ⟨rfl, b5⟩
    have hXs : X2 + 1 ≤ W4.heap.size := H4.out.1.1.size |> fun _ => by have := H4.out.1.2.1.lt; have := H4.out.2.2; omega
    have H5 : Hid ((Below (X2 + 1) W2 w5 ∧ KB (w5) (X4) 27 go4 g.length gc4 bo4 n bc4 fi ol he la ∧ OKm w5 B4 X4 go4 gc4 bo4 bc4 g n L) ∧ w5.rowIs (X2 + 1) 5 len0 (fun i => .int .u8 (f i)) ∧ (X2 + 1 < B4 ∧ B4 ≤ X4)) :=
      ⟨⟨H4.out.1.1.trans (b5.mono hXs), H4.out.1.2.1.b b5, H4.out.1.2.2.below b5 H4.out.1.2.2.1.2⟩, row_below H4.out.2.1 b5 (by have := H4.out.1.2.1.lt; have := H4.out.2.2; omega), H4.out.2.2⟩
    clear b5 H4 hXs hlt4
    cases b
    all_goals
      go_wp2_with fail
      refine (to_any a0 len0 cap0 f _ hn (HS.out.below (HV0.out _ H5.out.1.1).2.2)).mono ?_
      rintro e w6 ⟨rfl, r6, b6⟩
      have hX5 : X4 < w5.heap.size := H5.out.1.2.1.lt
      have H6 : Hid ((Below (X2 + 1) W2 w6 ∧ KB (w6) (X4) 27 go4 g.length gc4 bo4 n bc4 fi ol he la ∧ OKm w6 B4 X4 go4 gc4 bo4 bc4 g n L) ∧ w6.rowIs (X2 + 1) 5 len0 (fun i => .int .u8 (f i)) ∧ (X2 + 1 < B4 ∧ B4 ≤ X4) ∧ SL .u8 w6 (some ⟨w5.heap.size, 0, none⟩) len0 f) := by
        have h7 := H5.out.2.2
        exact ⟨⟨H5.out.1.1.trans (b6.mono (by omega)), H5.out.1.2.1.b b6, H5.out.1.2.2.below b6 H5.out.1.2.2.1.2⟩, row_below H5.out.2.1 b6 (by omega), H5.out.2.2, SL.row r6⟩
      clear r6 b6 H5 hX5
      generalize w5.heap.size = X5 at *
      go_wp2_with fail
      refine (eq_yes _ _ len0 _ _ f f _ hn (SL.row H6.out.2.1) H6.out.2.2.2 (fun _ _ => rfl)).mono ?_
      rintro e w7 ⟨rfl, q7, hw7⟩
      rw [hw7]
      have H7 : Hid ((Below (X2 + 1) W2 (w6.drewN q7) ∧ KB (w6.drewN q7) (X4) 27 go4 g.length gc4 bo4 n bc4 fi ol he la ∧ OKm (w6.drewN q7) B4 X4 go4 gc4 bo4 bc4 g n L) ∧ (w6.drewN q7).rowIs (X2 + 1) 5 len0 (fun i => .int .u8 (f i)) ∧ (X2 + 1 < B4 ∧ B4 ≤ X4)) :=
        ⟨⟨Below.drawn H6.out.1.1 q7, H6.out.1.2.1, H6.out.1.2.2.kept (fun _ _ _ => rfl) (Nat.le_refl _)⟩, H6.out.2.1, H6.out.2.2.1⟩
      clear hw7 H6
      generalize w6.drewN q7 = w7q at *
      go_wp2_with fail
      refine (mark_row (X2 + 1) len0 len0 1 _ _ hn (by decide) (by decide) H7.out.2.1).mono ?_
      rintro e w8 ⟨rfl, _, y8⟩
      have H8 : Hid ((Below (X2 + 1) W2 w8 ∧ KB (w8) (X4) 27 go4 g.length gc4 bo4 n bc4 fi ol he la ∧ OKm w8 B4 X4 go4 gc4 bo4 bc4 g n L) ∧ (X2 + 1 < B4 ∧ B4 ≤ X4)) := by
        have h7 := H7.out.2.2
        exact ⟨⟨H7.out.1.1.trans y8.1, (y8.2.2 X4 (by omega)).trans H7.out.1.2.1, H7.out.1.2.2.kept (fun j h1 h2 => y8.2.2 j (by omega)) (by rw [y8.2.1]; exact Nat.le_refl _)⟩, h7⟩
      clear y8 H7
      obtain ⟨x0, x1, x2, x3, x4, x5⟩ := H8.out.1.2.1.cells
      obtain ⟨y0, y1, y2, y3, y4, y5⟩ := (HV0.out w8 H8.out.1.1).2.1.cells
      have hkp : ¬ (1 : Int) + (len0 : Int) < 0 := by omega
      go_wp2_with fail
      refine (eqm_yes go4 bo4 go2 bo2 gc4 bc4 gc2 bc2 g n L fi ol he la _ hd.out H8.out.1.2.2.mv (HV0.out _ H8.out.1.1).1).mono ?_
      rintro e w9 ⟨rfl, b9⟩
      have H9 : Hid ((Below (X2 + 1) W2 w9 ∧ KB (w9) (X4) 27 go4 g.length gc4 bo4 n bc4 fi ol he la ∧ OKm w9 B4 X4 go4 gc4 bo4 bc4 g n L) ∧ (X2 + 1 < B4 ∧ B4 ≤ X4)) := by
        have h7 := H8.out.2
        have h8 := H8.out.1.2.1.lt
        exact ⟨⟨H8.out.1.1.trans (b9.mono (by omega)), H8.out.1.2.1.b b9, H8.out.1.2.2.below b9 H8.out.1.2.2.1.2⟩, h7⟩
      clear b9 H8 x0 x1 x2 x3 x4 x5 y0 y1 y2 y3 y4 y5 hkp
      obtain ⟨x0, x1, x2, x3, x4, x5⟩ := H9.out.1.2.1.cells
      go_wp2_with fail
      refine (markm_any go4 bo4 gc4 bc4 B4 X4 g n L fi ol he la 1 _ (by omega) (by omega) (by omega) H9.out.1.2.2).mono ?_
      rintro e w10 ⟨rfl, o10, n10⟩
      have H10 : Hid ((Below (X2 + 1) W2 w10 ∧ KB (w10) (X4) 27 go4 g.length gc4 bo4 n bc4 fi ol he la ∧ OKm w10 B4 X4 go4 gc4 bo4 bc4 (mgs g 1) n (mbs g L n 1)) ∧ (X2 + 1 < B4 ∧ B4 ≤ X4)) := by
        have h7 := H9.out.2
        exact ⟨⟨H9.out.1.1.trans (n10.1.mono (by omega)), (n10.2 X4 H9.out.1.2.1.lt (Nat.le_refl _)).trans H9.out.1.2.1, o10⟩, h7⟩
      clear o10 n10 H9 x0 x1 x2 x3 x4 x5
      obtain ⟨x0, x1, x2, x3, x4, x5⟩ := H10.out.1.2.1.cells
      generalize hK : 1 + ((g.length : Int) + (psum L n : Int)) = K at *
      have HK := hide hK
      have hKp : ¬ K < 0 := by omega
      clear hK
      go_wp2_with fail
      refine (heldm_any go4 bo4 gc4 bc4 g n L fi ol he la 1 _ (by omega) (by omega) (by omega) H10.out.1.2.2.mv).mono ?_
      rintro e w11 ⟨rfl, b11⟩
      rw [HK.out]
      have H11 : Hid ((Below (X2 + 1) W2 w11 ∧ KB (w11) (X4) 27 go4 g.length gc4 bo4 n bc4 fi ol he la ∧ MV w11 go4 gc4 bo4 bc4 (mgs g 1) n (mbs g L n 1)) ∧ (X2 + 1 < B4 ∧ B4 ≤ X4)) := by
        have h7 := H10.out.2
        have h8 := H10.out.1.2.1.lt
        exact ⟨⟨H10.out.1.1.trans (b11.mono (by omega)), H10.out.1.2.1.b b11, H10.out.1.2.2.mv.below b11⟩, h7⟩
      clear b11 H10 x0 x1 x2 x3 x4 x5
      go_wp2_with fail
      refine (to_any a0 len0 cap0 f _ hn (HS.out.below (HV0.out _ H11.out.1.1).2.2)).mono ?_
      rintro e w12 ⟨rfl, r12, b12⟩
      have H12 : Hid ((Below (X2 + 1) W2 w12 ∧ KB (w12) (X4) 27 go4 g.length gc4 bo4 n bc4 fi ol he la ∧ MV w12 go4 gc4 bo4 bc4 (mgs g 1) n (mbs g L n 1)) ∧ (X2 + 1 < B4 ∧ B4 ≤ X4) ∧ SL .u8 w12 (some ⟨w11.heap.size, 0, none⟩) len0 f) := by
        have h7 := H11.out.2
        have h8 := H11.out.1.2.1.lt
        exact ⟨⟨H11.out.1.1.trans (b12.mono (by omega)), H11.out.1.2.1.b b12, H11.out.1.2.2.below b12⟩, h7, SL.row r12⟩
      clear r12 b12 H11
      generalize w11.heap.size = X11 at *
      go_wp2_with fail
      refine (himpl.out _ _ _ H12.out.2.2).mono ?_
      rintro e w13 ⟨go13, bo13, gc13, bc13, rfl, o13, b13⟩
      have bX := bal1 w13 (.cells #[.slice go13 g.length gc13, .slice bo13 n bc13, .bool fi, .bool ol, .bool he, .int .i64 la] 27)
      have b13' : Below (X2 + 1) W2 w13 := H12.out.1.1.trans (b13.mono (by have := H12.out.2.1; have := H12.out.1.2.1.lt; omega))
      have H13 : Hid ((Below (X2 + 1) W2 (w13.alloc (.cells #[.slice go13 g.length gc13, .slice bo13 n bc13, .bool fi, .bool ol, .bool he, .int .i64 la] 27)) ∧ KB (w13.alloc (.cells #[.slice go13 g.length gc13, .slice bo13 n bc13, .bool fi, .bool ol, .bool he, .int .i64 la] 27)) (X4) 27 go4 g.length gc4 bo4 n bc4 fi ol he la ∧ MV (w13.alloc (.cells #[.slice go13 g.length gc13, .slice bo13 n bc13, .bool fi, .bool ol, .bool he, .int .i64 la] 27)) go4 gc4 bo4 bc4 (mgs g 1) n (mbs g L n 1)) ∧ MV (w13.alloc (.cells #[.slice go13 g.length gc13, .slice bo13 n bc13, .bool fi, .bool ol, .bool he, .int .i64 la] 27)) go13 gc13 bo13 bc13 g n L ∧ X2 + 1 ≤ (w13.alloc (.cells #[.slice go13 g.length gc13, .slice bo13 n bc13, .bool fi, .bool ol, .bool he, .int .i64 la] 27)).heap.size) := by
        have h7 := H12.out.2.1
        have h8 := H12.out.1.2.1.lt
        have h9 := b13.size
        have h10 := bX.size
        exact ⟨⟨b13'.trans (bX.mono (by omega)), (H12.out.1.2.1.b b13).b bX, (H12.out.1.2.2.below b13).below bX⟩, o13.mv.below bX, by omega⟩
      obtain ⟨y0, y1, y2, y3, y4, y5⟩ := (HV0.out w13 b13').2.1.cells
      have hlt13 : X2 < w13.heap.size := by have := H12.out.2.1; have := H12.out.1.2.1.lt; have := b13.size; omega
      clear o13 b13 b13' bX H12
      go_wp2_with fail
      generalize w13.alloc (.cells #[.slice go13 g.length gc13, .slice bo13 n bc13, .bool fi, .bool ol, .bool he, .int .i64 la] 27) = W13 at *
      clear y0 y1 y2 y3 y4 y5 hlt13
      refine (eqm_yes go13 bo13 go2 bo2 gc13 bc13 gc2 bc2 g n L fi ol he la _ hd.out H13.out.2.1 (HV0.out _ H13.out.1.1).1).mono ?_
      rintro e w14 ⟨rfl, b14⟩
      have H14 : Hid (Below (X2 + 1) W2 w14 ∧ KB (w14) (X4) 27 go4 g.length gc4 bo4 n bc4 fi ol he la ∧ MV w14 go4 gc4 bo4 bc4 (mgs g 1) n (mbs g L n 1)) :=
        ⟨H13.out.1.1.trans (b14.mono H13.out.2.2), H13.out.1.2.1.b b14, H13.out.1.2.2.below b14⟩
      clear b14 H13
      obtain ⟨x0, x1, x2, x3, x4, x5⟩ := H14.out.2.1.cells
      go_wp2_with fail
      refine (heldm_any go4 bo4 gc4 bc4 g n L fi ol he la 1 _ (by omega) (by omega) (by omega) H14.out.2.2).mono ?_
      rintro e w15 ⟨rfl, b15⟩
      rw [HK.out]
      have H15 := hide ((HV0.out _ H14.out.1).2.2.trans (b15.mono (HV0.out _ H14.out.1).2.2.size))
      clear b15
      go_wp2
      go_ret
      exact ⟨rfl, H15.out⟩
  · have hnn : (1048576 : Int) < (len0 : Int) := by omega
    go_enter Try.func8, Try.ntmps8
    go_wp2
    go_ret
    exact ⟨rfl, Below.refl _ _⟩

set_option maxRecDepth 100000 in
theorem lifted (os : Os) (started : os.Started) (H : Type) (enc : TypeId × Value → H) :
    ReturnsInHanded {} Try.checked os 8 .any (Rows.fnExactMetaOfSpec.pre6 enc Try.prog Try.f8 Rows.fnExactMetaOfRow.domain false) (Rows.fnExactMetaOfSpec.post enc Try.prog Try.f8 false true false false) := by
  refine returnsInHanded_of_change (C := Try.checked) own started (by kernel_rfl) Try.func8
    (ChangeSpec.witness6 (enc := enc) (C := Try.checked) false ⟨#[], #[.slice none 0 0], []⟩ 8 (by kernel_rfl) (by kernel_rfl) (by kernel_rfl) (by kernel_rfl)) ?_
  intro W base args ds gs before hval0 hW hcnd _
  have hval : ∀ (j : Nat) t v, Try.f8.params[j]? = some t → args[j]? = some v → Value.okWide Try.prog W .any base t v := hval0
  have hW' := hW
  obtain ⟨p, q, hA0, hV, rfl, hfz, hnd⟩ := hW
  have hA : DataW.TrodAll enc Try.prog W 0 (fun _ => true) true Try.f8.params.toList args.toList ds p := hA0
  rw [Try.params8] at hA hval
  obtain ⟨v0, vs0, d0, ds0, p0, q0, hargs, rfl, rfl, h0, r0⟩ := trodAll_cons hA
  obtain ⟨rfl, rfl, rfl⟩ := trodAll_nil r0
  obtain rfl : args = #[v0] := by cases args; simp_all
  obtain ⟨rfl, rfl⟩ := trodVars_none hV
  obtain ⟨a0, len0, cap0, rfl⟩ := okWide_slice Try.underlying22 (hval 0 22 v0 rfl rfl)
  have k0 := h0
  have lt0 : ∀ x ∈ p0, x.block < W.heap.size := by obtain ⟨m, hm⟩ := k0; exact DataW.trod_lt m _ _ _ hm
  obtain ⟨z0, w0⟩ : ∃ zs, IsRow .u8 W a0 len0 cap0 zs := by
    obtain ⟨fuel, hf⟩ := h0
    rcases open_ints Try.underlying22 Try.underlying5 (by kernel_rfl) hf with ⟨hcs, _⟩ | ⟨x, l, c, zs, hcs, _, hl, hm, hz, _, hcell, hwz⟩
    · simp [Value.cells] at hcs
      obtain ⟨rfl, rfl, rfl⟩ := hcs
      exact ⟨[], .inl ⟨rfl, rfl, rfl, rfl⟩⟩
    · simp [Value.cells] at hcs
      obtain ⟨rfl, rfl, rfl⟩ := hcs
      exact ⟨zs, .inr ⟨_, rfl, hl, hm, by simpa using hz, hcell, hwz⟩⟩
  clear hA0 hval0
  refine (walk a0 len0 cap0 z0 W w0).mono fun e W' ⟨he, bel⟩ => ?_
  subst he
  exact ⟨_, rfl, _, _, _, [], _, [], hW', trodAll_mk1 (shut_bool Try.underlying4 _), (trodAll_cons_mk (Below.trod laidOut (by kernel_rfl) (of_decide_eq_true (by kernel_rfl)) k0 bel lt0) trodAll_mk0), rfl, bel.frame _, fun h => by cases h⟩

theorem over : Rows.fnExactMetaOfRow.holds Try.pinned (OpenSpec.ofChange Rows.fnExactMetaOfSpec) :=
  OpenClaim.holds_of_wide 8 Try.f8 rfl rfl rfl rfl rfl rfl rfl ⟨rfl, rfl, rfl, rfl, rfl⟩ rfl rfl rfl rfl rfl (by kernel_rfl) Try.func8 (by kernel_rfl)
    (of_decide_eq_true (by kernel_rfl)) (by unfold Func.isWrapper; first | (rw [if_pos (by decide +kernel)]; kernel_rfl) | (rw [if_neg (by decide +kernel)]; exact ⟨rfl, rfl⟩))
    (fun os started H enc _ => lifted os started H enc)

theorem proved : Rows.FnExactMetaOfSaid := over
end Go.Proofs.Ytkeojhnifnkpiaa.fnExactMetaOf
namespace Go.Proofs.Ytkeojhnifnkpiaa
theorem fnExactMetaOf_holds : Rows.FnExactMetaOfSaid := fnExactMetaOf.proved
end Go.Proofs.Ytkeojhnifnkpiaa

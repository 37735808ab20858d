/- FnExactSlotGet returns true for every two slots, and they read behind the call as before it: SlotGet of the program answers as SlotGet of its model; the type's handle that errors.As asks for is laid as the library's own text lays it, which the card ties to the program's text. -/
import Derived.Test.YtjjdbdkbpmbniaaGreatDoorCards
import Derived.Test.YtjjdbdkbpmbniaaGreatDoorTie
import Derived.WalkKit
import Derived.ProofKit
import Derived.OpenShut
import Derived.ShutString
import Derived.ChangeOld
import Derived.Below
import Derived.Deep.DeepHandedRow
import Derived.Stop.LaidErr
import Derived.LaidMore
import Derived.LaidHandle
import Derived.Test.YtjjdbdkbpmbniaaGreatDoorSlOZ
import Derived.Test.YtjjdbdkbpmbniaaGreatDoorSlW2Z
import Derived.Test.YtjjdbdkbpmbniaaGreatDoorMtRbZ

namespace Go.Proofs.YtjjdbdkbpmbniaaGreatDoor.fnExactSlotGet
open Go.ChangeShapes Go.WideShapes Go.ChangeAt Go.RowKit
set_option linter.unusedVariables false

theorem own : ownKnob Tryz.prog.godebug = none := by kernel_rfl
theorem laidOut : laidOutB Tryz.prog = true := by kernel_rfl
theorem gErr : Tryz.prog.globalNamed "errors.errorType" = some 0 := by kernel_rfl
theorem rtT : (Tryz.prog.cutTypes.find? (·.1 == "internal/reflectlite.rtype")).map (·.2) = some 148 := by kernel_rfl
theorem tsize : Tryz.prog.types.size = 198 := by kernel_rfl
theorem oneRow : ((List.range 198).filter fun t => Tryz.prog.rowNamed t [101, 114, 114, 111, 114]) = [76] := by kernel_rfl
theorem handle {W : World} (h : laidMetH Tryz.prog Rows.fnExactSlotGetRow.laid W) : ErrT W := by
  have h' : laidMet Tryz.prog [] W ∧ handlesMet Tryz.prog [("errors.errorType", Rows.laid_errors_errorType)] W := h
  obtain ⟨name, u, ty, e1, e2, e3, e4, e5⟩ := h'.2 _ (List.mem_singleton.2 rfl)
  have en : name = [101, 114, 114, 111, 114] := (Option.some.inj e1).symm
  subst en
  obtain rfl := Option.some.inj (rtT.symm.trans e2)
  have hm : ty ∈ (List.range 198).filter fun t => Tryz.prog.rowNamed t [101, 114, 114, 111, 114] := List.mem_filter.2 ⟨List.mem_range.2 (by rw [← tsize]; exact e3), e4⟩
  rw [oneRow] at hm
  obtain rfl := List.mem_singleton.1 hm
  have hh : typeHandle Tryz.prog 76 = .pointer (some ⟨1, 76, none⟩) := by kernel_rfl
  rw [hh] at e5
  show W.cell? ⟨0, 0, none⟩ = _
  simpa using World.var?_cell gErr e5 0

theorem OKm.congr {w : World} {B T : Nat} {go : Option Addr} {gc : Nat} {bo : Option Addr} {bc : Nat} {g : List Int} {n : Nat} {L L' : Nat → List Int} (h : OKm w B T go gc bo bc g n L) (e : ∀ i, i < n → L i = L' i) : OKm w B T go gc bo bc g n L' := by
  obtain ⟨hT, hb, R, ho, hs⟩ := h
  refine ⟨hT, hb, R, ho.congr (fun i hi => ?_), hs.lens (fun i hi => by rw [e i hi])⟩
  match i with
  | 0 => rfl
  | i + 1 => exact e i (by omega)
/-- Whatever is asked: both functions answer the same, each in memory of its own. -/
theorem both (A C : List Int) : ∃ (g : List Int) (n : Nat) (L : Nat → List Int) (fi ol he : Bool) (la x : Int) (b : Bool), (g.length + (n + psum L n) ≤ 1000) ∧
    (∀ W aA cA aB cB, VBy W aA cA A → VBy W aB cB C → Calls Tryz.prog 17 #[.agg #[.slice aA A.length cA, .slice aB C.length cB]] W fun e w' => ∃ go bo gc bc, e = .returned (.tuple #[.agg #[.slice go g.length gc, .slice bo n bc, .bool fi, .bool ol, .bool he, .int .i64 la], .int .i64 x, .bool b]) ∧ OKm w' W.heap.size w'.heap.size go gc bo bc g n L ∧ Below W.heap.size W w') ∧
    (∀ W aA cA aB cB, ErrT W → VBy W aA cA A → VBy W aB cB C → Calls Tryz.prog 11 #[.agg #[.slice aA A.length cA, .slice aB C.length cB]] W fun e w' => ∃ go bo gc bc, e = .returned (.tuple #[.agg #[.slice go g.length gc, .slice bo n bc, .bool fi, .bool ol, .bool he, .int .i64 la], .int .i64 x, .bool b]) ∧ OKm w' W.heap.size w'.heap.size go gc bo bc g n L ∧ Below W.heap.size W w') := by
  by_cases hB : Whole ((latL Classical.propDecidable) A C)
  · obtain ⟨g, L, fi, ol, he, la, x, hB⟩ := hB
    obtain ⟨h1, _, h2, _⟩ := mtok_g hB.1
    refine ⟨g, 3, L, fi, ol, he, la, x, true, ?_, fun W aA cA aB cB hA hC => (slotget_spec aA aB cA cB A C W hA hC).mono ?_, fun W aA cA aB cB hg hA hC => (slotget_impl aA aB cA cB A C W hg hA hC).mono ?_⟩
    · have a0 := h2 0 (by omega)
      have a1 := h2 1 (by omega)
      have a2 := h2 2 (by omega)
      simp only [psum]
      omega
    all_goals
      rintro e w' ⟨h, hb⟩
      rcases h with ⟨g', L', fi', ol', he', la', x', go, bo, gc, bc, hB', rfl, ho⟩ | ⟨hno, _⟩
      · obtain ⟨rfl, eL, rfl, rfl, rfl, rfl, rfl⟩ := sl_one hB' hB
        exact ⟨go, bo, gc, bc, rfl, OKm.congr ho eL, hb⟩
      · exact absurd ⟨g, L, fi, ol, he, la, x, hB⟩ hno
  · refine ⟨[], 0, fun _ => [], false, false, false, 0, 0, false, by simp [psum], fun W aA cA aB cB hA hC => (slotget_spec aA aB cA cB A C W hA hC).mono ?_, fun W aA cA aB cB hg hA hC => (slotget_impl aA aB cA cB A C W hg hA hC).mono ?_⟩
    all_goals
      rintro e w' ⟨h, hb⟩
      rcases h with ⟨g', L', fi', ol', he', la', x', go, bo, gc, bc, hB', _⟩ | ⟨_, rfl⟩
      · exact absurd ⟨g', L', fi', ol', he', la', x', hB'⟩ hB
      · exact ⟨none, none, 0, 0, rfl, none_ok hb.size, hb⟩

set_option maxHeartbeats 2000000 in
set_option maxRecDepth 100000 in
theorem walk (aA aB : Option Addr) (cA cB : Nat) (A B : List Int) (w : World) (hg : ErrT w) (hA : VBw w aA cA A) (hB : VBw w aB cB B) :
    Calls Tryz.prog 5 #[.agg #[.slice aA A.length cA, .slice aB B.length cB]] w fun e w' => e = .returned (.bool true) ∧ Below w.heap.size w w' := by
  obtain ⟨W0, hW0⟩ : ∃ W0, W0 = w.alloc (.cells #[.slice aA A.length cA, .slice aB B.length cB] 43) := ⟨_, rfl⟩
  have hb0 : Below w.heap.size w W0 := by rw [hW0]; exact bal1 _ _
  have hP0 : SB W0 w.heap.size 43 aA A.length cA aB B.length cB := by rw [hW0]; exact SB.new w _ _ _ _ _ _ _
  have hsz := hide (szs_any aA aB A.length cA B.length cB 1048576 W0 hA.2.2.1 hB.2.2.1 (by omega) (by omega))
  have HG := hide hg
  have H0 : Hid (Below w.heap.size w W0 ∧ SB W0 w.heap.size 43 aA A.length cA aB B.length cB) := ⟨hb0, hP0⟩
  obtain ⟨p0, p1⟩ := hP0.cells
  go_enter Tryz.func5, Tryz.ntmps5
  go_wp2_with fail
  rw [← hW0]
  clear hW0 hg hb0 hP0
  refine hsz.out.mono ?_
  rintro e ws ⟨hs, bs⟩
  have H1 : Hid (Below w.heap.size w ws ∧ SB ws w.heap.size 43 aA A.length cA aB B.length cB) := ⟨H0.out.1.trans (bs.mono H0.out.1.size), H0.out.2.b bs⟩
  clear bs H0 hsz p0 p1
  rcases hs with ⟨hle, rfl⟩ | rfl
  case inr =>
    go_wp2
    go_ret
    exact ⟨rfl, H1.out.1⟩
  have hkd : ¬ (1048576 : Int) - ((A.length : Int) + (B.length : Int)) < 0 := by omega
  have hlA : A.length ≤ 1048576 := by omega
  have hlB : B.length ≤ 1048576 := by omega
  have hlAB : A.length + B.length ≤ 1048576 := by omega
  have HVA : Hid (VBy w aA cA A) := ⟨hA.1, hA.2.1, hlA, hA.2.2.2⟩
  have HVB : Hid (VBy w aB cB B) := ⟨hB.1, hB.2.1, hlB, hB.2.2.2⟩
  obtain ⟨g, n, L, fi, ol, he, la, x, b, hbd, hspec0, himpl0⟩ := both A B
  have hd : Hid (Bd g n L) := bd_of (by omega)
  have hspec := hide hspec0
  have himpl := hide himpl0
  clear hspec0 himpl0 hA hB
  obtain ⟨p0, p1⟩ := H1.out.2.cells
  go_wp2_with fail
  refine (tos_any aA aB cA cB A B _ (HVA.out.below H1.out.1) (HVB.out.below H1.out.1)).mono ?_
  rintro e w1 ⟨bA, bB, dA, dB, rfl, o1, b1⟩
  have H1b : Hid (Below w.heap.size w w1 ∧ SB w1 w.heap.size 43 aA A.length cA aB B.length cB ∧ OSl w1 ws.heap.size w1.heap.size bA dA bB dB A B) := ⟨H1.out.1.trans (b1.mono H1.out.1.size), H1.out.2.b b1, o1⟩
  clear o1 b1 H1 p0 p1
  go_wp2_with fail
  refine (hspec.out _ _ _ _ _ (H1b.out.2.2.va HVA.out.by) (H1b.out.2.2.vb HVB.out.by)).mono ?_
  rintro e w2 ⟨go2, bo2, gc2, bc2, rfl, o2, b2⟩
  have H2 : Hid (Below w.heap.size w (w2.alloc (.cells #[.slice go2 g.length gc2, .slice bo2 n bc2, .bool fi, .bool ol, .bool he, .int .i64 la] 29)) ∧ KB (w2.alloc (.cells #[.slice go2 g.length gc2, .slice bo2 n bc2, .bool fi, .bool ol, .bool he, .int .i64 la] 29)) (w2.heap.size) 29 go2 g.length gc2 bo2 n bc2 fi ol he la ∧ MV (w2.alloc (.cells #[.slice go2 g.length gc2, .slice bo2 n bc2, .bool fi, .bool ol, .bool he, .int .i64 la] 29)) go2 gc2 bo2 bc2 g n L ∧ (w2.alloc (.cells #[.slice go2 g.length gc2, .slice bo2 n bc2, .bool fi, .bool ol, .bool he, .int .i64 la] 29)).heap.size = w2.heap.size + 1 ∧ w.heap.size < w2.heap.size ∧ SB (w2.alloc (.cells #[.slice go2 g.length gc2, .slice bo2 n bc2, .bool fi, .bool ol, .bool he, .int .i64 la] 29)) w.heap.size 43 aA A.length cA aB B.length cB) := by
    have hx := bal1 w2 (.cells #[.slice go2 g.length gc2, .slice bo2 n bc2, .bool fi, .bool ol, .bool he, .int .i64 la] 29)
    have c2 := H1b.out.1.trans (b2.mono H1b.out.1.size)
    exact ⟨c2.trans (hx.mono c2.size), KB.new w2 _ _ _ _ _ _ _ _ _ _ _, o2.mv.below hx, alsz _ _, Nat.lt_of_lt_of_le H1b.out.2.1.lt b2.size, (H1b.out.2.1.b b2).b hx⟩
  clear o2 b2 H1b hspec
  have hp1 := H2.out.2.2.2.2.2.cells
  obtain ⟨p0, p1⟩ := hp1
  go_wp2_with fail
  generalize w2.alloc (.cells #[.slice go2 g.length gc2, .slice bo2 n bc2, .bool fi, .bool ol, .bool he, .int .i64 la] 29) = W2 at *
  generalize w2.heap.size = X2 at *
  have HV0 : Hid (∀ w', Below (X2 + 1) W2 w' → MV w' go2 gc2 bo2 bc2 g n L ∧ KB w' X2 29 go2 g.length gc2 bo2 n bc2 fi ol he la ∧ Below w.heap.size w w' ∧ SB w' w.heap.size 43 aA A.length cA aB B.length cB) := fun w' hb => by
    have e2 := H2.out.2.2.2.1
    have e3 := H2.out.2.2.2.2.1
    refine ⟨H2.out.2.2.1.below (by rw [e2]; exact hb), H2.out.2.1.below hb (by omega), H2.out.1.trans (hb.mono (by omega)), (hb.block _ (by omega)).trans H2.out.2.2.2.2.2⟩
  refine (tos_any aA aB cA cB A B _ (HVA.out.below H2.out.1) (HVB.out.below H2.out.1)).mono ?_
  rintro e w3 ⟨xA, xB, yA, yB, rfl, o3, b3⟩
  have e2 := H2.out.2.2.2.1
  have hLW : w.heap.size < X2 := H2.out.2.2.2.2.1
  rw [e2] at o3 b3
  have bY := bal1 w3 (.cells #[.slice xA A.length yA, .slice xB B.length yB] 25)
  have hz3 := b3.size
  have H3 : Hid (Below (X2 + 1) W2 (w3.alloc (.cells #[.slice xA A.length yA, .slice xB B.length yB] 25)) ∧ SB (w3.alloc (.cells #[.slice xA A.length yA, .slice xB B.length yB] 25)) w3.heap.size 25 xA A.length yA xB B.length yB ∧ OSl (w3.alloc (.cells #[.slice xA A.length yA, .slice xB B.length yB] 25)) (X2 + 1) w3.heap.size xA yA xB yB A B ∧ X2 + 1 ≤ w3.heap.size) :=
    ⟨b3.trans (bY.mono (by omega)), SB.new w3 _ _ _ _ _ _ _, o3.below bY (Nat.le_refl _), by omega⟩
  clear o3 b3 bY e2 hz3 H2 p0 p1
  go_wp2_with fail
  generalize w3.alloc (.cells #[.slice xA A.length yA, .slice xB B.length yB] 25) = W3 at *
  generalize w3.heap.size = X3 at *
  refine (himpl.out _ _ _ _ _ (HG.out.below (HV0.out _ H3.out.1).2.2.1) (H3.out.2.2.1.va HVA.out.by) (H3.out.2.2.1.vb HVB.out.by)).mono ?_
  rintro e w4 ⟨go4, bo4, gc4, bc4, rfl, o4, b4⟩
  have bX := bal1 w4 (.cells #[.slice go4 g.length gc4, .slice bo4 n bc4, .bool fi, .bool ol, .bool he, .int .i64 la] 29)
  have hz3 := H3.out.2.1.lt
  have hz4 := b4.size
  have h5 := H3.out.2.2.2
  have b34 : Below (X2 + 1) W2 w4 := H3.out.1.trans (b4.mono (by omega))
  have H4 : Hid ((Below (X2 + 1) W2 (w4.alloc (.cells #[.slice go4 g.length gc4, .slice bo4 n bc4, .bool fi, .bool ol, .bool he, .int .i64 la] 29)) ∧ KB (w4.alloc (.cells #[.slice go4 g.length gc4, .slice bo4 n bc4, .bool fi, .bool ol, .bool he, .int .i64 la] 29)) (w4.heap.size) 29 go4 g.length gc4 bo4 n bc4 fi ol he la ∧ OKm (w4.alloc (.cells #[.slice go4 g.length gc4, .slice bo4 n bc4, .bool fi, .bool ol, .bool he, .int .i64 la] 29)) W3.heap.size w4.heap.size go4 gc4 bo4 bc4 g n L) ∧ (SB (w4.alloc (.cells #[.slice go4 g.length gc4, .slice bo4 n bc4, .bool fi, .bool ol, .bool he, .int .i64 la] 29)) X3 25 xA A.length yA xB B.length yB ∧ OSl (w4.alloc (.cells #[.slice go4 g.length gc4, .slice bo4 n bc4, .bool fi, .bool ol, .bool he, .int .i64 la] 29)) (X2 + 1) X3 xA yA xB yB A B) ∧ (X2 + 1 ≤ X3 ∧ X3 < W3.heap.size ∧ W3.heap.size ≤ w4.heap.size)) :=
    ⟨⟨b34.trans (bX.mono (by omega)), KB.new w4 _ _ _ _ _ _ _ _ _ _ _, o4.below bX (Nat.le_refl _)⟩, ⟨(H3.out.2.1.b b4).b bX, (H3.out.2.2.1.below b4 (by omega)).below bX (by omega)⟩, h5, hz3, hz4⟩
  obtain ⟨y0, y1, y2, y3, y4, y5⟩ := (HV0.out w4 b34).2.1.cells
  have hlt4 : X2 < w4.heap.size := by omega
  clear bX b34 b4 o4 H3 hz4 h5
  go_wp2_with fail
  generalize w4.alloc (.cells #[.slice go4 g.length gc4, .slice bo4 n bc4, .bool fi, .bool ol, .bool he, .int .i64 la] 29) = W4 at *
  generalize w4.heap.size = X4 at *
  generalize W3.heap.size = B4 at *
  clear y0 y1 y2 y3 y4 y5
  refine (eqm_yes go4 bo4 go2 bo2 gc4 bc4 gc2 bc2 g n L fi ol he la _ hd.out H4.out.1.2.2.mv (HV0.out _ H4.out.1.1).1).mono ?_
  rintro e w5 ⟨rfl, b5⟩
  have hXs : X2 + 1 ≤ W4.heap.size := by have := H4.out.1.2.1.lt; have := H4.out.2.2; omega
  have hX4s : X4 < W4.heap.size := H4.out.1.2.1.lt
  have H5 : Hid ((Below (X2 + 1) W2 w5 ∧ KB (w5) (X4) 29 go4 g.length gc4 bo4 n bc4 fi ol he la ∧ OKm w5 B4 X4 go4 gc4 bo4 bc4 g n L) ∧ (SB w5 X3 25 xA A.length yA xB B.length yB ∧ OSl w5 (X2 + 1) X3 xA yA xB yB A B) ∧ (X2 + 1 ≤ X3 ∧ X3 < B4 ∧ B4 ≤ X4)) :=
    ⟨⟨H4.out.1.1.trans (b5.mono hXs), H4.out.1.2.1.b b5, H4.out.1.2.2.below b5 H4.out.1.2.2.1.2⟩, ⟨H4.out.2.1.1.b b5, H4.out.2.1.2.below b5 (by have := H4.out.2.2; omega)⟩, H4.out.2.2⟩
  clear b5 H4 hXs hlt4 hX4s hz3
  cases b
  all_goals
    have hX5 : X4 < w5.heap.size := H5.out.1.2.1.lt
    have h7 := H5.out.2.2
    have H5d : Hid ((Below (X2 + 1) W2 w5.drew ∧ KB (w5.drew) (X4) 29 go4 g.length gc4 bo4 n bc4 fi ol he la ∧ OKm w5.drew B4 X4 go4 gc4 bo4 bc4 g n L) ∧ (SB w5.drew X3 25 xA A.length yA xB B.length yB ∧ OSl w5.drew (X2 + 1) X3 xA yA xB yB A B) ∧ (X2 + 1 ≤ X3 ∧ X3 < B4 ∧ B4 ≤ X4)) := by
      have bd : Below w5.heap.size w5 w5.drew := Below.drawn (Below.refl _ _) 1
      exact ⟨⟨H5.out.1.1.trans (bd.mono (by omega)), H5.out.1.2.1.b bd, H5.out.1.2.2.below bd H5.out.1.2.2.1.2⟩, ⟨H5.out.2.1.1.b bd, H5.out.2.1.2.below bd (by omega)⟩, h7⟩
    have hto := hide (tos_any aA aB cA cB A B w5.drew (HVA.out.below (HV0.out _ H5d.out.1.1).2.2.1) (HVB.out.below (HV0.out _ H5d.out.1.1).2.2.1))
    have hS := And.intro (HV0.out _ H5d.out.1.1).2.2.2.cells H5d.out.2.1.1.cells
    have hX5d : X4 < w5.drew.heap.size := hX5
    clear H5
    go_wp2_with fail
    go_region_held3 (fun w' => (w'.cell? ⟨w.heap.size, 0, none⟩ = some (.slice aA A.length cA) ∧ w'.cell? ⟨w.heap.size, 1, none⟩ = some (.slice aB B.length cB)) ∧ (w'.cell? ⟨X3, 0, none⟩ = some (.slice xA A.length yA) ∧ w'.cell? ⟨X3, 1, none⟩ = some (.slice xB B.length yB))) (first | with_reducible assumption | exact hS) (first
      | (go_at_call 23; refine hto.out.mono ?_; rintro e w6 ⟨tA, tB, uA, uB, rfl, o6, b6⟩; have H6 : Hid ((Below (X2 + 1) W2 w6 ∧ KB (w6) (X4) 29 go4 g.length gc4 bo4 n bc4 fi ol he la ∧ OKm w6 B4 X4 go4 gc4 bo4 bc4 g n L) ∧ (SB w6 X3 25 xA A.length yA xB B.length yB ∧ OSl w6 (X2 + 1) X3 xA yA xB yB A B) ∧ (X2 + 1 ≤ X3 ∧ X3 < B4 ∧ B4 ≤ X4) ∧ (VBy w6 tA uA A ∧ VBy w6 tB uB B)) := ⟨⟨H5d.out.1.1.trans (b6.mono (by omega)), H5d.out.1.2.1.b b6, H5d.out.1.2.2.below b6 H5d.out.1.2.2.1.2⟩, ⟨H5d.out.2.1.1.b b6, H5d.out.2.1.2.below b6 (by omega)⟩, h7, o6.va HVA.out.by, o6.vb HVB.out.by⟩; have hk6 := And.intro (HV0.out _ H6.out.1.1).2.2.2.cells H6.out.2.1.1.cells; clear o6 b6)
      | (go_at_call 25; refine (eqs_yes xA xB tA tB yA yB uA uB A B _ (H6.out.2.1.2.va HVA.out.by) (H6.out.2.1.2.vb HVB.out.by) H6.out.2.2.2.1 H6.out.2.2.2.2).mono ?_; rintro e w7 ⟨rfl, b7⟩; have h6 := H6.out.1.2.1.lt; have H7 : Hid ((Below (X2 + 1) W2 w7 ∧ KB (w7) (X4) 29 go4 g.length gc4 bo4 n bc4 fi ol he la ∧ OKm w7 B4 X4 go4 gc4 bo4 bc4 g n L) ∧ (SB w7 X3 25 xA A.length yA xB B.length yB ∧ OSl w7 (X2 + 1) X3 xA yA xB yB A B) ∧ (X2 + 1 ≤ X3 ∧ X3 < B4 ∧ B4 ≤ X4)) := ⟨⟨H6.out.1.1.trans (b7.mono (by omega)), H6.out.1.2.1.b b7, H6.out.1.2.2.below b7 H6.out.1.2.2.1.2⟩, ⟨H6.out.2.1.1.b b7, H6.out.2.1.2.below b7 (by omega)⟩, h7⟩; have hk7 := And.intro (HV0.out _ H7.out.1.1).2.2.2.cells H7.out.2.1.1.cells; clear b7))
    clear hto H5d H6 hk6 hS hk7 h6 h7 hX5 hX5d
    obtain ⟨z0, z1⟩ := H7.out.2.1.1.cells
    go_wp2_with fail
    refine (marks_any xA xB yA yB (X2 + 1) X3 A B 1 _ ⟨hlA, hlB⟩ (by decide) (by decide) H7.out.2.1.2).mono ?_
    rintro e w8 ⟨rfl, _, y8⟩
    have h7 := H7.out.2.2
    have h6 := H7.out.1.2.1.lt
    have H8 : Hid ((Below (X2 + 1) W2 w8 ∧ KB (w8) (X4) 29 go4 g.length gc4 bo4 n bc4 fi ol he la ∧ OKm w8 B4 X4 go4 gc4 bo4 bc4 g n L) ∧ (X2 + 1 ≤ X3 ∧ X3 < B4 ∧ B4 ≤ X4)) :=
      ⟨⟨H7.out.1.1.trans y8.1, (y8.2 X4 h6 (by omega)).trans H7.out.1.2.1, H7.out.1.2.2.kept (fun j h1 h2 => y8.2 j (by omega) (by omega)) y8.1.size⟩, h7⟩
    clear y8 H7 h6 h7 z0 z1
    obtain ⟨x0, x1, x2, x3, x4, x5⟩ := H8.out.1.2.1.cells
    obtain ⟨y0, y1, y2, y3, y4, y5⟩ := (HV0.out w8 H8.out.1.1).2.1.cells
    have hkp : ¬ (1 : Int) + ((A.length : Int) + (B.length : Int)) < 0 := by omega
    go_wp2_with fail
    refine (eqm_yes go4 bo4 go2 bo2 gc4 bc4 gc2 bc2 g n L fi ol he la _ hd.out H8.out.1.2.2.mv (HV0.out _ H8.out.1.1).1).mono ?_
    rintro e w9 ⟨rfl, b9⟩
    have H9 : Hid ((Below (X2 + 1) W2 w9 ∧ KB (w9) (X4) 29 go4 g.length gc4 bo4 n bc4 fi ol he la ∧ OKm w9 B4 X4 go4 gc4 bo4 bc4 g n L) ∧ (X2 + 1 ≤ X3 ∧ X3 < B4 ∧ B4 ≤ X4)) := by
      have h7 := H8.out.2
      have h8 := H8.out.1.2.1.lt
      exact ⟨⟨H8.out.1.1.trans (b9.mono (by omega)), H8.out.1.2.1.b b9, H8.out.1.2.2.below b9 H8.out.1.2.2.1.2⟩, h7⟩
    clear b9 H8 x0 x1 x2 x3 x4 x5 y0 y1 y2 y3 y4 y5 hkp
    obtain ⟨x0, x1, x2, x3, x4, x5⟩ := H9.out.1.2.1.cells
    go_wp2_with fail
    refine (markm_any go4 bo4 gc4 bc4 B4 X4 g n L fi ol he la 1 _ (by omega) (by omega) (by omega) H9.out.1.2.2).mono ?_
    rintro e w10 ⟨rfl, o10, n10⟩
    have H10 : Hid ((Below (X2 + 1) W2 w10 ∧ KB (w10) (X4) 29 go4 g.length gc4 bo4 n bc4 fi ol he la ∧ OKm w10 B4 X4 go4 gc4 bo4 bc4 (mgs g 1) n (mbs g L n 1)) ∧ (X2 + 1 ≤ X3 ∧ X3 < B4 ∧ B4 ≤ X4)) := by
      have h7 := H9.out.2
      exact ⟨⟨H9.out.1.1.trans (n10.1.mono (by omega)), (n10.2 X4 H9.out.1.2.1.lt (Nat.le_refl _)).trans H9.out.1.2.1, o10⟩, h7⟩
    clear o10 n10 H9 x0 x1 x2 x3 x4 x5
    obtain ⟨x0, x1, x2, x3, x4, x5⟩ := H10.out.1.2.1.cells
    generalize hK : 1 + ((g.length : Int) + (psum L n : Int)) = K at *
    have HK := hide hK
    have hKp : ¬ K < 0 := by omega
    clear hK
    go_wp2_with fail
    refine (heldm_any go4 bo4 gc4 bc4 g n L fi ol he la 1 _ (by omega) (by omega) (by omega) H10.out.1.2.2.mv).mono ?_
    rintro e w11 ⟨rfl, b11⟩
    rw [HK.out]
    have H11 : Hid ((Below (X2 + 1) W2 w11 ∧ KB (w11) (X4) 29 go4 g.length gc4 bo4 n bc4 fi ol he la ∧ MV w11 go4 gc4 bo4 bc4 (mgs g 1) n (mbs g L n 1)) ∧ (X2 + 1 ≤ X3 ∧ X3 < B4 ∧ B4 ≤ X4)) := by
      have h7 := H10.out.2
      have h8 := H10.out.1.2.1.lt
      exact ⟨⟨H10.out.1.1.trans (b11.mono (by omega)), H10.out.1.2.1.b b11, H10.out.1.2.2.mv.below b11⟩, h7⟩
    clear b11 H10 x0 x1 x2 x3 x4 x5
    obtain ⟨p0, p1⟩ := (HV0.out _ H11.out.1.1).2.2.2.cells
    go_wp2_with fail
    refine (tos_any aA aB cA cB A B _ (HVA.out.below (HV0.out _ H11.out.1.1).2.2.1) (HVB.out.below (HV0.out _ H11.out.1.1).2.2.1)).mono ?_
    rintro e w12 ⟨tA, tB, uA, uB, rfl, o12, b12⟩
    have H12 : Hid ((Below (X2 + 1) W2 w12 ∧ KB (w12) (X4) 29 go4 g.length gc4 bo4 n bc4 fi ol he la ∧ MV w12 go4 gc4 bo4 bc4 (mgs g 1) n (mbs g L n 1)) ∧ (X2 + 1 ≤ X3 ∧ X3 < B4 ∧ B4 ≤ X4) ∧ (VBy w12 tA uA A ∧ VBy w12 tB uB B)) := by
      have h7 := H11.out.2
      have h8 := H11.out.1.2.1.lt
      exact ⟨⟨H11.out.1.1.trans (b12.mono (by omega)), H11.out.1.2.1.b b12, H11.out.1.2.2.below b12⟩, h7, o12.va HVA.out.by, o12.vb HVB.out.by⟩
    clear o12 b12 H11 p0 p1
    go_wp2_with fail
    refine (himpl.out _ _ _ _ _ (HG.out.below (HV0.out _ H12.out.1.1).2.2.1) H12.out.2.2.1 H12.out.2.2.2).mono ?_
    rintro e w13 ⟨go13, bo13, gc13, bc13, rfl, o13, b13⟩
    have bX := bal1 w13 (.cells #[.slice go13 g.length gc13, .slice bo13 n bc13, .bool fi, .bool ol, .bool he, .int .i64 la] 29)
    have h7 := H12.out.2.1
    have h8 := H12.out.1.2.1.lt
    have b13' : Below (X2 + 1) W2 w13 := H12.out.1.1.trans (b13.mono (by omega))
    have h9 := b13.size
    have H13 : Hid ((Below (X2 + 1) W2 (w13.alloc (.cells #[.slice go13 g.length gc13, .slice bo13 n bc13, .bool fi, .bool ol, .bool he, .int .i64 la] 29)) ∧ KB (w13.alloc (.cells #[.slice go13 g.length gc13, .slice bo13 n bc13, .bool fi, .bool ol, .bool he, .int .i64 la] 29)) (X4) 29 go4 g.length gc4 bo4 n bc4 fi ol he la ∧ MV (w13.alloc (.cells #[.slice go13 g.length gc13, .slice bo13 n bc13, .bool fi, .bool ol, .bool he, .int .i64 la] 29)) go4 gc4 bo4 bc4 (mgs g 1) n (mbs g L n 1)) ∧ MV (w13.alloc (.cells #[.slice go13 g.length gc13, .slice bo13 n bc13, .bool fi, .bool ol, .bool he, .int .i64 la] 29)) go13 gc13 bo13 bc13 g n L ∧ X2 + 1 ≤ (w13.alloc (.cells #[.slice go13 g.length gc13, .slice bo13 n bc13, .bool fi, .bool ol, .bool he, .int .i64 la] 29)).heap.size) := by
      have h10 := bX.size
      exact ⟨⟨b13'.trans (bX.mono (by omega)), (H12.out.1.2.1.b b13).b bX, (H12.out.1.2.2.below b13).below bX⟩, o13.mv.below bX, by omega⟩
    obtain ⟨y0, y1, y2, y3, y4, y5⟩ := (HV0.out w13 b13').2.1.cells
    have hlt13 : X2 < w13.heap.size := by omega
    clear o13 b13 b13' bX H12 h7 h8 h9
    go_wp2_with fail
    generalize w13.alloc (.cells #[.slice go13 g.length gc13, .slice bo13 n bc13, .bool fi, .bool ol, .bool he, .int .i64 la] 29) = W13 at *
    clear y0 y1 y2 y3 y4 y5 hlt13
    refine (eqm_yes go13 bo13 go2 bo2 gc13 bc13 gc2 bc2 g n L fi ol he la _ hd.out H13.out.2.1 (HV0.out _ H13.out.1.1).1).mono ?_
    rintro e w14 ⟨rfl, b14⟩
    have H14 : Hid (Below (X2 + 1) W2 w14 ∧ KB (w14) (X4) 29 go4 g.length gc4 bo4 n bc4 fi ol he la ∧ MV w14 go4 gc4 bo4 bc4 (mgs g 1) n (mbs g L n 1)) :=
      ⟨H13.out.1.1.trans (b14.mono H13.out.2.2), H13.out.1.2.1.b b14, H13.out.1.2.2.below b14⟩
    clear b14 H13
    obtain ⟨x0, x1, x2, x3, x4, x5⟩ := H14.out.2.1.cells
    go_wp2_with fail
    refine (heldm_any go4 bo4 gc4 bc4 g n L fi ol he la 1 _ (by omega) (by omega) (by omega) H14.out.2.2).mono ?_
    rintro e w15 ⟨rfl, b15⟩
    rw [HK.out]
    have H15 := hide ((HV0.out _ H14.out.1).2.2.1.trans (b15.mono (HV0.out _ H14.out.1).2.2.1.size))
    clear b15
    go_wp2
    go_ret
    exact ⟨rfl, H15.out⟩

set_option maxRecDepth 100000 in
theorem contract (H : Type) (enc : TypeId × Value → H) (W : World) (base : Nat) (args : Array Value) (ds gs : List (DataW H)) (before : List MemPlace)
    (hval : ∀ (j : Nat) t v, Tryz.f5.params[j]? = some t → args[j]? = some v → Value.okWide Tryz.prog W .any base t v)
    (hW : DataW.Whole enc Tryz.prog Tryz.f5.params.toList Rows.fnExactSlotGetSpec.vars false W args.toList ds gs before) (hL0 : laidMetH Tryz.prog Rows.fnExactSlotGetRow.laid W) :
    Calls Tryz.prog 5 args W fun e W' => ∃ v, e = .returned v ∧ Rows.fnExactSlotGetSpec.post enc Tryz.prog Tryz.f5 false true false false W args v W' := by
  have hW' := hW
  obtain ⟨p, q, hA0, hV, rfl, hfz, hnd⟩ := hW
  have hAll : DataW.TrodAll enc Tryz.prog W 0 (fun _ => true) true Tryz.f5.params.toList args.toList ds p := hA0
  rw [Tryz.params5] at hAll hval
  obtain ⟨v0, vs0, d0, ds0, p0, q0, hargs0, rfl, rfl, h0, r0⟩ := trodAll_cons hAll
  obtain ⟨rfl, rfl, rfl⟩ := trodAll_nil r0
  obtain rfl : args = #[v0] := by cases args; simp_all
  obtain ⟨rfl, rfl⟩ := trodVars_none hV
  have k0 := h0
  have lt0 : ∀ x ∈ p0, x.block < W.heap.size := by obtain ⟨m, hm⟩ := k0; exact DataW.trod_lt m _ _ _ hm
  obtain ⟨cs0, rfl, _⟩ := okWide_struct Tryz.underlying43 (hval 0 43 v0 rfl rfl)
  obtain ⟨aA, aB, cA, cB, A, B, hcs0, hA, hB⟩ : ∃ (aA aB : Option Addr) (cA cB : Nat) (A B : List Int), cs0 = #[.slice aA A.length cA, .slice aB B.length cB] ∧ VBw W aA cA A ∧ VBw W aB cB B := by
    obtain ⟨fuel, hf⟩ := h0
    obtain ⟨aA, aB, cA, cB, A, B, e, h1, h2⟩ := open_slots hf
    refine ⟨aA, aB, cA, cB, A, B, ?_, h1, h2⟩
    obtain ⟨l⟩ := cs0
    simpa [Value.cells] using e
  subst hcs0
  clear hA0
  refine (walk aA aB cA cB A B W (handle hL0) hA hB).mono fun e W' ⟨he, bel⟩ => ?_
  subst he
  exact ⟨_, rfl, _, _, _, [], _, [], hW', trodAll_mk1 (shut_bool Tryz.underlying4 _), (trodAll_cons_mk (Below.trod laidOut (by kernel_rfl) (of_decide_eq_true (by kernel_rfl)) k0 bel lt0) trodAll_mk0), rfl, bel.frame _, fun h => by cases h⟩

/-- A world that meets the condition: the variable's cell laid. -/
def laidWorld (w0 : World) : World :=
  { w0 with heap := w0.heap.modify 0 fun
      | .cells _ t frozen => .cells #[.iface 148 (.agg #[.pointer (some ⟨1, 76, none⟩)])] t frozen
      | o => o }
theorem laid_met (os : Os) (args : Array Value) : laidMetH Tryz.prog Rows.fnExactSlotGetRow.laid ((laidWorld (World.holding Tryz.prog os ⟨#[], #[], []⟩)).forCall (fun _ _ => 0) ⟨#[], args, []⟩).memory :=
  laidMetH_of_parts (laidMet_nil _ _) (by kernel_rfl)
theorem reads (os : Os) {H : Type} (enc : TypeId × Value → H) : ∃ places, DataW.whole enc Tryz.prog ((laidWorld (World.holding Tryz.prog os ⟨#[], #[], []⟩)).forCall (fun _ _ => 0) ⟨#[], #[.agg #[.slice none 0 0, .slice none 0 0]], []⟩).memory Tryz.f5.params.toList Rows.fnExactSlotGetSpec.vars false #[.agg #[.slice none 0 0, .slice none 0 0]].toList 8 = some ([.agg [.nil, .nil]], [], places) :=
  ⟨[], by kernel_rfl⟩

set_option maxRecDepth 100000 in
theorem lifted (os : Os) (started : os.Started) (H : Type) (enc : TypeId × Value → H) (F : Stop.Interp) :
    ReturnsInHanded {} Tryz.checked os 5 .any ((OpenSpec.ofChange Rows.fnExactSlotGetSpec).preRow enc Tryz.prog Tryz.f5 Rows.fnExactSlotGetRow.domain false Rows.fnExactSlotGetRow.laid) (((OpenSpec.ofChange Rows.fnExactSlotGetSpec).at F).post enc Tryz.prog Tryz.f5 false true false false) := by
  obtain ⟨places, hx⟩ := reads os enc
  refine returnsInHanded_of_row (C := Tryz.checked) (s := OpenSpec.ofChange Rows.fnExactSlotGetSpec) own started (by kernel_rfl) Tryz.func5
    (witness_row_at (enc := enc) (C := Tryz.checked) false (laidWorld (World.holding Tryz.prog os ⟨#[], #[], []⟩)) #[.agg #[.slice none 0 0, .slice none 0 0]] rfl (by kernel_rfl) (by kernel_rfl) (by kernel_rfl)
      (OpenSpec.preRow_of_cond 8 hx (by kernel_rfl) (fun k hk => by cases hk) (by kernel_rfl) (laid_met os _))) ?_
  intro W base args ds gs before hval hW _ _ _ hL _ _
  exact contract H enc W base args ds gs before hval hW hL

theorem said : Rows.FnExactSlotGetSaid :=
  OpenClaim.holds_of_cond 5 Tryz.f5 rfl rfl rfl rfl rfl rfl rfl ⟨rfl, rfl, rfl, rfl, rfl⟩ rfl rfl rfl rfl rfl (by kernel_rfl) Tryz.func5 (by kernel_rfl)
    (of_decide_eq_true (by kernel_rfl)) (by unfold Func.isWrapper; first | (rw [if_pos (by decide +kernel)]; kernel_rfl) | (rw [if_neg (by decide +kernel)]; exact ⟨rfl, rfl⟩))
    (fun os started H enc _ F => by rw [OpenClaim.pre_eq_preRow]; exact lifted os started H enc F)

theorem plain (f : FuncId) (fn : Func) (hf : Tryz.pinned.checked.prog.funcNamed "loop.example/g00399/laws.FnExactSlotGet" = some f) (hfn : Tryz.pinned.checked.prog.funcs[f]? = some fn) :
    true = Tryz.pinned.checked.prog.looks [] ∧ ∀ (j : Nat) t, fn.params[j]? = some t → Tryz.pinned.checked.prog.wantsStandIn t = false := by
  obtain rfl : f = 5 := Option.some.inj ((show Tryz.prog.funcNamed "loop.example/g00399/laws.FnExactSlotGet" = some 5 by kernel_rfl).symm.trans hf) |>.symm
  obtain rfl : fn = Tryz.f5 := (Option.some.inj (Tryz.func5.symm.trans hfn)).symm
  refine ⟨by kernel_rfl, fun j t ht => ?_⟩
  rw [Tryz.params5] at ht
  have ht' : t = 43 := by simpa using Array.mem_of_getElem? ht
  rcases ht' with rfl
  · exact (show Tryz.prog.wantsStandIn 43 = false by kernel_rfl)

theorem card : Rows.FnExactSlotGetCardSaid :=
  Claim7.holds_tied_plain_at .later [] _ _ _ _ said (fun _ h => by cases h) (by kernel_rfl) (fun _ h => by cases h) fnExactSlotGet_row_tie rfl ⟨rfl, rfl⟩ (by kernel_rfl) rfl plain (by kernel_rfl)
end Go.Proofs.YtjjdbdkbpmbniaaGreatDoor.fnExactSlotGet
namespace Go.Proofs.YtjjdbdkbpmbniaaGreatDoor
theorem fnExactSlotGet_card : Rows.FnExactSlotGetCardSaid := fnExactSlotGet.card
end Go.Proofs.YtjjdbdkbpmbniaaGreatDoor

/- FnExactSlotPut returns true for every two slots and every meta, and they read behind the call as before it: SlotPut of the program answers as SlotPut of its model; the type's handle that errors.As asks for is laid as the library's own text lays it, which the card ties to the program's text. -/
import Derived.Test.YtjjdbdkbpmbniaaGreatDoorCards
import Derived.Test.YtjjdbdkbpmbniaaGreatDoorTie
import Derived.WalkKit
import Derived.ProofKit
import Derived.OpenShut
import Derived.ShutString
import Derived.ChangeOld
import Derived.Below
import Derived.Deep.DeepHandedRow
import Derived.Stop.LaidErr
import Derived.LaidMore
import Derived.LaidHandle
import Derived.Test.YtjjdbdkbpmbniaaGreatDoorSlOZ
import Derived.Test.YtjjdbdkbpmbniaaGreatDoorSlRgZ
import Derived.Test.YtjjdbdkbpmbniaaGreatDoorMtRbZ

namespace Go.Proofs.YtjjdbdkbpmbniaaGreatDoor.fnExactSlotPut
open Go.ChangeShapes Go.WideShapes Go.ChangeAt Go.RowKit
set_option linter.unusedVariables false

theorem own : ownKnob Tryz.prog.godebug = none := by kernel_rfl
theorem laidOut : laidOutB Tryz.prog = true := by kernel_rfl
theorem gErr : Tryz.prog.globalNamed "errors.errorType" = some 0 := by kernel_rfl
theorem rtT : (Tryz.prog.cutTypes.find? (·.1 == "internal/reflectlite.rtype")).map (·.2) = some 148 := by kernel_rfl
theorem tsize : Tryz.prog.types.size = 198 := by kernel_rfl
theorem oneRow : ((List.range 198).filter fun t => Tryz.prog.rowNamed t [101, 114, 114, 111, 114]) = [76] := by kernel_rfl
theorem handle {W : World} (h : laidMetH Tryz.prog Rows.fnExactSlotPutRow.laid W) : ErrT W := by
  have h' : laidMet Tryz.prog [] W ∧ handlesMet Tryz.prog [("errors.errorType", Rows.laid_errors_errorType)] W := h
  obtain ⟨name, u, ty, e1, e2, e3, e4, e5⟩ := h'.2 _ (List.mem_singleton.2 rfl)
  have en : name = [101, 114, 114, 111, 114] := (Option.some.inj e1).symm
  subst en
  obtain rfl := Option.some.inj (rtT.symm.trans e2)
  have hm : ty ∈ (List.range 198).filter fun t => Tryz.prog.rowNamed t [101, 114, 114, 111, 114] := List.mem_filter.2 ⟨List.mem_range.2 (by rw [← tsize]; exact e3), e4⟩
  rw [oneRow] at hm
  obtain rfl := List.mem_singleton.1 hm
  have hh : typeHandle Tryz.prog 76 = .pointer (some ⟨1, 76, none⟩) := by kernel_rfl
  rw [hh] at e5
  show W.cell? ⟨0, 0, none⟩ = _
  simpa using World.var?_cell gErr e5 0

/-- Whatever is asked: both functions answer the same, each in memory of its own. -/
theorem both (A C : List Int) (g : List Int) (n : Nat) (L : Nat → List Int) (fi ol he : Bool) (la : Int) (hd : Bd g n L) (hA : By A) (hC : By C) : ∃ PA PB, By PA ∧ By PB ∧
    (∀ W aA cA aB cB go gc bo bc, VBy W aA cA A → VBy W aB cB C → NC aA cA → NC aB cB → MV W go gc bo bc g n L → Calls Tryz.prog 15 #[.agg #[.slice aA A.length cA, .slice aB C.length cB], .agg #[.slice go g.length gc, .slice bo n bc, .bool fi, .bool ol, .bool he, .int .i64 la]] W fun e w' => PtOut W w' PA PB e) ∧
    (∀ W aA cA aB cB go gc bo bc, ErrT W → VBy W aA cA A → VBy W aB cB C → NC aA cA → NC aB cB → MV W go gc bo bc g n L → Calls Tryz.prog 12 #[.agg #[.slice aA A.length cA, .slice aB C.length cB], .agg #[.slice go g.length gc, .slice bo n bc, .bool fi, .bool ol, .bool he, .int .i64 la]] W fun e w' => PtOut W w' PA PB e) :=
  ⟨_, _, ptA_by hA (slm_by _ _ _ _ _ _ _ _), ptB_by hC (slm_by _ _ _ _ _ _ _ _), fun W aA cA aB cB go gc bo bc h1 h2 h3 h4 h5 => slotput_spec aA aB cA cB A C go bo gc bc g n L fi ol he la W h1 h2 h3 h4 hd h5, fun W aA cA aB cB go gc bo bc h0 h1 h2 h3 h4 h5 => slotput_impl aA aB cA cB A C go bo gc bc g n L fi ol he la W h0 h1 h2 h3 h4 hd h5⟩

set_option maxHeartbeats 4000000 in
set_option maxRecDepth 100000 in
theorem walk (aA aB : Option Addr) (cA cB : Nat) (A B : List Int) (go bo : Option Addr) (gc bc : Nat) (g : List Int) (n : Nat) (L : Nat → List Int) (fi ol he : Bool) (la : Int) (w : World) (hg : ErrT w) (hA : VBw w aA cA A) (hB : VBw w aB cB B) (hv : MV w go gc bo bc g n L) (hgl : g.length ≤ 9223372036854775807) (hn : n ≤ 9223372036854775807) (hL : ∀ i, i < n → (L i).length ≤ 9223372036854775807) :
    Calls Tryz.prog 6 #[.agg #[.slice aA A.length cA, .slice aB B.length cB], .agg #[.slice go g.length gc, .slice bo n bc, .bool fi, .bool ol, .bool he, .int .i64 la]] w fun e w' => e = .returned (.bool true) ∧ Below w.heap.size w w' := by
  obtain ⟨W0, hW0⟩ : ∃ W0, W0 = (w.alloc (.cells #[.slice aA A.length cA, .slice aB B.length cB] 43)).alloc (.cells #[.slice go g.length gc, .slice bo n bc, .bool fi, .bool ol, .bool he, .int .i64 la] 50) := ⟨_, rfl⟩
  have hb0 : Below w.heap.size w W0 := by rw [hW0]; exact (bal1 _ _).alloc (by simp) _
  have hP0 : SB W0 w.heap.size 43 aA A.length cA aB B.length cB := by rw [hW0]; exact (SB.new w _ _ _ _ _ _ _).b (bal1 _ _)
  have hP1 : KB (W0) (w.heap.size + 1) 50 go g.length gc bo n bc fi ol he la := by
    have := KB.new (w.alloc (.cells #[.slice aA A.length cA, .slice aB B.length cB] 43)) 50 go g.length gc bo n bc fi ol he la
    rw [alsz] at this
    rw [hW0]; exact this
  have hsz := hide (szs_any aA aB A.length cA B.length cB 1048576 W0 hA.2.2.1 hB.2.2.1 (by omega) (by omega))
  have HG := hide hg
  have H0 : Hid (Below w.heap.size w W0 ∧ SB W0 w.heap.size 43 aA A.length cA aB B.length cB ∧ KB (W0) (w.heap.size + 1) 50 go g.length gc bo n bc fi ol he la) := ⟨hb0, hP0, hP1⟩
  have HV := hide hv
  have HL := hide hL
  obtain ⟨p0, p1⟩ := hP0.cells
  go_enter Tryz.func6, Tryz.ntmps6
  go_wp2_with fail
  rw [← hW0]
  clear hW0 hg hb0 hP0 hP1 hv hL
  refine hsz.out.mono ?_
  rintro e ws ⟨hs, bs⟩
  have H1 : Hid (Below w.heap.size w ws ∧ SB ws w.heap.size 43 aA A.length cA aB B.length cB ∧ KB (ws) (w.heap.size + 1) 50 go g.length gc bo n bc fi ol he la) := ⟨H0.out.1.trans (bs.mono H0.out.1.size), H0.out.2.1.b bs, H0.out.2.2.b bs⟩
  clear bs H0 hsz p0 p1
  rcases hs with ⟨hle, rfl⟩ | rfl
  case inr =>
    go_wp2
    go_ret
    exact ⟨rfl, H1.out.1⟩
  have hkd : ¬ (1048576 : Int) - ((A.length : Int) + (B.length : Int)) < 0 := by omega
  have hlA : A.length ≤ 1048576 := by omega
  have hlB : B.length ≤ 1048576 := by omega
  have HVA : Hid (VBy w aA cA A) := ⟨hA.1, hA.2.1, hlA, hA.2.2.2⟩
  have HVB : Hid (VBy w aB cB B) := ⟨hB.1, hB.2.1, hlB, hB.2.2.2⟩
  clear hA hB
  obtain ⟨m0, m1, m2, m3, m4, m5⟩ := H1.out.2.2.cells
  go_wp2_with fail
  refine (szm_any go bo gc bc g n L fi ol he la (1048576 - ((A.length : Int) + (B.length : Int))) ws hgl hn HL.out (by omega) (by omega) (HV.out.below H1.out.1)).mono ?_
  rintro e wm ⟨hs, bs⟩
  have H1m : Hid (Below w.heap.size w wm ∧ SB wm w.heap.size 43 aA A.length cA aB B.length cB ∧ KB (wm) (w.heap.size + 1) 50 go g.length gc bo n bc fi ol he la) := ⟨H1.out.1.trans (bs.mono H1.out.1.size), H1.out.2.1.b bs, H1.out.2.2.b bs⟩
  have HBm : Hid (Below w.heap.size w wm) := H1.out.1.trans (bs.mono H1.out.1.size)
  clear bs H1 m0 m1 m2 m3 m4 m5
  rcases hs with ⟨hle2, rfl⟩ | rfl
  case inr =>
    go_wp2
    go_ret
    exact ⟨rfl, HBm.out⟩
  have hkd2 : ¬ (1048576 : Int) - ((A.length : Int) + (B.length : Int)) - ((g.length : Int) + ((n : Int) + (psum L n : Int))) < 0 := by omega
  have hmb : g.length + (n + psum L n) ≤ 1048576 := by omega
  have hd : Hid (Bd g n L) := bd_of (by omega)
  obtain ⟨PA, PB, hPA, hPB, hspec0, himpl0⟩ := both A B g n L fi ol he la hd.out HVA.out.by HVB.out.by
  have HPA := hide hPA
  have HPB := hide hPB
  have hspec := hide hspec0
  have himpl := hide himpl0
  clear hspec0 himpl0 hPA hPB HL
  go_wp2_with fail
  refine rgS _ _ _ _ _ _ _ _ _ _ _ _ _ _ _ _ _ _ _ _ _ _ _ _ _ _ _ _ _ _ _ _ _ _ _ _ _ _ _ _ _ _ _ _ _ _ _ _ _ _ _ _ _ _ _ _ _ _ _ _ _ _ _ _ _ _ _ _ _ _ _ _ _ _ _ _ _ _ _ _ _ _ _ _ _ _ _ _ _ _ _ w wm aA aB cA cB A B go bo gc bc g n L fi ol he la PA PB HVA HVB HV hd.out HPA HPB hspec H1m (fun _ _ d _ _ h => by cases d <;> exact h) ?_
  intro tA tB iA iB go7 bo7 gc7 bc7 sA sB eA eB X2 W2 H2x
  obtain ⟨Z2, hZ2⟩ : ∃ Z2, W2.heap.size = Z2 := ⟨_, rfl⟩
  have hX2Z : X2 < Z2 := by rw [← hZ2]; exact H2x.out.2.1.lt
  have H2 : Hid (Below w.heap.size w W2 ∧ (VBy W2 sA eA PA ∧ VBy W2 sB eB PB ∧ SB W2 X2 25 sA PA.length eA sB PB.length eB) ∧ W2.heap.size = Z2 ∧ w.heap.size + 1 < Z2 ∧ SB W2 w.heap.size 43 aA A.length cA aB B.length cB ∧ KB (W2) (w.heap.size + 1) 50 go g.length gc bo n bc fi ol he la) :=
    ⟨H2x.out.1.1, ⟨H2x.out.2.2.1, H2x.out.2.2.2, H2x.out.2.1⟩, hZ2, by rw [← hZ2]; exact H2x.out.1.2.2.1.lt, H2x.out.1.2.1, H2x.out.1.2.2.1⟩
  clear hspec H1m HBm H2x hZ2
  obtain ⟨p0, p1⟩ := H2.out.2.2.2.2.1.cells
  go_wp2_with fail
  have HV0 : Hid (∀ w', Below Z2 W2 w' → (VBy w' sA eA PA ∧ VBy w' sB eB PB ∧ SB w' X2 25 sA PA.length eA sB PB.length eB) ∧ Below w.heap.size w w' ∧ SB w' w.heap.size 43 aA A.length cA aB B.length cB ∧ KB (w') (w.heap.size + 1) 50 go g.length gc bo n bc fi ol he la) := fun w' hb => by
    have e2 := H2.out.2.2.1
    have e3 := H2.out.2.2.2.1
    have hb' : Below W2.heap.size W2 w' := by rw [e2]; exact hb
    exact ⟨⟨H2.out.2.1.1.below hb', H2.out.2.1.2.1.below hb', H2.out.2.1.2.2.b hb'⟩, H2.out.1.trans (hb.mono (by omega)), H2.out.2.2.2.2.1.b hb', H2.out.2.2.2.2.2.b hb'⟩
  refine (tos_some aA aB cA cB A B _ (HVA.out.below H2.out.1) (HVB.out.below H2.out.1)).mono ?_
  rintro e w3 ⟨xA, xB, yA, yB, rfl, o3, b3, nx, nx'⟩
  have e2 := H2.out.2.2.1
  have hLW : w.heap.size + 1 < Z2 := H2.out.2.2.2.1
  rw [e2] at o3 b3
  have bY := bal1 w3 (.cells #[.slice xA A.length yA, .slice xB B.length yB] 25)
  have hz3 := b3.size
  have H3 : Hid (Below Z2 W2 (w3.alloc (.cells #[.slice xA A.length yA, .slice xB B.length yB] 25)) ∧ SB (w3.alloc (.cells #[.slice xA A.length yA, .slice xB B.length yB] 25)) w3.heap.size 25 xA A.length yA xB B.length yB ∧ OSl (w3.alloc (.cells #[.slice xA A.length yA, .slice xB B.length yB] 25)) Z2 w3.heap.size xA yA xB yB A B ∧ Z2 ≤ w3.heap.size) :=
    ⟨b3.trans (bY.mono (by omega)), SB.new w3 _ _ _ _ _ _ _, o3.below bY (Nat.le_refl _), by omega⟩
  have HNX := hide (And.intro nx nx')
  obtain ⟨m0, m1, m2, m3, m4, m5⟩ := (HV0.out _ b3).2.2.2.cells
  have hw3 : w.heap.size + 1 < w3.heap.size := by omega
  clear o3 b3 bY e2 H2 p0 p1 nx nx'
  go_wp2_with fail
  generalize w3.alloc (.cells #[.slice xA A.length yA, .slice xB B.length yB] 25) = W3 at *
  generalize w3.heap.size = X3 at *
  clear m0 m1 m2 m3 m4 m5
  refine (tom_any go bo gc bc g n L fi ol he la W3 hd.out (HV.out.below (HV0.out _ H3.out.1).2.1)).mono ?_
  rintro e w4 ⟨go4, bo4, gc4, bc4, rfl, o4, b4⟩
  have bZ := bal1 w4 (.cells #[.slice go4 g.length gc4, .slice bo4 n bc4, .bool fi, .bool ol, .bool he, .int .i64 la] 29)
  have hzw := H3.out.2.1.lt
  have hz4 := b4.size
  have h33 := H3.out.2.2.2
  have H4 : Hid (Below Z2 W2 (w4.alloc (.cells #[.slice go4 g.length gc4, .slice bo4 n bc4, .bool fi, .bool ol, .bool he, .int .i64 la] 29)) ∧ (SB (w4.alloc (.cells #[.slice go4 g.length gc4, .slice bo4 n bc4, .bool fi, .bool ol, .bool he, .int .i64 la] 29)) X3 25 xA A.length yA xB B.length yB ∧ OSl (w4.alloc (.cells #[.slice go4 g.length gc4, .slice bo4 n bc4, .bool fi, .bool ol, .bool he, .int .i64 la] 29)) Z2 X3 xA yA xB yB A B) ∧ (KB (w4.alloc (.cells #[.slice go4 g.length gc4, .slice bo4 n bc4, .bool fi, .bool ol, .bool he, .int .i64 la] 29)) (w4.heap.size) 29 go4 g.length gc4 bo4 n bc4 fi ol he la ∧ OKm (w4.alloc (.cells #[.slice go4 g.length gc4, .slice bo4 n bc4, .bool fi, .bool ol, .bool he, .int .i64 la] 29)) W3.heap.size w4.heap.size go4 gc4 bo4 bc4 g n L) ∧ (Z2 ≤ X3 ∧ X3 < W3.heap.size ∧ W3.heap.size ≤ w4.heap.size)) :=
    ⟨(H3.out.1.trans (b4.mono (by omega))).trans (bZ.mono (by omega)), ⟨(H3.out.2.1.b b4).b bZ, (H3.out.2.2.1.below b4 (by omega)).below bZ (by omega)⟩, ⟨KB.new w4 _ _ _ _ _ _ _ _ _ _ _, o4.below bZ (Nat.le_refl _)⟩, h33, hzw, hz4⟩
  obtain ⟨z0, z1⟩ := (H3.out.2.1.b b4).cells
  have hX34 : X3 < w4.heap.size := by omega
  have hX34n : ¬ X3 = w4.heap.size := by omega
  clear o4 b4 bZ H3 hzw h33 hz3
  go_wp2_with fail
  generalize w4.alloc (.cells #[.slice go4 g.length gc4, .slice bo4 n bc4, .bool fi, .bool ol, .bool he, .int .i64 la] 29) = W4 at *
  generalize w4.heap.size = X4 at *
  generalize W3.heap.size = B4 at *
  refine (himpl.out W4 _ _ _ _ _ _ _ _ (HG.out.below (HV0.out _ H4.out.1).2.1) (H4.out.2.1.2.va HVA.out.by) (H4.out.2.1.2.vb HVB.out.by) HNX.out.1 HNX.out.2 H4.out.2.2.1.2.mv).mono ?_
  rintro e w5 ⟨uA, uB, vA, vB, rfl, o5, b5, _, _⟩
  have bU := bal1 w5 (.cells #[.slice uA PA.length vA, .slice uB PB.length vB] 25)
  have hz5 := b5.size
  have h44 := H4.out.2.2.2
  have hz44 := H4.out.2.2.1.1.lt
  have b45 : Below Z2 W2 w5 := H4.out.1.trans (b5.mono (by omega))
  have H5 : Hid ((Below Z2 W2 (w5.alloc (.cells #[.slice uA PA.length vA, .slice uB PB.length vB] 25)) ∧ (SB (w5.alloc (.cells #[.slice uA PA.length vA, .slice uB PB.length vB] 25)) X3 25 xA A.length yA xB B.length yB ∧ OSl (w5.alloc (.cells #[.slice uA PA.length vA, .slice uB PB.length vB] 25)) Z2 X3 xA yA xB yB A B) ∧ (KB ((w5.alloc (.cells #[.slice uA PA.length vA, .slice uB PB.length vB] 25))) (X4) 29 go4 g.length gc4 bo4 n bc4 fi ol he la ∧ OKm (w5.alloc (.cells #[.slice uA PA.length vA, .slice uB PB.length vB] 25)) B4 X4 go4 gc4 bo4 bc4 g n L) ∧ (SB (w5.alloc (.cells #[.slice uA PA.length vA, .slice uB PB.length vB] 25)) w5.heap.size 25 uA PA.length vA uB PB.length vB ∧ OSl (w5.alloc (.cells #[.slice uA PA.length vA, .slice uB PB.length vB] 25)) W4.heap.size w5.heap.size uA vA uB vB PA PB) ∧ (Z2 ≤ X3 ∧ X3 < B4 ∧ B4 ≤ X4 ∧ X4 < W4.heap.size ∧ W4.heap.size ≤ w5.heap.size ∧ w5.heap.size < (w5.alloc (.cells #[.slice uA PA.length vA, .slice uB PB.length vB] 25)).heap.size))) := by
    have q1 := alsz w5 (.cells #[.slice uA PA.length vA, .slice uB PB.length vB] 25)
    exact ⟨b45.trans (bU.mono (by omega)), ⟨(H4.out.2.1.1.b b5).b bU, (H4.out.2.1.2.below b5 (by omega)).below bU (by omega)⟩, ⟨(H4.out.2.2.1.1.b b5).b bU, (H4.out.2.2.1.2.below b5 (by omega)).below bU (by omega)⟩, ⟨SB.new w5 _ _ _ _ _ _ _, o5.below bU (Nat.le_refl _)⟩, by omega⟩
  obtain ⟨y0, y1⟩ := (HV0.out w5 b45).1.2.2.cells
  have hlt5 : X2 < w5.heap.size := by omega
  have hne5 : ¬ X2 = w5.heap.size := by omega
  clear bU b45 b5 o5 H4 h44 z0 z1
  go_wp2_with fail
  generalize w5.alloc (.cells #[.slice uA PA.length vA, .slice uB PB.length vB] 25) = W5 at *
  generalize w5.heap.size = X5 at *
  generalize W4.heap.size = B5 at *
  clear y0 y1 hlt5 hne5 hz4 hz5 hz44 hX34 hX34n
  refine (eqs_yes uA uB sA sB vA vB eA eB PA PB _ (H5.out.2.2.2.1.2.va HPA.out) (H5.out.2.2.2.1.2.vb HPB.out) (HV0.out _ H5.out.1).1.1 (HV0.out _ H5.out.1).1.2.1).mono ?_
  rintro e w6a ⟨rfl, b6a⟩
  have H6a : Hid ((Below Z2 W2 w6a ∧ (SB w6a X3 25 xA A.length yA xB B.length yB ∧ OSl w6a Z2 X3 xA yA xB yB A B) ∧ (KB (w6a) (X4) 29 go4 g.length gc4 bo4 n bc4 fi ol he la ∧ OKm w6a B4 X4 go4 gc4 bo4 bc4 g n L) ∧ (SB w6a X5 25 uA PA.length vA uB PB.length vB ∧ OSl w6a B5 X5 uA vA uB vB PA PB) ∧ (Z2 ≤ X3 ∧ X3 < B4 ∧ B4 ≤ X4 ∧ X4 < B5 ∧ B5 ≤ X5 ∧ X5 < w6a.heap.size))) := ⟨H5.out.1.trans (b6a.mono (by have := H5.out.2.2.2.2; omega)), ⟨H5.out.2.1.1.b b6a, H5.out.2.1.2.below b6a (by have := H5.out.2.2.2.2; omega)⟩, ⟨H5.out.2.2.1.1.b b6a, H5.out.2.2.1.2.below b6a (by have := H5.out.2.2.2.2; omega)⟩, ⟨H5.out.2.2.2.1.1.b b6a, H5.out.2.2.2.1.2.below b6a (by have := H5.out.2.2.2.2; omega)⟩, (by have := H5.out.2.2.2.2; have := b6a.size; omega)⟩
  clear H5 b6a
  have H6d : Hid ((Below Z2 W2 w6a.drew ∧ (SB w6a.drew X3 25 xA A.length yA xB B.length yB ∧ OSl w6a.drew Z2 X3 xA yA xB yB A B) ∧ (KB (w6a.drew) (X4) 29 go4 g.length gc4 bo4 n bc4 fi ol he la ∧ OKm w6a.drew B4 X4 go4 gc4 bo4 bc4 g n L) ∧ (SB w6a.drew X5 25 uA PA.length vA uB PB.length vB ∧ OSl w6a.drew B5 X5 uA vA uB vB PA PB) ∧ (Z2 ≤ X3 ∧ X3 < B4 ∧ B4 ≤ X4 ∧ X4 < B5 ∧ B5 ≤ X5 ∧ X5 < w6a.drew.heap.size))) := ⟨H6a.out.1.trans ((Below.drawn (Below.refl w6a.heap.size w6a) 1).mono (by have := H6a.out.2.2.2.2; omega)), ⟨H6a.out.2.1.1.b (Below.drawn (Below.refl w6a.heap.size w6a) 1), H6a.out.2.1.2.below (Below.drawn (Below.refl w6a.heap.size w6a) 1) (by have := H6a.out.2.2.2.2; omega)⟩, ⟨H6a.out.2.2.1.1.b (Below.drawn (Below.refl w6a.heap.size w6a) 1), H6a.out.2.2.1.2.below (Below.drawn (Below.refl w6a.heap.size w6a) 1) (by have := H6a.out.2.2.2.2; omega)⟩, ⟨H6a.out.2.2.2.1.1.b (Below.drawn (Below.refl w6a.heap.size w6a) 1), H6a.out.2.2.2.1.2.below (Below.drawn (Below.refl w6a.heap.size w6a) 1) (by have := H6a.out.2.2.2.2; omega)⟩, H6a.out.2.2.2.2⟩
  have hto := hide (tos_any aA aB cA cB A B w6a.drew (HVA.out.below (HV0.out _ H6d.out.1).2.1) (HVB.out.below (HV0.out _ H6d.out.1).2.1))
  have hS := And.intro (HV0.out _ H6d.out.1).2.2.1.cells H6d.out.2.1.1.cells
  clear H6a
  go_wp2_with fail
  go_region_held3 (fun w' => (w'.cell? ⟨w.heap.size, 0, none⟩ = some (.slice aA A.length cA) ∧ w'.cell? ⟨w.heap.size, 1, none⟩ = some (.slice aB B.length cB)) ∧ (w'.cell? ⟨X3, 0, none⟩ = some (.slice xA A.length yA) ∧ w'.cell? ⟨X3, 1, none⟩ = some (.slice xB B.length yB))) (first | with_reducible assumption | exact hS) (first
    | (go_at_call 23; refine hto.out.mono ?_; rintro e w6 ⟨tA, tB, iA, iB, rfl, o6, b6⟩; have H6 : Hid ((Below Z2 W2 w6 ∧ (SB w6 X3 25 xA A.length yA xB B.length yB ∧ OSl w6 Z2 X3 xA yA xB yB A B) ∧ (KB (w6) (X4) 29 go4 g.length gc4 bo4 n bc4 fi ol he la ∧ OKm w6 B4 X4 go4 gc4 bo4 bc4 g n L) ∧ (SB w6 X5 25 uA PA.length vA uB PB.length vB ∧ OSl w6 B5 X5 uA vA uB vB PA PB) ∧ (Z2 ≤ X3 ∧ X3 < B4 ∧ B4 ≤ X4 ∧ X4 < B5 ∧ B5 ≤ X5 ∧ X5 < w6.heap.size)) ∧ VBy w6 tA iA A ∧ VBy w6 tB iB B) := ⟨⟨H6d.out.1.trans (b6.mono (by have := H6d.out.2.2.2.2; omega)), ⟨H6d.out.2.1.1.b b6, H6d.out.2.1.2.below b6 (by have := H6d.out.2.2.2.2; omega)⟩, ⟨H6d.out.2.2.1.1.b b6, H6d.out.2.2.1.2.below b6 (by have := H6d.out.2.2.2.2; omega)⟩, ⟨H6d.out.2.2.2.1.1.b b6, H6d.out.2.2.2.1.2.below b6 (by have := H6d.out.2.2.2.2; omega)⟩, (by have := H6d.out.2.2.2.2; have := b6.size; omega)⟩, o6.va HVA.out.by, o6.vb HVB.out.by⟩; have hk6 := And.intro (HV0.out _ H6.out.1.1).2.2.1.cells H6.out.1.2.1.1.cells; clear o6 b6)
    | (go_at_call 25; refine (eqs_yes xA xB tA tB yA yB iA iB A B _ (H6.out.1.2.1.2.va HVA.out.by) (H6.out.1.2.1.2.vb HVB.out.by) H6.out.2.1 H6.out.2.2).mono ?_; rintro e w7 ⟨rfl, b7⟩; have H7 : Hid ((Below Z2 W2 w7 ∧ (SB w7 X3 25 xA A.length yA xB B.length yB ∧ OSl w7 Z2 X3 xA yA xB yB A B) ∧ (KB (w7) (X4) 29 go4 g.length gc4 bo4 n bc4 fi ol he la ∧ OKm w7 B4 X4 go4 gc4 bo4 bc4 g n L) ∧ (SB w7 X5 25 uA PA.length vA uB PB.length vB ∧ OSl w7 B5 X5 uA vA uB vB PA PB) ∧ (Z2 ≤ X3 ∧ X3 < B4 ∧ B4 ≤ X4 ∧ X4 < B5 ∧ B5 ≤ X5 ∧ X5 < w7.heap.size))) := ⟨H6.out.1.1.trans (b7.mono (by have := H6.out.1.2.2.2.2; omega)), ⟨H6.out.1.2.1.1.b b7, H6.out.1.2.1.2.below b7 (by have := H6.out.1.2.2.2.2; omega)⟩, ⟨H6.out.1.2.2.1.1.b b7, H6.out.1.2.2.1.2.below b7 (by have := H6.out.1.2.2.2.2; omega)⟩, ⟨H6.out.1.2.2.2.1.1.b b7, H6.out.1.2.2.2.1.2.below b7 (by have := H6.out.1.2.2.2.2; omega)⟩, (by have := H6.out.1.2.2.2.2; have := b7.size; omega)⟩; have hk7 := And.intro (HV0.out _ H7.out.1).2.2.1.cells H7.out.2.1.1.cells; clear b7))
  clear hto H6d H6 hk6 hS hk7
  have H7d : Hid ((Below Z2 W2 w7.drew ∧ (SB w7.drew X3 25 xA A.length yA xB B.length yB ∧ OSl w7.drew Z2 X3 xA yA xB yB A B) ∧ (KB (w7.drew) (X4) 29 go4 g.length gc4 bo4 n bc4 fi ol he la ∧ OKm w7.drew B4 X4 go4 gc4 bo4 bc4 g n L) ∧ (SB w7.drew X5 25 uA PA.length vA uB PB.length vB ∧ OSl w7.drew B5 X5 uA vA uB vB PA PB) ∧ (Z2 ≤ X3 ∧ X3 < B4 ∧ B4 ≤ X4 ∧ X4 < B5 ∧ B5 ≤ X5 ∧ X5 < w7.drew.heap.size))) := ⟨H7.out.1.trans ((Below.drawn (Below.refl w7.heap.size w7) 1).mono (by have := H7.out.2.2.2.2; omega)), ⟨H7.out.2.1.1.b (Below.drawn (Below.refl w7.heap.size w7) 1), H7.out.2.1.2.below (Below.drawn (Below.refl w7.heap.size w7) 1) (by have := H7.out.2.2.2.2; omega)⟩, ⟨H7.out.2.2.1.1.b (Below.drawn (Below.refl w7.heap.size w7) 1), H7.out.2.2.1.2.below (Below.drawn (Below.refl w7.heap.size w7) 1) (by have := H7.out.2.2.2.2; omega)⟩, ⟨H7.out.2.2.2.1.1.b (Below.drawn (Below.refl w7.heap.size w7) 1), H7.out.2.2.2.1.2.below (Below.drawn (Below.refl w7.heap.size w7) 1) (by have := H7.out.2.2.2.2; omega)⟩, H7.out.2.2.2.2⟩
  have hto := hide (tom_any go bo gc bc g n L fi ol he la w7.drew hd.out (HV.out.below (HV0.out _ H7d.out.1).2.1))
  have hS := And.intro (HV0.out _ H7d.out.1).2.2.2.cells H7d.out.2.2.1.1.cells
  clear H7
  go_wp2_with fail
  go_region_held3 (fun w' => (w'.cell? ⟨w.heap.size + 1, 0, none⟩ = some (.slice go g.length gc) ∧ w'.cell? ⟨w.heap.size + 1, 1, none⟩ = some (.slice bo n bc) ∧ w'.cell? ⟨w.heap.size + 1, 2, none⟩ = some (.bool fi) ∧ w'.cell? ⟨w.heap.size + 1, 3, none⟩ = some (.bool ol) ∧ w'.cell? ⟨w.heap.size + 1, 4, none⟩ = some (.bool he) ∧ w'.cell? ⟨w.heap.size + 1, 5, none⟩ = some (.int .i64 la)) ∧ (w'.cell? ⟨X4, 0, none⟩ = some (.slice go4 g.length gc4) ∧ w'.cell? ⟨X4, 1, none⟩ = some (.slice bo4 n bc4) ∧ w'.cell? ⟨X4, 2, none⟩ = some (.bool fi) ∧ w'.cell? ⟨X4, 3, none⟩ = some (.bool ol) ∧ w'.cell? ⟨X4, 4, none⟩ = some (.bool he) ∧ w'.cell? ⟨X4, 5, none⟩ = some (.int .i64 la))) (first | with_reducible assumption | exact hS) (first
    | (go_at_call 30; refine hto.out.mono ?_; rintro e w8 ⟨go8, bo8, gc8, bc8, rfl, o8, b8⟩; have H8 : Hid ((Below Z2 W2 w8 ∧ (SB w8 X3 25 xA A.length yA xB B.length yB ∧ OSl w8 Z2 X3 xA yA xB yB A B) ∧ (KB (w8) (X4) 29 go4 g.length gc4 bo4 n bc4 fi ol he la ∧ OKm w8 B4 X4 go4 gc4 bo4 bc4 g n L) ∧ (SB w8 X5 25 uA PA.length vA uB PB.length vB ∧ OSl w8 B5 X5 uA vA uB vB PA PB) ∧ (Z2 ≤ X3 ∧ X3 < B4 ∧ B4 ≤ X4 ∧ X4 < B5 ∧ B5 ≤ X5 ∧ X5 < w8.heap.size)) ∧ MV w8 go8 gc8 bo8 bc8 g n L) := ⟨⟨H7d.out.1.trans (b8.mono (by have := H7d.out.2.2.2.2; omega)), ⟨H7d.out.2.1.1.b b8, H7d.out.2.1.2.below b8 (by have := H7d.out.2.2.2.2; omega)⟩, ⟨H7d.out.2.2.1.1.b b8, H7d.out.2.2.1.2.below b8 (by have := H7d.out.2.2.2.2; omega)⟩, ⟨H7d.out.2.2.2.1.1.b b8, H7d.out.2.2.2.1.2.below b8 (by have := H7d.out.2.2.2.2; omega)⟩, (by have := H7d.out.2.2.2.2; have := b8.size; omega)⟩, o8.mv⟩; have hk8 := And.intro (HV0.out _ H8.out.1.1).2.2.2.cells H8.out.1.2.2.1.1.cells; clear o8 b8)
    | (go_at_call 24; refine (eqm_yes go4 bo4 go8 bo8 gc4 bc4 gc8 bc8 g n L fi ol he la _ hd.out H8.out.1.2.2.1.2.mv H8.out.2).mono ?_; rintro e w9 ⟨rfl, b9⟩; have H9 : Hid ((Below Z2 W2 w9 ∧ (SB w9 X3 25 xA A.length yA xB B.length yB ∧ OSl w9 Z2 X3 xA yA xB yB A B) ∧ (KB (w9) (X4) 29 go4 g.length gc4 bo4 n bc4 fi ol he la ∧ OKm w9 B4 X4 go4 gc4 bo4 bc4 g n L) ∧ (SB w9 X5 25 uA PA.length vA uB PB.length vB ∧ OSl w9 B5 X5 uA vA uB vB PA PB) ∧ (Z2 ≤ X3 ∧ X3 < B4 ∧ B4 ≤ X4 ∧ X4 < B5 ∧ B5 ≤ X5 ∧ X5 < w9.heap.size))) := ⟨H8.out.1.1.trans (b9.mono (by have := H8.out.1.2.2.2.2; omega)), ⟨H8.out.1.2.1.1.b b9, H8.out.1.2.1.2.below b9 (by have := H8.out.1.2.2.2.2; omega)⟩, ⟨H8.out.1.2.2.1.1.b b9, H8.out.1.2.2.1.2.below b9 (by have := H8.out.1.2.2.2.2; omega)⟩, ⟨H8.out.1.2.2.2.1.1.b b9, H8.out.1.2.2.2.1.2.below b9 (by have := H8.out.1.2.2.2.2; omega)⟩, (by have := H8.out.1.2.2.2.2; have := b9.size; omega)⟩; have hk9 := And.intro (HV0.out _ H9.out.1).2.2.2.cells H9.out.2.2.1.1.cells; clear b9))
  clear hto H7d H8 hk8 hS hk9
  obtain ⟨z0, z1⟩ := H9.out.2.1.1.cells
  go_wp2_with fail
  refine (marks_any xA xB yA yB Z2 X3 A B 1 _ ⟨hlA, hlB⟩ (by decide) (by decide) H9.out.2.1.2).mono ?_
  rintro e wa ⟨rfl, _, na⟩
  have hq9 := H9.out.2.2.2.2
  have Ha : Hid (Below Z2 W2 wa ∧ (KB (wa) (X4) 29 go4 g.length gc4 bo4 n bc4 fi ol he la ∧ OKm wa B4 X4 go4 gc4 bo4 bc4 g n L) ∧ (SB wa X5 25 uA PA.length vA uB PB.length vB ∧ OSl wa B5 X5 uA vA uB vB PA PB) ∧ (Z2 ≤ X3 ∧ X3 < B4 ∧ B4 ≤ X4 ∧ X4 < B5 ∧ B5 ≤ X5 ∧ X5 < wa.heap.size)) :=
    ⟨H9.out.1.trans na.1, ⟨(na.2 X4 (by omega) (by omega)).trans H9.out.2.2.1.1, H9.out.2.2.1.2.kept (fun j h1 h2 => na.2 j (by omega) (by omega)) na.1.size⟩, ⟨(na.2 X5 (by omega) (by omega)).trans H9.out.2.2.2.1.1, H9.out.2.2.2.1.2.kept (fun j h1 h2 => na.2 j (by omega) (by omega)) na.1.size⟩, by have := na.1.size; omega⟩
  clear na H9 hq9 z0 z1
  obtain ⟨z0, z1, z2, z3, z4, z5⟩ := Ha.out.2.1.1.cells
  generalize hK1 : 1 + ((A.length : Int) + (B.length : Int)) = K1 at *
  have hk1b : 0 ≤ K1 ∧ K1 ≤ 2097153 := by omega
  clear hK1
  go_wp2_with fail
  refine (markm_any2 go4 bo4 gc4 bc4 B4 X4 g n L fi ol he la K1 _ hmb (by omega) (by omega) Ha.out.2.1.2).mono ?_
  rintro e wb ⟨rfl, _, nb⟩
  have hqa := Ha.out.2.2.2
  have Hb : Hid (Below Z2 W2 wb ∧ (SB wb X5 25 uA PA.length vA uB PB.length vB ∧ OSl wb B5 X5 uA vA uB vB PA PB) ∧ (Z2 ≤ X3 ∧ X3 < B4 ∧ B4 ≤ X4 ∧ X4 < B5 ∧ B5 ≤ X5 ∧ X5 < wb.heap.size)) :=
    ⟨Ha.out.1.trans (nb.1.mono (by omega)), ⟨(nb.2 X5 (by omega) (by omega)).trans Ha.out.2.2.1.1, Ha.out.2.2.1.2.kept (fun j h1 h2 => nb.2 j (by omega) (by omega)) nb.1.size⟩, by have := nb.1.size; omega⟩
  clear nb Ha hqa z0 z1 z2 z3 z4 z5
  obtain ⟨z0, z1⟩ := Hb.out.2.1.1.cells
  obtain ⟨y0, y1⟩ := (HV0.out _ Hb.out.1).1.2.2.cells
  have hkp : ¬ K1 + ((g.length : Int) + (psum L n : Int)) < 0 := by omega
  go_wp2_with fail
  refine (eqs_yes uA uB sA sB vA vB eA eB PA PB _ (Hb.out.2.1.2.va HPA.out) (Hb.out.2.1.2.vb HPB.out) (HV0.out _ Hb.out.1).1.1 (HV0.out _ Hb.out.1).1.2.1).mono ?_
  rintro e wc ⟨rfl, bc'⟩
  have hqb := Hb.out.2.2
  have Hc : Hid (Below Z2 W2 wc ∧ (SB wc X5 25 uA PA.length vA uB PB.length vB ∧ OSl wc B5 X5 uA vA uB vB PA PB) ∧ (Z2 ≤ X3 ∧ X3 < B4 ∧ B4 ≤ X4 ∧ X4 < B5 ∧ B5 ≤ X5 ∧ X5 < wc.heap.size)) :=
    ⟨Hb.out.1.trans (bc'.mono (by omega)), ⟨Hb.out.2.1.1.b bc', Hb.out.2.1.2.below bc' (by omega)⟩, by have := bc'.size; omega⟩
  clear bc' Hb hqb z0 z1 y0 y1 hkp
  obtain ⟨z0, z1⟩ := Hc.out.2.1.1.cells
  go_wp2_with fail
  refine (marks_any uA uB vA vB B5 X5 PA PB 1 _ ⟨HPA.out.1, HPB.out.1⟩ (by decide) (by decide) Hc.out.2.1.2).mono ?_
  rintro e we ⟨rfl, oe, ne⟩
  have hqc := Hc.out.2.2
  have He : Hid (Below Z2 W2 we ∧ (SB we X5 25 uA PA.length vA uB PB.length vB ∧ VBy we uA vA (mkb 1 PA.length) ∧ VBy we uB vB (mkb (1 + PA.length) PB.length)) ∧ (Z2 ≤ X5 ∧ X5 < we.heap.size)) :=
    ⟨Hc.out.1.trans (ne.1.mono (by omega)), ⟨(ne.2 X5 (by omega) (by omega)).trans Hc.out.2.1.1, oe.va (mkb_by _ _ HPA.out.1), oe.vb (mkb_by _ _ HPB.out.1)⟩, by have := ne.1.size; omega⟩
  clear oe ne Hc hqc z0 z1
  obtain ⟨z0, z1⟩ := He.out.2.1.1.cells
  generalize hK : 1 + ((PA.length : Int) + (PB.length : Int)) = K at *
  have HK := hide hK
  have hKp : ¬ K < 0 := by omega
  clear hK
  go_wp2_with fail
  refine (helds_any uA uB vA vB PA.length PB.length 1 _ ⟨HPA.out.1, HPB.out.1⟩ (by decide) (by decide) He.out.2.1.2.1 He.out.2.1.2.2).mono ?_
  rintro e wf ⟨rfl, bf⟩
  rw [HK.out]
  have hqe := He.out.2.2
  have bfd : Below we.heap.size we wf := bf
  have Hf : Hid (Below Z2 W2 wf ∧ (SB wf X5 25 uA PA.length vA uB PB.length vB ∧ VBy wf uA vA (mkb 1 PA.length) ∧ VBy wf uB vB (mkb (1 + PA.length) PB.length)) ∧ (Z2 ≤ X5 ∧ X5 < wf.heap.size)) :=
    ⟨He.out.1.trans (bfd.mono (by omega)), ⟨He.out.2.1.1.b bfd, He.out.2.1.2.1.below bfd, He.out.2.1.2.2.below bfd⟩, by have := bfd.size; omega⟩
  clear bf bfd He hqe z0 z1
  have Hff : Hid (Below w.heap.size w wf ∧ SB wf w.heap.size 43 aA A.length cA aB B.length cB ∧ KB (wf) (w.heap.size + 1) 50 go g.length gc bo n bc fi ol he la) := (HV0.out _ Hf.out.1).2
  go_wp2_with fail
  refine rgI _ _ _ _ _ _ _ _ _ _ _ _ _ _ _ _ _ _ _ _ _ _ _ _ _ _ _ _ _ _ _ _ _ _ _ _ _ _ _ _ _ _ _ _ _ _ _ _ _ _ _ _ _ _ _ _ _ _ _ _ _ _ _ _ _ _ _ _ _ _ _ _ _ _ _ _ _ _ _ _ _ _ _ _ _ _ _ _ _ _ _ w wf aA aB cA cB A B go bo gc bc g n L fi ol he la PA PB HVA HVB HV hd.out HPA HPB HG himpl Hff (fun _ _ d _ _ h => by cases d <;> exact h) ?_
  intro tA tB iA iB go7 bo7 gc7 bc7 hA8 hB8 jA8 jB8 X8 W8 H8x
  have hqf := Hf.out.2.2
  have b8 : Below wf.heap.size wf W8 := H8x.out.1.2.2.2
  have Hg : Hid (Below Z2 W2 W8 ∧ (SB W8 X5 25 uA PA.length vA uB PB.length vB ∧ VBy W8 uA vA (mkb 1 PA.length) ∧ VBy W8 uB vB (mkb (1 + PA.length) PB.length)) ∧ (VBy W8 hA8 jA8 PA ∧ VBy W8 hB8 jB8 PB) ∧ Z2 ≤ W8.heap.size) :=
    ⟨Hf.out.1.trans (b8.mono (by omega)), ⟨Hf.out.2.1.1.b b8, Hf.out.2.1.2.1.below b8, Hf.out.2.1.2.2.below b8⟩, ⟨H8x.out.2.2.1, H8x.out.2.2.2⟩, by have := b8.size; omega⟩
  obtain ⟨y0, y1⟩ := (HV0.out W8 Hg.out.1).1.2.2.cells
  obtain ⟨c0, c1⟩ := H8x.out.2.1.cells
  clear b8 H8x Hf Hff himpl
  go_wp2_with fail
  clear y0 y1 c0 c1
  refine (eqs_yes hA8 hB8 sA sB jA8 jB8 eA eB PA PB _ Hg.out.2.2.1.1 Hg.out.2.2.1.2 (HV0.out _ Hg.out.1).1.1 (HV0.out _ Hg.out.1).1.2.1).mono ?_
  rintro e wh ⟨rfl, bh⟩
  have Hh : Hid (Below Z2 W2 wh ∧ SB wh X5 25 uA PA.length vA uB PB.length vB ∧ VBy wh uA vA (mkb 1 PA.length) ∧ VBy wh uB vB (mkb (1 + PA.length) PB.length)) :=
    ⟨Hg.out.1.trans (bh.mono Hg.out.2.2.2), Hg.out.2.1.1.b bh, Hg.out.2.1.2.1.below bh, Hg.out.2.1.2.2.below bh⟩
  clear bh Hg
  obtain ⟨z0, z1⟩ := Hh.out.2.1.cells
  go_wp2_with fail
  refine (helds_any uA uB vA vB PA.length PB.length 1 _ ⟨HPA.out.1, HPB.out.1⟩ (by decide) (by decide) Hh.out.2.2.1 Hh.out.2.2.2).mono ?_
  rintro e wi ⟨rfl, bi⟩
  rw [HK.out]
  have Hi := hide ((HV0.out _ Hh.out.1).2.1.trans (bi.mono (HV0.out _ Hh.out.1).2.1.size))
  clear bi
  go_wp2
  go_ret
  exact ⟨rfl, Hi.out⟩

set_option maxRecDepth 100000 in
theorem contract (H : Type) (enc : TypeId × Value → H) (W : World) (base : Nat) (args : Array Value) (ds gs : List (DataW H)) (before : List MemPlace)
    (hval : ∀ (j : Nat) t v, Tryz.f6.params[j]? = some t → args[j]? = some v → Value.okWide Tryz.prog W .any base t v)
    (hW : DataW.Whole enc Tryz.prog Tryz.f6.params.toList Rows.fnExactSlotPutSpec.vars false W args.toList ds gs before) (hL0 : laidMetH Tryz.prog Rows.fnExactSlotPutRow.laid W) :
    Calls Tryz.prog 6 args W fun e W' => ∃ v, e = .returned v ∧ Rows.fnExactSlotPutSpec.post enc Tryz.prog Tryz.f6 false true false false W args v W' := by
  have hW' := hW
  obtain ⟨p, q, hA0, hV, rfl, hfz, hnd⟩ := hW
  have hAll : DataW.TrodAll enc Tryz.prog W 0 (fun _ => true) true Tryz.f6.params.toList args.toList ds p := hA0
  rw [Tryz.params6] at hAll hval
  obtain ⟨v0, vs0, d0, ds0, p0, q0, hargs0, rfl, rfl, h0, r0⟩ := trodAll_cons hAll
  obtain ⟨v1, vs1, d1, ds1, p1, q1, hargs1, rfl, rfl, h1, r1⟩ := trodAll_cons r0
  obtain ⟨rfl, rfl, rfl⟩ := trodAll_nil r1
  obtain rfl : args = #[v0, v1] := by cases args; simp_all
  obtain ⟨rfl, rfl⟩ := trodVars_none hV
  have k0 := h0
  have lt0 : ∀ x ∈ p0, x.block < W.heap.size := by obtain ⟨m, hm⟩ := k0; exact DataW.trod_lt m _ _ _ hm
  obtain ⟨cs0, rfl, _⟩ := okWide_struct Tryz.underlying43 (hval 0 43 v0 rfl rfl)
  obtain ⟨aA, aB, cA, cB, A, B, hcs0, hA, hB⟩ : ∃ (aA aB : Option Addr) (cA cB : Nat) (A B : List Int), cs0 = #[.slice aA A.length cA, .slice aB B.length cB] ∧ VBw W aA cA A ∧ VBw W aB cB B := by
    obtain ⟨fuel, hf⟩ := h0
    obtain ⟨aA, aB, cA, cB, A, B, e, h1, h2⟩ := open_slots hf
    refine ⟨aA, aB, cA, cB, A, B, ?_, h1, h2⟩
    obtain ⟨l⟩ := cs0
    simpa [Value.cells] using e
  subst hcs0
  have k1 := h1
  have lt1 : ∀ x ∈ p1, x.block < W.heap.size := by obtain ⟨m, hm⟩ := k1; exact DataW.trod_lt m _ _ _ hm
  obtain ⟨cs1, rfl, _⟩ := okWide_struct Tryz.underlying50 (hval 1 50 v1 rfl rfl)
  obtain ⟨go, bo, gc, bc, g, n, L, fi, ol, he, la, hcs1, hv, hgl, hn, hL⟩ : ∃ (go bo : Option Addr) (gc bc : Nat) (g : List Int) (n : Nat) (L : Nat → List Int) (fi ol he : Bool) (la : Int), cs1 = #[.slice go g.length gc, .slice bo n bc, .bool fi, .bool ol, .bool he, .int .i64 la] ∧ MV W go gc bo bc g n L ∧ g.length ≤ 9223372036854775807 ∧ n ≤ 9223372036854775807 ∧ ∀ i, i < n → (L i).length ≤ 9223372036854775807 := by
    obtain ⟨fuel, hf⟩ := h1
    obtain ⟨go, bo, gc, bc, g, n, L, fi, ol, he, la, e, h1, h2, h3, h4⟩ := open_known hf
    refine ⟨go, bo, gc, bc, g, n, L, fi, ol, he, la, ?_, h1, h2, h3, h4⟩
    obtain ⟨l⟩ := cs1
    simpa [Value.cells] using e
  subst hcs1
  clear hA0
  refine (walk aA aB cA cB A B go bo gc bc g n L fi ol he la W (handle hL0) hA hB hv hgl hn hL).mono fun e W' ⟨he, bel⟩ => ?_
  subst he
  exact ⟨_, rfl, _, _, _, [], _, [], hW', trodAll_mk1 (shut_bool Tryz.underlying4 _), (trodAll_cons_mk (Below.trod laidOut (by kernel_rfl) (of_decide_eq_true (by kernel_rfl)) k0 bel lt0) (trodAll_cons_mk (Below.trod laidOut (by kernel_rfl) (of_decide_eq_true (by kernel_rfl)) k1 bel lt1) trodAll_mk0)), rfl, bel.frame _, fun h => by cases h⟩

/-- A world that meets the condition: the variable's cell laid. -/
def laidWorld (w0 : World) : World :=
  { w0 with heap := w0.heap.modify 0 fun
      | .cells _ t frozen => .cells #[.iface 148 (.agg #[.pointer (some ⟨1, 76, none⟩)])] t frozen
      | o => o }
theorem laid_met (os : Os) (args : Array Value) : laidMetH Tryz.prog Rows.fnExactSlotPutRow.laid ((laidWorld (World.holding Tryz.prog os ⟨#[], #[], []⟩)).forCall (fun _ _ => 0) ⟨#[], args, []⟩).memory :=
  laidMetH_of_parts (laidMet_nil _ _) (by kernel_rfl)
theorem reads (os : Os) {H : Type} (enc : TypeId × Value → H) : ∃ places, DataW.whole enc Tryz.prog ((laidWorld (World.holding Tryz.prog os ⟨#[], #[], []⟩)).forCall (fun _ _ => 0) ⟨#[], #[.agg #[.slice none 0 0, .slice none 0 0], .agg #[.slice none 0 0, .slice none 0 0, .bool false, .bool false, .bool false, .int .i64 0]], []⟩).memory Tryz.f6.params.toList Rows.fnExactSlotPutSpec.vars false #[.agg #[.slice none 0 0, .slice none 0 0], .agg #[.slice none 0 0, .slice none 0 0, .bool false, .bool false, .bool false, .int .i64 0]].toList 8 = some ([.agg [.nil, .nil], .agg [.nil, .nil, .lit (.bool false), .lit (.bool false), .lit (.bool false), .lit (.int .i64 0)]], [], places) :=
  ⟨[], by kernel_rfl⟩

set_option maxRecDepth 100000 in
theorem lifted (os : Os) (started : os.Started) (H : Type) (enc : TypeId × Value → H) (F : Stop.Interp) :
    ReturnsInHanded {} Tryz.checked os 6 .any ((OpenSpec.ofChange Rows.fnExactSlotPutSpec).preRow enc Tryz.prog Tryz.f6 Rows.fnExactSlotPutRow.domain false Rows.fnExactSlotPutRow.laid) (((OpenSpec.ofChange Rows.fnExactSlotPutSpec).at F).post enc Tryz.prog Tryz.f6 false true false false) := by
  obtain ⟨places, hx⟩ := reads os enc
  refine returnsInHanded_of_row (C := Tryz.checked) (s := OpenSpec.ofChange Rows.fnExactSlotPutSpec) own started (by kernel_rfl) Tryz.func6
    (witness_row_at (enc := enc) (C := Tryz.checked) false (laidWorld (World.holding Tryz.prog os ⟨#[], #[], []⟩)) #[.agg #[.slice none 0 0, .slice none 0 0], .agg #[.slice none 0 0, .slice none 0 0, .bool false, .bool false, .bool false, .int .i64 0]] rfl (by kernel_rfl) (by kernel_rfl) (by kernel_rfl)
      (OpenSpec.preRow_of_cond 8 hx (by kernel_rfl) (fun k hk => by cases hk) (by kernel_rfl) (laid_met os _))) ?_
  intro W base args ds gs before hval hW _ _ _ hL _ _
  exact contract H enc W base args ds gs before hval hW hL

theorem said : Rows.FnExactSlotPutSaid :=
  OpenClaim.holds_of_cond 6 Tryz.f6 rfl rfl rfl rfl rfl rfl rfl ⟨rfl, rfl, rfl, rfl, rfl⟩ rfl rfl rfl rfl rfl (by kernel_rfl) Tryz.func6 (by kernel_rfl)
    (of_decide_eq_true (by kernel_rfl)) (by unfold Func.isWrapper; first | (rw [if_pos (by decide +kernel)]; kernel_rfl) | (rw [if_neg (by decide +kernel)]; exact ⟨rfl, rfl⟩))
    (fun os started H enc _ F => by rw [OpenClaim.pre_eq_preRow]; exact lifted os started H enc F)

theorem plain (f : FuncId) (fn : Func) (hf : Tryz.pinned.checked.prog.funcNamed "loop.example/g00399/laws.FnExactSlotPut" = some f) (hfn : Tryz.pinned.checked.prog.funcs[f]? = some fn) :
    true = Tryz.pinned.checked.prog.looks [] ∧ ∀ (j : Nat) t, fn.params[j]? = some t → Tryz.pinned.checked.prog.wantsStandIn t = false := by
  obtain rfl : f = 6 := Option.some.inj ((show Tryz.prog.funcNamed "loop.example/g00399/laws.FnExactSlotPut" = some 6 by kernel_rfl).symm.trans hf) |>.symm
  obtain rfl : fn = Tryz.f6 := (Option.some.inj (Tryz.func6.symm.trans hfn)).symm
  refine ⟨by kernel_rfl, fun j t ht => ?_⟩
  rw [Tryz.params6] at ht
  have ht' : t = 43 ∨ t = 50 := by simpa using Array.mem_of_getElem? ht
  rcases ht' with rfl | rfl
  · exact (show Tryz.prog.wantsStandIn 43 = false by kernel_rfl)
  · exact (show Tryz.prog.wantsStandIn 50 = false by kernel_rfl)

theorem card : Rows.FnExactSlotPutCardSaid :=
  Claim7.holds_tied_plain_at .later [] _ _ _ _ said (fun _ h => by cases h) (by kernel_rfl) (fun _ h => by cases h) fnExactSlotPut_row_tie rfl ⟨rfl, rfl⟩ (by kernel_rfl) rfl plain (by kernel_rfl)
end Go.Proofs.YtjjdbdkbpmbniaaGreatDoor.fnExactSlotPut
namespace Go.Proofs.YtjjdbdkbpmbniaaGreatDoor
theorem fnExactSlotPut_card : Rows.FnExactSlotPutCardSaid := fnExactSlotPut.card
end Go.Proofs.YtjjdbdkbpmbniaaGreatDoor

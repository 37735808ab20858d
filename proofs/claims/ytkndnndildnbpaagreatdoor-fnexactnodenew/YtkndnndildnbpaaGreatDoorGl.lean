/- Slots in memory of their own: sized, made, held against another, marked. -/
import Derived.Test.YtkndnndildnbpaaGreatDoorGk
import Derived.Test.YtkndnndildnbpaaGreatDoorMtRbZ
import Derived.Test.YtkndnndildnbpaaGreatDoorSlOZ

namespace Go.Proofs.YtkndnndildnbpaaGreatDoor
open Go.ChangeShapes Go.WideShapes Go.ChangeAt Go.RowKit
set_option linter.unusedVariables false
set_option linter.unusedSimpArgs false
set_option maxRecDepth 100000

def bv (A : List Int) (i : Nat) : Value := .int .u8 (A.getD i 0)
/-- Two slots in memory of their own between two marks of the heap. -/
def OSl (w : World) (B T : Nat) (aA : Option Addr) (cA : Nat) (aB : Option Addr) (cB : Nat) (A C : List Int) : Prop :=
  (B ≤ T ∧ T ≤ w.heap.size) ∧ (A.length ≤ cA ∧ C.length ≤ cB) ∧ Rb w B T aA A.length (bv A) ∧ Rb w B T aB C.length (bv C) ∧ ∀ γ, aA = some ⟨γ, 0, none⟩ → 0 < A.length → 0 < C.length → aB ≠ some ⟨γ, 0, none⟩
theorem OSl.kept {w w' : World} {B T : Nat} {aA : Option Addr} {cA : Nat} {aB : Option Addr} {cB : Nat} {A C : List Int} (h : OSl w B T aA cA aB cB A C) (hk : ∀ j, B ≤ j → j < T → w'.heap[j]? = w.heap[j]?) (hs : w.heap.size ≤ w'.heap.size) : OSl w' B T aA cA aB cB A C :=
  ⟨⟨h.1.1, by have := h.1.2; omega⟩, h.2.1, h.2.2.1.kept hk, h.2.2.2.1.kept hk, h.2.2.2.2⟩
theorem OSl.below {w w' : World} {B T X : Nat} {aA : Option Addr} {cA : Nat} {aB : Option Addr} {cB : Nat} {A C : List Int} (h : OSl w B T aA cA aB cB A C) (hb : Below X w w') (hX : T ≤ X) : OSl w' B T aA cA aB cB A C :=
  h.kept (fun j _ hj => hb.block j (by omega)) hb.size
theorem Rb.wide {w : World} {B T B' T' : Nat} {ao : Option Addr} {n : Nat} {F : Nat → Value} (h : Rb w B T ao n F) (hB : B' ≤ B) (hT : T ≤ T') : Rb w B' T' ao n F := by
  rcases h with h | ⟨g, e, hg, r⟩
  · exact .inl h
  · exact .inr ⟨g, e, by omega, r⟩
theorem OSl.wider {w : World} {B T B' T' : Nat} {aA : Option Addr} {cA : Nat} {aB : Option Addr} {cB : Nat} {A C : List Int} (h : OSl w B T aA cA aB cB A C) (hB : B' ≤ B) (hT : T ≤ T') (hT' : T' ≤ w.heap.size) : OSl w B' T' aA cA aB cB A C :=
  ⟨⟨by have := h.1.1; omega, hT'⟩, h.2.1, h.2.2.1.wide hB hT, h.2.2.2.1.wide hB hT, h.2.2.2.2⟩
/-- Bytes that are bytes, and not too many. -/
def By (A : List Int) : Prop := A.length ≤ 1048576 ∧ ∀ i, i < A.length → 0 ≤ A.getD i 0 ∧ A.getD i 0 ≤ 255
theorem OSl.va {w : World} {B T : Nat} {aA : Option Addr} {cA : Nat} {aB : Option Addr} {cB : Nat} {A C : List Int} (h : OSl w B T aA cA aB cB A C) (hA : By A) : VBy w aA cA A := ⟨h.2.2.1.own.sl, h.2.1.1, hA.1, hA.2⟩
theorem OSl.vb {w : World} {B T : Nat} {aA : Option Addr} {cA : Nat} {aB : Option Addr} {cB : Nat} {A C : List Int} (h : OSl w B T aA cA aB cB A C) (hC : By C) : VBy w aB cB C := ⟨h.2.2.2.1.own.sl, h.2.1.2, hC.1, hC.2⟩
theorem VBy.by {w : World} {ao : Option Addr} {cap : Nat} {A : List Int} (h : VBy w ao cap A) : By A := h.2.2

theorem szb_any (ao : Option Addr) (n cap : Nat) (x : Int) (w : World) (hn : n ≤ 9223372036854775807) (h0 : 0 ≤ x) (h1 : x ≤ 1048576) :
    Calls Tryz.prog 143 #[.slice ao n cap, .int .i64 x] w fun e w' => Sz n x e ∧ w' = w := by
  by_cases h : (n : Int) ≤ x
  · have hd : ¬ x - (n : Int) < 0 := by omega
    go_enter Tryz.func143, Tryz.ntmps143
    go_wp2
    go_ret
    exact ⟨Sz.yes h rfl, rfl⟩
  · have hd : x - (n : Int) < 0 := by omega
    go_enter Tryz.func143, Tryz.ntmps143
    go_wp2
    go_ret
    exact ⟨Sz.no, rfl⟩
theorem szs_any (aA aB : Option Addr) (nA cA nB cB : Nat) (x : Int) (w : World) (hA : nA ≤ 9223372036854775807) (hB : nB ≤ 9223372036854775807) (h0 : 0 ≤ x) (h1 : x ≤ 1048576) :
    Calls Tryz.prog 76 #[.agg #[.slice aA nA cA, .slice aB nB cB], .int .i64 x] w fun e w' => Sz (nA + nB) x e ∧ Below w.heap.size w w' := by
  have HB := hide (bal1 w (.cells #[.slice aA nA cA, .slice aB nB cB] 37))
  go_enter Tryz.func76, Tryz.ntmps76
  go_wp2_with fail
  refine (szb_any aA nA cA x _ hA h0 h1).mono ?_
  rintro e w1 ⟨h, hw⟩
  rw [hw]
  clear hw
  rcases h with ⟨hle, rfl⟩ | rfl
  · have hd : ¬ x - (nA : Int) < 0 := by omega
    go_wp2_with fail
    refine (szb_any aB nB cB (x - nA) _ hB (by omega) (by omega)).mono ?_
    rintro e w2 ⟨h, hw⟩
    rw [hw]
    clear hw
    rcases h with ⟨hle2, rfl⟩ | rfl
    · have hd2 : ¬ x - (nA : Int) - (nB : Int) < 0 := by omega
      go_wp2
      go_ret
      exact ⟨Sz.yes (by omega) (by omega), HB.out⟩
    · go_wp2
      go_ret
      exact ⟨Sz.no, HB.out⟩
  · go_wp2
    go_ret
    exact ⟨Sz.no, HB.out⟩

theorem eqb_yes (ao bo : Option Addr) (ca cb : Nat) (A : List Int) (w : World) (hA : VBy w ao ca A) (hB : VBy w bo cb A) :
    Calls Tryz.prog 140 #[.slice ao A.length ca, .slice bo A.length cb] w fun e w' => e = .returned (.bool true) ∧ Below w.heap.size w w' :=
  (eq_yes ao bo A.length ca cb _ _ w hA.2.2.1 hA.1 hB.1 (fun _ _ => rfl)).mono fun e w' ⟨h1, q, h2⟩ => ⟨h1, by rw [h2]; exact Below.drawn (Below.refl _ _) q⟩
theorem eqs_yes (aA aB bA bB : Option Addr) (cA cB dA dB : Nat) (A C : List Int) (w : World) (hA : VBy w aA cA A) (hB : VBy w aB cB C) (hA' : VBy w bA dA A) (hB' : VBy w bB dB C) :
    Calls Tryz.prog 61 #[.agg #[.slice aA A.length cA, .slice aB C.length cB], .agg #[.slice bA A.length dA, .slice bB C.length dB]] w fun e w' => e = .returned (.bool true) ∧ Below w.heap.size w w' := by
  obtain ⟨W, hW⟩ : ∃ W, W = ((w.alloc (.cells #[.slice aA A.length cA, .slice aB C.length cB] 28)).alloc (.cells #[.slice bA A.length dA, .slice bB C.length dB] 28)) := ⟨_, rfl⟩
  have hb : Below w.heap.size w W := by rw [hW]; exact (bal1 _ _).alloc (by simp) _
  have hS : SB W w.heap.size 28 aA A.length cA aB C.length cB := by rw [hW]; exact (SB.new w _ _ _ _ _ _ _).b (bal1 _ _)
  have hK : SB W (w.heap.size + 1) 28 bA A.length dA bB C.length dB := by
    have := SB.new (w.alloc (.cells #[.slice aA A.length cA, .slice aB C.length cB] 28)) 28 bA A.length dA bB C.length dB
    rw [alsz] at this
    rw [hW]; exact this
  have hcall := hide (eqb_yes aA bA cA dA A W (hA.below hb) (hA'.below hb))
  have HB := hide hb
  have HS := hide hS
  have HK := hide hK
  have HVB := hide (And.intro hB hB')
  clear hA hB hA' hB' hb hS hK
  go_enter Tryz.func61, Tryz.ntmps61
  go_wp2_with fail
  rw [← hW]
  clear hW
  refine hcall.out.mono ?_
  rintro e w1 ⟨rfl, b1⟩
  have HB1 := hide (HB.out.trans (b1.mono HB.out.size))
  obtain ⟨x0, x1⟩ := (HS.out.b b1).cells
  obtain ⟨y0, y1⟩ := (HK.out.b b1).cells
  have hc2 := hide (eqb_yes aB bB cB dB C w1 (HVB.out.1.below HB1.out) (HVB.out.2.below HB1.out))
  clear hcall b1 HB HS HK HVB
  go_wp2_with fail
  refine hc2.out.mono ?_
  rintro e w2 ⟨rfl, b2⟩
  have HB2 := hide (HB1.out.trans (b2.mono HB1.out.size))
  clear b2 hc2 x0 x1 y0 y1
  go_wp2
  go_ret
  exact ⟨rfl, HB2.out⟩

/-- Bytes that run. -/
def mkb (k : Int) (n : Nat) : List Int := (List.range n).map (fun j : Nat => (k + (j : Int)) % 256)
theorem mkb_len (k : Int) (n : Nat) : (mkb k n).length = n := by simp [mkb]
theorem mkb_get (k : Int) (n j : Nat) (h : j < n) : (mkb k n).getD j 0 = (k + j) % 256 := by simp [mkb, List.getD, h]
theorem mark_rb (ao : Option Addr) (n cap B T : Nat) (k0 : Int) (F : Nat → Value) (w : World) (hn : n ≤ 1048576) (h0 : 0 ≤ k0) (h1 : k0 ≤ 1099511627776) (ho : Rb w B T ao n F) :
    Calls Tryz.prog 141 #[.slice ao n cap, .int .i64 k0] w fun e w' => e = .returned (.int .i64 (k0 + n)) ∧ Rb w' B T ao n (fun j => .int .u8 ((k0 + j) % 256)) ∧ ((n = 0 ∧ w' = w) ∨ 0 < n ∧ ∃ γ, ao = some ⟨γ, 0, none⟩ ∧ (B ≤ γ ∧ γ < T) ∧ Only γ w w') := by
  by_cases hn0 : n = 0
  · subst hn0
    clear ho
    go_enter Tryz.func141, Tryz.ntmps141
    go_wp2
    go_loop [1, 5] (fun m i => i = .int .i64 0 ∧ m = .int .i64 k0) (fun _ _ => 0)
    case atStart => exact ⟨rfl, rfl⟩
    case round =>
      obtain ⟨rfl, rfl⟩ := hrel
      go_wp2
      go_ret
      exact ⟨by simp, .inl rfl, by first | exact .inl ⟨rfl, rfl⟩ | exact .inl rfl | simp⟩
  · obtain ⟨γ, rfl, hγ, c, hc, hs, hF⟩ : ∃ g, ao = some ⟨g, 0, none⟩ ∧ (B ≤ g ∧ g < T) ∧ ∃ c : Array Value, w.heap[g]? = some (.cells c 5 (0, 0)) ∧ n ≤ c.size ∧ ∀ i, i < n → c[i]? = some (F i) := ho.resolve_left hn0
    have hO : Own w γ 5 (some ⟨γ, 0, none⟩) n F := .inr ⟨γ, rfl, Nat.le_refl _, c, hc, hs, hF⟩
    have HO := hide hO
    clear hO
    go_enter Tryz.func141, Tryz.ntmps141
    go_wp2
    go_loopw [1, 5] (fun m i wr => ∃ k : Nat, k ≤ n ∧ i = .int .i64 k ∧ m = .int .i64 (k0 + k) ∧ Own wr γ 5 (some ⟨γ, 0, none⟩) n (fun j => if j < k then .int .u8 ((k0 + j) % 256) else F j) ∧ Only γ w wr) (fun _ i _ => n - (intOf i).toNat)
    case atStart => exact ⟨0, Nat.zero_le _, rfl, by simp, HO.out.congr (by intro i _; simp), Only.refl _ _⟩
    case round =>
      obtain ⟨k, hk, rfl, rfl, hrow, hbel⟩ := hrel
      by_cases hlt : k < n
      · obtain ⟨g, e, hB, hg, hcc, hf⟩ := hrow.at hlt
        cases e
        have R := mark_step hrow
        have R2 := hbel.setCell (i := k) (.int .u8 ((k0 + k) % 256))
        clear hrow
        go_wp2
        go_roundw
        case rel => exact ⟨k + 1, by omega, by go_num, by go_num, R, R2⟩
        case measure => simp [intOf]; omega
      · have hkn : k = n := by omega
        subst hkn
        go_wp2
        go_ret
        refine ⟨rfl, ?_, .inr ⟨by omega, γ, rfl, hγ, hbel⟩⟩
        rcases hrow.congr (G := fun j => .int .u8 ((k0 + j) % 256)) (by intro i hi; rw [if_pos (by omega)]) with h | ⟨g', e, _, c', r⟩
        · exact .inl h
        · cases e; exact .inr ⟨γ, rfl, hγ, c', r⟩
theorem row_rb {w : World} {B T g n : Nat} {F : Nat → Value} (h : w.rowIs g 5 n F) (hB : B ≤ g) (hT : g < T) : Rb w B T (some ⟨g, 0, none⟩) n F := by
  obtain ⟨c, hc, hn, hF⟩ := h
  exact .inr ⟨g, rfl, ⟨hB, hT⟩, c, hc, by omega, hF⟩
theorem SB.set0 {w : World} {b : Nat} {t : TypeId} {aA : Option Addr} {nA cA : Nat} {aB : Option Addr} {nB cB : Nat} {a' : Option Addr} {n' c' : Nat} (h : SB w b t aA nA cA aB nB cB) : SB (w.setCell ⟨b, 0, none⟩ (.slice a' n' c')) b t a' n' c' aB nB cB := by
  unfold SB at *
  simp [World.setCell, Array.getElem?_modify, h]
theorem SB.set1 {w : World} {b : Nat} {t : TypeId} {aA : Option Addr} {nA cA : Nat} {aB : Option Addr} {nB cB : Nat} {a' : Option Addr} {n' c' : Nat} (h : SB w b t aA nA cA aB nB cB) : SB (w.setCell ⟨b, 1, none⟩ (.slice a' n' c')) b t aA nA cA a' n' c' := by
  unfold SB at *
  simp [World.setCell, Array.getElem?_modify, h]
theorem far_set {w : World} {X i j : Nat} {v : Value} (h : j ≠ X) : (w.setCell ⟨X, i, none⟩ v).heap[j]? = w.heap[j]? := Below.heap_setCell w ⟨X, i, none⟩ v j h
theorem SB.far {w : World} {b X i : Nat} {t : TypeId} {aA : Option Addr} {nA cA : Nat} {aB : Option Addr} {nB cB : Nat} {v : Value} (h : SB w b t aA nA cA aB nB cB) (hne : b ≠ X) : SB (w.setCell ⟨X, i, none⟩ v) b t aA nA cA aB nB cB := (far_set hne).trans h

set_option maxHeartbeats 1000000 in
theorem tos_some (aA aB : Option Addr) (cA cB : Nat) (A C : List Int) (w : World) (hA : VBy w aA cA A) (hB : VBy w aB cB C) :
    Calls Tryz.prog 84 #[.agg #[.slice aA A.length cA, .slice aB C.length cB]] w fun e w' => ∃ bA bB dA dB, e = .returned (.agg #[.slice bA A.length dA, .slice bB C.length dB]) ∧ OSl w' w.heap.size w'.heap.size bA dA bB dB A C ∧ Below w.heap.size w w' ∧ (bA = none → dA = 0) ∧ (bB = none → dB = 0) := by
  obtain ⟨W, hW⟩ : ∃ W, W = (((w.alloc (.cells #[.slice aA A.length cA, .slice aB C.length cB] 37)).alloc (.cells #[.slice none 0 0, .slice none 0 0] 28)).alloc (.cells #[.slice none 0 0, .slice none 0 0] 28)) := ⟨_, rfl⟩
  obtain ⟨s0, s1, s2, s4⟩ := bal3 w (.cells #[.slice aA A.length cA, .slice aB C.length cB] 37) (.cells #[.slice none 0 0, .slice none 0 0] 28) (.cells #[.slice none 0 0, .slice none 0 0] 28)
  rw [← hW] at s0 s1 s2 s4
  have hb : Below w.heap.size w W := by rw [hW]; exact ((bal1 _ _).alloc (by simp) _).alloc (by simp; omega) _
  have hcall := hide (to_any aA A.length cA _ W hA.2.2.1 (hA.below hb).1)
  have HB := hide hb
  have HS : Hid (SB W w.heap.size 37 aA A.length cA aB C.length cB ∧ SB W (w.heap.size + 1) 28 none 0 0 none 0 0 ∧ SB W (w.heap.size + 1 + 1) 28 none 0 0 none 0 0) := ⟨s0, s1, s2⟩
  have HVB := hide hB
  clear hA hB hb s0 s1 s2
  go_enter Tryz.func84, Tryz.ntmps84
  go_wp2_with fail
  rw [← hW]
  clear hW
  refine hcall.out.mono ?_
  rintro e w1 ⟨rfl, r1, b1⟩
  rw [s4] at r1
  rw [s4]
  have hz1 := b1.size
  have HS1 : Hid (SB (w1.setCell ⟨w.heap.size + 1 + 1, 0, none⟩ (.slice (some ⟨w.heap.size + 1 + 1 + 1, 0, none⟩) A.length A.length)) w.heap.size 37 aA A.length cA aB C.length cB ∧ SB (w1.setCell ⟨w.heap.size + 1 + 1, 0, none⟩ (.slice (some ⟨w.heap.size + 1 + 1 + 1, 0, none⟩) A.length A.length)) (w.heap.size + 1) 28 none 0 0 none 0 0 ∧ SB (w1.setCell ⟨w.heap.size + 1 + 1, 0, none⟩ (.slice (some ⟨w.heap.size + 1 + 1 + 1, 0, none⟩) A.length A.length)) (w.heap.size + 1 + 1) 28 (some ⟨w.heap.size + 1 + 1 + 1, 0, none⟩) A.length A.length none 0 0) :=
    ⟨(HS.out.1.b b1).far (by omega), (HS.out.2.1.b b1).far (by omega), (HS.out.2.2.b b1).set0⟩
  have HR1 : Hid ((w1.setCell ⟨w.heap.size + 1 + 1, 0, none⟩ (.slice (some ⟨w.heap.size + 1 + 1 + 1, 0, none⟩) A.length A.length)).rowIs (w.heap.size + 1 + 1 + 1) 5 A.length (bv A)) := r1.of_block (far_set (by omega))
  have HB1 : Hid (Below w.heap.size w (w1.setCell ⟨w.heap.size + 1 + 1, 0, none⟩ (.slice (some ⟨w.heap.size + 1 + 1 + 1, 0, none⟩) A.length A.length))) := (HB.out.trans (b1.mono HB.out.size)).setCell (p := ⟨w.heap.size + 1 + 1, 0, none⟩) (show w.heap.size ≤ w.heap.size + 1 + 1 by omega) _
  have hsz1 : (w1.setCell ⟨w.heap.size + 1 + 1, 0, none⟩ (.slice (some ⟨w.heap.size + 1 + 1 + 1, 0, none⟩) A.length A.length)).heap.size = w1.heap.size := by simp [World.setCell]
  have hlt1 : w.heap.size + 1 + 1 + 1 < w1.heap.size := r1.lt
  obtain ⟨t0, t1⟩ := (HS.out.2.2.b b1).cells
  obtain ⟨u0, u1⟩ := (HS.out.1.b b1).cells
  have z0 := (HS.out.2.2.b b1).froz
  clear r1 b1 HB HS hcall
  go_wp2_with fail
  generalize w1.setCell ⟨w.heap.size + 1 + 1, 0, none⟩ (.slice (some ⟨w.heap.size + 1 + 1 + 1, 0, none⟩) A.length A.length) = V at *
  clear t0 t1 u0 u1 z0
  refine (to_any aB C.length cB _ V HVB.out.2.2.1 (HVB.out.below HB1.out).1).mono ?_
  rintro e w2 ⟨rfl, r2, b2⟩
  rw [hsz1] at r2
  rw [hsz1]
  have hlt2 : w1.heap.size < w2.heap.size := r2.lt
  have HR2 : Hid (w2.rowIs (w.heap.size + 1 + 1 + 1) 5 A.length (bv A) ∧ w2.rowIs w1.heap.size 5 C.length (bv C)) := ⟨row_below HR1.out b2 (by omega), r2⟩
  have HB2 := hide (HB1.out.trans (b2.mono HB1.out.size))
  obtain ⟨t0, t1⟩ := (HS1.out.2.2.b b2).cells
  have z0 := (HS1.out.2.2.b b2).froz
  obtain ⟨x0, x1⟩ := (HS1.out.2.1.b b2).cells
  have z1 := (HS1.out.2.1.b b2).froz
  clear r2 b2 HR1 HB1 HS1 HVB
  go_wp2
  refine bodyPost_ret (v := .agg #[.slice (some ⟨w.heap.size + 1 + 1 + 1, 0, none⟩) A.length A.length, .slice (some ⟨w1.heap.size, 0, none⟩) C.length C.length]) (by simp [results, Tryz.results84, go_sem, t0, t1, x0, x1]) rfl ?_
  have hF : OSl w2 (w.heap.size + 1 + 1 + 1) w2.heap.size (some ⟨w.heap.size + 1 + 1 + 1, 0, none⟩) A.length (some ⟨w1.heap.size, 0, none⟩) C.length A C :=
    ⟨⟨by omega, Nat.le_refl _⟩, ⟨Nat.le_refl _, Nat.le_refl _⟩, row_rb HR2.out.1 (by omega) (by omega), row_rb HR2.out.2 (by omega) hlt2, fun γ e _ _ e2 => by simp only [Option.some.injEq, Addr.mk.injEq] at e e2; omega⟩
  refine ⟨_, _, _, _, rfl, ?_, ?_, (fun e => by cases e), (fun e => by cases e)⟩
  · have hfin : ∀ F : World, F.heap.size = w2.heap.size → (∀ j, w.heap.size + 1 + 1 + 1 ≤ j → F.heap[j]? = w2.heap[j]?) → OSl F w.heap.size F.heap.size (some ⟨w.heap.size + 1 + 1 + 1, 0, none⟩) A.length (some ⟨w1.heap.size, 0, none⟩) C.length A C := fun F hs hk =>
      (hF.kept (fun j h1 _ => hk j h1) (by omega)).wider (by omega) (by omega) (Nat.le_refl _)
    exact hfin _ (by simp [World.setCell]) (fun j hj => (far_set (by omega)).trans ((far_set (by omega)).trans (far_set (by omega))))
  · exact ((HB2.out.setCell (p := ⟨w.heap.size + 1 + 1, 1, none⟩) (show w.heap.size ≤ w.heap.size + 1 + 1 by omega) _).setCell (p := ⟨w.heap.size + 1, 0, none⟩) (show w.heap.size ≤ w.heap.size + 1 by omega) _).setCell (p := ⟨w.heap.size + 1, 1, none⟩) (show w.heap.size ≤ w.heap.size + 1 by omega) _

theorem Rb.mkb {w : World} {B T : Nat} {ao : Option Addr} {n : Nat} {k : Int} (h : Rb w B T ao n (fun j => .int .u8 ((k + j) % 256))) : Rb w B T ao (mkb k n).length (bv (mkb k n)) := by
  rw [mkb_len]
  rcases h with h | ⟨g, e, hB, c, hc, hs, hF⟩
  · exact .inl h
  · exact .inr ⟨g, e, hB, c, hc, hs, fun i hi => by rw [hF i hi]; unfold bv; rw [mkb_get _ _ _ hi]⟩
theorem Rb.only {w w' : World} {B T γ : Nat} {ao : Option Addr} {n : Nat} {F : Nat → Value} (h : Rb w B T ao n F) (ho : Only γ w w') (hne : 0 < n → ao ≠ some ⟨γ, 0, none⟩) : Rb w' B T ao n F := by
  rcases h with h | ⟨g, e, hB, c, hc, r⟩
  · exact .inl h
  · by_cases h0 : n = 0
    · exact .inl h0
    · exact .inr ⟨g, e, hB, c, (ho.2.2 g (fun e2 => hne (by omega) (by rw [e, e2]))).trans hc, r⟩

theorem rb_owns {w : World} {B : Nat} {v : Value} {A : List Int} (h : w.ownsRow B 5 1 v A.length (A.map (.int .u8))) : ∃ ao c, v = .slice ao A.length c ∧ A.length ≤ c ∧ Rb w B w.heap.size ao A.length (bv A) := by
  obtain ⟨ao, c, rfl, h1, ho⟩ := Own.of_owns h
  exact ⟨ao, c, rfl, h1.2.1, Rb.of ho⟩
/-- A slice of bytes that may be nil: what is appended of it. -/
theorem VBy.src {w : World} {ao : Option Addr} {cap : Nat} {A : List Int} (h : VBy w ao cap A) (h0 : ao = none → cap = 0) : Src .u8 w (.slice ao A.length cap) A := by
  have := Src.of_sl h.1 (c := cap) (fun e => by
    refine ⟨?_, h0 e⟩
    by_cases h0 : A.length = 0
    · exact h0
    · obtain ⟨b, off, e', _⟩ := h.1 0 (by omega)
      rw [e] at e'
      cases e')
  rwa [krange_self] at this

theorem clone_impl (ao : Option Addr) (cap : Nat) (A : List Int) (w : World) (hv : VBy w ao cap A) (h0 : ao = none → cap = 0) :
    Calls Tryz.prog 204 #[.slice ao A.length cap] w fun e w' => ∃ bo c, e = .returned (.slice bo A.length c) ∧ A.length ≤ c ∧ Rb w' w.heap.size w'.heap.size bo A.length (bv A) ∧ Below w.heap.size w w' ∧ (bo = none → c = 0) := by
  obtain ⟨i0, hi, hz0, hz1, hz2⟩ := info_parts Tryz.info5
  have hl := hv.2.2.1
  have n1 : ∀ w, (binOp .eql 26 (.slice none 0 0) (.slice none 0 0)).run Tryz.prog w = .ok (.bool true) w := fun w => by kernel_rfl
  have n2 : ∀ ad n c w, (binOp .eql 26 (.slice (some ad) n c) (.slice none 0 0)).run Tryz.prog w = .ok (.bool false) w := fun ad n c w => by kernel_rfl
  cases ao with
  | none =>
    have hA : A.length = 0 := by
      by_cases h : A.length = 0
      · exact h
      · obtain ⟨b, off, e', _⟩ := hv.1 0 (by omega)
        cases e'
    obtain rfl : A = [] := List.length_eq_zero_iff.1 hA
    obtain rfl := h0 rfl
    clear hv
    go_enter Tryz.func204, Tryz.ntmps204
    go_wp2
    go_ret
    exact ⟨none, 0, rfl, .inl rfl, Below.refl _ _, fun _ => rfl⟩
  | some ad =>
    have hs := hide ((hv.src h0).below (bal1 w (.cells #[] 5)))
    have HB : Hid (Below w.heap.size w (w.alloc (.cells #[] 5))) := bal1 _ _
    clear hv
    go_enter Tryz.func204, Tryz.ntmps204
    go_wp2_with (first
      | (at_builtin; refine wpList_append_src rfl _ _ 26 rfl w.heap.size 5 i0 (.int .u8 0) 1 Tryz.underlying26 hi hz0 hz1 hz2 rfl .u8 _ [] rfl (gempty (Nat.le_refl _)) _ A rfl hs.out (glens (by simp; omega)) (by simp; omega) HB.out.size ?_; intro v3 w3 ho3 hg3))
    go_ret
    have hb := ggrown HB.out HB.out.size (gempty (ik := .u8) (t := 5) (Nat.le_refl _)) hg3
    rw [List.nil_append] at ho3
    have hn : ∀ c, v3 = .slice none A.length c → c = 0 := fun c e => by
      rw [e] at ho3
      rcases ho3.2 with ⟨h, _⟩ | ⟨_, _, _, h, _⟩
      · simp at h; exact h.2
      · simp at h
    obtain ⟨bo, c, rfl, h1, h2⟩ := rb_owns ho3
    exact ⟨bo, c, rfl, h1, h2, hb, fun e => hn c (by rw [e])⟩

/-- Nothing stands behind nil. -/
def NC (ao : Option Addr) (cap : Nat) : Prop := ao = none → cap = 0

theorem rb_apart {w1 w2 : World} {B T T' n m : Nat} {ao bo : Option Addr} {F G : Nat → Value} (r1 : Rb w1 B T ao n F) (r2 : Rb w2 T T' bo m G) : ∀ γ, ao = some ⟨γ, 0, none⟩ → 0 < n → 0 < m → bo ≠ some ⟨γ, 0, none⟩ := by
  intro γ e hp hp2 e2
  rcases r1 with h | ⟨q, eq, hq, _⟩
  · omega
  · rcases r2 with h | ⟨q2, eq2, hq2, _⟩
    · omega
    · rw [eq] at e
      rw [eq2] at e2
      simp only [Option.some.injEq, Addr.mk.injEq] at e e2
      omega
/-- The blocks of what is copied, and of the answer. -/
def CpK (w W : World) (aA aB : Option Addr) (cA cB : Nat) (A C : List Int) : Prop :=
  Below w.heap.size w W ∧ SB W w.heap.size 28 aA A.length cA aB C.length cB ∧ SB W (w.heap.size + 1) 28 none 0 0 none 0 0 ∧ w.heap.size + 1 + 1 ≤ W.heap.size
theorem CpK.b {w W W' : World} {aA aB : Option Addr} {cA cB : Nat} {A C : List Int} (h : CpK w W aA aB cA cB A C) (hb : Below W.heap.size W W') : CpK w W' aA aB cA cB A C :=
  ⟨h.1.trans (hb.mono h.1.size), h.2.1.b hb, h.2.2.1.b hb, Nat.le_trans h.2.2.2 hb.size⟩
theorem cpk_new (w : World) (aA aB : Option Addr) (cA cB : Nat) (A C : List Int) : CpK w ((w.alloc (.cells #[.slice aA A.length cA, .slice aB C.length cB] 28)).alloc (.cells #[.slice none 0 0, .slice none 0 0] 28)) aA aB cA cB A C := by
  refine ⟨(bal1 _ _).alloc (by simp) _, (SB.new w _ _ _ _ _ _ _).b (bal1 _ _), ?_, by rw [alsz, alsz]; omega⟩
  have := SB.new (w.alloc (.cells #[.slice aA A.length cA, .slice aB C.length cB] 28)) 28 none 0 0 none 0 0
  rw [alsz] at this
  exact this
/-- What was copied, handed back. -/
theorem cp_end {w W : World} {aA aB bA bB : Option Addr} {cA cB dA dB B : Nat} {A C : List Int} (h : CpK w W aA aB cA cB A C) (ho : OSl W B W.heap.size bA dA bB dB A C) (hB : w.heap.size + 1 + 1 ≤ B) :
    OSl ((W.setCell ⟨w.heap.size + 1, 0, none⟩ (.slice bA A.length dA)).setCell ⟨w.heap.size + 1, 1, none⟩ (.slice bB C.length dB)) w.heap.size ((W.setCell ⟨w.heap.size + 1, 0, none⟩ (.slice bA A.length dA)).setCell ⟨w.heap.size + 1, 1, none⟩ (.slice bB C.length dB)).heap.size bA dA bB dB A C ∧ Below w.heap.size w ((W.setCell ⟨w.heap.size + 1, 0, none⟩ (.slice bA A.length dA)).setCell ⟨w.heap.size + 1, 1, none⟩ (.slice bB C.length dB)) := by
  have hs : ((W.setCell ⟨w.heap.size + 1, 0, none⟩ (.slice bA A.length dA)).setCell ⟨w.heap.size + 1, 1, none⟩ (.slice bB C.length dB)).heap.size = W.heap.size := by simp [World.setCell]
  refine ⟨?_, (h.1.setCell (p := ⟨w.heap.size + 1, 0, none⟩) (show w.heap.size ≤ w.heap.size + 1 by omega) _).setCell (p := ⟨w.heap.size + 1, 1, none⟩) (show w.heap.size ≤ w.heap.size + 1 by omega) _⟩
  exact (ho.kept (fun j h1 _ => (far_set (by omega)).trans (far_set (by omega))) (by omega)).wider (by omega) (by omega) (Nat.le_refl _)

set_option maxHeartbeats 1000000 in
theorem clones_impl (aA aB : Option Addr) (cA cB : Nat) (A C : List Int) (w : World) (hA : VBy w aA cA A) (hB : VBy w aB cB C) (nA : NC aA cA) (nB : NC aB cB) :
    Calls Tryz.prog 137 #[.agg #[.slice aA A.length cA, .slice aB C.length cB]] w fun e w' => ∃ bA bB dA dB, e = .returned (.agg #[.slice bA A.length dA, .slice bB C.length dB]) ∧ OSl w' w.heap.size w'.heap.size bA dA bB dB A C ∧ Below w.heap.size w w' ∧ NC bA dA ∧ NC bB dB := by
  obtain ⟨W, hW⟩ : ∃ W, W = ((w.alloc (.cells #[.slice aA A.length cA, .slice aB C.length cB] 28)).alloc (.cells #[.slice none 0 0, .slice none 0 0] 28)) := ⟨_, rfl⟩
  have hk : CpK w W aA aB cA cB A C := by rw [hW]; exact cpk_new w aA aB cA cB A C
  have HKd : Hid (CpK w W.drew aA aB cA cB A C) := hk.b (Below.drawn (Below.refl _ _) 1)
  have hS := HKd.out.2.1.cells
  have hc1 := hide (clone_impl aA cA A W.drew (hA.below HKd.out.1) nA)
  have HVB := hide hB
  have HNB := hide nB
  clear hA hB nA nB hk
  go_enter Tryz.func137, Tryz.ntmps137
  go_wp2_with fail
  rw [← hW]
  clear hW
  go_region_held3 (fun w' => (w'.cell? ⟨w.heap.size, 0, none⟩ = some (.slice aA A.length cA) ∧ w'.cell? ⟨w.heap.size, 1, none⟩ = some (.slice aB C.length cB))) (first | with_reducible assumption | exact hS) (first
    | (go_at_call 204; refine hc1.out.mono ?_; rintro e w1 ⟨bA, dA, rfl, h1, r1, b1, n1⟩; have H1 : Hid (CpK w w1 aA aB cA cB A C ∧ Rb w1 W.drew.heap.size w1.heap.size bA A.length (bv A) ∧ A.length ≤ dA ∧ NC bA dA ∧ W.drew.heap.size ≤ w1.heap.size) := ⟨HKd.out.b b1, r1, h1, n1, b1.size⟩; have hk1 := H1.out.1.2.1.cells; clear h1 r1 b1 n1 hc1)
    | (go_at_call 204; refine (clone_impl aB cB C w1 (HVB.out.below H1.out.1.1) HNB.out).mono ?_; rintro e w2 ⟨bB, dB, rfl, h2, r2, b2, n2⟩; have H2 : Hid (CpK w w2 aA aB cA cB A C ∧ OSl w2 W.drew.heap.size w2.heap.size bA dA bB dB A C ∧ NC bA dA ∧ NC bB dB) := ⟨H1.out.1.b b2, ⟨⟨Nat.le_trans H1.out.2.2.2.2 b2.size, Nat.le_refl _⟩, ⟨H1.out.2.2.1, h2⟩, (H1.out.2.1.below b2 (Nat.le_refl _)).wide (Nat.le_refl _) b2.size, r2.wide H1.out.2.2.2.2 (Nat.le_refl _), rb_apart H1.out.2.1 r2⟩, H1.out.2.2.2.1, n2⟩; have hk2 := H2.out.1.2.1.cells; have hx2 := H2.out.1.2.2.1.cells; have x0 := hx2.1; have x1 := hx2.2; have z1 := H2.out.1.2.2.1.froz; have hk3 := ((H2.out.1.2.1.far (X := w.heap.size + 1) (i := 0) (v := .slice bA A.length dA) (by omega)).far (X := w.heap.size + 1) (i := 1) (v := .slice bB C.length dB) (by omega)).cells; clear h2 r2 b2 n2 hx2))
  have hz := HKd.out.2.2.2
  clear hS hk1 hk2 hk3 H1 HKd
  go_wp2
  refine bodyPost_ret (v := .agg #[.slice bA A.length dA, .slice bB C.length dB]) (by simp [results, Tryz.results137, go_sem, x0, x1]) rfl ?_
  obtain ⟨f1, f2⟩ := cp_end H2.out.1 H2.out.2.1 hz
  exact ⟨_, _, _, _, rfl, f1, f2, H2.out.2.2.1, H2.out.2.2.2⟩
end Go.Proofs.YtkndnndildnbpaaGreatDoor

/- Slots in memory of their own: sized, made, held against another, marked. -/
import Derived.Test.YtjjdbdkbpmbniabGreatDoorSlI4Z
import Derived.Test.YtjjdbdkbpmbniabGreatDoorMtRbZ
import Derived.Test.YtjjdbdkbpmbniabGreatDoorSlOZ

namespace Go.Proofs.YtjjdbdkbpmbniabGreatDoor
open Go.ChangeShapes Go.WideShapes Go.ChangeAt Go.RowKit
set_option linter.unusedVariables false
set_option linter.unusedSimpArgs false
set_option maxRecDepth 100000

def bv (A : List Int) (i : Nat) : Value := .int .u8 (A.getD i 0)
/-- Two slots in memory of their own between two marks of the heap. -/
def OSl (w : World) (B T : Nat) (aA : Option Addr) (cA : Nat) (aB : Option Addr) (cB : Nat) (A C : List Int) : Prop :=
  (B ≤ T ∧ T ≤ w.heap.size) ∧ (A.length ≤ cA ∧ C.length ≤ cB) ∧ Rb w B T aA A.length (bv A) ∧ Rb w B T aB C.length (bv C) ∧ ∀ γ, aA = some ⟨γ, 0, none⟩ → 0 < A.length → 0 < C.length → aB ≠ some ⟨γ, 0, none⟩
theorem OSl.kept {w w' : World} {B T : Nat} {aA : Option Addr} {cA : Nat} {aB : Option Addr} {cB : Nat} {A C : List Int} (h : OSl w B T aA cA aB cB A C) (hk : ∀ j, B ≤ j → j < T → w'.heap[j]? = w.heap[j]?) (hs : w.heap.size ≤ w'.heap.size) : OSl w' B T aA cA aB cB A C :=
  ⟨⟨h.1.1, by have := h.1.2; omega⟩, h.2.1, h.2.2.1.kept hk, h.2.2.2.1.kept hk, h.2.2.2.2⟩
theorem OSl.below {w w' : World} {B T X : Nat} {aA : Option Addr} {cA : Nat} {aB : Option Addr} {cB : Nat} {A C : List Int} (h : OSl w B T aA cA aB cB A C) (hb : Below X w w') (hX : T ≤ X) : OSl w' B T aA cA aB cB A C :=
  h.kept (fun j _ hj => hb.block j (by omega)) hb.size
theorem Rb.wide {w : World} {B T B' T' : Nat} {ao : Option Addr} {n : Nat} {F : Nat → Value} (h : Rb w B T ao n F) (hB : B' ≤ B) (hT : T ≤ T') : Rb w B' T' ao n F := by
  rcases h with h | ⟨g, e, hg, r⟩
  · exact .inl h
  · exact .inr ⟨g, e, by omega, r⟩
theorem OSl.wider {w : World} {B T B' T' : Nat} {aA : Option Addr} {cA : Nat} {aB : Option Addr} {cB : Nat} {A C : List Int} (h : OSl w B T aA cA aB cB A C) (hB : B' ≤ B) (hT : T ≤ T') (hT' : T' ≤ w.heap.size) : OSl w B' T' aA cA aB cB A C :=
  ⟨⟨by have := h.1.1; omega, hT'⟩, h.2.1, h.2.2.1.wide hB hT, h.2.2.2.1.wide hB hT, h.2.2.2.2⟩
/-- Bytes that are bytes, and not too many. -/
def By (A : List Int) : Prop := A.length ≤ 1048576 ∧ ∀ i, i < A.length → 0 ≤ A.getD i 0 ∧ A.getD i 0 ≤ 255
theorem OSl.va {w : World} {B T : Nat} {aA : Option Addr} {cA : Nat} {aB : Option Addr} {cB : Nat} {A C : List Int} (h : OSl w B T aA cA aB cB A C) (hA : By A) : VBy w aA cA A := ⟨h.2.2.1.own.sl, h.2.1.1, hA.1, hA.2⟩
theorem OSl.vb {w : World} {B T : Nat} {aA : Option Addr} {cA : Nat} {aB : Option Addr} {cB : Nat} {A C : List Int} (h : OSl w B T aA cA aB cB A C) (hC : By C) : VBy w aB cB C := ⟨h.2.2.2.1.own.sl, h.2.1.2, hC.1, hC.2⟩
theorem VBy.by {w : World} {ao : Option Addr} {cap : Nat} {A : List Int} (h : VBy w ao cap A) : By A := h.2.2

theorem szb_any (ao : Option Addr) (n cap : Nat) (x : Int) (w : World) (hn : n ≤ 9223372036854775807) (h0 : 0 ≤ x) (h1 : x ≤ 1048576) :
    Calls Tryz.prog 15 #[.slice ao n cap, .int .i64 x] w fun e w' => Sz n x e ∧ w' = w := by
  by_cases h : (n : Int) ≤ x
  · have hd : ¬ x - (n : Int) < 0 := by omega
    go_enter Tryz.func15, Tryz.ntmps15
    go_wp2
    go_ret
    exact ⟨Sz.yes h rfl, rfl⟩
  · have hd : x - (n : Int) < 0 := by omega
    go_enter Tryz.func15, Tryz.ntmps15
    go_wp2
    go_ret
    exact ⟨Sz.no, rfl⟩
theorem szs_any (aA aB : Option Addr) (nA cA nB cB : Nat) (x : Int) (w : World) (hA : nA ≤ 9223372036854775807) (hB : nB ≤ 9223372036854775807) (h0 : 0 ≤ x) (h1 : x ≤ 1048576) :
    Calls Tryz.prog 4 #[.agg #[.slice aA nA cA, .slice aB nB cB], .int .i64 x] w fun e w' => Sz (nA + nB) x e ∧ Below w.heap.size w w' := by
  have HB := hide (bal1 w (.cells #[.slice aA nA cA, .slice aB nB cB] 24))
  go_enter Tryz.func4, Tryz.ntmps4
  go_wp2_with fail
  refine (szb_any aA nA cA x _ hA h0 h1).mono ?_
  rintro e w1 ⟨h, hw⟩
  rw [hw]
  clear hw
  rcases h with ⟨hle, rfl⟩ | rfl
  · have hd : ¬ x - (nA : Int) < 0 := by omega
    go_wp2_with fail
    refine (szb_any aB nB cB (x - nA) _ hB (by omega) (by omega)).mono ?_
    rintro e w2 ⟨h, hw⟩
    rw [hw]
    clear hw
    rcases h with ⟨hle2, rfl⟩ | rfl
    · have hd2 : ¬ x - (nA : Int) - (nB : Int) < 0 := by omega
      go_wp2
      go_ret
      exact ⟨Sz.yes (by omega) (by omega), HB.out⟩
    · go_wp2
      go_ret
      exact ⟨Sz.no, HB.out⟩
  · go_wp2
    go_ret
    exact ⟨Sz.no, HB.out⟩

theorem eqb_yes (ao bo : Option Addr) (ca cb : Nat) (A : List Int) (w : World) (hA : VBy w ao ca A) (hB : VBy w bo cb A) :
    Calls Tryz.prog 31 #[.slice ao A.length ca, .slice bo A.length cb] w fun e w' => e = .returned (.bool true) ∧ Below w.heap.size w w' :=
  (eq_yes ao bo A.length ca cb _ _ w hA.2.2.1 hA.1 hB.1 (fun _ _ => rfl)).mono fun e w' ⟨h1, q, h2⟩ => ⟨h1, by rw [h2]; exact Below.drawn (Below.refl _ _) q⟩
theorem eqs_yes (aA aB bA bB : Option Addr) (cA cB dA dB : Nat) (A C : List Int) (w : World) (hA : VBy w aA cA A) (hB : VBy w aB cB C) (hA' : VBy w bA dA A) (hB' : VBy w bB dB C) :
    Calls Tryz.prog 10 #[.agg #[.slice aA A.length cA, .slice aB C.length cB], .agg #[.slice bA A.length dA, .slice bB C.length dB]] w fun e w' => e = .returned (.bool true) ∧ Below w.heap.size w w' := by
  obtain ⟨W, hW⟩ : ∃ W, W = ((w.alloc (.cells #[.slice aA A.length cA, .slice aB C.length cB] 31)).alloc (.cells #[.slice bA A.length dA, .slice bB C.length dB] 31)) := ⟨_, rfl⟩
  have hb : Below w.heap.size w W := by rw [hW]; exact (bal1 _ _).alloc (by simp) _
  have hS : SB W w.heap.size 31 aA A.length cA aB C.length cB := by rw [hW]; exact (SB.new w _ _ _ _ _ _ _).b (bal1 _ _)
  have hK : SB W (w.heap.size + 1) 31 bA A.length dA bB C.length dB := by
    have := SB.new (w.alloc (.cells #[.slice aA A.length cA, .slice aB C.length cB] 31)) 31 bA A.length dA bB C.length dB
    rw [alsz] at this
    rw [hW]; exact this
  have hcall := hide (eqb_yes aA bA cA dA A W (hA.below hb) (hA'.below hb))
  have HB := hide hb
  have HS := hide hS
  have HK := hide hK
  have HVB := hide (And.intro hB hB')
  clear hA hB hA' hB' hb hS hK
  go_enter Tryz.func10, Tryz.ntmps10
  go_wp2_with fail
  rw [← hW]
  clear hW
  refine hcall.out.mono ?_
  rintro e w1 ⟨rfl, b1⟩
  have HB1 := hide (HB.out.trans (b1.mono HB.out.size))
  obtain ⟨x0, x1⟩ := (HS.out.b b1).cells
  obtain ⟨y0, y1⟩ := (HK.out.b b1).cells
  have hc2 := hide (eqb_yes aB bB cB dB C w1 (HVB.out.1.below HB1.out) (HVB.out.2.below HB1.out))
  clear hcall b1 HB HS HK HVB
  go_wp2_with fail
  refine hc2.out.mono ?_
  rintro e w2 ⟨rfl, b2⟩
  have HB2 := hide (HB1.out.trans (b2.mono HB1.out.size))
  clear b2 hc2 x0 x1 y0 y1
  go_wp2
  go_ret
  exact ⟨rfl, HB2.out⟩

/-- Bytes that run. -/
def mkb (k : Int) (n : Nat) : List Int := (List.range n).map (fun j : Nat => (k + (j : Int)) % 256)
theorem mkb_len (k : Int) (n : Nat) : (mkb k n).length = n := by simp [mkb]
theorem mkb_get (k : Int) (n j : Nat) (h : j < n) : (mkb k n).getD j 0 = (k + j) % 256 := by simp [mkb, List.getD, h]
theorem mkb_by (k : Int) (n : Nat) (h : n ≤ 1048576) : By (mkb k n) := by
  refine ⟨by rw [mkb_len]; exact h, fun i hi => ?_⟩
  rw [mkb_len] at hi
  rw [mkb_get _ _ _ hi]
  omega

theorem mark_rb (ao : Option Addr) (n cap B T : Nat) (k0 : Int) (F : Nat → Value) (w : World) (hn : n ≤ 1048576) (h0 : 0 ≤ k0) (h1 : k0 ≤ 1099511627776) (ho : Rb w B T ao n F) :
    Calls Tryz.prog 34 #[.slice ao n cap, .int .i64 k0] w fun e w' => e = .returned (.int .i64 (k0 + n)) ∧ Rb w' B T ao n (fun j => .int .u8 ((k0 + j) % 256)) ∧ ((n = 0 ∧ w' = w) ∨ 0 < n ∧ ∃ γ, ao = some ⟨γ, 0, none⟩ ∧ (B ≤ γ ∧ γ < T) ∧ Only γ w w') := by
  by_cases hn0 : n = 0
  · subst hn0
    clear ho
    go_enter Tryz.func34, Tryz.ntmps34
    go_wp2
    go_loop [1, 5] (fun m i => i = .int .i64 0 ∧ m = .int .i64 k0) (fun _ _ => 0)
    case atStart => exact ⟨rfl, rfl⟩
    case round =>
      obtain ⟨rfl, rfl⟩ := hrel
      go_wp2
      go_ret
      exact ⟨by simp, .inl rfl, by first | exact .inl ⟨rfl, rfl⟩ | exact .inl rfl | simp⟩
  · obtain ⟨γ, rfl, hγ, c, hc, hs, hF⟩ : ∃ g, ao = some ⟨g, 0, none⟩ ∧ (B ≤ g ∧ g < T) ∧ ∃ c : Array Value, w.heap[g]? = some (.cells c 5 (0, 0)) ∧ n ≤ c.size ∧ ∀ i, i < n → c[i]? = some (F i) := ho.resolve_left hn0
    have hO : Own w γ 5 (some ⟨γ, 0, none⟩) n F := .inr ⟨γ, rfl, Nat.le_refl _, c, hc, hs, hF⟩
    have HO := hide hO
    clear hO
    go_enter Tryz.func34, Tryz.ntmps34
    go_wp2
    go_loopw [1, 5] (fun m i wr => ∃ k : Nat, k ≤ n ∧ i = .int .i64 k ∧ m = .int .i64 (k0 + k) ∧ Own wr γ 5 (some ⟨γ, 0, none⟩) n (fun j => if j < k then .int .u8 ((k0 + j) % 256) else F j) ∧ Only γ w wr) (fun _ i _ => n - (intOf i).toNat)
    case atStart => exact ⟨0, Nat.zero_le _, rfl, by simp, HO.out.congr (by intro i _; simp), Only.refl _ _⟩
    case round =>
      obtain ⟨k, hk, rfl, rfl, hrow, hbel⟩ := hrel
      by_cases hlt : k < n
      · obtain ⟨g, e, hB, hg, hcc, hf⟩ := hrow.at hlt
        cases e
        have R := mark_step hrow
        have R2 := hbel.setCell (i := k) (.int .u8 ((k0 + k) % 256))
        clear hrow
        go_wp2
        go_roundw
        case rel => exact ⟨k + 1, by omega, by go_num, by go_num, R, R2⟩
        case measure => simp [intOf]; omega
      · have hkn : k = n := by omega
        subst hkn
        go_wp2
        go_ret
        refine ⟨rfl, ?_, .inr ⟨by omega, γ, rfl, hγ, hbel⟩⟩
        rcases hrow.congr (G := fun j => .int .u8 ((k0 + j) % 256)) (by intro i hi; rw [if_pos (by omega)]) with h | ⟨g', e, _, c', r⟩
        · exact .inl h
        · cases e; exact .inr ⟨γ, rfl, hγ, c', r⟩
end Go.Proofs.YtjjdbdkbpmbniabGreatDoor

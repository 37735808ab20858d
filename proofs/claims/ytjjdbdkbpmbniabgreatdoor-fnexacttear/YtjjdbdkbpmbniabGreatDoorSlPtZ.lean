/- SlotPut of both. -/
import Derived.Test.YtjjdbdkbpmbniabGreatDoorSlW2Z

namespace Go.Proofs.YtjjdbdkbpmbniabGreatDoor
open Go.ChangeShapes Go.WideShapes Go.ChangeAt Go.RowKit
set_option linter.unusedVariables false
set_option linter.unusedSimpArgs false
set_option maxRecDepth 100000

theorem rb_owns {w : World} {B : Nat} {v : Value} {A : List Int} (h : w.ownsRow B 5 1 v A.length (A.map (.int .u8))) : ∃ ao c, v = .slice ao A.length c ∧ A.length ≤ c ∧ Rb w B w.heap.size ao A.length (bv A) := by
  obtain ⟨ao, c, rfl, h1, ho⟩ := Own.of_owns h
  exact ⟨ao, c, rfl, h1.2.1, Rb.of ho⟩
/-- A slice of bytes that may be nil: what is appended of it. -/
theorem VBy.src {w : World} {ao : Option Addr} {cap : Nat} {A : List Int} (h : VBy w ao cap A) (h0 : ao = none → cap = 0) : Src .u8 w (.slice ao A.length cap) A := by
  have := Src.of_sl h.1 (c := cap) (fun e => by
    refine ⟨?_, h0 e⟩
    by_cases h0 : A.length = 0
    · exact h0
    · obtain ⟨b, off, e', _⟩ := h.1 0 (by omega)
      rw [e] at e'
      cases e')
  rwa [krange_self] at this

theorem clone_impl (ao : Option Addr) (cap : Nat) (A : List Int) (w : World) (hv : VBy w ao cap A) (h0 : ao = none → cap = 0) :
    Calls Tryz.prog 45 #[.slice ao A.length cap] w fun e w' => ∃ bo c, e = .returned (.slice bo A.length c) ∧ A.length ≤ c ∧ Rb w' w.heap.size w'.heap.size bo A.length (bv A) ∧ Below w.heap.size w w' ∧ (bo = none → c = 0) := by
  obtain ⟨i0, hi, hz0, hz1, hz2⟩ := info_parts Tryz.info5
  have hl := hv.2.2.1
  have n1 : ∀ w, (binOp .eql 22 (.slice none 0 0) (.slice none 0 0)).run Tryz.prog w = .ok (.bool true) w := fun w => by kernel_rfl
  have n2 : ∀ ad n c w, (binOp .eql 22 (.slice (some ad) n c) (.slice none 0 0)).run Tryz.prog w = .ok (.bool false) w := fun ad n c w => by kernel_rfl
  cases ao with
  | none =>
    have hA : A.length = 0 := by
      by_cases h : A.length = 0
      · exact h
      · obtain ⟨b, off, e', _⟩ := hv.1 0 (by omega)
        cases e'
    obtain rfl : A = [] := List.length_eq_zero_iff.1 hA
    obtain rfl := h0 rfl
    clear hv
    go_enter Tryz.func45, Tryz.ntmps45
    go_wp2
    go_ret
    exact ⟨none, 0, rfl, .inl rfl, Below.refl _ _, fun _ => rfl⟩
  | some ad =>
    have hs := hide ((hv.src h0).below (bal1 w (.cells #[] 5)))
    have HB : Hid (Below w.heap.size w (w.alloc (.cells #[] 5))) := bal1 _ _
    clear hv
    go_enter Tryz.func45, Tryz.ntmps45
    go_wp2_with (first
      | (at_builtin; refine wpList_append_src rfl _ _ 22 rfl w.heap.size 5 i0 (.int .u8 0) 1 Tryz.underlying22 hi hz0 hz1 hz2 rfl .u8 _ [] rfl (gempty (Nat.le_refl _)) _ A rfl hs.out (glens (by simp; omega)) (by simp; omega) HB.out.size ?_; intro v3 w3 ho3 hg3))
    go_ret
    have hb := ggrown HB.out HB.out.size (gempty (ik := .u8) (t := 5) (Nat.le_refl _)) hg3
    rw [List.nil_append] at ho3
    have hn : ∀ c, v3 = .slice none A.length c → c = 0 := fun c e => by
      rw [e] at ho3
      rcases ho3.2 with ⟨h, _⟩ | ⟨_, _, _, h, _⟩
      · simp at h; exact h.2
      · simp at h
    obtain ⟨bo, c, rfl, h1, h2⟩ := rb_owns ho3
    exact ⟨bo, c, rfl, h1, h2, hb, fun e => hn c (by rw [e])⟩

/-- Nothing stands behind nil. -/
def NC (ao : Option Addr) (cap : Nat) : Prop := ao = none → cap = 0

theorem rb_apart {w1 w2 : World} {B T T' n m : Nat} {ao bo : Option Addr} {F G : Nat → Value} (r1 : Rb w1 B T ao n F) (r2 : Rb w2 T T' bo m G) : ∀ γ, ao = some ⟨γ, 0, none⟩ → 0 < n → 0 < m → bo ≠ some ⟨γ, 0, none⟩ := by
  intro γ e hp hp2 e2
  rcases r1 with h | ⟨q, eq, hq, _⟩
  · omega
  · rcases r2 with h | ⟨q2, eq2, hq2, _⟩
    · omega
    · rw [eq] at e
      rw [eq2] at e2
      simp only [Option.some.injEq, Addr.mk.injEq] at e e2
      omega
/-- The blocks of what is copied, and of the answer. -/
def CpK (w W : World) (aA aB : Option Addr) (cA cB : Nat) (A C : List Int) : Prop :=
  Below w.heap.size w W ∧ SB W w.heap.size 31 aA A.length cA aB C.length cB ∧ SB W (w.heap.size + 1) 31 none 0 0 none 0 0 ∧ w.heap.size + 1 + 1 ≤ W.heap.size
theorem CpK.b {w W W' : World} {aA aB : Option Addr} {cA cB : Nat} {A C : List Int} (h : CpK w W aA aB cA cB A C) (hb : Below W.heap.size W W') : CpK w W' aA aB cA cB A C :=
  ⟨h.1.trans (hb.mono h.1.size), h.2.1.b hb, h.2.2.1.b hb, Nat.le_trans h.2.2.2 hb.size⟩
theorem cpk_new (w : World) (aA aB : Option Addr) (cA cB : Nat) (A C : List Int) : CpK w ((w.alloc (.cells #[.slice aA A.length cA, .slice aB C.length cB] 31)).alloc (.cells #[.slice none 0 0, .slice none 0 0] 31)) aA aB cA cB A C := by
  refine ⟨(bal1 _ _).alloc (by simp) _, (SB.new w _ _ _ _ _ _ _).b (bal1 _ _), ?_, by rw [alsz, alsz]; omega⟩
  have := SB.new (w.alloc (.cells #[.slice aA A.length cA, .slice aB C.length cB] 31)) 31 none 0 0 none 0 0
  rw [alsz] at this
  exact this
/-- What was copied, handed back. -/
theorem cp_end {w W : World} {aA aB bA bB : Option Addr} {cA cB dA dB B : Nat} {A C : List Int} (h : CpK w W aA aB cA cB A C) (ho : OSl W B W.heap.size bA dA bB dB A C) (hB : w.heap.size + 1 + 1 ≤ B) :
    OSl ((W.setCell ⟨w.heap.size + 1, 0, none⟩ (.slice bA A.length dA)).setCell ⟨w.heap.size + 1, 1, none⟩ (.slice bB C.length dB)) w.heap.size ((W.setCell ⟨w.heap.size + 1, 0, none⟩ (.slice bA A.length dA)).setCell ⟨w.heap.size + 1, 1, none⟩ (.slice bB C.length dB)).heap.size bA dA bB dB A C ∧ Below w.heap.size w ((W.setCell ⟨w.heap.size + 1, 0, none⟩ (.slice bA A.length dA)).setCell ⟨w.heap.size + 1, 1, none⟩ (.slice bB C.length dB)) := by
  have hs : ((W.setCell ⟨w.heap.size + 1, 0, none⟩ (.slice bA A.length dA)).setCell ⟨w.heap.size + 1, 1, none⟩ (.slice bB C.length dB)).heap.size = W.heap.size := by simp [World.setCell]
  refine ⟨?_, (h.1.setCell (p := ⟨w.heap.size + 1, 0, none⟩) (show w.heap.size ≤ w.heap.size + 1 by omega) _).setCell (p := ⟨w.heap.size + 1, 1, none⟩) (show w.heap.size ≤ w.heap.size + 1 by omega) _⟩
  exact (ho.kept (fun j h1 _ => (far_set (by omega)).trans (far_set (by omega))) (by omega)).wider (by omega) (by omega) (Nat.le_refl _)

set_option maxHeartbeats 1000000 in
theorem clones_impl (aA aB : Option Addr) (cA cB : Nat) (A C : List Int) (w : World) (hA : VBy w aA cA A) (hB : VBy w aB cB C) (nA : NC aA cA) (nB : NC aB cB) :
    Calls Tryz.prog 27 #[.agg #[.slice aA A.length cA, .slice aB C.length cB]] w fun e w' => ∃ bA bB dA dB, e = .returned (.agg #[.slice bA A.length dA, .slice bB C.length dB]) ∧ OSl w' w.heap.size w'.heap.size bA dA bB dB A C ∧ Below w.heap.size w w' ∧ NC bA dA ∧ NC bB dB := by
  obtain ⟨W, hW⟩ : ∃ W, W = ((w.alloc (.cells #[.slice aA A.length cA, .slice aB C.length cB] 31)).alloc (.cells #[.slice none 0 0, .slice none 0 0] 31)) := ⟨_, rfl⟩
  have hk : CpK w W aA aB cA cB A C := by rw [hW]; exact cpk_new w aA aB cA cB A C
  have HKd : Hid (CpK w W.drew aA aB cA cB A C) := hk.b (Below.drawn (Below.refl _ _) 1)
  have hS := HKd.out.2.1.cells
  have hc1 := hide (clone_impl aA cA A W.drew (hA.below HKd.out.1) nA)
  have HVB := hide hB
  have HNB := hide nB
  clear hA hB nA nB hk
  go_enter Tryz.func27, Tryz.ntmps27
  go_wp2_with fail
  rw [← hW]
  clear hW
  go_region_held3 (fun w' => (w'.cell? ⟨w.heap.size, 0, none⟩ = some (.slice aA A.length cA) ∧ w'.cell? ⟨w.heap.size, 1, none⟩ = some (.slice aB C.length cB))) (first | with_reducible assumption | exact hS) (first
    | (go_at_call 45; refine hc1.out.mono ?_; rintro e w1 ⟨bA, dA, rfl, h1, r1, b1, n1⟩; have H1 : Hid (CpK w w1 aA aB cA cB A C ∧ Rb w1 W.drew.heap.size w1.heap.size bA A.length (bv A) ∧ A.length ≤ dA ∧ NC bA dA ∧ W.drew.heap.size ≤ w1.heap.size) := ⟨HKd.out.b b1, r1, h1, n1, b1.size⟩; have hk1 := H1.out.1.2.1.cells; clear h1 r1 b1 n1 hc1)
    | (go_at_call 45; refine (clone_impl aB cB C w1 (HVB.out.below H1.out.1.1) HNB.out).mono ?_; rintro e w2 ⟨bB, dB, rfl, h2, r2, b2, n2⟩; have H2 : Hid (CpK w w2 aA aB cA cB A C ∧ OSl w2 W.drew.heap.size w2.heap.size bA dA bB dB A C ∧ NC bA dA ∧ NC bB dB) := ⟨H1.out.1.b b2, ⟨⟨Nat.le_trans H1.out.2.2.2.2 b2.size, Nat.le_refl _⟩, ⟨H1.out.2.2.1, h2⟩, (H1.out.2.1.below b2 (Nat.le_refl _)).wide (Nat.le_refl _) b2.size, r2.wide H1.out.2.2.2.2 (Nat.le_refl _), rb_apart H1.out.2.1 r2⟩, H1.out.2.2.2.1, n2⟩; have hk2 := H2.out.1.2.1.cells; have hx2 := H2.out.1.2.2.1.cells; have x0 := hx2.1; have x1 := hx2.2; have z1 := H2.out.1.2.2.1.froz; have hk3 := ((H2.out.1.2.1.far (X := w.heap.size + 1) (i := 0) (v := .slice bA A.length dA) (by omega)).far (X := w.heap.size + 1) (i := 1) (v := .slice bB C.length dB) (by omega)).cells; clear h2 r2 b2 n2 hx2))
  have hz := HKd.out.2.2.2
  clear hS hk1 hk2 hk3 H1 HKd
  go_wp2
  refine bodyPost_ret (v := .agg #[.slice bA A.length dA, .slice bB C.length dB]) (by simp [results, Tryz.results27, go_sem, x0, x1]) rfl ?_
  obtain ⟨f1, f2⟩ := cp_end H2.out.1 H2.out.2.1 hz
  exact ⟨_, _, _, _, rfl, f1, f2, H2.out.2.2.1, H2.out.2.2.2⟩
end Go.Proofs.YtjjdbdkbpmbniabGreatDoor

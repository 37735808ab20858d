/- What the law of metas keeps in view. -/
import Derived.Test.YtjbhgedbkajmdaaDrawT8Z
import Derived.Test.YtjbhgedbkajmdaaMtOI4Z
import Derived.Test.YtjbhgedbkajmdaaMtE3Z
import Derived.Test.YtjbhgedbkajmdaaMtBIZ
import Derived.Test.YtjbhgedbkajmdaaConvZ
import Derived.Test.YtjbhgedbkajmdaaBigZ

namespace Go.Proofs.Ytjbhgedbkajmdaa
open Go.ChangeShapes Go.WideShapes Go.ChangeAt Go.RowKit
set_option linter.unusedVariables false
set_option linter.unusedSimpArgs false
set_option maxRecDepth 100000

/-- What is known, apart from memory. -/
structure Ma where
  G : List Int
  k : Nat
  L : Nat → List Int
  fi : Bool
  ol : Bool
  he : Bool
  la : Int
def Ma.sm (m : Ma) : Prop := m.G.length ≤ 1000 ∧ m.k ≤ 1000 ∧ ∀ i, i < m.k → (m.L i).length ≤ 1000
theorem sm_of {G : List Int} {k : Nat} {L : Nat → List Int} {fi ol he : Bool} {la : Int} (h1 : G.length ≤ 1000) (h2 : k ≤ 1000) (h3 : ∀ i, i < k → (L i).length ≤ 1000) : Ma.sm ⟨G, k, L, fi, ol, he, la⟩ := ⟨h1, h2, h3⟩
theorem Ma.sm.bd {m : Ma} (h : m.sm) : Bd m.G m.k m.L := ⟨by have := h.1; omega, by have := h.2.1; omega, fun i hi => by have := h.2.2 i hi; omega⟩
def Ma.ok (m : Ma) : Prop := MtOk m.G m.k m.L m.ol m.he m.la
def mtq (D : (p : Prop) → Decidable p) (m : Ma) : List Int := mtb D m.G m.k m.L m.fi m.ol m.he m.la
theorem mtq_len (m : Ma) : (mtq Classical.propDecidable m).length ≤ 210 := mtb_len _ _ _ _ _ _ _
theorem mtq_byte (m : Ma) : ∀ z ∈ mtq Classical.propDecidable m, 0 ≤ z ∧ z ≤ 255 := mtb_byte _ _ _ _ _ _ _
def TZ (w W : World) : Prop := Below w.heap.size w W
theorem TZ.st {w W W' : World} (h : TZ w W) (hb : Below W.heap.size W W') : TZ w W' := h.trans (hb.mono h.size)
def TB (W : World) (ao : Option Addr) (L : List Int) : Prop := SL .u8 W ao L.length (fun i => L.getD i 0)
theorem TB.st {W W' : World} {ao : Option Addr} {L : List Int} (h : TB W ao L) (hb : Below W.heap.size W W') : TB W' ao L := SL.below h hb
theorem TB.conv {W : World} {ao : Option Addr} {cap : Nat} {L : List Int} (h : TB W ao L) (hz : ∀ z ∈ L, 0 ≤ z ∧ z ≤ 255) : (convert 22 9 (.slice ao L.length cap)).run Try.prog W = .ok (.string (bstr L)) W := conv_str h hz
theorem tb_form {W : World} {B : Nat} {v : Value} {L : List Int} (h : W.ownsRow B 5 1 v L.length (L.map (.int .u8))) : ∃ ao c, v = .slice ao L.length c ∧ TB W ao L := by
  obtain ⟨ao, c, rfl⟩ := (Src.of_owns h).form
  exact ⟨ao, c, rfl, (Src.of_owns h).slu⟩
def TK (W : World) (X : Nat) (m : Ma) (go : Option Addr) (gc : Nat) (bo : Option Addr) (bc : Nat) : Prop := KB W X 27 go m.G.length gc bo m.k bc m.fi m.ol m.he m.la ∧ MV W go gc bo bc m.G m.k m.L
theorem TK.st {W W' : World} {X : Nat} {m : Ma} {go bo : Option Addr} {gc bc : Nat} (h : TK W X m go gc bo bc) (hb : Below W.heap.size W W') : TK W' X m go gc bo bc := ⟨h.1.b hb, h.2.below hb⟩
theorem drv_ma {w w' : World} {e : Ending} (h : DrV w w' e) : ∃ (m : Ma) (go bo : Option Addr) (gc bc : Nat), e = .returned (.agg #[.slice go m.G.length gc, .slice bo m.k bc, .bool m.fi, .bool m.ol, .bool m.he, .int .i64 m.la]) ∧ m.sm ∧ MV w' go gc bo bc m.G m.k m.L ∧ Below w.heap.size w w' := by
  obtain ⟨go, bo, gc, bc, G, k, L, fi, ol, he, la, rfl, ⟨h1, h2, h3⟩, hm, hb⟩ := h
  exact ⟨⟨G, k, L, fi, ol, he, la⟩, go, bo, gc, bc, rfl, sm_of (by omega) (by omega) (fun i hi => by have := h3 i hi; omega), hm, hb⟩
theorem drw_ma {w w' : World} {e : Ending} (h : DrW w w' e) : ∃ (p s : Ma) (go bo : Option Addr) (gc bc : Nat) (go' bo' : Option Addr) (gc' bc' : Nat), e = .returned (.tuple #[.agg #[.slice go p.G.length gc, .slice bo p.k bc, .bool p.fi, .bool p.ol, .bool p.he, .int .i64 p.la], .agg #[.slice go' s.G.length gc', .slice bo' s.k bc', .bool s.fi, .bool s.ol, .bool s.he, .int .i64 s.la]]) ∧ p.sm ∧ s.sm ∧ MV w' go gc bo bc p.G p.k p.L ∧ MV w' go' gc' bo' bc' s.G s.k s.L ∧ Below w.heap.size w w' := by
  obtain ⟨go, bo, gc, bc, G, k, L, fi, ol, he, la, go', bo', gc', bc', G', k', L', fi', ol', he', la', rfl, ⟨⟨h1, h2, h3⟩, h4, h5, h6⟩, hm, hm', hb⟩ := h
  exact ⟨⟨G, k, L, fi, ol, he, la⟩, ⟨G', k', L', fi', ol', he', la'⟩, go, bo, gc, bc, go', bo', gc', bc', rfl, sm_of (by omega) (by omega) (fun i hi => by have := h3 i hi; omega), sm_of (by omega) (by omega) (fun i hi => by have := h6 i hi; omega), hm, hm', hb⟩
theorem mv_congr {w : World} {go bo : Option Addr} {gc bc n : Nat} {g : List Int} {L L' : Nat → List Int} (h : MV w go gc bo bc g n L) (e : ∀ i, i < n → L i = L' i) : MV w go gc bo bc g n L' :=
  ⟨h.1, h.2.1, fun i hi => by rw [← e i hi]; exact h.2.2 i hi⟩
theorem range_at (L : List Int) : (List.range L.length).map (fun i => L.getD i 0) = L := by
  refine List.ext_getElem? fun i => ?_
  by_cases hi : i < L.length
  · simp [hi, List.getD]
  · rw [List.getElem?_eq_none (by simp; omega), List.getElem?_eq_none (by omega)]
/-- What is read of bytes, by both. -/
theorem mtof_both (X : List Int) (hX : X.length ≤ 1048576) (hb : ∀ z ∈ X, 0 ≤ z ∧ z ≤ 255) : ∃ (r : Ma) (ok : Bool), r.sm ∧ (ok = true → r.k = 3 ∧ MtIs X r.G r.L r.fi r.ol r.he r.la) ∧ ((∃ g L fi ol he la, MtIs X g L fi ol he la) → ok = true) ∧
    (∀ W xo xc, TB W xo X → Calls Try.prog 12 #[.slice xo X.length xc] W fun e w' => ∃ go bo gc bc, e = .returned (.tuple #[.agg #[.slice go r.G.length gc, .slice bo r.k bc, .bool r.fi, .bool r.ol, .bool r.he, .int .i64 r.la], .bool ok]) ∧ MV w' go gc bo bc r.G r.k r.L ∧ Below W.heap.size W w') ∧
    (∀ W xo xc, TB W xo X → Calls Try.prog 11 #[.slice xo X.length xc] W fun e w' => ∃ go bo gc bc, e = .returned (.tuple #[.agg #[.slice go r.G.length gc, .slice bo r.k bc, .bool r.fi, .bool r.ol, .bool r.he, .int .i64 r.la], .bool ok]) ∧ MV w' go gc bo bc r.G r.k r.L ∧ Below W.heap.size W w') := by
  have hf : ∀ i, i < X.length → 0 ≤ X.getD i 0 ∧ X.getD i 0 ≤ 255 := fun i hi => hb _ (by rw [List.getD_eq_getElem?_getD, List.getElem?_eq_getElem hi]; simp)
  by_cases hB : ∃ g L fi ol he la, MtIs X g L fi ol he la
  · obtain ⟨g, L, fi, ol, he, la, hI⟩ := hB
    have hg : g.length ≤ 12 := hI.1.1.1.1
    obtain ⟨_, _, hL8, _⟩ := mtok_g hI.1
    refine ⟨⟨g, 3, L, fi, ol, he, la⟩, true, sm_of (by omega) (by omega) (fun i hi => by have := hL8 i hi; omega), fun _ => ⟨rfl, hI⟩, fun _ => rfl, fun W xo xc hs => (mtof_spec xo X.length xc _ W hX hs hf).mono ?_, fun W xo xc hs => (mtof_impl xo X.length xc _ W hX hs hf).mono ?_⟩
    all_goals
      rintro e w' ⟨h, hbb⟩
      rw [range_at] at h
      rcases h with ⟨g', L', fi', ol', he', la', go, bo, gc, bc, hI', rfl, hO⟩ | ⟨hno, _⟩
      · obtain ⟨rfl, eL, rfl, rfl, rfl, rfl⟩ := mtis_one hI' hI
        exact ⟨go, bo, gc, bc, rfl, mv_congr hO.mv eL, hbb⟩
      · exact absurd ⟨g, L, fi, ol, he, la, hI⟩ hno
  · refine ⟨⟨[], 0, fun _ => [], false, false, false, 0⟩, false, sm_of (by simp) (by simp) (fun i hi => absurd hi (Nat.not_lt_zero _)), (fun h => by cases h), fun h => absurd h hB, fun W xo xc hs => (mtof_spec xo X.length xc _ W hX hs hf).mono ?_, fun W xo xc hs => (mtof_impl xo X.length xc _ W hX hs hf).mono ?_⟩
    all_goals
      rintro e w' ⟨h, hbb⟩
      rw [range_at] at h
      rcases h with ⟨g', L', fi', ol', he', la', go, bo, gc, bc, hI', _⟩ | ⟨_, rfl⟩
      · exact absurd ⟨g', L', fi', ol', he', la', hI'⟩ hB
      · exact ⟨none, none, 0, 0, rfl, ⟨⟨Nat.le_refl _, Nat.le_refl _⟩, fun i hi => absurd hi (Nat.not_lt_zero _), fun i hi => absurd hi (Nat.not_lt_zero _)⟩, hbb⟩
theorem mtq_is {m : Ma} (h : m.ok) : MtIs (mtq Classical.propDecidable m) m.G m.L m.fi m.ol m.he m.la := by
  have h3 : m.k = 3 := h.2.1.1
  unfold Ma.ok at h
  rw [h3] at h
  exact ⟨h, by unfold mtq; rw [mtb_yes (by rw [h3]; exact h)]⟩
theorem mtq_no {m : Ma} (h : ¬ m.ok) : mtq Classical.propDecidable m = [] := mtb_no h
theorem mtis_q {X : List Int} {r : Ma} (h3 : r.k = 3) (h : MtIs X r.G r.L r.fi r.ol r.he r.la) : mtq Classical.propDecidable r = X := by
  unfold mtq
  rw [h3, mtb_yes h.1]
  exact h.2
end Go.Proofs.Ytjbhgedbkajmdaa

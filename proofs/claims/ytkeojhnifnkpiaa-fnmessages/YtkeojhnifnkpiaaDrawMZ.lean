/- Generations and messages as the draws hand them on. -/
import Derived.Test.YtkeojhnifnkpiaaGa
import Derived.Test.YtkeojhnifnkpiaaULZ
import Derived.Test.YtkeojhnifnkpiaaGb

namespace Go.Proofs.Ytkeojhnifnkpiaa
open Go.ChangeShapes Go.WideShapes Go.ChangeAt Go.RowKit
set_option linter.unusedVariables false
set_option linter.unusedSimpArgs false
set_option maxRecDepth 100000

/-- From w on nothing but the cursor at g was written, and what is new. -/
def CurW (w wr : World) (g : Nat) (ao : Option Addr) (n cap : Nat) (f : Nat → Int) : Prop := Cur wr g ao n cap f ∧ w.grownBy wr (some g) ∧ g < w.heap.size
theorem CurW.refl {w : World} {g n cap : Nat} {ao : Option Addr} {f : Nat → Int} (h : Cur w g ao n cap f) : CurW w w g ao n cap f := ⟨h, ⟨rfl, rfl, rfl, Nat.le_refl _, fun _ _ _ => rfl⟩, h.lt⟩
theorem CurW.step {w wr w1 : World} {g n cap : Nat} {ao : Option Addr} {f : Nat → Int} (h : CurW w wr g ao n cap f) (hc : Cur w1 g ao n cap f) (hg : wr.grownBy w1 (some g)) : CurW w w1 g ao n cap f := ⟨hc, grown_trans h.2.1 hg, h.2.2⟩
theorem CurW.trans {w wr w1 : World} {g n cap : Nat} {ao : Option Addr} {f : Nat → Int} (h : CurW w wr g ao n cap f) (h' : CurW wr w1 g ao n cap f) : CurW w w1 g ao n cap f := h.step h'.1 h'.2.1
theorem CurW.alloc {w wr : World} {g n cap : Nat} {ao : Option Addr} {f : Nat → Int} (h : CurW w wr g ao n cap f) (o : Obj) : CurW w (wr.alloc o) g ao n cap f := h.step (h.1.alloc o) (grown_alloc _ _ _)
theorem grown_of_below {w w' : World} (h : Below w.heap.size w w') (row : Option Nat) : w.grownBy w' row := ⟨h.os, h.tape, h.output, h.size, fun k hk _ => h.block k hk⟩
theorem CurW.below {w wr w1 : World} {g n cap : Nat} {ao : Option Addr} {f : Nat → Int} (h : CurW w wr g ao n cap f) (hb : Below wr.heap.size wr w1) : CurW w w1 g ao n cap f :=
  h.step (h.1.grown (grown_of_below hb none) (fun k hk => by cases hk)) (grown_of_below hb _)
theorem CurW.app {w wr w1 : World} {g n cap : Nat} {ao : Option Addr} {f : Nat → Int} {row : Option Nat} (h : CurW w wr g ao n cap f) (hg : wr.grownBy w1 row) (hr : ∀ k, row = some k → w.heap.size ≤ k) : CurW w w1 g ao n cap f :=
  ⟨h.1.grown hg (fun k hk => by have := hr k hk; have := h.2.2; omega), ⟨hg.os.trans h.2.1.os, hg.tape.trans h.2.1.tape, hg.output.trans h.2.1.output, Nat.le_trans h.2.1.size hg.size, fun i hi hn => (hg.block i (Nat.lt_of_lt_of_le hi h.2.1.size) (fun e => by have := hr i e.symm; omega)).trans (h.2.1.block i hi hn)⟩, h.2.2⟩
theorem CurW.set {w wr : World} {g n cap b i : Nat} {ao : Option Addr} {f : Nat → Int} {v : Value} (h : CurW w wr g ao n cap f) (hb : w.heap.size ≤ b) : CurW w (wr.setCell ⟨b, i, none⟩ v) g ao n cap f :=
  h.app (row := some b) ⟨rfl, rfl, rfl, by simp [World.setCell], fun k hk hne => heap_far (fun e => hne (by rw [e])) v⟩ (fun k hk => by cases hk; exact hb)
/-- Memory from B on stays where only the cursor below B and what is new is written. -/
theorem own_cur {w w1 : World} {B g : Nat} {t : TypeId} {ao : Option Addr} {l : Nat} {F : Nat → Value} (h : Own w B t ao l F) (hg : w.grownBy w1 (some g)) (hB : g < B) : Own w1 B t ao l F := by
  rcases h with h | ⟨b, e, hb, c, hc, r⟩
  · exact .inl h
  · exact .inr ⟨b, e, hb, c, (hg.block b (Array.getElem?_eq_some_iff.1 hc).1 (by simp; omega)).trans hc, r⟩
theorem owns_cur {w w' : World} {B g s : Nat} {t : TypeId} {v : Value} {n : Nat} {xs : List Value} (h : w.ownsRow B t s v n xs) (hg : w.grownBy w' (some g)) (hB : g < B) : w'.ownsRow B t s v n xs := by
  obtain ⟨h1, h2⟩ := h
  refine ⟨h1, ?_⟩
  rcases h2 with h2 | ⟨b, c, cur, e, hb, hh, r⟩
  · exact .inl h2
  · exact .inr ⟨b, c, cur, e, hb, (hg.block b (Array.getElem?_eq_some_iff.1 hh).1 (by simp; omega)).trans hh, r⟩

theorem genpush_spec (v : Value) (L : List Int) (x : Int) (w : World) (hL : L.length ≤ 10) (hs : Src .i64 w v L) :
    Calls Try.prog 140 #[v, .int .i64 x] w fun e w' => ∃ (v' : Value) (L' : List Int), e = .returned v' ∧ L'.length ≤ L.length + 1 ∧ w'.ownsRow w.heap.size 3 1 v' L'.length (L'.map (.int .i64)) ∧ Below w.heap.size w w' := by
  obtain ⟨i0, hi, hz0, hz1, hz2⟩ := info_parts Try.info3
  obtain ⟨ao, c, rfl⟩ := hs.form
  have ba : ∀ o, Below w.heap.size w (w.alloc o) := fun o => (Below.refl _ _).alloc (Nat.le_refl _) o
  have H0 : Hid ((w.alloc (.cells #[.int .i64 x] 3)).ownsRow w.heap.size 3 1 (.slice (some ⟨w.heap.size, 0, none⟩) 1 1) [x].length ([x].map (.int .i64))) := ⟨rfl, .inr ⟨_, _, #[.int .i64 x], rfl, Nat.le_refl _, Deep.blk_alloc_new _ _, by simp, by simp [maxLen], by simp, by simp⟩⟩
  have HS := hide hs
  have HA := hide (hs.below (ba (.cells #[.int .i64 x] 3)))
  have HB : Hid (Below w.heap.size w (w.alloc (.cells #[.int .i64 x] 3))) := ba _
  clear hs ba
  go_enter Try.func140, Try.ntmps140
  go_wp2_with (first
    | (at_builtin; refine wpList_append_src rfl _ _ 24 rfl w.heap.size 3 i0 (.int .i64 0) 8 Try.underlying24 hi hz0 hz1 hz2 rfl .i64 _ [x] rfl H0.out _ L rfl HA.out (by unfold maxLen; simp; omega) (by simp; omega) HB.out.size ?_; intro v1 w1 ho1 hg1))
  have B1 := hide (ggrown HB.out HB.out.size H0.out hg1)
  obtain ⟨a1, c1, rfl⟩ := (Src.of_owns ho1).form
  have O1 := hide ho1
  have hsl := hide (Src.of_owns ho1).slu
  have hcc : Hid (([x] ++ L).length ≤ c1) := by
    rcases ho1.2 with ⟨e, _⟩ | ⟨g, cp, cur, e, _, _, hn, _⟩
    · cases e
    · cases e; exact hn
  have hlen : ([x] ++ L).length = L.length + 1 := by simp
  have hl1 : ([x] ++ L).length ≤ 11 := by omega
  have hl2 : ¬ (12 : Int) < (([x] ++ L).length : Int) := by omega
  have HL := hide hlen
  clear ho1 hg1 hlen
  generalize [x] ++ L = N at *
  have hgo := hide (gens_any a1 N.length c1 (fun i => N.getD i 0) w1 (by omega) hcc.out hsl.out)
  go_wp2_with fail
  refine hgo.out.mono ?_
  rintro e w2 ⟨h2, q, hw2⟩
  have B2 : Hid (Below w.heap.size w w2) := by rw [hw2]; exact Below.drawn B1.out q
  have O2 : Hid (w2.ownsRow w.heap.size 3 1 (.slice a1 N.length c1) N.length (N.map (.int .i64))) := by rw [hw2]; exact O1.out
  clear hw2 hgo B1 O1 hsl
  rcases h2 with ⟨_, rfl⟩ | ⟨_, rfl⟩
  · go_wp2
    go_ret
    exact ⟨_, N, rfl, by rw [HL.out]; exact Nat.le_refl _, O2.out, B2.out⟩
  · have HA2 := hide ((HS.out.below (w' := w2.alloc (.cells #[] 3)) ((B2.out.alloc B2.out.size _))))
    have HB2 := hide (B2.out.alloc B2.out.size (.cells #[] 3))
    go_wp2_with (first
      | (at_builtin; refine wpList_append_src rfl _ _ 24 rfl w.heap.size 3 i0 (.int .i64 0) 8 Try.underlying24 hi hz0 hz1 hz2 rfl .i64 _ [] rfl (gempty B2.out.size) _ L rfl HA2.out (by unfold maxLen; simp; omega) (by simp; omega) HB2.out.size ?_; intro v3 w3 ho3 hg3))
    go_ret
    exact ⟨_, L, rfl, by omega, by simpa using ho3, ggrown HB2.out HB2.out.size (gempty (ik := .i64) (t := 3) B2.out.size) hg3⟩
end Go.Proofs.Ytkeojhnifnkpiaa

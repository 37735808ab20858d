/- DrawSumOf hands on some bytes; DrawGetNum some bytes and some int; each in memory of its own. -/
import Derived.Test.YtbkfkaodpknjmacDoorDrawBytes
import Derived.Test.YtbkfkaodpknjmacDoorPut
namespace Go.Proofs.YtbkfkaodpknjmacDoor
open Go.ChangeShapes Go.WideShapes Go.ChangeAt Go.RowKit

/-- A slice of bytes that a draw has made. -/
def Drawn (w w' : World) (v : Value) (L : List Int) : Prop :=
  (∃ ao cap, v = .slice ao L.length cap ∧ L.length ≤ cap ∧ cap ≤ maxLen ∧ Own w' w.heap.size 5 ao L.length (fun i => .int .u8 (L.getD i 0))) ∧ (∀ z ∈ L, 0 ≤ z ∧ z ≤ 255) ∧ Below w.heap.size w w'

theorem drawn_of {w w1 w2 : World} {n cap : Nat} {ao : Option Addr} {f : Nat → Int} {v : Value} {L : List Int} (b1 : Below w.heap.size w w1) (h : Bld w1 w2 w.heap.size ao n cap f v L) : Drawn w w2 v L := by
  obtain ⟨h1, h2, h3, h4, h5⟩ := h
  obtain ⟨ao', cap', e, ⟨_, hc1, hc2⟩, ho⟩ := Own.of_owns h1
  refine ⟨⟨ao', cap', e, hc1, hc2, ?_⟩, h2, b1.grown h4 b1.size (fun k hk => by simp at hk; omega)⟩
  rcases ho with h | ⟨g, ea, hB, r⟩
  · exact .inl h
  · exact .inr ⟨g, ea, Nat.le_trans b1.size hB, r⟩

theorem draw_sum (ao : Option Addr) (n cap : Nat) (f : Nat → Int) (w : World) (hn : n ≤ 1048576) (hs : SL .u8 w ao n f) (hf : ∀ i, i < n → 0 ≤ f i ∧ f i ≤ 255) :
    Calls Tryd.prog 8 #[.slice ao n cap] w fun e w' => ∃ v L, e = .returned v ∧ L.length ≤ 4000 ∧ Drawn w w' v L := by
  have HS : Hid (SL .u8 w ao n f) := hs
  have HF : Hid (∀ i, i < n → 0 ≤ f i ∧ f i ≤ 255) := hf
  clear hs hf
  go_enter Tryd.func8, Tryd.ntmps8
  go_wp2_with fail
  refine (new_any ao n cap f _ hn HS.out HF.out).mono ?_
  rintro e w1 ⟨rfl, hc, b1⟩
  have HB : Hid (Below w.heap.size w w1) := b1
  have HC : Hid (Cur w1 w.heap.size ao n cap f) := hc
  clear b1 hc
  go_wp2_with fail
  refine (bytes_any w.heap.size n cap ao f _ HC.out).mono ?_
  rintro e w2 ⟨v, L, rfl, hL, hB⟩
  have HD : Hid (Drawn w w2 v L) := drawn_of HB.out hB
  clear hB
  go_wp2
  go_ret
  exact ⟨v, L, rfl, hL, HD.out⟩

theorem grown_below {w w' : World} (h : Below w.heap.size w w') (row : Option Nat) : w.grownBy w' row := ⟨h.os, h.tape, h.output, h.size, fun k hk _ => h.block k hk⟩

theorem owns_src {w : World} {B : Nat} {v : Value} {L : List Int} (h : w.ownsRow B 5 1 v L.length (L.map (.int .u8))) (hne : 0 < L.length) :
    ∃ g cap, v = .slice (some ⟨g, 0, none⟩) L.length cap ∧ ∀ j u, (L.map (Value.int .u8))[j]? = some u → w.cell? ((⟨g, 0, none⟩ : Addr).add j) = some u := by
  rcases h.2 with ⟨_, h0⟩ | ⟨g, cap, cur, e, _⟩
  · omega
  · exact ⟨g, cap, e, h.cells (by rw [e]; rfl)⟩

theorem pb_pos (fuel : Nat) (x : Int) : 0 < (pb fuel x).length := by
  cases fuel with
  | zero => simp [pb]
  | succ f => rw [pb]; split <;> simp
theorem pb_255 (x : Int) (h0 : 0 ≤ x) (h1 : x ≤ 2147483647) : ∀ z ∈ pb 4 x, 0 ≤ z ∧ z ≤ 255 := by
  intro z hz
  simp only [pb] at hz
  split at hz
  · simp at hz; omega
  · rcases List.mem_cons.1 hz with rfl | hz
    · omega
    · split at hz
      · simp at hz; omega
      · rcases List.mem_cons.1 hz with rfl | hz
        · omega
        · split at hz
          · simp at hz; omega
          · rcases List.mem_cons.1 hz with rfl | hz
            · omega
            · split at hz
              · simp at hz; omega
              · rcases List.mem_cons.1 hz with rfl | hz
                · omega
                · simp at hz; omega

theorem pick6 (j : Nat) (hj : j < 6) : 0 ≤ ([0, 1, 127, 128, 300, 2147483647] : List Int).getD j 0 ∧ ([0, 1, 127, 128, 300, 2147483647] : List Int).getD j 0 ≤ 2147483647 := by
  match j, hj with
  | 0, _ => decide
  | 1, _ => decide
  | 2, _ => decide
  | 3, _ => decide
  | 4, _ => decide
  | 5, _ => decide
theorem pick3 (j : Nat) (hj : j < 3) : 0 ≤ ([0, 128, 255] : List Int).getD j 0 ∧ ([0, 128, 255] : List Int).getD j 0 ≤ 255 := by
  match j, hj with
  | 0, _ => decide
  | 1, _ => decide
  | 2, _ => decide
theorem pick7 (m : Nat) (hm : m ≤ 1000) (j : Nat) (hj : j < 7) : -9223372036854775808 ≤ ([0, 0, 1, (m : Int), (m : Int) - 5, -1, 9223372036854775807] : List Int).getD j 0 ∧ ([0, 0, 1, (m : Int), (m : Int) - 5, -1, 9223372036854775807] : List Int).getD j 0 ≤ 9223372036854775807 := by
  match j, hj with
  | 0, _ => show _ ≤ (0 : Int) ∧ (0 : Int) ≤ _; omega
  | 1, _ => show _ ≤ (0 : Int) ∧ (0 : Int) ≤ _; omega
  | 2, _ => show _ ≤ (1 : Int) ∧ (1 : Int) ≤ _; omega
  | 3, _ => show _ ≤ (m : Int) ∧ (m : Int) ≤ _; omega
  | 4, _ => show _ ≤ (m : Int) - 5 ∧ (m : Int) - 5 ≤ _; omega
  | 5, _ => show _ ≤ (-1 : Int) ∧ (-1 : Int) ≤ _; omega
  | 6, _ => show _ ≤ (9223372036854775807 : Int) ∧ (9223372036854775807 : Int) ≤ _; omega

set_option maxHeartbeats 2000000 in
set_option maxRecDepth 100000 in
theorem nums_any (g n cap : Nat) (ao : Option Addr) (f : Nat → Int) (w : World) (hc : Cur w g ao n cap f) :
    Calls Tryd.prog 23 #[.pointer (some ⟨g, 0, none⟩)] w fun e w' => ∃ v L, e = .returned v ∧ L.length ≤ 100 ∧ Bld w w' g ao n cap f v L := by
  obtain ⟨i0, hi, hz0, hz1, hz2⟩ := info_parts Tryd.info5
  have HC : Hid (Cur w g ao n cap f) := hc
  clear hc
  go_enter Tryd.func23, Tryd.ntmps23
  go_wp2
  go_loopw [3, 4] (fun v i wr => ∃ (k : Nat) (L : List Int), k ≤ 4 ∧ i = .int .i64 k ∧ L.length ≤ k * 5 ∧ Hid (Bld w wr g ao n cap f v L)) (fun _ i _ => 4 - (intOf i).toNat)
  case atStart =>
    refine ⟨0, [], by omega, rfl, by simp, ?_⟩
    exact ⟨⟨rfl, .inr ⟨_, _, #[], rfl, Nat.le_refl _, Deep.blk_alloc_new _ _, by simp, by simp, by simp, by simp⟩⟩, by simp, HC.out.alloc _, grown_alloc _ _ _, HC.out.lt⟩
  case round =>
    obtain ⟨k, L, hk, rfl, hL, hB⟩ := hrel
    have hks : k * 5 ≤ 20 := by omega
    go_wp2_with fail
    refine (below_any g n cap 4 ao f _ (by decide) (by decide) hB.out.2.2.1).mono ?_
    rintro e w1 ⟨⟨x, rfl, hx0, hx1⟩, hcur, hgr⟩
    have HB1 : Hid (Bld w w1 g ao n cap f u3 L) := hB.out.step hcur hgr
    clear hcur hgr hB
    by_cases hlt : (k : Int) < x
    · go_wp2_with fail
      refine (pick_any g n cap 6 6 ao (some ⟨w1.heap.size, 0, none⟩) f (fun i => [0, 1, 127, 128, 300, 2147483647].getD i 0) _ (by decide) (by decide) (HB1.out.alloc _).2.2.1 (lit_cells w1 [0, 1, 127, 128, 300, 2147483647] 3 g HB1.out.2.2.1.lt)).mono ?_
      rintro e w2 ⟨⟨j, hj, rfl⟩, hcur, hgr⟩
      have HB2 : Hid (Bld w w2 g ao n cap f u3 L) := (HB1.out.alloc _).step hcur hgr
      have hz := pick6 j hj
      generalize ([0, 1, 127, 128, 300, 2147483647] : List Int).getD j 0 = z at hz
      clear hcur hgr HB1 hj
      go_wp2_with fail
      refine (put_spec z _ hz.1 hz.2).mono ?_
      rintro e w3 ⟨v3, rfl, ho3, hb3⟩
      obtain ⟨g3, cap3, rfl, hsrc⟩ := owns_src ho3 (pb_pos 4 z)
      have HB3 : Hid (Bld w w3 g ao n cap f u3 L) := HB2.out.step (HB2.out.2.2.1.grown (grown_below hb3 none) (fun k hk => by cases hk)) (grown_below hb3 _)
      have hpl := pb_len 4 z
      have HP : Hid (∀ y ∈ pb 4 z, 0 ≤ y ∧ y ≤ 255) := pb_255 z hz.1 hz.2
      have HSR : Hid (∀ j u, ((pb 4 z).map (Value.int .u8))[j]? = some u → w3.cell? ((⟨g3, 0, none⟩ : Addr).add j) = some u) := hsrc
      generalize pb 4 z = M at hpl HP HSR
      clear ho3 hb3 hsrc HB2
      go_wp2_with (at_builtin; refine wpList_append_own _ rfl _ _ 22 rfl w.heap.size 5 i0 (.int .u8 0) 1 1 Tryd.underlying22 hi hz0 hz1 hz2 rfl (by decide) _ _ _ rfl HB3.out.1 ⟨g3, 0, none⟩ M.length cap3 (List.map (Value.int .u8) M) rfl (by simp) HSR.out (app_ones _ _) (app_lens (by omega)) (app_bytes (by omega)) HB3.out.size ?_; intro v' w4 hown' hgrow hnn; have R := HB3.out.app (M := M) rfl hown' hgrow HP.out; have HB4 : Hid (Bld w w4 g ao n cap f v' (L ++ M)) := R; clear R hown' hgrow hnn)
      go_roundw
      case rel => exact ⟨k + 1, L ++ M, by omega, by go_num, by simp; omega, by assumption⟩
      case measure => simp [intOf]; omega
    · go_wp2_with fail
      refine (once_any g n cap 3 ao f _ (by decide) (by decide) HB1.out.2.2.1).mono ?_
      rintro e w2 ⟨⟨y, rfl⟩, hcur, hgr⟩
      have HB2 : Hid (Bld w w2 g ao n cap f u3 L) := HB1.out.step hcur hgr
      clear hcur hgr HB1
      cases y
      · go_wp2
        go_ret
        exact ⟨_, L, rfl, by omega, HB2.out⟩
      · go_wp2_with fail
        refine (pick_any g n cap 3 3 ao (some ⟨w2.heap.size, 0, none⟩) f (fun i => [0, 128, 255].getD i 0) _ (by decide) (by decide) (HB2.out.alloc _).2.2.1 (lit_cells w2 [0, 128, 255] 3 g HB2.out.2.2.1.lt)).mono ?_
        rintro e w3 ⟨⟨j, hj, rfl⟩, hcur, hgr⟩
        have HB3 : Hid (Bld w w3 g ao n cap f u3 L) := (HB2.out.alloc _).step hcur hgr
        have hz := pick3 j hj
        generalize ([0, 128, 255] : List Int).getD j 0 = z at hz
        clear hcur hgr HB2 hj
        go_wp2_with fail
        refine (below_any g n cap 3 ao f _ (by decide) (by decide) HB3.out.2.2.1).mono ?_
        rintro e w4 ⟨⟨y, rfl, hy0, hy1⟩, hcur, hgr⟩
        have HB4 : Hid (Bld w w4 g ao n cap f u3 L) := HB3.out.step hcur hgr
        clear hcur hgr HB3
        go_wp2_with (at_builtin; refine wpList_append_own _ rfl _ _ 22 rfl w.heap.size 5 i0 (.int .u8 0) 1 1 Tryd.underlying22 hi hz0 hz1 hz2 rfl (by decide) _ _ _ rfl (HB4.out.alloc _).1 ⟨w4.heap.size, 0, none⟩ 2 2 (List.map (Value.int .u8) [z, y]) rfl rfl (app_cells _ _ _ _) (app_ones _ _) (app_lens (by omega)) (app_bytes (by omega)) (by have := HB4.out.size; simp; omega) ?_; intro v' w5 hown' hgrow hnn; have R := (HB4.out.alloc _).app (M := [z, y]) rfl hown' hgrow (by simp; omega); have HB5 : Hid (Bld w w5 g ao n cap f v' (L ++ [z, y])) := R; clear R hown' hgrow hnn)
        go_ret
        exact ⟨_, L ++ [z, y], rfl, by simp; omega, by assumption⟩

theorem draw_get (ao : Option Addr) (n cap : Nat) (f : Nat → Int) (w : World) (hn : n ≤ 1048576) (hs : SL .u8 w ao n f) (hf : ∀ i, i < n → 0 ≤ f i ∧ f i ≤ 255) :
    Calls Tryd.prog 9 #[.slice ao n cap] w fun e w' => ∃ v L x, e = .returned (.tuple #[v, .int .i64 x]) ∧ L.length ≤ 100 ∧ -9223372036854775808 ≤ x ∧ x ≤ 9223372036854775807 ∧ Drawn w w' v L := by
  have HS : Hid (SL .u8 w ao n f) := hs
  have HF : Hid (∀ i, i < n → 0 ≤ f i ∧ f i ≤ 255) := hf
  clear hs hf
  go_enter Tryd.func9, Tryd.ntmps9
  go_wp2_with fail
  refine (new_any ao n cap f _ hn HS.out HF.out).mono ?_
  rintro e w1 ⟨rfl, hc, b1⟩
  have HB : Hid (Below w.heap.size w w1) := b1
  have HC : Hid (Cur w1 w.heap.size ao n cap f) := hc
  clear b1 hc
  go_wp2_with fail
  refine (nums_any w.heap.size n cap ao f _ HC.out).mono ?_
  rintro e w2 ⟨v, L, rfl, hL, hB⟩
  obtain ⟨⟨ao', cap', rfl, _⟩, _⟩ := drawn_of HB.out hB
  have HB2 : Hid (Bld w1 w2 w.heap.size ao n cap f (.slice ao' L.length cap') L) := hB
  clear hB
  generalize hm : L.length = m at hL
  have HM : Hid (L.length = m) := hm
  clear hm
  go_wp2_with fail
  refine (pick_any w.heap.size n cap 7 7 ao (some ⟨w2.heap.size, 0, none⟩) f (fun i => [0, 0, 1, (m : Int), (m : Int) - 5, -1, 9223372036854775807].getD i 0) _ (by decide) (by decide) (HB2.out.alloc _).2.2.1 (lit_cells w2 [0, 0, 1, (m : Int), (m : Int) - 5, -1, 9223372036854775807] 3 w.heap.size HB2.out.2.2.1.lt)).mono ?_
  rintro e w3 ⟨⟨j, hj, rfl⟩, hcur, hgr⟩
  have HB3 : Hid (Bld w1 w3 w.heap.size ao n cap f (.slice ao' L.length cap') L) := (HB2.out.alloc _).step hcur hgr
  have hz := pick7 m (by omega) j hj
  generalize ([0, 0, 1, (m : Int), (m : Int) - 5, -1, 9223372036854775807] : List Int).getD j 0 = z at hz
  have HZ : Hid (-9223372036854775808 ≤ z ∧ z ≤ 9223372036854775807) := hz
  clear hcur hgr HB2 hj hz
  go_wp2
  go_ret2
  exact ⟨_, L, z, by rw [← HM.out]; rfl, by rw [HM.out]; exact hL, HZ.out.1, HZ.out.2, drawn_of HB.out HB3.out⟩
end Go.Proofs.YtbkfkaodpknjmacDoor

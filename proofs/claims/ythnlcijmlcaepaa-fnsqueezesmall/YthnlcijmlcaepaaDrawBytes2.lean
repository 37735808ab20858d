/- l3DrawBytes hands on some bytes, in memory of its own. -/
import Derived.Test.YthnlcijmlcaepaaDrawB
import Derived.Lib.SlBytesConst
namespace Go.Proofs.Ythnlcijmlcaepaa
open Go.ChangeShapes Go.WideShapes Go.ChangeAt Go.RowKit

/-- What is built beside a cursor at block g, from the world w on: v owns the bytes L. -/
def Bld (w wr : World) (g : Nat) (ao : Option Addr) (n cap : Nat) (f : Nat → Int) (v : Value) (L : List Int) : Prop :=
  wr.ownsRow w.heap.size 5 1 v L.length (L.map (.int .u8)) ∧ (∀ z ∈ L, 0 ≤ z ∧ z ≤ 255) ∧ Cur wr g ao n cap f ∧ w.grownBy wr (some g) ∧ g < w.heap.size

theorem owns_kept {w w' : World} {B g : Nat} {v : Value} {n : Nat} {xs : List Value} (h : w.ownsRow B 5 1 v n xs) (hg : w.grownBy w' (some g)) (hB : g < B) : w'.ownsRow B 5 1 v n xs := by
  obtain ⟨h1, h2⟩ := h
  refine ⟨h1, ?_⟩
  rcases h2 with h2 | ⟨b, c, cur, e, hb, hh, r⟩
  · exact .inl h2
  · exact .inr ⟨b, c, cur, e, hb, (hg.block b (Array.getElem?_eq_some_iff.1 hh).1 (by simp; omega)).trans hh, r⟩

theorem Bld.step {w wr w1 : World} {g n cap : Nat} {ao : Option Addr} {f : Nat → Int} {v : Value} {L : List Int} (h : Bld w wr g ao n cap f v L) (hc : Cur w1 g ao n cap f) (hg : wr.grownBy w1 (some g)) : Bld w w1 g ao n cap f v L :=
  ⟨owns_kept h.1 hg h.2.2.2.2, h.2.1, hc, grown_trans h.2.2.2.1 hg, h.2.2.2.2⟩

theorem Bld.alloc {w wr : World} {g n cap : Nat} {ao : Option Addr} {f : Nat → Int} {v : Value} {L : List Int} (h : Bld w wr g ao n cap f v L) (o : Obj) : Bld w (wr.alloc o) g ao n cap f v L :=
  h.step (h.2.2.1.alloc o) (grown_alloc _ _ _)

theorem Bld.app {w wr w1 : World} {g n cap m : Nat} {ao : Option Addr} {f : Nat → Int} {v v' : Value} {L M : List Int} (h : Bld w wr g ao n cap f v L) (hM : M.length = m)
    (ho : w1.ownsRow w.heap.size 5 1 v' (L.length + m) (L.map (.int .u8) ++ M.map (.int .u8))) (hg : wr.grownBy w1 v.ownBlock) (hz : ∀ z ∈ M, 0 ≤ z ∧ z ≤ 255) : Bld w w1 g ao n cap f v' (L ++ M) := by
  obtain ⟨h1, h2, h3, h4, h5⟩ := h
  have hown : ∀ k, v.ownBlock = some k → w.heap.size ≤ k := by
    intro k hk
    rcases h1.2 with ⟨rfl, _⟩ | ⟨b, c, cur, rfl, hb, _⟩
    · simp [Value.ownBlock] at hk
    · simp [Value.ownBlock] at hk; omega
  refine ⟨by subst hM; simpa using ho, fun z hzz => ?_, h3.grown hg (fun k hk => by have := hown k hk; omega), ?_, h5⟩
  · rcases List.mem_append.1 hzz with h | h
    · exact h2 z h
    · exact hz z h
  · exact ⟨hg.os.trans h4.os, hg.tape.trans h4.tape, hg.output.trans h4.output, Nat.le_trans h4.size hg.size, fun i hi hn => (hg.block i (Nat.lt_of_lt_of_le hi h4.size) (fun e => by have := hown i e.symm; omega)).trans (h4.block i hi hn)⟩

theorem Bld.size {w wr : World} {g n cap : Nat} {ao : Option Addr} {f : Nat → Int} {v : Value} {L : List Int} (h : Bld w wr g ao n cap f v L) : w.heap.size ≤ wr.heap.size := h.2.2.2.1.size

theorem cell_any {w : World} {b i : Nat} {c : Array Value} {t : TypeId} {fr : Nat × Nat} (hb : w.heap[b]? = some (.cells c t fr)) : w.cell? ⟨b, i, none⟩ = c[i]? := by
  simp [World.cell?, hb]
theorem app_cells (wr : World) (us : List Value) (t : TypeId) (fr : Nat × Nat) : ∀ j u', us[j]? = some u' → (wr.alloc (.cells us.toArray t fr)).cell? ((⟨wr.heap.size, 0, none⟩ : Addr).add j) = some u' := by
  intro j u' hj
  have hb : (wr.alloc (.cells us.toArray t fr)).heap[wr.heap.size]? = some (.cells us.toArray t fr) := Deep.blk_alloc_new _ _
  rw [Addr.add_lit, Nat.zero_add, cell_any hb]
  simpa using hj
theorem app_ones (k : IntKind) (zs : List Int) : ∀ u ∈ zs.map (Value.int k), u.oneCell' = true := ints_oneCell k zs
theorem app_lens {k m : Nat} (h : k + m ≤ 1048576) : k + m ≤ maxLen := by unfold maxLen; omega
theorem app_bytes {k m : Nat} (h : k + m ≤ 1048576) : (k + m) * 1 ≤ 140737488355328 := by omega

theorem pick_bd (j : Nat) (hj : j < 4) : 0 ≤ ([0, 127, 128, 255] : List Int).getD j 0 ∧ ([0, 127, 128, 255] : List Int).getD j 0 ≤ 255 := by
  match j, hj with
  | 0, _ => decide
  | 1, _ => decide
  | 2, _ => decide
  | 3, _ => decide

set_option maxHeartbeats 2000000 in
set_option maxRecDepth 100000 in
theorem bytes_any (g n cap : Nat) (ao : Option Addr) (f : Nat → Int) (w : World) (hc : Cur w g ao n cap f) :
    Calls Try.prog 25 #[.pointer (some ⟨g, 0, none⟩)] w fun e w' => ∃ v L, e = .returned v ∧ L.length ≤ 4000 ∧ Bld w w' g ao n cap f v L := by
  obtain ⟨i0, hi, hz0, hz1, hz2⟩ := info_parts Try.info5
  have kc := fun (w : World) (C : Array Value) (n c : Nat) => Lib.run_convert_bytes_const (P := Try.prog) w 22 5 C n c Try.underlying22 Try.underlying5
  have HC : Hid (Cur w g ao n cap f) := hc
  clear hc
  go_enter Try.func25, Try.ntmps25
  go_wp2
  go_loopw [3, 4] (fun v i wr => ∃ (k : Nat) (L : List Int), k ≤ 12 ∧ i = .int .i64 k ∧ L.length ≤ k * 200 ∧ Hid (Bld w wr g ao n cap f v L)) (fun _ i _ => 12 - (intOf i).toNat)
  case atStart =>
    refine ⟨0, [], by omega, rfl, by simp, ?_⟩
    exact ⟨⟨rfl, .inr ⟨_, _, #[], rfl, Nat.le_refl _, Deep.blk_alloc_new _ _, by simp, by simp, by simp, by simp⟩⟩, by simp, HC.out.alloc _, grown_alloc _ _ _, HC.out.lt⟩
  case round =>
    obtain ⟨k, L, hk, rfl, hL, hB⟩ := hrel
    have hks : k * 200 ≤ 2400 := by omega
    go_wp2_with fail
    refine (below_any g n cap 12 ao f _ (by decide) (by decide) hB.out.2.2.1).mono ?_
    rintro e w1 ⟨⟨x, rfl, hx0, hx1⟩, hcur, hgr⟩
    have HB1 : Hid (Bld w w1 g ao n cap f u3 L) := hB.out.step hcur hgr
    clear hcur hgr hB
    by_cases hlt : (k : Int) < x
    · go_wp2_with fail
      refine (below_any g n cap 4 ao f _ (by decide) (by decide) HB1.out.2.2.1).mono ?_
      rintro e w2 ⟨⟨y, rfl, hy0, hy1⟩, hcur, hgr⟩
      have HB2 : Hid (Bld w w2 g ao n cap f u3 L) := HB1.out.step hcur hgr
      clear hcur hgr HB1
      rcases (show y = 0 ∨ y = 1 ∨ y = 2 ∨ y = 3 by omega) with rfl | rfl | rfl | rfl
      · go_wp2_with fail
        go_loopw [3, 5] (fun v i wr => ∃ (q : Nat) (M : List Int), q ≤ 150 ∧ i = .int .i64 q ∧ M.length ≤ k * 200 + q ∧ Hid (Bld w wr g ao n cap f v M)) (fun _ i _ => 150 - (intOf i).toNat)
        case atStart => exact ⟨0, L, by omega, rfl, by omega, HB2⟩
        case round =>
          obtain ⟨q, M, hq, rfl, hM, hB⟩ := hrel
          clear HB2
          go_wp2_with fail
          refine (below_any g n cap 150 ao f _ (by decide) (by decide) hB.out.2.2.1).mono ?_
          rintro e w3 ⟨⟨y, rfl, hy0, hy1⟩, hcur, hgr⟩
          have HB3 : Hid (Bld w w3 g ao n cap f _ M) := hB.out.step hcur hgr
          clear hcur hgr hB
          by_cases hlt2 : (q : Int) < y
          · go_wp2_with (at_builtin; refine wpList_append_own _ rfl _ _ 22 rfl w.heap.size 5 i0 (.int .u8 0) 1 1 Try.underlying22 hi hz0 hz1 hz2 rfl (by decide) _ _ _ rfl (HB3.out.alloc _).1 ⟨w3.heap.size, 0, none⟩ 1 1 (List.map (Value.int .u8) [7]) rfl rfl (app_cells _ _ _ _) (app_ones _ _) (app_lens (by omega)) (app_bytes (by omega)) (by have := HB3.out.size; simp; omega) ?_; intro v' w4 hown' hgrow hnn; have R := (HB3.out.alloc _).app (M := [7]) rfl hown' hgrow (by decide); have HB4 : Hid (Bld w w4 g ao n cap f v' (M ++ [7])) := R; clear R hown' hgrow hnn)
            go_roundw
            case rel => exact ⟨q + 1, M ++ [7], by omega, by go_num, by simp; omega, by assumption⟩
            case measure => simp [intOf]; omega
          · go_wp2
            go_roundw
            case rel => exact ⟨k + 1, M, by omega, by go_num, by omega, HB3⟩
            case measure => simp [intOf]; omega
      · go_wp2_with (at_builtin; refine wpList_append_own _ rfl _ _ 22 rfl w.heap.size 5 i0 (.int .u8 0) 1 1 Try.underlying22 hi hz0 hz1 hz2 rfl (by decide) _ _ _ rfl (HB2.out.alloc _).1 ⟨w2.heap.size, 0, none⟩ 8 8 (List.map (Value.int .u8) [97, 98, 99, 97, 98, 99, 97, 98]) rfl rfl (app_cells _ _ _ _) (app_ones _ _) (app_lens (by omega)) (app_bytes (by omega)) (by have := HB2.out.size; simp; omega) ?_; intro v' w3 hown' hgrow hnn; have R := (HB2.out.alloc _).app (M := [97, 98, 99, 97, 98, 99, 97, 98]) rfl hown' hgrow (by decide); have HB3 : Hid (Bld w w3 g ao n cap f v' (L ++ [97, 98, 99, 97, 98, 99, 97, 98])) := R; clear R hown' hgrow hnn)
        go_roundw
        case rel => exact ⟨k + 1, L ++ [97, 98, 99, 97, 98, 99, 97, 98], by omega, by go_num, by simp; omega, by assumption⟩
        case measure => simp [intOf]; omega
      · go_wp2_with fail
        refine (pick_any g n cap 4 4 ao (some ⟨w2.heap.size, 0, none⟩) f (fun i => [0, 127, 128, 255].getD i 0) _ (by decide) (by decide) (HB2.out.alloc _).2.2.1 (lit_cells w2 [0, 127, 128, 255] 3 g HB2.out.2.2.1.lt)).mono ?_
        rintro e w3 ⟨⟨j, hj, rfl⟩, hcur, hgr⟩
        have HB3 : Hid (Bld w w3 g ao n cap f u3 L) := (HB2.out.alloc _).step hcur hgr
        have hz := pick_bd j hj
        generalize ([0, 127, 128, 255] : List Int).getD j 0 = z at hz
        clear hcur hgr HB2 hj
        go_wp2_with (at_builtin; refine wpList_append_own _ rfl _ _ 22 rfl w.heap.size 5 i0 (.int .u8 0) 1 1 Try.underlying22 hi hz0 hz1 hz2 rfl (by decide) _ _ _ rfl (HB3.out.alloc _).1 ⟨w3.heap.size, 0, none⟩ 1 1 (List.map (Value.int .u8) [z]) rfl rfl (app_cells _ _ _ _) (app_ones _ _) (app_lens (by omega)) (app_bytes (by omega)) (by have := HB3.out.size; simp; omega) ?_; intro v' w4 hown' hgrow hnn; have R := (HB3.out.alloc _).app (M := [z]) rfl hown' hgrow (by simpa using hz); have HB4 : Hid (Bld w w4 g ao n cap f v' (L ++ [z])) := R; clear R hown' hgrow hnn)
        go_roundw
        case rel => exact ⟨k + 1, L ++ [z], by omega, by go_num, by simp; omega, by assumption⟩
        case measure => simp [intOf]; omega
      · go_wp2_with fail
        refine (below_any g n cap 5 ao f _ (by decide) (by decide) HB2.out.2.2.1).mono ?_
        rintro e w3 ⟨⟨z, rfl, hy0, hy1⟩, hcur, hgr⟩
        have HB3 : Hid (Bld w w3 g ao n cap f u3 L) := HB2.out.step hcur hgr
        have hz : 0 ≤ z ∧ z ≤ 255 := ⟨hy0, by omega⟩
        clear hcur hgr HB2
        go_wp2_with (at_builtin; refine wpList_append_own _ rfl _ _ 22 rfl w.heap.size 5 i0 (.int .u8 0) 1 1 Try.underlying22 hi hz0 hz1 hz2 rfl (by decide) _ _ _ rfl (HB3.out.alloc _).1 ⟨w3.heap.size, 0, none⟩ 1 1 (List.map (Value.int .u8) [z]) rfl rfl (app_cells _ _ _ _) (app_ones _ _) (app_lens (by omega)) (app_bytes (by omega)) (by have := HB3.out.size; simp; omega) ?_; intro v' w4 hown' hgrow hnn; have R := (HB3.out.alloc _).app (M := [z]) rfl hown' hgrow (by simpa using hz); have HB4 : Hid (Bld w w4 g ao n cap f v' (L ++ [z])) := R; clear R hown' hgrow hnn)
        go_roundw
        case rel => exact ⟨k + 1, L ++ [z], by omega, by go_num, by simp; omega, by assumption⟩
        case measure => simp [intOf]; omega
    · go_wp2
      go_ret
      exact ⟨_, L, rfl, by omega, HB1.out⟩
end Go.Proofs.Ythnlcijmlcaepaa

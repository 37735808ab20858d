/- What is known at first, of both. -/
import Derived.Test.YtcffhjpdkdaaeaaGreatDoorGd
import Derived.Test.YtcffhjpdkdaaeaaGreatDoorGh

namespace Go.Proofs.YtcffhjpdkdaaeaaGreatDoor
open Go.ChangeShapes Go.WideShapes Go.ChangeAt Go.RowKit
set_option linter.unusedVariables false
set_option linter.unusedSimpArgs false
set_option maxRecDepth 100000

def nw (x : Int) : Bool := decide (1 ≤ x ∧ x ≤ 100000)
def nwg (x : Int) : List Int := bif nw x then [x] else []
def nwn (x : Int) : Nat := bif nw x then 3 else 0
theorem new_is (x : Int) : MtOk [x] 3 (fun _ => []) false false 0 ↔ 1 ≤ x ∧ x ≤ 100000 := by
  constructor
  · intro h
    exact (h.1.1.2 0 (by simp)).1
  · intro h
    refine ⟨⟨⟨by simp, fun i hi => ?_⟩, by simp⟩, ⟨rfl, fun i _ => ⟨fun j hj => absurd hj (by simp), fun j h1 h2 => absurd h2 (by simp)⟩⟩, by omega, by simp⟩
    obtain rfl : i = 0 := by simpa using hi
    exact ⟨h, fun j hj => absurd hj (by omega)⟩
theorem bal4 (w : World) (o1 o2 o3 o4 : Obj) : ((((w.alloc o1).alloc o2).alloc o3).alloc o4).heap[w.heap.size]? = some o1 ∧ ((((w.alloc o1).alloc o2).alloc o3).alloc o4).heap[w.heap.size + 1]? = some o2 ∧ ((((w.alloc o1).alloc o2).alloc o3).alloc o4).heap[w.heap.size + 1 + 1]? = some o3 ∧ ((((w.alloc o1).alloc o2).alloc o3).alloc o4).heap[w.heap.size + 1 + 1 + 1]? = some o4 ∧ ((((w.alloc o1).alloc o2).alloc o3).alloc o4).heap.size = w.heap.size + 1 + 1 + 1 + 1 := by
  have e : ∀ (w : World) (o : Obj), (w.alloc o).heap = w.heap.push o := fun _ _ => rfl
  refine ⟨?_, ?_, ?_, ?_, ?_⟩
  · simp only [e, Array.getElem?_push, Array.size_push]
    rw [if_neg (by omega), if_neg (by omega), if_neg (by omega), if_pos trivial]
  · simp only [e, Array.getElem?_push, Array.size_push]
    rw [if_neg (by omega), if_neg (by omega), if_pos trivial]
  · simp only [e, Array.getElem?_push, Array.size_push]
    rw [if_neg (by omega), if_pos trivial]
  · simp only [e, Array.getElem?_push, Array.size_push]
    rw [if_pos trivial]
  · simp only [e, Array.size_push]
theorem OKm.wider {w : World} {B T B' T' : Nat} {go : Option Addr} {gc : Nat} {bo : Option Addr} {bc : Nat} {g : List Int} {n : Nat} {L : Nat → List Int} (h : OKm w B T go gc bo bc g n L) (hB : B' ≤ B) (hT : T ≤ T') (hT' : T' ≤ w.heap.size) : OKm w B' T' go gc bo bc g n L := by
  obtain ⟨⟨h1, h2⟩, hb, R, ho, hs'⟩ := h
  exact ⟨⟨by omega, hT'⟩, hb, R, ho.wide hB hT, hs'.wide hB hT⟩
theorem none_ok {w : World} {B : Nat} (h : B ≤ w.heap.size) : OKm w B w.heap.size none 0 none 0 [] 0 (fun _ => []) := by
  refine ⟨⟨h, Nat.le_refl _⟩, Nat.le_refl _, fun _ => (none, 0), fun i hi => ?_, .inl rfl⟩
  obtain rfl : i = 0 := by omega
  exact ⟨Nat.le_refl _, .inl rfl, fun γ e => by cases e⟩
theorem new_ok {w W : World} {x : Int} (b1 : W.heap[w.heap.size + 1]? = some (.cells #[.int .i64 x] 3 (0, 0))) (b2 : W.heap[w.heap.size + 1 + 1]? = some (.cells (madeCells #[.slice none 0 0] 3) 22 (0, 0))) (b4 : W.heap.size = w.heap.size + 1 + 1 + 1 + 1) :
    OKm W (w.heap.size + 1) W.heap.size (some ⟨w.heap.size + 1, 0, none⟩) 1 (some ⟨w.heap.size + 1 + 1, 0, none⟩) 3 [x] 3 (fun _ => []) := by
  refine ⟨⟨by omega, Nat.le_refl _⟩, Nat.le_refl _, fun _ => (none, 0), fun i hi => ?_, .inr ⟨_, _, rfl, by omega, b2, by rw [size_madeCells]; exact Nat.le_refl _, fun i hi => ?_⟩⟩
  · match i with
    | 0 => exact ⟨Nat.le_refl _, .inr ⟨_, rfl, by omega, _, b1, by simp [rows], fun j hj => by
        have : j = 0 := by simpa [rows] using hj
        subst this
        rfl⟩, fun γ e hp j hj hne hpj => by
          match j, hne, hpj with
          | j + 1, _, hpj => exact absurd hpj (by simp [rows])⟩
    | i + 1 => exact ⟨Nat.le_refl _, .inl rfl, fun γ e hp => absurd hp (by simp [rows])⟩
  · rw [← Array.getElem?_toList, toList_madeCells_one, List.getElem?_replicate, if_pos hi]
    rfl

set_option maxHeartbeats 1000000 in
theorem mtnew_spec (x : Int) (w : World) :
    Calls Tryz.prog 31 #[.int .i64 x] w fun e w' => ∃ go bo gc bc, e = .returned (.agg #[.slice go (nwg x).length gc, .slice bo (nwn x) bc, .bool (nw x), .bool false, .bool false, .int .i64 0]) ∧ OKm w' w.heap.size w'.heap.size go gc bo bc (nwg x) (nwn x) (fun _ => []) ∧ Below w.heap.size w w' := by
  have hmk := run_make_row' (P := Tryz.prog) 23 22 (.slice none 0 0) 24 Tryz.underlying23 Tryz.infoSl rfl .i64 .i64 3 (by omega) (by omega)
  rw [show ((3 : Nat) : Int) = 3 from rfl] at hmk
  obtain ⟨W, hW⟩ : ∃ W, W = ((((w.alloc (.cells #[.slice none 0 0, .slice none 0 0, .bool false, .bool false, .bool false, .int .i64 0] 25)).alloc (.cells #[.int .i64 x] 3)).alloc (.cells (madeCells #[.slice none 0 0] 3) 22)).alloc (.cells #[.slice (some ⟨w.heap.size + 1, 0, none⟩) 1 1, .slice (some ⟨w.heap.size + 1 + 1, 0, none⟩) 3 3, .bool true, .bool false, .bool false, .int .i64 0] 25)) := ⟨_, rfl⟩
  obtain ⟨b0, b1, b2, b3, b4⟩ := bal4 w (.cells #[.slice none 0 0, .slice none 0 0, .bool false, .bool false, .bool false, .int .i64 0] 25) (.cells #[.int .i64 x] 3) (.cells (madeCells #[.slice none 0 0] 3) 22) (.cells #[.slice (some ⟨w.heap.size + 1, 0, none⟩) 1 1, .slice (some ⟨w.heap.size + 1 + 1, 0, none⟩) 3 3, .bool true, .bool false, .bool false, .int .i64 0] 25)
  rw [← hW] at b0 b1 b2 b3 b4
  have hB : Below w.heap.size w W := by rw [hW]; exact ((((Below.refl _ _).alloc (Nat.le_refl _) _).alloc (by simp) _).alloc (by simp; omega) _).alloc (by simp; omega) _
  have hO : OKm W (w.heap.size + 1) W.heap.size (some ⟨w.heap.size + 1, 0, none⟩) 1 (some ⟨w.heap.size + 1 + 1, 0, none⟩) 3 [x] 3 (fun _ => []) := new_ok b1 b2 b4
  have hcall := hide (mtok_spec _ _ _ _ [x] 3 (fun _ => []) true false false 0 W ⟨by simp, by omega, fun _ _ => by simp⟩ hO.mv)
  have HO := hide hO
  have HB := hide hB
  clear hO hB b1 b2
  go_enter Tryz.func31, Tryz.ntmps31
  go_wp2_with fail
  rw [← hW]
  clear hW hmk
  refine hcall.out.mono ?_
  rintro e w1 ⟨h1, hb⟩
  have f0 := (hb.block w.heap.size (by omega)).trans b0
  have f3 := (hb.block (w.heap.size + 1 + 1 + 1) (by omega)).trans b3
  have HO1 := hide (HO.out.below hb (Nat.le_refl _))
  have HB1 := hide (HB.out.trans (hb.mono HB.out.size))
  have hsz := hb.size
  clear hb b0 b3 hcall HO HB
  have r0 : w1.cell? ⟨w.heap.size, 0, none⟩ = some (.slice none 0 0) := mblk f0 rfl
  have r1 : w1.cell? ⟨w.heap.size, 1, none⟩ = some (.slice none 0 0) := mblk f0 rfl
  have r2 : w1.cell? ⟨w.heap.size, 2, none⟩ = some (.bool false) := mblk f0 rfl
  have r3 : w1.cell? ⟨w.heap.size, 3, none⟩ = some (.bool false) := mblk f0 rfl
  have r4 : w1.cell? ⟨w.heap.size, 4, none⟩ = some (.bool false) := mblk f0 rfl
  have r5 : w1.cell? ⟨w.heap.size, 5, none⟩ = some (.int .i64 0) := mblk f0 rfl
  have o0 : w1.cell? ⟨w.heap.size + 1 + 1 + 1, 0, none⟩ = some (.slice (some ⟨w.heap.size + 1, 0, none⟩) 1 1) := mblk f3 rfl
  have o1 : w1.cell? ⟨w.heap.size + 1 + 1 + 1, 1, none⟩ = some (.slice (some ⟨w.heap.size + 1 + 1, 0, none⟩) 3 3) := mblk f3 rfl
  have o2 : w1.cell? ⟨w.heap.size + 1 + 1 + 1, 2, none⟩ = some (.bool true) := mblk f3 rfl
  have o3 : w1.cell? ⟨w.heap.size + 1 + 1 + 1, 3, none⟩ = some (.bool false) := mblk f3 rfl
  have o4 : w1.cell? ⟨w.heap.size + 1 + 1 + 1, 4, none⟩ = some (.bool false) := mblk f3 rfl
  have o5 : w1.cell? ⟨w.heap.size + 1 + 1 + 1, 5, none⟩ = some (.int .i64 0) := mblk f3 rfl
  have z0 : ∀ i, w1.frozen? ⟨w.heap.size, i, none⟩ = false := fun i => by simp [World.frozen?, f0]
  clear f0 f3
  rcases h1 with ⟨hok, rfl⟩ | ⟨hok, rfl⟩
  · have hx := (new_is x).1 hok
    have HX : Hid (nw x = true ∧ nwg x = [x] ∧ nwn x = 3) := by unfold nwg nwn; rw [show nw x = true from decide_eq_true hx]; exact ⟨rfl, rfl, rfl⟩
    clear hok hx
    go_wp2
    refine bodyPost_ret (v := .agg #[.slice (some ⟨w.heap.size + 1, 0, none⟩) 1 1, .slice (some ⟨w.heap.size + 1 + 1, 0, none⟩) 3 3, .bool true, .bool false, .bool false, .int .i64 0]) (by simp [results, Tryz.results31, go_sem, r0, r1, r2, r3, r4, r5]) rfl ?_
    rw [HX.out.1, HX.out.2.1, HX.out.2.2]
    refine ⟨_, _, _, _, rfl, ?_, ?_⟩
    · have hfin : ∀ F : World, F.heap.size = w1.heap.size → (∀ j, w.heap.size + 1 ≤ j → F.heap[j]? = w1.heap[j]?) → OKm F w.heap.size F.heap.size (some ⟨w.heap.size + 1, 0, none⟩) 1 (some ⟨w.heap.size + 1 + 1, 0, none⟩) 3 [x] 3 (fun _ => []) := fun F hs hk =>
        (HO1.out.kept (fun j h1 _ => hk j h1) (by omega)).wider (by omega) (by omega) (Nat.le_refl _)
      refine hfin _ (by simp [World.setCell]) ?_
      intro j hj
      simp only [World.setCell, Array.getElem?_modify]
      repeat rw [if_neg (by omega)]
    · repeat (refine Below.setCell ?_ (by show w.heap.size ≤ w.heap.size; omega) _)
      exact HB1.out
  · have hx := fun h => hok ((new_is x).2 h)
    have HX : Hid (nw x = false ∧ nwg x = [] ∧ nwn x = 0) := by unfold nwg nwn; rw [show nw x = false from decide_eq_false hx]; exact ⟨rfl, rfl, rfl⟩
    clear hok hx
    go_wp2
    refine bodyPost_ret (v := .agg #[.slice none 0 0, .slice none 0 0, .bool false, .bool false, .bool false, .int .i64 0]) (by simp [results, Tryz.results31, go_sem, r0, r1, r2, r3, r4, r5]) rfl ?_
    rw [HX.out.1, HX.out.2.1, HX.out.2.2]
    refine ⟨none, none, 0, 0, rfl, ?_, ?_⟩
    · exact none_ok (by simp [World.setCell]; have := HB1.out.size; omega)
    · repeat (refine Below.setCell ?_ (by show w.heap.size ≤ w.heap.size; omega) _)
      exact HB1.out

set_option maxHeartbeats 1000000 in
theorem mtnew_impl (x : Int) (w : World) :
    Calls Tryz.prog 35 #[.int .i64 x] w fun e w' => ∃ go bo gc bc, e = .returned (.agg #[.slice go (nwg x).length gc, .slice bo (nwn x) bc, .bool (nw x), .bool false, .bool false, .int .i64 0]) ∧ OKm w' w.heap.size w'.heap.size go gc bo bc (nwg x) (nwn x) (fun _ => []) ∧ Below w.heap.size w w' := by
  have hmk := run_make_row' (P := Tryz.prog) 23 22 (.slice none 0 0) 24 Tryz.underlying23 Tryz.infoSl rfl .i64 .i64 3 (by omega) (by omega)
  rw [show ((3 : Nat) : Int) = 3 from rfl] at hmk
  obtain ⟨W, hW⟩ : ∃ W, W = ((((w.alloc (.cells #[.slice none 0 0, .slice none 0 0, .bool false, .bool false, .bool false, .int .i64 0] 25)).alloc (.cells #[.int .i64 x] 3)).alloc (.cells (madeCells #[.slice none 0 0] 3) 22)).alloc (.cells #[.slice (some ⟨w.heap.size + 1, 0, none⟩) 1 1, .slice (some ⟨w.heap.size + 1 + 1, 0, none⟩) 3 3, .bool true, .bool false, .bool false, .int .i64 0] 25)) := ⟨_, rfl⟩
  obtain ⟨b0, b1, b2, b3, b4⟩ := bal4 w (.cells #[.slice none 0 0, .slice none 0 0, .bool false, .bool false, .bool false, .int .i64 0] 25) (.cells #[.int .i64 x] 3) (.cells (madeCells #[.slice none 0 0] 3) 22) (.cells #[.slice (some ⟨w.heap.size + 1, 0, none⟩) 1 1, .slice (some ⟨w.heap.size + 1 + 1, 0, none⟩) 3 3, .bool true, .bool false, .bool false, .int .i64 0] 25)
  rw [← hW] at b0 b1 b2 b3 b4
  have hB : Below w.heap.size w W := by rw [hW]; exact ((((Below.refl _ _).alloc (Nat.le_refl _) _).alloc (by simp) _).alloc (by simp; omega) _).alloc (by simp; omega) _
  have hO : OKm W (w.heap.size + 1) W.heap.size (some ⟨w.heap.size + 1, 0, none⟩) 1 (some ⟨w.heap.size + 1 + 1, 0, none⟩) 3 [x] 3 (fun _ => []) := new_ok b1 b2 b4
  have hcall := hide (mtok_impl _ _ _ _ [x] 3 (fun _ => []) true false false 0 W ⟨by simp, by omega, fun _ _ => by simp⟩ hO.mv)
  have HO := hide hO
  have HB := hide hB
  clear hO hB b1 b2
  go_enter Tryz.func35, Tryz.ntmps35
  go_wp2_with fail
  rw [← hW]
  clear hW hmk
  refine hcall.out.mono ?_
  rintro e w1 ⟨h1, hb⟩
  have f0 := (hb.block w.heap.size (by omega)).trans b0
  have f3 := (hb.block (w.heap.size + 1 + 1 + 1) (by omega)).trans b3
  have HO1 := hide (HO.out.below hb (Nat.le_refl _))
  have HB1 := hide (HB.out.trans (hb.mono HB.out.size))
  have hsz := hb.size
  clear hb b0 b3 hcall HO HB
  have r0 : w1.cell? ⟨w.heap.size, 0, none⟩ = some (.slice none 0 0) := mblk f0 rfl
  have r1 : w1.cell? ⟨w.heap.size, 1, none⟩ = some (.slice none 0 0) := mblk f0 rfl
  have r2 : w1.cell? ⟨w.heap.size, 2, none⟩ = some (.bool false) := mblk f0 rfl
  have r3 : w1.cell? ⟨w.heap.size, 3, none⟩ = some (.bool false) := mblk f0 rfl
  have r4 : w1.cell? ⟨w.heap.size, 4, none⟩ = some (.bool false) := mblk f0 rfl
  have r5 : w1.cell? ⟨w.heap.size, 5, none⟩ = some (.int .i64 0) := mblk f0 rfl
  have o0 : w1.cell? ⟨w.heap.size + 1 + 1 + 1, 0, none⟩ = some (.slice (some ⟨w.heap.size + 1, 0, none⟩) 1 1) := mblk f3 rfl
  have o1 : w1.cell? ⟨w.heap.size + 1 + 1 + 1, 1, none⟩ = some (.slice (some ⟨w.heap.size + 1 + 1, 0, none⟩) 3 3) := mblk f3 rfl
  have o2 : w1.cell? ⟨w.heap.size + 1 + 1 + 1, 2, none⟩ = some (.bool true) := mblk f3 rfl
  have o3 : w1.cell? ⟨w.heap.size + 1 + 1 + 1, 3, none⟩ = some (.bool false) := mblk f3 rfl
  have o4 : w1.cell? ⟨w.heap.size + 1 + 1 + 1, 4, none⟩ = some (.bool false) := mblk f3 rfl
  have o5 : w1.cell? ⟨w.heap.size + 1 + 1 + 1, 5, none⟩ = some (.int .i64 0) := mblk f3 rfl
  have z0 : ∀ i, w1.frozen? ⟨w.heap.size, i, none⟩ = false := fun i => by simp [World.frozen?, f0]
  clear f0 f3
  rcases h1 with ⟨hok, rfl⟩ | ⟨hok, rfl⟩
  · have hx := (new_is x).1 hok
    have HX : Hid (nw x = true ∧ nwg x = [x] ∧ nwn x = 3) := by unfold nwg nwn; rw [show nw x = true from decide_eq_true hx]; exact ⟨rfl, rfl, rfl⟩
    clear hok hx
    go_wp2
    refine bodyPost_ret (v := .agg #[.slice (some ⟨w.heap.size + 1, 0, none⟩) 1 1, .slice (some ⟨w.heap.size + 1 + 1, 0, none⟩) 3 3, .bool true, .bool false, .bool false, .int .i64 0]) (by simp [results, Tryz.results35, go_sem, r0, r1, r2, r3, r4, r5]) rfl ?_
    rw [HX.out.1, HX.out.2.1, HX.out.2.2]
    refine ⟨_, _, _, _, rfl, ?_, ?_⟩
    · have hfin : ∀ F : World, F.heap.size = w1.heap.size → (∀ j, w.heap.size + 1 ≤ j → F.heap[j]? = w1.heap[j]?) → OKm F w.heap.size F.heap.size (some ⟨w.heap.size + 1, 0, none⟩) 1 (some ⟨w.heap.size + 1 + 1, 0, none⟩) 3 [x] 3 (fun _ => []) := fun F hs hk =>
        (HO1.out.kept (fun j h1 _ => hk j h1) (by omega)).wider (by omega) (by omega) (Nat.le_refl _)
      refine hfin _ (by simp [World.setCell]) ?_
      intro j hj
      simp only [World.setCell, Array.getElem?_modify]
      repeat rw [if_neg (by omega)]
    · repeat (refine Below.setCell ?_ (by show w.heap.size ≤ w.heap.size; omega) _)
      exact HB1.out
  · have hx := fun h => hok ((new_is x).2 h)
    have HX : Hid (nw x = false ∧ nwg x = [] ∧ nwn x = 0) := by unfold nwg nwn; rw [show nw x = false from decide_eq_false hx]; exact ⟨rfl, rfl, rfl⟩
    clear hok hx
    go_wp2
    refine bodyPost_ret (v := .agg #[.slice none 0 0, .slice none 0 0, .bool false, .bool false, .bool false, .int .i64 0]) (by simp [results, Tryz.results35, go_sem, r0, r1, r2, r3, r4, r5]) rfl ?_
    rw [HX.out.1, HX.out.2.1, HX.out.2.2]
    refine ⟨none, none, 0, 0, rfl, ?_, ?_⟩
    · exact none_ok (by simp [World.setCell]; have := HB1.out.size; omega)
    · repeat (refine Below.setCell ?_ (by show w.heap.size ≤ w.heap.size; omega) _)
      exact HB1.out
end Go.Proofs.YtcffhjpdkdaaeaaGreatDoor

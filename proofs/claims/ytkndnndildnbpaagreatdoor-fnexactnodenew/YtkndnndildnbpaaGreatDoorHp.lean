/- A node that is new: what it holds, how its rows lie. -/
import Derived.Test.YtkndnndildnbpaaGreatDoorGz
import Derived.Test.YtkndnndildnbpaaGreatDoorHz
import Derived.Test.YtkndnndildnbpaaGreatDoorHe
import Derived.Test.YtkndnndildnbpaaGreatDoorMtNZ
import Derived.Test.YtkndnndildnbpaaGreatDoorSlPuZ

namespace Go.Proofs.YtkndnndildnbpaaGreatDoor
open Go.ChangeShapes Go.WideShapes Go.ChangeAt Go.RowKit
set_option linter.unusedVariables false
set_option linter.unusedSimpArgs false
set_option maxRecDepth 100000
/- of MtNZ -/
def nw (x : Int) : Bool := decide (1 ≤ x ∧ x ≤ 100000)
def nwg (x : Int) : List Int := bif nw x then [x] else []
def nwn (x : Int) : Nat := bif nw x then 3 else 0
theorem new_is (x : Int) : MtOk [x] 3 (fun _ => []) false false 0 ↔ 1 ≤ x ∧ x ≤ 100000 := by
  constructor
  · intro h
    exact (h.1.1.2 0 (by simp)).1
  · intro h
    refine ⟨⟨⟨by simp, fun i hi => ?_⟩, by simp⟩, ⟨rfl, fun i _ => ⟨fun j hj => absurd hj (by simp), fun j h1 h2 => absurd h2 (by simp)⟩⟩, by omega, by simp⟩
    obtain rfl : i = 0 := by simpa using hi
    exact ⟨h, fun j hj => absurd hj (by omega)⟩
theorem bal4 (w : World) (o1 o2 o3 o4 : Obj) : ((((w.alloc o1).alloc o2).alloc o3).alloc o4).heap[w.heap.size]? = some o1 ∧ ((((w.alloc o1).alloc o2).alloc o3).alloc o4).heap[w.heap.size + 1]? = some o2 ∧ ((((w.alloc o1).alloc o2).alloc o3).alloc o4).heap[w.heap.size + 1 + 1]? = some o3 ∧ ((((w.alloc o1).alloc o2).alloc o3).alloc o4).heap[w.heap.size + 1 + 1 + 1]? = some o4 ∧ ((((w.alloc o1).alloc o2).alloc o3).alloc o4).heap.size = w.heap.size + 1 + 1 + 1 + 1 := by
  have e : ∀ (w : World) (o : Obj), (w.alloc o).heap = w.heap.push o := fun _ _ => rfl
  refine ⟨?_, ?_, ?_, ?_, ?_⟩
  · simp only [e, Array.getElem?_push, Array.size_push]
    rw [if_neg (by omega), if_neg (by omega), if_neg (by omega), if_pos trivial]
  · simp only [e, Array.getElem?_push, Array.size_push]
    rw [if_neg (by omega), if_neg (by omega), if_pos trivial]
  · simp only [e, Array.getElem?_push, Array.size_push]
    rw [if_neg (by omega), if_pos trivial]
  · simp only [e, Array.getElem?_push, Array.size_push]
    rw [if_pos trivial]
  · simp only [e, Array.size_push]
theorem new_ok {w W : World} {x : Int} (b1 : W.heap[w.heap.size + 1]? = some (.cells #[.int .i64 x] 3 (0, 0))) (b2 : W.heap[w.heap.size + 1 + 1]? = some (.cells (madeCells #[.slice none 0 0] 3) 22 (0, 0))) (b4 : W.heap.size = w.heap.size + 1 + 1 + 1 + 1) :
    OKm W (w.heap.size + 1) W.heap.size (some ⟨w.heap.size + 1, 0, none⟩) 1 (some ⟨w.heap.size + 1 + 1, 0, none⟩) 3 [x] 3 (fun _ => []) := by
  refine ⟨⟨by omega, Nat.le_refl _⟩, Nat.le_refl _, fun _ => (none, 0), fun i hi => ?_, .inr ⟨_, _, rfl, by omega, b2, by rw [size_madeCells]; exact Nat.le_refl _, fun i hi => ?_⟩⟩
  · match i with
    | 0 => exact ⟨Nat.le_refl _, .inr ⟨_, rfl, by omega, _, b1, by simp [rows], fun j hj => by
        have : j = 0 := by simpa [rows] using hj
        subst this
        rfl⟩, fun γ e hp j hj hne hpj => by
          match j, hne, hpj with
          | j + 1, _, hpj => exact absurd hpj (by simp [rows])⟩
    | i + 1 => exact ⟨Nat.le_refl _, .inl rfl, fun γ e hp => absurd hp (by simp [rows])⟩
  · rw [← Array.getElem?_toList, toList_madeCells_one, List.getElem?_replicate, if_pos hi]
    rfl

set_option maxHeartbeats 1000000 in
theorem mtnew_spec (x : Int) (w : World) :
    Calls Tryz.prog 52 #[.int .i64 x] w fun e w' => ∃ go bo gc bc, e = .returned (.agg #[.slice go (nwg x).length gc, .slice bo (nwn x) bc, .bool (nw x), .bool false, .bool false, .int .i64 0]) ∧ OKm w' w.heap.size w'.heap.size go gc bo bc (nwg x) (nwn x) (fun _ => []) ∧ Below w.heap.size w w' := by
  have hmk := run_make_row' (P := Tryz.prog) 23 22 (.slice none 0 0) 24 Tryz.underlying23 Tryz.infoSl rfl .i64 .i64 3 (by omega) (by omega)
  rw [show ((3 : Nat) : Int) = 3 from rfl] at hmk
  obtain ⟨W, hW⟩ : ∃ W, W = ((((w.alloc (.cells #[.slice none 0 0, .slice none 0 0, .bool false, .bool false, .bool false, .int .i64 0] 25)).alloc (.cells #[.int .i64 x] 3)).alloc (.cells (madeCells #[.slice none 0 0] 3) 22)).alloc (.cells #[.slice (some ⟨w.heap.size + 1, 0, none⟩) 1 1, .slice (some ⟨w.heap.size + 1 + 1, 0, none⟩) 3 3, .bool true, .bool false, .bool false, .int .i64 0] 25)) := ⟨_, rfl⟩
  obtain ⟨b0, b1, b2, b3, b4⟩ := bal4 w (.cells #[.slice none 0 0, .slice none 0 0, .bool false, .bool false, .bool false, .int .i64 0] 25) (.cells #[.int .i64 x] 3) (.cells (madeCells #[.slice none 0 0] 3) 22) (.cells #[.slice (some ⟨w.heap.size + 1, 0, none⟩) 1 1, .slice (some ⟨w.heap.size + 1 + 1, 0, none⟩) 3 3, .bool true, .bool false, .bool false, .int .i64 0] 25)
  rw [← hW] at b0 b1 b2 b3 b4
  have hB : Below w.heap.size w W := by rw [hW]; exact ((((Below.refl _ _).alloc (Nat.le_refl _) _).alloc (by simp) _).alloc (by simp; omega) _).alloc (by simp; omega) _
  have hO : OKm W (w.heap.size + 1) W.heap.size (some ⟨w.heap.size + 1, 0, none⟩) 1 (some ⟨w.heap.size + 1 + 1, 0, none⟩) 3 [x] 3 (fun _ => []) := new_ok b1 b2 b4
  have hcall := hide (mtok_spec _ _ _ _ [x] 3 (fun _ => []) true false false 0 W ⟨by simp, by omega, fun _ _ => by simp⟩ hO.mv)
  have HO := hide hO
  have HB := hide hB
  clear hO hB b1 b2
  go_enter Tryz.func52, Tryz.ntmps52
  go_wp2_with fail
  rw [← hW]
  clear hW hmk
  refine hcall.out.mono ?_
  rintro e w1 ⟨h1, hb⟩
  have f0 := (hb.block w.heap.size (by omega)).trans b0
  have f3 := (hb.block (w.heap.size + 1 + 1 + 1) (by omega)).trans b3
  have HO1 := hide (HO.out.below hb (Nat.le_refl _))
  have HB1 := hide (HB.out.trans (hb.mono HB.out.size))
  have hsz := hb.size
  clear hb b0 b3 hcall HO HB
  have r0 : w1.cell? ⟨w.heap.size, 0, none⟩ = some (.slice none 0 0) := mblk f0 rfl
  have r1 : w1.cell? ⟨w.heap.size, 1, none⟩ = some (.slice none 0 0) := mblk f0 rfl
  have r2 : w1.cell? ⟨w.heap.size, 2, none⟩ = some (.bool false) := mblk f0 rfl
  have r3 : w1.cell? ⟨w.heap.size, 3, none⟩ = some (.bool false) := mblk f0 rfl
  have r4 : w1.cell? ⟨w.heap.size, 4, none⟩ = some (.bool false) := mblk f0 rfl
  have r5 : w1.cell? ⟨w.heap.size, 5, none⟩ = some (.int .i64 0) := mblk f0 rfl
  have o0 : w1.cell? ⟨w.heap.size + 1 + 1 + 1, 0, none⟩ = some (.slice (some ⟨w.heap.size + 1, 0, none⟩) 1 1) := mblk f3 rfl
  have o1 : w1.cell? ⟨w.heap.size + 1 + 1 + 1, 1, none⟩ = some (.slice (some ⟨w.heap.size + 1 + 1, 0, none⟩) 3 3) := mblk f3 rfl
  have o2 : w1.cell? ⟨w.heap.size + 1 + 1 + 1, 2, none⟩ = some (.bool true) := mblk f3 rfl
  have o3 : w1.cell? ⟨w.heap.size + 1 + 1 + 1, 3, none⟩ = some (.bool false) := mblk f3 rfl
  have o4 : w1.cell? ⟨w.heap.size + 1 + 1 + 1, 4, none⟩ = some (.bool false) := mblk f3 rfl
  have o5 : w1.cell? ⟨w.heap.size + 1 + 1 + 1, 5, none⟩ = some (.int .i64 0) := mblk f3 rfl
  have z0 : ∀ i, w1.frozen? ⟨w.heap.size, i, none⟩ = false := fun i => by simp [World.frozen?, f0]
  clear f0 f3
  rcases h1 with ⟨hok, rfl⟩ | ⟨hok, rfl⟩
  · have hx := (new_is x).1 hok
    have HX : Hid (nw x = true ∧ nwg x = [x] ∧ nwn x = 3) := by unfold nwg nwn; rw [show nw x = true from decide_eq_true hx]; exact ⟨rfl, rfl, rfl⟩
    clear hok hx
    go_wp2
    refine bodyPost_ret (v := .agg #[.slice (some ⟨w.heap.size + 1, 0, none⟩) 1 1, .slice (some ⟨w.heap.size + 1 + 1, 0, none⟩) 3 3, .bool true, .bool false, .bool false, .int .i64 0]) (by simp [results, Tryz.results52, go_sem, r0, r1, r2, r3, r4, r5]) rfl ?_
    rw [HX.out.1, HX.out.2.1, HX.out.2.2]
    refine ⟨_, _, _, _, rfl, ?_, ?_⟩
    · have hfin : ∀ F : World, F.heap.size = w1.heap.size → (∀ j, w.heap.size + 1 ≤ j → F.heap[j]? = w1.heap[j]?) → OKm F w.heap.size F.heap.size (some ⟨w.heap.size + 1, 0, none⟩) 1 (some ⟨w.heap.size + 1 + 1, 0, none⟩) 3 [x] 3 (fun _ => []) := fun F hs hk =>
        (HO1.out.kept (fun j h1 _ => hk j h1) (by omega)).wider (by omega) (by omega) (Nat.le_refl _)
      refine hfin _ (by simp [World.setCell]) ?_
      intro j hj
      simp only [World.setCell, Array.getElem?_modify]
      repeat rw [if_neg (by omega)]
    · repeat (refine Below.setCell ?_ (by show w.heap.size ≤ w.heap.size; omega) _)
      exact HB1.out
  · have hx := fun h => hok ((new_is x).2 h)
    have HX : Hid (nw x = false ∧ nwg x = [] ∧ nwn x = 0) := by unfold nwg nwn; rw [show nw x = false from decide_eq_false hx]; exact ⟨rfl, rfl, rfl⟩
    clear hok hx
    go_wp2
    refine bodyPost_ret (v := .agg #[.slice none 0 0, .slice none 0 0, .bool false, .bool false, .bool false, .int .i64 0]) (by simp [results, Tryz.results52, go_sem, r0, r1, r2, r3, r4, r5]) rfl ?_
    rw [HX.out.1, HX.out.2.1, HX.out.2.2]
    refine ⟨none, none, 0, 0, rfl, ?_, ?_⟩
    · exact none_ok (by simp [World.setCell]; have := HB1.out.size; omega)
    · repeat (refine Below.setCell ?_ (by show w.heap.size ≤ w.heap.size; omega) _)
      exact HB1.out

set_option maxHeartbeats 1000000 in
theorem mtnew_impl (x : Int) (w : World) :
    Calls Tryz.prog 56 #[.int .i64 x] w fun e w' => ∃ go bo gc bc, e = .returned (.agg #[.slice go (nwg x).length gc, .slice bo (nwn x) bc, .bool (nw x), .bool false, .bool false, .int .i64 0]) ∧ OKm w' w.heap.size w'.heap.size go gc bo bc (nwg x) (nwn x) (fun _ => []) ∧ Below w.heap.size w w' := by
  have hmk := run_make_row' (P := Tryz.prog) 23 22 (.slice none 0 0) 24 Tryz.underlying23 Tryz.infoSl rfl .i64 .i64 3 (by omega) (by omega)
  rw [show ((3 : Nat) : Int) = 3 from rfl] at hmk
  obtain ⟨W, hW⟩ : ∃ W, W = ((((w.alloc (.cells #[.slice none 0 0, .slice none 0 0, .bool false, .bool false, .bool false, .int .i64 0] 25)).alloc (.cells #[.int .i64 x] 3)).alloc (.cells (madeCells #[.slice none 0 0] 3) 22)).alloc (.cells #[.slice (some ⟨w.heap.size + 1, 0, none⟩) 1 1, .slice (some ⟨w.heap.size + 1 + 1, 0, none⟩) 3 3, .bool true, .bool false, .bool false, .int .i64 0] 25)) := ⟨_, rfl⟩
  obtain ⟨b0, b1, b2, b3, b4⟩ := bal4 w (.cells #[.slice none 0 0, .slice none 0 0, .bool false, .bool false, .bool false, .int .i64 0] 25) (.cells #[.int .i64 x] 3) (.cells (madeCells #[.slice none 0 0] 3) 22) (.cells #[.slice (some ⟨w.heap.size + 1, 0, none⟩) 1 1, .slice (some ⟨w.heap.size + 1 + 1, 0, none⟩) 3 3, .bool true, .bool false, .bool false, .int .i64 0] 25)
  rw [← hW] at b0 b1 b2 b3 b4
  have hB : Below w.heap.size w W := by rw [hW]; exact ((((Below.refl _ _).alloc (Nat.le_refl _) _).alloc (by simp) _).alloc (by simp; omega) _).alloc (by simp; omega) _
  have hO : OKm W (w.heap.size + 1) W.heap.size (some ⟨w.heap.size + 1, 0, none⟩) 1 (some ⟨w.heap.size + 1 + 1, 0, none⟩) 3 [x] 3 (fun _ => []) := new_ok b1 b2 b4
  have hcall := hide (mtok_impl _ _ _ _ [x] 3 (fun _ => []) true false false 0 W ⟨by simp, by omega, fun _ _ => by simp⟩ hO.mv)
  have HO := hide hO
  have HB := hide hB
  clear hO hB b1 b2
  go_enter Tryz.func56, Tryz.ntmps56
  go_wp2_with fail
  rw [← hW]
  clear hW hmk
  refine hcall.out.mono ?_
  rintro e w1 ⟨h1, hb⟩
  have f0 := (hb.block w.heap.size (by omega)).trans b0
  have f3 := (hb.block (w.heap.size + 1 + 1 + 1) (by omega)).trans b3
  have HO1 := hide (HO.out.below hb (Nat.le_refl _))
  have HB1 := hide (HB.out.trans (hb.mono HB.out.size))
  have hsz := hb.size
  clear hb b0 b3 hcall HO HB
  have r0 : w1.cell? ⟨w.heap.size, 0, none⟩ = some (.slice none 0 0) := mblk f0 rfl
  have r1 : w1.cell? ⟨w.heap.size, 1, none⟩ = some (.slice none 0 0) := mblk f0 rfl
  have r2 : w1.cell? ⟨w.heap.size, 2, none⟩ = some (.bool false) := mblk f0 rfl
  have r3 : w1.cell? ⟨w.heap.size, 3, none⟩ = some (.bool false) := mblk f0 rfl
  have r4 : w1.cell? ⟨w.heap.size, 4, none⟩ = some (.bool false) := mblk f0 rfl
  have r5 : w1.cell? ⟨w.heap.size, 5, none⟩ = some (.int .i64 0) := mblk f0 rfl
  have o0 : w1.cell? ⟨w.heap.size + 1 + 1 + 1, 0, none⟩ = some (.slice (some ⟨w.heap.size + 1, 0, none⟩) 1 1) := mblk f3 rfl
  have o1 : w1.cell? ⟨w.heap.size + 1 + 1 + 1, 1, none⟩ = some (.slice (some ⟨w.heap.size + 1 + 1, 0, none⟩) 3 3) := mblk f3 rfl
  have o2 : w1.cell? ⟨w.heap.size + 1 + 1 + 1, 2, none⟩ = some (.bool true) := mblk f3 rfl
  have o3 : w1.cell? ⟨w.heap.size + 1 + 1 + 1, 3, none⟩ = some (.bool false) := mblk f3 rfl
  have o4 : w1.cell? ⟨w.heap.size + 1 + 1 + 1, 4, none⟩ = some (.bool false) := mblk f3 rfl
  have o5 : w1.cell? ⟨w.heap.size + 1 + 1 + 1, 5, none⟩ = some (.int .i64 0) := mblk f3 rfl
  have z0 : ∀ i, w1.frozen? ⟨w.heap.size, i, none⟩ = false := fun i => by simp [World.frozen?, f0]
  clear f0 f3
  rcases h1 with ⟨hok, rfl⟩ | ⟨hok, rfl⟩
  · have hx := (new_is x).1 hok
    have HX : Hid (nw x = true ∧ nwg x = [x] ∧ nwn x = 3) := by unfold nwg nwn; rw [show nw x = true from decide_eq_true hx]; exact ⟨rfl, rfl, rfl⟩
    clear hok hx
    go_wp2
    refine bodyPost_ret (v := .agg #[.slice (some ⟨w.heap.size + 1, 0, none⟩) 1 1, .slice (some ⟨w.heap.size + 1 + 1, 0, none⟩) 3 3, .bool true, .bool false, .bool false, .int .i64 0]) (by simp [results, Tryz.results56, go_sem, r0, r1, r2, r3, r4, r5]) rfl ?_
    rw [HX.out.1, HX.out.2.1, HX.out.2.2]
    refine ⟨_, _, _, _, rfl, ?_, ?_⟩
    · have hfin : ∀ F : World, F.heap.size = w1.heap.size → (∀ j, w.heap.size + 1 ≤ j → F.heap[j]? = w1.heap[j]?) → OKm F w.heap.size F.heap.size (some ⟨w.heap.size + 1, 0, none⟩) 1 (some ⟨w.heap.size + 1 + 1, 0, none⟩) 3 [x] 3 (fun _ => []) := fun F hs hk =>
        (HO1.out.kept (fun j h1 _ => hk j h1) (by omega)).wider (by omega) (by omega) (Nat.le_refl _)
      refine hfin _ (by simp [World.setCell]) ?_
      intro j hj
      simp only [World.setCell, Array.getElem?_modify]
      repeat rw [if_neg (by omega)]
    · repeat (refine Below.setCell ?_ (by show w.heap.size ≤ w.heap.size; omega) _)
      exact HB1.out
  · have hx := fun h => hok ((new_is x).2 h)
    have HX : Hid (nw x = false ∧ nwg x = [] ∧ nwn x = 0) := by unfold nwg nwn; rw [show nw x = false from decide_eq_false hx]; exact ⟨rfl, rfl, rfl⟩
    clear hok hx
    go_wp2
    refine bodyPost_ret (v := .agg #[.slice none 0 0, .slice none 0 0, .bool false, .bool false, .bool false, .int .i64 0]) (by simp [results, Tryz.results56, go_sem, r0, r1, r2, r3, r4, r5]) rfl ?_
    rw [HX.out.1, HX.out.2.1, HX.out.2.2]
    refine ⟨none, none, 0, 0, rfl, ?_, ?_⟩
    · exact none_ok (by simp [World.setCell]; have := HB1.out.size; omega)
    · repeat (refine Below.setCell ?_ (by show w.heap.size ≤ w.heap.size; omega) _)
      exact HB1.out
/- of Gu -/
def mvv (am : Na) (dm : Nd) : Value := .agg #[.slice am.go dm.g.length am.gc, .slice am.bo dm.n am.bc, .bool dm.fi, .bool dm.ol, .bool dm.he, .int .i64 dm.la]
/- of Hz -/
theorem pw_nil : ∀ xs : List Rw, (∀ r ∈ xs, r.vs = []) → xs.Pairwise Apt
  | [], _ => .nil
  | r :: xs, h => List.pairwise_cons.2 ⟨fun _ _ => apt_nil (h r (by simp)), pw_nil xs (fun s hs => h s (List.mem_cons_of_mem _ hs))⟩
/-- A line of empty rows. -/
def noneQ : Nat → Option Addr × Nat := fun _ => (none, 0)
theorem inner_none {w : World} {B T n : Nat} : ∀ r ∈ inner noneQ n (fun _ => []), RwOk w B T r := fun r hr => by
  obtain ⟨i, _, rfl⟩ := List.mem_map.1 hr
  exact none_row
theorem inner_vs {n : Nat} : ∀ r ∈ inner noneQ n (fun _ => []), r.vs = [] := fun r hr => by
  obtain ⟨i, _, rfl⟩ := List.mem_map.1 hr
  rfl
theorem outer_none (n : Nat) : outer noneQ n (fun _ => []) = List.replicate n (.slice none 0 0) := by
  simp [outer, noneQ, List.map_const']
/-- A row that was made: one value in all of its cells. -/
theorem made_row {w : World} {g n : Nat} {t : TypeId} {z : Value} {cap : Nat} (h : w.heap[g]? = some (.cells (madeCells #[z] n) t (0, 0))) (hc : n ≤ cap) : RwOk w g (g + 1) ⟨t, some ⟨g, 0, none⟩, cap, List.replicate n z⟩ := by
  refine ⟨by simpa using hc, .inr ⟨g, rfl, ⟨Nat.le_refl _, Nat.lt_succ_self _⟩, _, h, ?_, fun i hi => ?_⟩⟩
  · have := congrArg List.length (toList_madeCells_one z n)
    simp at this ⊢
    omega
  · have hi' : i < n := by simpa using hi
    rw [← Array.getElem?_toList, toList_madeCells_one]

/-- The first meta; its slot; a node that is new. -/
def nwm : Nd := { Nd.zero with g := nwg 1, n := nwn 1, L := fun _ => [], fi := nw 1 }
def nwX (D : (p : Prop) → Decidable p) : List Int := slm D (nwg 1) (nwn 1) (fun _ => []) (nw 1) false false 0 (sqv D (latL D [] []) + 1)
def nwA (D : (p : Prop) → Decidable p) : List Int := ptA D [] [] (nwX D)
def nwC (D : (p : Prop) → Decidable p) : List Int := ptB D [] [] (nwX D)
def nwd (D : (p : Prop) → Decidable p) (y : Int) : Nd := ⟨y, true, false, List.replicate 8 0, nwg 1, nwn 1, fun _ => [], nw 1, false, false, 0, nwA D, nwC D, [false, false, false], 3, fun _ => [], [false, false, false], []⟩
def nwr (D : (p : Prop) → Decidable p) (y : Int) : Nd := pick D (0 ≤ y ∧ y ≤ 2) (nwd D y) Nd.zero
theorem slm_160 (g : List Int) (n : Nat) (L : Nat → List Int) (fi ol he : Bool) (la q : Int) : ((slm Classical.propDecidable) g n L fi ol he la q).length ≤ 160 := by
  by_cases h : MtOk g n L ol he la ∧ 1 ≤ q ∧ q ≤ 1000000
  · rw [slm_yes h.1 h.2]
    have hl := mt_len (fi := fi) h.1
    rw [slb_len (by omega)]
    exact Nat.le_refl _
  · rw [slm_no h]; simp
theorem nwA_160 : (nwA Classical.propDecidable).length ≤ 160 := by
  unfold nwA ptA
  split
  · simp
  · exact slm_160 _ _ _ _ _ _ _ _
theorem nwC_160 : (nwC Classical.propDecidable).length ≤ 160 := by
  unfold nwC ptB
  split
  · simp
  · exact slm_160 _ _ _ _ _ _ _ _
theorem by_nil : By [] := by_of (by simp) (fun z hz => by cases hz)
theorem nwA_by : By (nwA Classical.propDecidable) := ptA_by by_nil (slm_by _ _ _ _ _ _ _ _)
theorem nwC_by : By (nwC Classical.propDecidable) := ptB_by by_nil (slm_by _ _ _ _ _ _ _ _)
theorem ntot_nwr (y : Int) : ntot (nwr Classical.propDecidable y) ≤ 1048576 := by
  unfold nwr
  by_cases h : 0 ≤ y ∧ y ≤ 2
  · rw [pick_yes h]
    have h1 := nwA_160
    have h2 := nwC_160
    have h3 : (nwg 1).length = 1 := rfl
    have h4 : nwn 1 = 3 := rfl
    have h5 : psum (fun _ => ([] : List Int)) 3 = 0 := rfl
    simp only [ntot, nwd, List.length_replicate, List.length_cons, List.length_nil, h3, h4, h5]
    omega
  · rw [pick_no h]
    have h5 : psum (fun _ => ([] : List Int)) 0 = 0 := rfl
    simp only [ntot, Nd.zero, List.length_nil, h5]
    omega
theorem image_s (w : World) : Calls Tryz.prog 53 #[] w fun e w' => e = .returned (.slice (some ⟨w.heap.size, 0, none⟩) 8 8) ∧ RS w' w.heap.size w'.heap.size [⟨3, some ⟨w.heap.size, 0, none⟩, 8, ir (List.replicate 8 0)⟩] ∧ Below w.heap.size w w' := by
  have hmk := run_make_row' (P := Tryz.prog) 22 3 (.int .i64 0) 8 Tryz.underlying22 Tryz.info3 rfl .i64 .i64 8 (by omega) (by omega)
  rw [show ((8 : Nat) : Int) = 8 from rfl] at hmk
  go_enter Tryz.func53, Tryz.ntmps53
  go_wp2
  go_ret
  refine ⟨rfl, ?_, bal1 _ _⟩
  have h := made_row (w := w.alloc (.cells (madeCells #[.int .i64 0] 8) 3)) (g := w.heap.size) (n := 8) (z := .int .i64 0) (cap := 8) (Deep.blk_alloc_new _ _) (Nat.le_refl _)
  have e : (w.alloc (.cells (madeCells #[.int .i64 0] 8) 3)).heap.size = w.heap.size + 1 := by simp
  rw [e]
  exact RS.one h
theorem image_i (w : World) : Calls Tryz.prog 57 #[] w fun e w' => e = .returned (.slice (some ⟨w.heap.size, 0, none⟩) 8 8) ∧ RS w' w.heap.size w'.heap.size [⟨3, some ⟨w.heap.size, 0, none⟩, 8, ir (List.replicate 8 0)⟩] ∧ Below w.heap.size w w' := by
  have hmk := run_make_row' (P := Tryz.prog) 22 3 (.int .i64 0) 8 Tryz.underlying22 Tryz.info3 rfl .i64 .i64 8 (by omega) (by omega)
  rw [show ((8 : Nat) : Int) = 8 from rfl] at hmk
  go_enter Tryz.func57, Tryz.ntmps57
  go_wp2
  go_ret
  refine ⟨rfl, ?_, bal1 _ _⟩
  have h := made_row (w := w.alloc (.cells (madeCells #[.int .i64 0] 8) 3)) (g := w.heap.size) (n := 8) (z := .int .i64 0) (cap := 8) (Deep.blk_alloc_new _ _) (Nat.le_refl _)
  have e : (w.alloc (.cells (madeCells #[.int .i64 0] 8) 3)).heap.size = w.heap.size + 1 := by simp
  rw [e]
  exact RS.one h

theorem nc_none : NC none 0 := fun _ => rfl
theorem vby_none (V : World) : VBy V none 0 [] := ⟨fun i hi => absurd hi (by simp), Nat.le_refl _, by simp, fun i hi => absurd hi (by simp)⟩
/-- The rows of a new node, some of which may still be missing. -/
def NwR (i mr s c o p : List Rw) : List Rw := i ++ (mr ++ (s ++ (c ++ (o ++ p))))
def rwI (im : Nat) : List Rw := [⟨3, some ⟨im, 0, none⟩, 8, ir (List.replicate 8 0)⟩]
def rwS (D : (p : Prop) → Decidable p) (bA : Option Addr) (dA : Nat) (bB : Option Addr) (dB : Nat) : List Rw := [⟨5, bA, dA, yr (nwA D)⟩, ⟨5, bB, dB, yr (nwC D)⟩]
def rwB (a : Nat) : List Rw := [⟨4, some ⟨a, 0, none⟩, 3, List.replicate 3 (.bool false)⟩]
def rwL (a : Nat) : List Rw := [⟨22, some ⟨a, 0, none⟩, 3, List.replicate 3 (.slice none 0 0)⟩]
theorem rs_ins {V V' : World} {B0 : Nat} {A B x : List Rw} (h : RS V B0 V.heap.size (A ++ B)) (hx : RS V' V.heap.size V'.heap.size x) (hb : Below V.heap.size V V') (hB : B0 ≤ V.heap.size) : RS V' B0 V'.heap.size (A ++ (x ++ B)) :=
  RS.swap (ys := []) ((h.below hb (Nat.le_refl _)).wide (Nat.le_refl B0) hb.size) (hx.wide hB (Nat.le_refl _)) (ap_of h.left hx (Nat.le_refl _)).symm (ap_of h.right hx (Nat.le_refl _)).symm
theorem made_rs {V W : World} {t : TypeId} {z : Value} (e : W = V.alloc (.cells (madeCells #[z] 3) t)) : RS W V.heap.size W.heap.size [⟨t, some ⟨V.heap.size, 0, none⟩, 3, List.replicate 3 z⟩] := by
  have es : W.heap.size = V.heap.size + 1 := by rw [e]; simp
  rw [es]
  exact RS.one (made_row (by rw [e]; exact Deep.blk_alloc_new _ _) (Nat.le_refl _))
/-- The rows of a new node, all there. -/
theorem on_new {V : World} {B0 : Nat} {y : Int} {b : Na} {R : Nat → Option Addr × Nat}
    (h : RS V B0 V.heap.size (NwR [⟨3, b.im, b.imc, ir (List.replicate 8 0)⟩] (mrows b.go b.gc b.bo b.bc R (nwg 1) (nwn 1) (fun _ => [])) [⟨5, b.aA, b.cA, yr (nwA Classical.propDecidable)⟩, ⟨5, b.aB, b.cB, yr (nwC Classical.propDecidable)⟩] [⟨4, b.co, b.coc, List.replicate 3 (.bool false)⟩] [⟨22, b.so, b.sc, List.replicate 3 (.slice none 0 0)⟩] [⟨4, b.cp, b.cpc, List.replicate 3 (.bool false)⟩]))
    (hw : b.wt = none ∧ b.wtc = 0) (hn : NC b.aA b.cA ∧ NC b.aB b.cB) (hB : B0 ≤ V.heap.size) : ON V B0 V.heap.size b (nwd Classical.propDecidable y) := by
  have hw0 : RS V B0 V.heap.size [⟨3, b.wt, b.wtc, ir []⟩] := by rw [hw.1, hw.2]; exact RS.one none_row
  have hin : RS V B0 V.heap.size (inner noneQ 3 (fun _ => [])) := ⟨inner_none, pw_nil _ inner_vs⟩
  have h1 := h.app hw0 (ap_nil (fun r hr => by rw [List.mem_singleton.1 hr]; rfl)).symm
  simp only [NwR, List.append_assoc] at h1
  have h2 : RS V B0 V.heap.size (([⟨3, b.im, b.imc, ir (List.replicate 8 0)⟩] ++ (mrows b.go b.gc b.bo b.bc R (nwg 1) (nwn 1) (fun _ => []) ++ ([⟨5, b.aA, b.cA, yr (nwA Classical.propDecidable)⟩, ⟨5, b.aB, b.cB, yr (nwC Classical.propDecidable)⟩] ++ ([⟨4, b.co, b.coc, List.replicate 3 (.bool false)⟩] ++ [⟨22, b.so, b.sc, List.replicate 3 (.slice none 0 0)⟩])))) ++ ([] ++ ([⟨4, b.cp, b.cpc, List.replicate 3 (.bool false)⟩] ++ [⟨3, b.wt, b.wtc, ir []⟩]))) := by
    simp only [List.append_assoc, List.nil_append]; exact h1
  have h3 := RS.swap h2 hin (ap_nil inner_vs) (ap_nil inner_vs)
  refine ⟨⟨hB, Nat.le_refl _⟩, hn, ⟨nwA_by.2, nwC_by.2⟩, R, noneQ, ?_⟩
  have e : nrows b R noneQ (nwd Classical.propDecidable y) = [⟨3, b.im, b.imc, ir (List.replicate 8 0)⟩] ++ (mrows b.go b.gc b.bo b.bc R (nwg 1) (nwn 1) (fun _ => []) ++ ([⟨5, b.aA, b.cA, yr (nwA Classical.propDecidable)⟩, ⟨5, b.aB, b.cB, yr (nwC Classical.propDecidable)⟩] ++ ([⟨4, b.co, b.coc, List.replicate 3 (.bool false)⟩] ++ ([⟨22, b.so, b.sc, List.replicate 3 (.slice none 0 0)⟩] ++ (inner noneQ 3 (fun _ => []) ++ ([⟨4, b.cp, b.cpc, List.replicate 3 (.bool false)⟩] ++ [⟨3, b.wt, b.wtc, ir []⟩])))))) := by
    simp [nrows, nwd, srows, br, outer_none]
  rw [e]
  simp only [List.append_assoc] at h3
  exact h3
theorem on_none {V : World} {B0 : Nat} (hB : B0 ≤ V.heap.size) : ON V B0 V.heap.size Na.zero Nd.zero := by
  refine ⟨⟨hB, Nat.le_refl _⟩, ⟨nc_none, nc_none⟩, ⟨fun i hi => absurd hi (by simp [Nd.zero]), fun i hi => absurd hi (by simp [Nd.zero])⟩, noneQ, noneQ, ?_⟩
  have hv : ∀ r ∈ nrows Na.zero noneQ noneQ Nd.zero, r.vs = [] ∧ r.ao = none := fun r hr => by
    simp [nrows, mrows, srows, inner, outer, Nd.zero, Na.zero, ir, yr, br] at hr
    rcases hr with rfl | rfl | rfl | rfl | rfl | rfl | rfl | rfl | rfl <;> exact ⟨rfl, rfl⟩
  exact ⟨fun r hr => ⟨by rw [(hv r hr).1]; exact Nat.zero_le _, .inl (hv r hr).1⟩, pw_nil _ (fun r hr => (hv r hr).1)⟩
/-- What is known while the new node is put together: the result's block, the meta's, what lies below. -/
def NwS (w V : World) (X : Nat) (am : Na) : Prop := Below w.heap.size w V ∧ NB V w.heap.size 31 Na.zero Nd.zero ∧ MBk V X 25 am nwm ∧ w.heap.size < X ∧ X < V.heap.size
theorem NwS.b {w V V' : World} {X : Nat} {am : Na} (h : NwS w V X am) (hb : Below V.heap.size V V') : NwS w V' X am := ⟨h.1.trans (hb.mono h.1.size), h.2.1.b hb, h.2.2.1.b hb, h.2.2.2.1, Nat.lt_of_lt_of_le h.2.2.2.2 hb.size⟩
/-- And the rows that are there by now. -/
structure NwF (w V : World) (BB X : Nat) (am : Na) (rows : List Rw) : Prop where
  st : NwS w V X am
  bb : BB ≤ V.heap.size
  rs : RS V BB V.heap.size rows
theorem NwF.im {w V V' : World} {BB X q : Nat} {am : Na} {mr s c o p : List Rw} (h : NwF w V BB X am (NwR [] mr s c o p)) (hx : RS V' V.heap.size V'.heap.size (rwI q)) (hb : Below V.heap.size V V') : NwF w V' BB X am (NwR (rwI q) mr s c o p) :=
  ⟨h.st.b hb, Nat.le_trans h.bb hb.size, rs_ins (A := []) h.rs hx hb h.bb⟩
theorem NwF.sl {w V V' : World} {BB X : Nat} {am : Na} {i mr c o p x : List Rw} (h : NwF w V BB X am (NwR i mr [] c o p)) (hx : RS V' V.heap.size V'.heap.size x) (hb : Below V.heap.size V V') : NwF w V' BB X am (NwR i mr x c o p) := by
  refine ⟨h.st.b hb, Nat.le_trans h.bb hb.size, ?_⟩
  have h1 : RS V BB V.heap.size ((i ++ mr) ++ (c ++ (o ++ p))) := by have := h.rs; simp only [NwR, List.append_assoc, List.nil_append] at this ⊢; exact this
  have h2 := rs_ins h1 hx hb h.bb
  simp only [NwR, List.append_assoc] at h2 ⊢; exact h2
theorem NwF.co {w V W : World} {BB X : Nat} {am : Na} {i mr s o p : List Rw} (h : NwF w V BB X am (NwR i mr s [] o p)) (e : W = V.alloc (.cells (madeCells #[.bool false] 3) 4)) : NwF w W BB X am (NwR i mr s (rwB V.heap.size) o p) := by
  have hb : Below V.heap.size V W := by rw [e]; exact bal1 _ _
  refine ⟨h.st.b hb, Nat.le_trans h.bb hb.size, ?_⟩
  have h1 : RS V BB V.heap.size ((i ++ (mr ++ s)) ++ (o ++ p)) := by have := h.rs; simp only [NwR, List.append_assoc, List.nil_append] at this ⊢; exact this
  have h2 := rs_ins h1 (made_rs e) hb h.bb
  simp only [NwR, List.append_assoc] at h2 ⊢; exact h2
theorem NwF.so {w V W : World} {BB X : Nat} {am : Na} {i mr s c p : List Rw} (h : NwF w V BB X am (NwR i mr s c [] p)) (e : W = V.alloc (.cells (madeCells #[.slice none 0 0] 3) 22)) : NwF w W BB X am (NwR i mr s c (rwL V.heap.size) p) := by
  have hb : Below V.heap.size V W := by rw [e]; exact bal1 _ _
  refine ⟨h.st.b hb, Nat.le_trans h.bb hb.size, ?_⟩
  have h1 : RS V BB V.heap.size ((i ++ (mr ++ (s ++ c))) ++ p) := by have := h.rs; simp only [NwR, List.append_assoc, List.nil_append] at this ⊢; exact this
  have h2 := rs_ins h1 (made_rs e) hb h.bb
  simp only [NwR, List.append_assoc] at h2 ⊢; exact h2
theorem NwF.cp {w V W : World} {BB X : Nat} {am : Na} {i mr s c o : List Rw} (h : NwF w V BB X am (NwR i mr s c o [])) (e : W = V.alloc (.cells (madeCells #[.bool false] 3) 4)) : NwF w W BB X am (NwR i mr s c o (rwB V.heap.size)) := by
  have hb : Below V.heap.size V W := by rw [e]; exact bal1 _ _
  refine ⟨h.st.b hb, Nat.le_trans h.bb hb.size, ?_⟩
  have h1 : RS V BB V.heap.size ((i ++ (mr ++ (s ++ (c ++ o)))) ++ []) := by have := h.rs; simp only [NwR, List.append_assoc, List.append_nil] at this ⊢; exact this
  have h2 := rs_ins h1 (made_rs e) hb h.bb
  simp only [NwR, List.append_assoc, List.append_nil] at h2 ⊢; exact h2
/-- A state of a region under way, told once, whatever it is that is asked there. -/
theorem cutG {R : Prop} {G : Nat → Nat → Nat → Nat → Nat → Nat → Option Addr → Option Addr → World → Prop} (F : Nat → Nat → Nat → Nat → Nat → Nat → Option Addr → Option Addr → World → Prop)
    (main : Hid (∀ im co so cp dA dB bA bB V, F im co so cp dA dB bA bB V → G im co so cp dA dB bA bB V) → R) (h : Hid (∀ im co so cp dA dB bA bB V, F im co so cp dA dB bA bB V → G im co so cp dA dB bA bB V)) : R := main h
theorem letters {R : Prop} (h : Nat → Nat → Nat → Nat → Nat → Nat → Option Addr → Option Addr → R) : R := h 0 0 0 0 0 0 none none
/-- A region under way, its counts told as letters of their own. -/
theorem wpAnyH_at {P : Program} {ops : Array Oper} {Q : Exit → Act → World → Prop} {md : Region.Mode} {S : World → Prop} {n m : Nat} {l k : Array Bool} {a : Act} {w : World} (hn : n = m) (hl : l = k) (h : wpAnyH P md ops Q S m k a w) : wpAnyH P md ops Q S n l a w := by rw [hn, hl]; exact h
set_option maxHeartbeats 100000000 in
theorem nodenew_s (y : Int) (w : World) (hy : -9223372036854775808 ≤ y ∧ y ≤ 9223372036854775807) :
    Calls Tryz.prog 15 #[.int .i64 y] w fun e w' => ∃ b, e = .returned (nv b (nwr Classical.propDecidable y)) ∧ ON w' w.heap.size w'.heap.size b (nwr Classical.propDecidable y) ∧ Below w.heap.size w w' := by
  have hmk := run_make_row' (P := Tryz.prog) 29 4 (.bool false) 1 Tryz.underlying29 Tryz.info4 rfl .i64 .i64 3 (by omega) (by omega)
  rw [show ((3 : Nat) : Int) = 3 from rfl] at hmk
  have hms := run_make_row' (P := Tryz.prog) 23 22 (.slice none 0 0) 24 Tryz.underlying23 Tryz.infoSl rfl .i64 .i64 3 (by omega) (by omega)
  rw [show ((3 : Nat) : Int) = 3 from rfl] at hms
  obtain ⟨W, hW⟩ : ∃ W, W = w.alloc (.cells (nds Na.zero Nd.zero) 31) := ⟨_, rfl⟩
  have T0 : Hid (Below w.heap.size w W ∧ NB W w.heap.size 31 Na.zero Nd.zero ∧ W.heap.size = w.heap.size + 1) := by rw [hW]; exact ⟨bal1 _ _, NB.new _ _ _ _, by simp⟩

  skip
  unfold nds Na.zero Nd.zero at hW
  dsimp only [List.length_nil] at hW
  by_cases hin : 0 ≤ y ∧ y ≤ 2
  case neg =>
    have HR : Hid (nwr Classical.propDecidable y = Nd.zero) := (show _ = _ from by unfold nwr; exact pick_no hin)
    rw [HR.out]
    have hq := in_no y 0 2 W (by omega)
    skip
    have HQ := hide hq
    clear hq hin hmk hms
    go_enter Tryz.func15, Tryz.ntmps15
    go_upto_region 1 with fail
    rw [← hW]
    clear hW
    go_wp2_with fail
    refine HQ.out.mono ?_
    rintro e w' ⟨rfl, hw'⟩
    rw [hw']
    clear hw' HQ
    go_wp2_with (refine st_node rfl _ _ rfl rfl w.heap.size Na.zero Nd.zero rfl rfl T0.out.2.1 (fun F hF1 hF2 => ?_))
    exact bodyPost_ret (v := nv Na.zero Nd.zero) (res_node Tryz.results15 rfl hF2) rfl ⟨Na.zero, rfl, on_none (by have := hF1.2.1; have := T0.out.2.2; omega), T0.out.1.trans (hF1.1.mono (Nat.le_refl _))⟩
  have HR : Hid (nwr Classical.propDecidable y = nwd Classical.propDecidable y) := (show _ = _ from by unfold nwr; exact pick_yes hin)
  rw [HR.out]
  clear HR
  have hq := in_yes y 0 2 W hin.1 hin.2
  skip
  have HQ := hide hq
  clear hq hin
  go_enter Tryz.func15, Tryz.ntmps15
  go_upto_region 1 with fail
  rw [← hW]
  clear hW
  go_wp2_with fail
  refine HQ.out.mono ?_
  rintro e w' ⟨rfl, hw'⟩
  rw [hw']
  clear hw' HQ w'
  go_wp2_with fail
  refine (mtnew_spec 1 W).mono ?_
  rintro e w1 ⟨go, bo, gc, bc, rfl, o1, c1⟩
  obtain ⟨am, ham⟩ : ∃ am : Na, am = { Na.zero with go := go, gc := gc, bo := bo, bc := bc } := ⟨_, rfl⟩
  obtain ⟨W1, hW1⟩ : ∃ W1, W1 = w1.alloc (.cells #[.slice go (nwg 1).length gc, .slice bo (nwn 1) bc, .bool (nw 1), .bool false, .bool false, .int .i64 0] 25) := ⟨_, rfl⟩
  obtain ⟨X, hX⟩ : ∃ X, X = w1.heap.size := ⟨_, rfl⟩
  obtain ⟨BB, hBB⟩ : ∃ BB, BB = w.heap.size + 1 := ⟨_, rfl⟩
  obtain ⟨R0, hR0⟩ := rs_okm o1
  have bx : Below w1.heap.size w1 W1 := by rw [hW1]; exact bal1 _ _
  have bd : Below w1.heap.size w1 W1.drew := Below.drawn bx 1
  have szW : W1.heap.size = w1.heap.size + 1 := by rw [hW1]; simp
  obtain ⟨mr, hmr⟩ : ∃ x, x = mrows am.go am.gc am.bo am.bc R0 (nwg 1) (nwn 1) (fun _ => []) := ⟨_, rfl⟩
  have HMR : Hid (mr = mrows am.go am.gc am.bo am.bc R0 (nwg 1) (nwn 1) (fun _ => [])) := hmr
  have HF : Hid (NwF w W1.drew BB X am (NwR [] mr [] [] [] [])) := by
    have h1 := T0.out.1.trans (c1.mono T0.out.1.size)
    have hcs := c1.size
    have ht := T0.out.2.2
    refine ⟨⟨h1.trans (bd.mono h1.size), (T0.out.2.1.b c1).b bd, by show MBk W1 X _ am nwm; rw [hX, hW1, ham]; exact MBk.new w1 _ { Na.zero with go := go, gc := gc, bo := bo, bc := bc } nwm, by rw [hX]; omega, by show X < W1.heap.size; rw [hX]; omega⟩, by show BB ≤ W1.heap.size; omega, ?_⟩
    rw [ht] at hR0
    have h2 := (hR0.below bd (Nat.le_refl _)).wide (B' := w.heap.size + 1) (T' := W1.drew.heap.size) (Nat.le_refl _) (by show w1.heap.size ≤ W1.heap.size; omega)
    rw [hmr, hBB, ham]
    simp only [NwR, List.nil_append, List.append_nil]
    exact h2
  have HBB : Hid (w.heap.size < BB) := by rw [hBB]; exact Nat.lt_succ_self _
  have hslp : Hid (∀ V i s c o p, NwF w V BB X am (NwR i mr s c o p) → Calls Tryz.prog 54 #[.agg #[.slice none 0 0, .slice none 0 0], .agg #[.slice am.go nwm.g.length am.gc, .slice am.bo nwm.n am.bc, .bool nwm.fi, .bool nwm.ol, .bool nwm.he, .int .i64 nwm.la]] V fun e w' => PtOut V w' (nwA Classical.propDecidable) (nwC Classical.propDecidable) e) := fun V i s c o p h => by
    have hr : RS V BB V.heap.size mr := h.rs.right.left
    rw [hmr] at hr
    exact slotput_spec none none 0 0 [] [] am.go am.bo am.gc am.bc (nwg 1) (nwn 1) (fun _ => []) (nw 1) false false 0 V (vby_none V) (vby_none V) nc_none nc_none ⟨by show (nwg 1).length ≤ 1048576; decide, by show nwn 1 ≤ 1048576; decide, fun i _ => by simp⟩ hr.mv
  clear o1 c1 hR0 bx bd szW hBB T0 hmr
  rw [show (Value.slice go (nwg 1).length gc) = .slice am.go nwm.g.length am.gc from by rw [ham]; rfl, show (Value.slice bo (nwn 1) bc) = .slice am.bo nwm.n am.bc from by rw [ham]; rfl] at hW1
  go_upto_region 4 with fail
  have hW1' : W1 = w1.alloc (.cells #[.slice go (nwg 1).length gc, .slice bo (nwn 1) bc, .bool (nw 1), .bool false, .bool false, .int .i64 0] 25) := by rw [hW1, ham]; rfl
  rw [← hW1', ← hX]
  clear hW1 hW1' ham
  generalize w1.heap.size = TM at *
  go_cut [] from 3 (fun wc => ∃ b, NB wc w.heap.size 31 b (nwd Classical.propDecidable y) ∧ ON wc w.heap.size wc.heap.size b (nwd Classical.propDecidable y) ∧ Below w.heap.size w wc)
  case first =>
    refine wp_region_held_drew (S := (fun w' => MBk w' X 25 am nwm)) (by kernel_rfl) ?_ (fun hHeld => ?_)
    · exact HF.out.st.2.2.1
    refine wpAnyH_take (i := 0) (oi := { dst := some 9, op := Op.move (Operand.tmp 0), type := 3, pos := "l08_node.go:43", after := #[], guard := none }) (v := ?_) rfl (by kernel_rfl) (by kernel_rfl) (by kernel_rfl) (fun _ _ _ h => h) (Or.inl ⟨by rfl, ?_⟩) (by assumption) ?_
    rotate_left 1
    · (intro wq hSw; (try dsimp only at hSw); go_simp; try with_reducible rfl)
    try simp only [Act.put, ly1, ly2, ly3]
    refine wpAnyH_take (i := 2) (oi := { dst := some 11, op := Op.load 25 (Operand.tmp 3), type := 25, pos := "l08_node.go:43", after := #[], guard := none }) (v := mvv am nwm) rfl (by kernel_rfl) (by kernel_rfl) (by kernel_rfl) (fun _ _ _ h => h) (yieldsIf_load_mid (by rfl) _ _ rfl X 0 rfl (mds am nwm) _ (fun wq hSw => range_of hSw rfl) Tryz.underlying25 rfl (by kernel_rfl)) (by assumption) ?_
    try simp only [Act.put, ly1, ly2, ly3]
    refine wpAnyH_take (i := 3) (oi := { dst := some 12, op := Op.build 28 #[], type := 28, pos := "l08_node.go:43", after := #[], guard := none }) (v := ?_) rfl (by kernel_rfl) (by kernel_rfl) (by kernel_rfl) (fun _ _ _ h => h) (Or.inl ⟨by rfl, ?_⟩) (by assumption) ?_
    rotate_left 1
    · (intro wq hSw; (try dsimp only at hSw); go_simp; try with_reducible rfl)
    try simp only [Act.put, ly1, ly2, ly3]
    refine wpAnyH_take (i := 4) (oi := { dst := some 13, op := Op.load 25 (Operand.tmp 3), type := 25, pos := "l08_node.go:43", after := #[], guard := none }) (v := mvv am nwm) rfl (by kernel_rfl) (by kernel_rfl) (by kernel_rfl) (fun _ _ _ h => h) (yieldsIf_load_mid (by rfl) _ _ rfl X 0 rfl (mds am nwm) _ (fun wq hSw => range_of hSw rfl) Tryz.underlying25 rfl (by kernel_rfl)) (by assumption) ?_
    try simp only [Act.put, ly1, ly2, ly3]
    refine wpAnyH_at (m := 7) (k := #[true, false, true, true, true, false, false, false, false, false, false]) (by kernel_rfl) (by kernel_rfl) ?_
    clear hHeld
    apply cutG (fun im co so cp dA dB bA bB V => Hid (NwF w V BB X am (NwR (rwI im) mr (rwS Classical.propDecidable bA dA bB dB) (rwB co) (rwL so) (rwB cp))) ∧ Hid (NC bA dA ∧ NC bB dB))
    intro K2cosocp
    apply cutG (fun im co so cp dA dB bA bB V => Hid (NwF w V BB X am (NwR (rwI im) mr (rwS Classical.propDecidable bA dA bB dB) [] (rwL so) (rwB cp))) ∧ Hid (NC bA dA ∧ NC bB dB))
    intro K2socp
    apply cutG (fun im co so cp dA dB bA bB V => Hid (NwF w V BB X am (NwR (rwI im) mr (rwS Classical.propDecidable bA dA bB dB) (rwB co) [] (rwB cp))) ∧ Hid (NC bA dA ∧ NC bB dB))
    intro K2cocp
    apply cutG (fun im co so cp dA dB bA bB V => Hid (NwF w V BB X am (NwR (rwI im) mr (rwS Classical.propDecidable bA dA bB dB) (rwB co) (rwL so) [])) ∧ Hid (NC bA dA ∧ NC bB dB))
    intro K2coso
    apply cutG (fun im co so cp dA dB bA bB V => Hid (NwF w V BB X am (NwR (rwI im) mr [] (rwB co) (rwL so) (rwB cp))) ∧ True)
    intro K1cosocp
    apply cutG (fun im co so cp dA dB bA bB V => Hid (NwF w V BB X am (NwR (rwI im) mr (rwS Classical.propDecidable bA dA bB dB) [] [] (rwB cp))) ∧ Hid (NC bA dA ∧ NC bB dB))
    intro K2cp
    apply cutG (fun im co so cp dA dB bA bB V => Hid (NwF w V BB X am (NwR (rwI im) mr (rwS Classical.propDecidable bA dA bB dB) [] (rwL so) [])) ∧ Hid (NC bA dA ∧ NC bB dB))
    intro K2so
    apply cutG (fun im co so cp dA dB bA bB V => Hid (NwF w V BB X am (NwR (rwI im) mr (rwS Classical.propDecidable bA dA bB dB) (rwB co) [] [])) ∧ Hid (NC bA dA ∧ NC bB dB))
    intro K2co
    apply cutG (fun im co so cp dA dB bA bB V => Hid (NwF w V BB X am (NwR (rwI im) mr [] [] (rwL so) (rwB cp))) ∧ True)
    intro K1socp
    apply cutG (fun im co so cp dA dB bA bB V => Hid (NwF w V BB X am (NwR (rwI im) mr [] (rwB co) [] (rwB cp))) ∧ True)
    intro K1cocp
    apply cutG (fun im co so cp dA dB bA bB V => Hid (NwF w V BB X am (NwR (rwI im) mr [] (rwB co) (rwL so) [])) ∧ True)
    intro K1coso
    apply cutG (fun im co so cp dA dB bA bB V => Hid (NwF w V BB X am (NwR [] mr [] (rwB co) (rwL so) (rwB cp))) ∧ True)
    intro K0cosocp
    apply cutG (fun im co so cp dA dB bA bB V => Hid (NwF w V BB X am (NwR (rwI im) mr (rwS Classical.propDecidable bA dA bB dB) [] [] [])) ∧ Hid (NC bA dA ∧ NC bB dB))
    intro K2
    apply cutG (fun im co so cp dA dB bA bB V => Hid (NwF w V BB X am (NwR (rwI im) mr [] [] [] (rwB cp))) ∧ True)
    intro K1cp
    apply cutG (fun im co so cp dA dB bA bB V => Hid (NwF w V BB X am (NwR (rwI im) mr [] [] (rwL so) [])) ∧ True)
    intro K1so
    apply cutG (fun im co so cp dA dB bA bB V => Hid (NwF w V BB X am (NwR (rwI im) mr [] (rwB co) [] [])) ∧ True)
    intro K1co
    apply cutG (fun im co so cp dA dB bA bB V => Hid (NwF w V BB X am (NwR [] mr [] [] (rwL so) (rwB cp))) ∧ True)
    intro K0socp
    apply cutG (fun im co so cp dA dB bA bB V => Hid (NwF w V BB X am (NwR [] mr [] (rwB co) [] (rwB cp))) ∧ True)
    intro K0cocp
    apply cutG (fun im co so cp dA dB bA bB V => Hid (NwF w V BB X am (NwR [] mr [] (rwB co) (rwL so) [])) ∧ True)
    intro K0coso
    apply cutG (fun im co so cp dA dB bA bB V => Hid (NwF w V BB X am (NwR (rwI im) mr [] [] [] [])) ∧ True)
    intro K1
    apply cutG (fun im co so cp dA dB bA bB V => Hid (NwF w V BB X am (NwR [] mr [] [] [] (rwB cp))) ∧ True)
    intro K0cp
    apply cutG (fun im co so cp dA dB bA bB V => Hid (NwF w V BB X am (NwR [] mr [] [] (rwL so) [])) ∧ True)
    intro K0so
    apply cutG (fun im co so cp dA dB bA bB V => Hid (NwF w V BB X am (NwR [] mr [] (rwB co) [] [])) ∧ True)
    intro K0co
    apply cutG (fun im co so cp dA dB bA bB V => Hid (NwF w V BB X am (NwR [] mr [] [] [] [])) ∧ True)
    intro K0
    · refine letters (fun im co so cp dA dB bA bB => ?_)
      obtain ⟨V0, hV0⟩ : ∃ x, x = W1.drew := ⟨_, rfl⟩
      rw [← hV0] at HF ⊢
      exact K0.out im co so cp dA dB bA bB V0 ⟨HF, trivial⟩
    · apply hide
      rintro im co so cp dA dB bA bB V ⟨HF, -⟩
      refine wpAnyH_ready (rs := [1, 6, 7, 8]) (by kernel_rfl) (by simp) ?_
      refine AllReadyH.cons (o := { dst := some 10, op := Op.call { callee := Callee.value (Operand.func 53), args := #[], argTypes := #[] }, type := 22, pos := "l08_node.go:43", after := #[], guard := none }) rfl (fun K hK => ?_) ?_
      · go_simp
        refine (image_s V).mono ?_
        rintro e v ⟨rfl, r1, c1⟩
        have HF := hide (HF.out.im r1 c1)
        obtain ⟨im, him⟩ : ∃ x, x = V.heap.size := ⟨_, rfl⟩
        rw [← him] at HF ⊢
        clear r1 c1 him
        go_wp2_with fail
        refine hK.out _ _ ?_ (fun hHeld => ?_)
        · exact HF.out.st.2.2.1
        clear hK K
        try simp only [Act.put, ly1, ly2, ly3]
        refine wpAnyH_at (m := 6) (k := #[true, true, true, true, true, false, false, false, false, false, false]) (by kernel_rfl) (by kernel_rfl) ?_
        exact K1.out im co so cp dA dB bA bB v ⟨HF, trivial⟩
      refine AllReadyH.cons (o := { dst := some 15, op := Op.makeSlice 29 (Operand.const (Value.int IntKind.i64 3)) (Operand.const (Value.int IntKind.i64 3)), type := 29, pos := "l08_node.go:43", after := #[], guard := none }) rfl (fun K hK => ?_) ?_
      · go_simp
        obtain ⟨v, hv⟩ : ∃ x, x = V.alloc (.cells (madeCells #[.bool false] 3) 4) := ⟨_, rfl⟩
        have HF := hide (HF.out.co hv)
        rw [← hv]
        clear hv
        obtain ⟨co, he⟩ : ∃ x, x = V.heap.size := ⟨_, rfl⟩
        rw [← he] at HF ⊢
        clear he
        refine hK.out _ _ ?_ (fun hHeld => ?_)
        · exact HF.out.st.2.2.1
        clear hK K
        try simp only [Act.put, ly1, ly2, ly3]
        refine wpAnyH_at (m := 6) (k := #[true, false, true, true, true, false, true, false, false, false, false]) (by kernel_rfl) (by kernel_rfl) ?_
        exact K0co.out im co so cp dA dB bA bB v ⟨HF, trivial⟩
      refine AllReadyH.cons (o := { dst := some 16, op := Op.makeSlice 23 (Operand.const (Value.int IntKind.i64 3)) (Operand.const (Value.int IntKind.i64 3)), type := 23, pos := "l08_node.go:43", after := #[], guard := none }) rfl (fun K hK => ?_) ?_
      · go_simp
        obtain ⟨v, hv⟩ : ∃ x, x = V.alloc (.cells (madeCells #[.slice none 0 0] 3) 22) := ⟨_, rfl⟩
        have HF := hide (HF.out.so hv)
        rw [← hv]
        clear hv
        obtain ⟨so, he⟩ : ∃ x, x = V.heap.size := ⟨_, rfl⟩
        rw [← he] at HF ⊢
        clear he
        refine hK.out _ _ ?_ (fun hHeld => ?_)
        · exact HF.out.st.2.2.1
        clear hK K
        try simp only [Act.put, ly1, ly2, ly3]
        refine wpAnyH_at (m := 6) (k := #[true, false, true, true, true, false, false, true, false, false, false]) (by kernel_rfl) (by kernel_rfl) ?_
        exact K0so.out im co so cp dA dB bA bB v ⟨HF, trivial⟩
      refine AllReadyH.cons (o := { dst := some 17, op := Op.makeSlice 29 (Operand.const (Value.int IntKind.i64 3)) (Operand.const (Value.int IntKind.i64 3)), type := 29, pos := "l08_node.go:43", after := #[], guard := none }) rfl (fun K hK => ?_) AllReadyH.nil
      · go_simp
        obtain ⟨v, hv⟩ : ∃ x, x = V.alloc (.cells (madeCells #[.bool false] 3) 4) := ⟨_, rfl⟩
        have HF := hide (HF.out.cp hv)
        rw [← hv]
        clear hv
        obtain ⟨cp, he⟩ : ∃ x, x = V.heap.size := ⟨_, rfl⟩
        rw [← he] at HF ⊢
        clear he
        refine hK.out _ _ ?_ (fun hHeld => ?_)
        · exact HF.out.st.2.2.1
        clear hK K
        try simp only [Act.put, ly1, ly2, ly3]
        refine wpAnyH_at (m := 6) (k := #[true, false, true, true, true, false, false, false, true, false, false]) (by kernel_rfl) (by kernel_rfl) ?_
        exact K0cp.out im co so cp dA dB bA bB v ⟨HF, trivial⟩
    · apply hide
      rintro im co so cp dA dB bA bB V ⟨HF, -⟩
      refine wpAnyH_ready (rs := [1, 7, 8]) (by kernel_rfl) (by simp) ?_
      refine AllReadyH.cons (o := { dst := some 10, op := Op.call { callee := Callee.value (Operand.func 53), args := #[], argTypes := #[] }, type := 22, pos := "l08_node.go:43", after := #[], guard := none }) rfl (fun K hK => ?_) ?_
      · go_simp
        refine (image_s V).mono ?_
        rintro e v ⟨rfl, r1, c1⟩
        have HF := hide (HF.out.im r1 c1)
        obtain ⟨im, him⟩ : ∃ x, x = V.heap.size := ⟨_, rfl⟩
        rw [← him] at HF ⊢
        clear r1 c1 him
        go_wp2_with fail
        refine hK.out _ _ ?_ (fun hHeld => ?_)
        · exact HF.out.st.2.2.1
        clear hK K
        try simp only [Act.put, ly1, ly2, ly3]
        refine wpAnyH_at (m := 5) (k := #[true, true, true, true, true, false, true, false, false, false, false]) (by kernel_rfl) (by kernel_rfl) ?_
        exact K1co.out im co so cp dA dB bA bB v ⟨HF, trivial⟩
      refine AllReadyH.cons (o := { dst := some 16, op := Op.makeSlice 23 (Operand.const (Value.int IntKind.i64 3)) (Operand.const (Value.int IntKind.i64 3)), type := 23, pos := "l08_node.go:43", after := #[], guard := none }) rfl (fun K hK => ?_) ?_
      · go_simp
        obtain ⟨v, hv⟩ : ∃ x, x = V.alloc (.cells (madeCells #[.slice none 0 0] 3) 22) := ⟨_, rfl⟩
        have HF := hide (HF.out.so hv)
        rw [← hv]
        clear hv
        obtain ⟨so, he⟩ : ∃ x, x = V.heap.size := ⟨_, rfl⟩
        rw [← he] at HF ⊢
        clear he
        refine hK.out _ _ ?_ (fun hHeld => ?_)
        · exact HF.out.st.2.2.1
        clear hK K
        try simp only [Act.put, ly1, ly2, ly3]
        refine wpAnyH_at (m := 5) (k := #[true, false, true, true, true, false, true, true, false, false, false]) (by kernel_rfl) (by kernel_rfl) ?_
        exact K0coso.out im co so cp dA dB bA bB v ⟨HF, trivial⟩
      refine AllReadyH.cons (o := { dst := some 17, op := Op.makeSlice 29 (Operand.const (Value.int IntKind.i64 3)) (Operand.const (Value.int IntKind.i64 3)), type := 29, pos := "l08_node.go:43", after := #[], guard := none }) rfl (fun K hK => ?_) AllReadyH.nil
      · go_simp
        obtain ⟨v, hv⟩ : ∃ x, x = V.alloc (.cells (madeCells #[.bool false] 3) 4) := ⟨_, rfl⟩
        have HF := hide (HF.out.cp hv)
        rw [← hv]
        clear hv
        obtain ⟨cp, he⟩ : ∃ x, x = V.heap.size := ⟨_, rfl⟩
        rw [← he] at HF ⊢
        clear he
        refine hK.out _ _ ?_ (fun hHeld => ?_)
        · exact HF.out.st.2.2.1
        clear hK K
        try simp only [Act.put, ly1, ly2, ly3]
        refine wpAnyH_at (m := 5) (k := #[true, false, true, true, true, false, true, false, true, false, false]) (by kernel_rfl) (by kernel_rfl) ?_
        exact K0cocp.out im co so cp dA dB bA bB v ⟨HF, trivial⟩
    · apply hide
      rintro im co so cp dA dB bA bB V ⟨HF, -⟩
      refine wpAnyH_ready (rs := [1, 6, 8]) (by kernel_rfl) (by simp) ?_
      refine AllReadyH.cons (o := { dst := some 10, op := Op.call { callee := Callee.value (Operand.func 53), args := #[], argTypes := #[] }, type := 22, pos := "l08_node.go:43", after := #[], guard := none }) rfl (fun K hK => ?_) ?_
      · go_simp
        refine (image_s V).mono ?_
        rintro e v ⟨rfl, r1, c1⟩
        have HF := hide (HF.out.im r1 c1)
        obtain ⟨im, him⟩ : ∃ x, x = V.heap.size := ⟨_, rfl⟩
        rw [← him] at HF ⊢
        clear r1 c1 him
        go_wp2_with fail
        refine hK.out _ _ ?_ (fun hHeld => ?_)
        · exact HF.out.st.2.2.1
        clear hK K
        try simp only [Act.put, ly1, ly2, ly3]
        refine wpAnyH_at (m := 5) (k := #[true, true, true, true, true, false, false, true, false, false, false]) (by kernel_rfl) (by kernel_rfl) ?_
        exact K1so.out im co so cp dA dB bA bB v ⟨HF, trivial⟩
      refine AllReadyH.cons (o := { dst := some 15, op := Op.makeSlice 29 (Operand.const (Value.int IntKind.i64 3)) (Operand.const (Value.int IntKind.i64 3)), type := 29, pos := "l08_node.go:43", after := #[], guard := none }) rfl (fun K hK => ?_) ?_
      · go_simp
        obtain ⟨v, hv⟩ : ∃ x, x = V.alloc (.cells (madeCells #[.bool false] 3) 4) := ⟨_, rfl⟩
        have HF := hide (HF.out.co hv)
        rw [← hv]
        clear hv
        obtain ⟨co, he⟩ : ∃ x, x = V.heap.size := ⟨_, rfl⟩
        rw [← he] at HF ⊢
        clear he
        refine hK.out _ _ ?_ (fun hHeld => ?_)
        · exact HF.out.st.2.2.1
        clear hK K
        try simp only [Act.put, ly1, ly2, ly3]
        refine wpAnyH_at (m := 5) (k := #[true, false, true, true, true, false, true, true, false, false, false]) (by kernel_rfl) (by kernel_rfl) ?_
        exact K0coso.out im co so cp dA dB bA bB v ⟨HF, trivial⟩
      refine AllReadyH.cons (o := { dst := some 17, op := Op.makeSlice 29 (Operand.const (Value.int IntKind.i64 3)) (Operand.const (Value.int IntKind.i64 3)), type := 29, pos := "l08_node.go:43", after := #[], guard := none }) rfl (fun K hK => ?_) AllReadyH.nil
      · go_simp
        obtain ⟨v, hv⟩ : ∃ x, x = V.alloc (.cells (madeCells #[.bool false] 3) 4) := ⟨_, rfl⟩
        have HF := hide (HF.out.cp hv)
        rw [← hv]
        clear hv
        obtain ⟨cp, he⟩ : ∃ x, x = V.heap.size := ⟨_, rfl⟩
        rw [← he] at HF ⊢
        clear he
        refine hK.out _ _ ?_ (fun hHeld => ?_)
        · exact HF.out.st.2.2.1
        clear hK K
        try simp only [Act.put, ly1, ly2, ly3]
        refine wpAnyH_at (m := 5) (k := #[true, false, true, true, true, false, false, true, true, false, false]) (by kernel_rfl) (by kernel_rfl) ?_
        exact K0socp.out im co so cp dA dB bA bB v ⟨HF, trivial⟩
    · apply hide
      rintro im co so cp dA dB bA bB V ⟨HF, -⟩
      refine wpAnyH_ready (rs := [1, 6, 7]) (by kernel_rfl) (by simp) ?_
      refine AllReadyH.cons (o := { dst := some 10, op := Op.call { callee := Callee.value (Operand.func 53), args := #[], argTypes := #[] }, type := 22, pos := "l08_node.go:43", after := #[], guard := none }) rfl (fun K hK => ?_) ?_
      · go_simp
        refine (image_s V).mono ?_
        rintro e v ⟨rfl, r1, c1⟩
        have HF := hide (HF.out.im r1 c1)
        obtain ⟨im, him⟩ : ∃ x, x = V.heap.size := ⟨_, rfl⟩
        rw [← him] at HF ⊢
        clear r1 c1 him
        go_wp2_with fail
        refine hK.out _ _ ?_ (fun hHeld => ?_)
        · exact HF.out.st.2.2.1
        clear hK K
        try simp only [Act.put, ly1, ly2, ly3]
        refine wpAnyH_at (m := 5) (k := #[true, true, true, true, true, false, false, false, true, false, false]) (by kernel_rfl) (by kernel_rfl) ?_
        exact K1cp.out im co so cp dA dB bA bB v ⟨HF, trivial⟩
      refine AllReadyH.cons (o := { dst := some 15, op := Op.makeSlice 29 (Operand.const (Value.int IntKind.i64 3)) (Operand.const (Value.int IntKind.i64 3)), type := 29, pos := "l08_node.go:43", after := #[], guard := none }) rfl (fun K hK => ?_) ?_
      · go_simp
        obtain ⟨v, hv⟩ : ∃ x, x = V.alloc (.cells (madeCells #[.bool false] 3) 4) := ⟨_, rfl⟩
        have HF := hide (HF.out.co hv)
        rw [← hv]
        clear hv
        obtain ⟨co, he⟩ : ∃ x, x = V.heap.size := ⟨_, rfl⟩
        rw [← he] at HF ⊢
        clear he
        refine hK.out _ _ ?_ (fun hHeld => ?_)
        · exact HF.out.st.2.2.1
        clear hK K
        try simp only [Act.put, ly1, ly2, ly3]
        refine wpAnyH_at (m := 5) (k := #[true, false, true, true, true, false, true, false, true, false, false]) (by kernel_rfl) (by kernel_rfl) ?_
        exact K0cocp.out im co so cp dA dB bA bB v ⟨HF, trivial⟩
      refine AllReadyH.cons (o := { dst := some 16, op := Op.makeSlice 23 (Operand.const (Value.int IntKind.i64 3)) (Operand.const (Value.int IntKind.i64 3)), type := 23, pos := "l08_node.go:43", after := #[], guard := none }) rfl (fun K hK => ?_) AllReadyH.nil
      · go_simp
        obtain ⟨v, hv⟩ : ∃ x, x = V.alloc (.cells (madeCells #[.slice none 0 0] 3) 22) := ⟨_, rfl⟩
        have HF := hide (HF.out.so hv)
        rw [← hv]
        clear hv
        obtain ⟨so, he⟩ : ∃ x, x = V.heap.size := ⟨_, rfl⟩
        rw [← he] at HF ⊢
        clear he
        refine hK.out _ _ ?_ (fun hHeld => ?_)
        · exact HF.out.st.2.2.1
        clear hK K
        try simp only [Act.put, ly1, ly2, ly3]
        refine wpAnyH_at (m := 5) (k := #[true, false, true, true, true, false, false, true, true, false, false]) (by kernel_rfl) (by kernel_rfl) ?_
        exact K0socp.out im co so cp dA dB bA bB v ⟨HF, trivial⟩
    · apply hide
      rintro im co so cp dA dB bA bB V ⟨HF, -⟩
      refine wpAnyH_ready (rs := [5, 6, 7, 8]) (by kernel_rfl) (by simp) ?_
      refine AllReadyH.cons (o := { dst := some 14, op := Op.call { callee := Callee.value (Operand.func 54), args := #[Operand.tmp 12, Operand.tmp 13], argTypes := #[28, 25] }, type := 28, pos := "l08_node.go:43", after := #[{ on := 3, ground := Ground.data }, { on := 4, ground := Ground.data }, { on := 1, ground := Ground.chain }], guard := none }) rfl (fun K hK => ?_) ?_
      · go_simp
        refine (hslp.out V _ _ _ _ _ HF.out).mono ?_
        rintro e v ⟨bA, bB, dA, dB, rfl, r1, c1, n1, n2⟩
        have HNC : Hid (NC bA dA ∧ NC bB dB) := ⟨n1, n2⟩
        have HF := hide (HF.out.sl (x := rwS Classical.propDecidable bA dA bB dB) (rs_osl r1) c1)
        clear r1 c1 n1 n2
        go_wp2_with fail
        refine hK.out _ _ ?_ (fun hHeld => ?_)
        · exact HF.out.st.2.2.1
        clear hK K
        try simp only [Act.put, ly1, ly2, ly3]
        refine wpAnyH_at (m := 5) (k := #[true, true, true, true, true, true, false, false, false, false, false]) (by kernel_rfl) (by kernel_rfl) ?_
        exact K2.out im co so cp dA dB bA bB v ⟨HF, HNC⟩
      refine AllReadyH.cons (o := { dst := some 15, op := Op.makeSlice 29 (Operand.const (Value.int IntKind.i64 3)) (Operand.const (Value.int IntKind.i64 3)), type := 29, pos := "l08_node.go:43", after := #[], guard := none }) rfl (fun K hK => ?_) ?_
      · go_simp
        obtain ⟨v, hv⟩ : ∃ x, x = V.alloc (.cells (madeCells #[.bool false] 3) 4) := ⟨_, rfl⟩
        have HF := hide (HF.out.co hv)
        rw [← hv]
        clear hv
        obtain ⟨co, he⟩ : ∃ x, x = V.heap.size := ⟨_, rfl⟩
        rw [← he] at HF ⊢
        clear he
        refine hK.out _ _ ?_ (fun hHeld => ?_)
        · exact HF.out.st.2.2.1
        clear hK K
        try simp only [Act.put, ly1, ly2, ly3]
        refine wpAnyH_at (m := 5) (k := #[true, true, true, true, true, false, true, false, false, false, false]) (by kernel_rfl) (by kernel_rfl) ?_
        exact K1co.out im co so cp dA dB bA bB v ⟨HF, trivial⟩
      refine AllReadyH.cons (o := { dst := some 16, op := Op.makeSlice 23 (Operand.const (Value.int IntKind.i64 3)) (Operand.const (Value.int IntKind.i64 3)), type := 23, pos := "l08_node.go:43", after := #[], guard := none }) rfl (fun K hK => ?_) ?_
      · go_simp
        obtain ⟨v, hv⟩ : ∃ x, x = V.alloc (.cells (madeCells #[.slice none 0 0] 3) 22) := ⟨_, rfl⟩
        have HF := hide (HF.out.so hv)
        rw [← hv]
        clear hv
        obtain ⟨so, he⟩ : ∃ x, x = V.heap.size := ⟨_, rfl⟩
        rw [← he] at HF ⊢
        clear he
        refine hK.out _ _ ?_ (fun hHeld => ?_)
        · exact HF.out.st.2.2.1
        clear hK K
        try simp only [Act.put, ly1, ly2, ly3]
        refine wpAnyH_at (m := 5) (k := #[true, true, true, true, true, false, false, true, false, false, false]) (by kernel_rfl) (by kernel_rfl) ?_
        exact K1so.out im co so cp dA dB bA bB v ⟨HF, trivial⟩
      refine AllReadyH.cons (o := { dst := some 17, op := Op.makeSlice 29 (Operand.const (Value.int IntKind.i64 3)) (Operand.const (Value.int IntKind.i64 3)), type := 29, pos := "l08_node.go:43", after := #[], guard := none }) rfl (fun K hK => ?_) AllReadyH.nil
      · go_simp
        obtain ⟨v, hv⟩ : ∃ x, x = V.alloc (.cells (madeCells #[.bool false] 3) 4) := ⟨_, rfl⟩
        have HF := hide (HF.out.cp hv)
        rw [← hv]
        clear hv
        obtain ⟨cp, he⟩ : ∃ x, x = V.heap.size := ⟨_, rfl⟩
        rw [← he] at HF ⊢
        clear he
        refine hK.out _ _ ?_ (fun hHeld => ?_)
        · exact HF.out.st.2.2.1
        clear hK K
        try simp only [Act.put, ly1, ly2, ly3]
        refine wpAnyH_at (m := 5) (k := #[true, true, true, true, true, false, false, false, true, false, false]) (by kernel_rfl) (by kernel_rfl) ?_
        exact K1cp.out im co so cp dA dB bA bB v ⟨HF, trivial⟩
    · apply hide
      rintro im co so cp dA dB bA bB V ⟨HF, -⟩
      refine wpAnyH_ready (rs := [1, 8]) (by kernel_rfl) (by simp) ?_
      refine AllReadyH.cons (o := { dst := some 10, op := Op.call { callee := Callee.value (Operand.func 53), args := #[], argTypes := #[] }, type := 22, pos := "l08_node.go:43", after := #[], guard := none }) rfl (fun K hK => ?_) ?_
      · go_simp
        refine (image_s V).mono ?_
        rintro e v ⟨rfl, r1, c1⟩
        have HF := hide (HF.out.im r1 c1)
        obtain ⟨im, him⟩ : ∃ x, x = V.heap.size := ⟨_, rfl⟩
        rw [← him] at HF ⊢
        clear r1 c1 him
        go_wp2_with fail
        refine hK.out _ _ ?_ (fun hHeld => ?_)
        · exact HF.out.st.2.2.1
        clear hK K
        try simp only [Act.put, ly1, ly2, ly3]
        refine wpAnyH_at (m := 4) (k := #[true, true, true, true, true, false, true, true, false, false, false]) (by kernel_rfl) (by kernel_rfl) ?_
        exact K1coso.out im co so cp dA dB bA bB v ⟨HF, trivial⟩
      refine AllReadyH.cons (o := { dst := some 17, op := Op.makeSlice 29 (Operand.const (Value.int IntKind.i64 3)) (Operand.const (Value.int IntKind.i64 3)), type := 29, pos := "l08_node.go:43", after := #[], guard := none }) rfl (fun K hK => ?_) AllReadyH.nil
      · go_simp
        obtain ⟨v, hv⟩ : ∃ x, x = V.alloc (.cells (madeCells #[.bool false] 3) 4) := ⟨_, rfl⟩
        have HF := hide (HF.out.cp hv)
        rw [← hv]
        clear hv
        obtain ⟨cp, he⟩ : ∃ x, x = V.heap.size := ⟨_, rfl⟩
        rw [← he] at HF ⊢
        clear he
        refine hK.out _ _ ?_ (fun hHeld => ?_)
        · exact HF.out.st.2.2.1
        clear hK K
        try simp only [Act.put, ly1, ly2, ly3]
        refine wpAnyH_at (m := 4) (k := #[true, false, true, true, true, false, true, true, true, false, false]) (by kernel_rfl) (by kernel_rfl) ?_
        exact K0cosocp.out im co so cp dA dB bA bB v ⟨HF, trivial⟩
    · apply hide
      rintro im co so cp dA dB bA bB V ⟨HF, -⟩
      refine wpAnyH_ready (rs := [1, 7]) (by kernel_rfl) (by simp) ?_
      refine AllReadyH.cons (o := { dst := some 10, op := Op.call { callee := Callee.value (Operand.func 53), args := #[], argTypes := #[] }, type := 22, pos := "l08_node.go:43", after := #[], guard := none }) rfl (fun K hK => ?_) ?_
      · go_simp
        refine (image_s V).mono ?_
        rintro e v ⟨rfl, r1, c1⟩
        have HF := hide (HF.out.im r1 c1)
        obtain ⟨im, him⟩ : ∃ x, x = V.heap.size := ⟨_, rfl⟩
        rw [← him] at HF ⊢
        clear r1 c1 him
        go_wp2_with fail
        refine hK.out _ _ ?_ (fun hHeld => ?_)
        · exact HF.out.st.2.2.1
        clear hK K
        try simp only [Act.put, ly1, ly2, ly3]
        refine wpAnyH_at (m := 4) (k := #[true, true, true, true, true, false, true, false, true, false, false]) (by kernel_rfl) (by kernel_rfl) ?_
        exact K1cocp.out im co so cp dA dB bA bB v ⟨HF, trivial⟩
      refine AllReadyH.cons (o := { dst := some 16, op := Op.makeSlice 23 (Operand.const (Value.int IntKind.i64 3)) (Operand.const (Value.int IntKind.i64 3)), type := 23, pos := "l08_node.go:43", after := #[], guard := none }) rfl (fun K hK => ?_) AllReadyH.nil
      · go_simp
        obtain ⟨v, hv⟩ : ∃ x, x = V.alloc (.cells (madeCells #[.slice none 0 0] 3) 22) := ⟨_, rfl⟩
        have HF := hide (HF.out.so hv)
        rw [← hv]
        clear hv
        obtain ⟨so, he⟩ : ∃ x, x = V.heap.size := ⟨_, rfl⟩
        rw [← he] at HF ⊢
        clear he
        refine hK.out _ _ ?_ (fun hHeld => ?_)
        · exact HF.out.st.2.2.1
        clear hK K
        try simp only [Act.put, ly1, ly2, ly3]
        refine wpAnyH_at (m := 4) (k := #[true, false, true, true, true, false, true, true, true, false, false]) (by kernel_rfl) (by kernel_rfl) ?_
        exact K0cosocp.out im co so cp dA dB bA bB v ⟨HF, trivial⟩
    · apply hide
      rintro im co so cp dA dB bA bB V ⟨HF, -⟩
      refine wpAnyH_ready (rs := [1, 6]) (by kernel_rfl) (by simp) ?_
      refine AllReadyH.cons (o := { dst := some 10, op := Op.call { callee := Callee.value (Operand.func 53), args := #[], argTypes := #[] }, type := 22, pos := "l08_node.go:43", after := #[], guard := none }) rfl (fun K hK => ?_) ?_
      · go_simp
        refine (image_s V).mono ?_
        rintro e v ⟨rfl, r1, c1⟩
        have HF := hide (HF.out.im r1 c1)
        obtain ⟨im, him⟩ : ∃ x, x = V.heap.size := ⟨_, rfl⟩
        rw [← him] at HF ⊢
        clear r1 c1 him
        go_wp2_with fail
        refine hK.out _ _ ?_ (fun hHeld => ?_)
        · exact HF.out.st.2.2.1
        clear hK K
        try simp only [Act.put, ly1, ly2, ly3]
        refine wpAnyH_at (m := 4) (k := #[true, true, true, true, true, false, false, true, true, false, false]) (by kernel_rfl) (by kernel_rfl) ?_
        exact K1socp.out im co so cp dA dB bA bB v ⟨HF, trivial⟩
      refine AllReadyH.cons (o := { dst := some 15, op := Op.makeSlice 29 (Operand.const (Value.int IntKind.i64 3)) (Operand.const (Value.int IntKind.i64 3)), type := 29, pos := "l08_node.go:43", after := #[], guard := none }) rfl (fun K hK => ?_) AllReadyH.nil
      · go_simp
        obtain ⟨v, hv⟩ : ∃ x, x = V.alloc (.cells (madeCells #[.bool false] 3) 4) := ⟨_, rfl⟩
        have HF := hide (HF.out.co hv)
        rw [← hv]
        clear hv
        obtain ⟨co, he⟩ : ∃ x, x = V.heap.size := ⟨_, rfl⟩
        rw [← he] at HF ⊢
        clear he
        refine hK.out _ _ ?_ (fun hHeld => ?_)
        · exact HF.out.st.2.2.1
        clear hK K
        try simp only [Act.put, ly1, ly2, ly3]
        refine wpAnyH_at (m := 4) (k := #[true, false, true, true, true, false, true, true, true, false, false]) (by kernel_rfl) (by kernel_rfl) ?_
        exact K0cosocp.out im co so cp dA dB bA bB v ⟨HF, trivial⟩
    · apply hide
      rintro im co so cp dA dB bA bB V ⟨HF, -⟩
      refine wpAnyH_ready (rs := [5, 7, 8]) (by kernel_rfl) (by simp) ?_
      refine AllReadyH.cons (o := { dst := some 14, op := Op.call { callee := Callee.value (Operand.func 54), args := #[Operand.tmp 12, Operand.tmp 13], argTypes := #[28, 25] }, type := 28, pos := "l08_node.go:43", after := #[{ on := 3, ground := Ground.data }, { on := 4, ground := Ground.data }, { on := 1, ground := Ground.chain }], guard := none }) rfl (fun K hK => ?_) ?_
      · go_simp
        refine (hslp.out V _ _ _ _ _ HF.out).mono ?_
        rintro e v ⟨bA, bB, dA, dB, rfl, r1, c1, n1, n2⟩
        have HNC : Hid (NC bA dA ∧ NC bB dB) := ⟨n1, n2⟩
        have HF := hide (HF.out.sl (x := rwS Classical.propDecidable bA dA bB dB) (rs_osl r1) c1)
        clear r1 c1 n1 n2
        go_wp2_with fail
        refine hK.out _ _ ?_ (fun hHeld => ?_)
        · exact HF.out.st.2.2.1
        clear hK K
        try simp only [Act.put, ly1, ly2, ly3]
        refine wpAnyH_at (m := 4) (k := #[true, true, true, true, true, true, true, false, false, false, false]) (by kernel_rfl) (by kernel_rfl) ?_
        exact K2co.out im co so cp dA dB bA bB v ⟨HF, HNC⟩
      refine AllReadyH.cons (o := { dst := some 16, op := Op.makeSlice 23 (Operand.const (Value.int IntKind.i64 3)) (Operand.const (Value.int IntKind.i64 3)), type := 23, pos := "l08_node.go:43", after := #[], guard := none }) rfl (fun K hK => ?_) ?_
      · go_simp
        obtain ⟨v, hv⟩ : ∃ x, x = V.alloc (.cells (madeCells #[.slice none 0 0] 3) 22) := ⟨_, rfl⟩
        have HF := hide (HF.out.so hv)
        rw [← hv]
        clear hv
        obtain ⟨so, he⟩ : ∃ x, x = V.heap.size := ⟨_, rfl⟩
        rw [← he] at HF ⊢
        clear he
        refine hK.out _ _ ?_ (fun hHeld => ?_)
        · exact HF.out.st.2.2.1
        clear hK K
        try simp only [Act.put, ly1, ly2, ly3]
        refine wpAnyH_at (m := 4) (k := #[true, true, true, true, true, false, true, true, false, false, false]) (by kernel_rfl) (by kernel_rfl) ?_
        exact K1coso.out im co so cp dA dB bA bB v ⟨HF, trivial⟩
      refine AllReadyH.cons (o := { dst := some 17, op := Op.makeSlice 29 (Operand.const (Value.int IntKind.i64 3)) (Operand.const (Value.int IntKind.i64 3)), type := 29, pos := "l08_node.go:43", after := #[], guard := none }) rfl (fun K hK => ?_) AllReadyH.nil
      · go_simp
        obtain ⟨v, hv⟩ : ∃ x, x = V.alloc (.cells (madeCells #[.bool false] 3) 4) := ⟨_, rfl⟩
        have HF := hide (HF.out.cp hv)
        rw [← hv]
        clear hv
        obtain ⟨cp, he⟩ : ∃ x, x = V.heap.size := ⟨_, rfl⟩
        rw [← he] at HF ⊢
        clear he
        refine hK.out _ _ ?_ (fun hHeld => ?_)
        · exact HF.out.st.2.2.1
        clear hK K
        try simp only [Act.put, ly1, ly2, ly3]
        refine wpAnyH_at (m := 4) (k := #[true, true, true, true, true, false, true, false, true, false, false]) (by kernel_rfl) (by kernel_rfl) ?_
        exact K1cocp.out im co so cp dA dB bA bB v ⟨HF, trivial⟩
    · apply hide
      rintro im co so cp dA dB bA bB V ⟨HF, -⟩
      refine wpAnyH_ready (rs := [5, 6, 8]) (by kernel_rfl) (by simp) ?_
      refine AllReadyH.cons (o := { dst := some 14, op := Op.call { callee := Callee.value (Operand.func 54), args := #[Operand.tmp 12, Operand.tmp 13], argTypes := #[28, 25] }, type := 28, pos := "l08_node.go:43", after := #[{ on := 3, ground := Ground.data }, { on := 4, ground := Ground.data }, { on := 1, ground := Ground.chain }], guard := none }) rfl (fun K hK => ?_) ?_
      · go_simp
        refine (hslp.out V _ _ _ _ _ HF.out).mono ?_
        rintro e v ⟨bA, bB, dA, dB, rfl, r1, c1, n1, n2⟩
        have HNC : Hid (NC bA dA ∧ NC bB dB) := ⟨n1, n2⟩
        have HF := hide (HF.out.sl (x := rwS Classical.propDecidable bA dA bB dB) (rs_osl r1) c1)
        clear r1 c1 n1 n2
        go_wp2_with fail
        refine hK.out _ _ ?_ (fun hHeld => ?_)
        · exact HF.out.st.2.2.1
        clear hK K
        try simp only [Act.put, ly1, ly2, ly3]
        refine wpAnyH_at (m := 4) (k := #[true, true, true, true, true, true, false, true, false, false, false]) (by kernel_rfl) (by kernel_rfl) ?_
        exact K2so.out im co so cp dA dB bA bB v ⟨HF, HNC⟩
      refine AllReadyH.cons (o := { dst := some 15, op := Op.makeSlice 29 (Operand.const (Value.int IntKind.i64 3)) (Operand.const (Value.int IntKind.i64 3)), type := 29, pos := "l08_node.go:43", after := #[], guard := none }) rfl (fun K hK => ?_) ?_
      · go_simp
        obtain ⟨v, hv⟩ : ∃ x, x = V.alloc (.cells (madeCells #[.bool false] 3) 4) := ⟨_, rfl⟩
        have HF := hide (HF.out.co hv)
        rw [← hv]
        clear hv
        obtain ⟨co, he⟩ : ∃ x, x = V.heap.size := ⟨_, rfl⟩
        rw [← he] at HF ⊢
        clear he
        refine hK.out _ _ ?_ (fun hHeld => ?_)
        · exact HF.out.st.2.2.1
        clear hK K
        try simp only [Act.put, ly1, ly2, ly3]
        refine wpAnyH_at (m := 4) (k := #[true, true, true, true, true, false, true, true, false, false, false]) (by kernel_rfl) (by kernel_rfl) ?_
        exact K1coso.out im co so cp dA dB bA bB v ⟨HF, trivial⟩
      refine AllReadyH.cons (o := { dst := some 17, op := Op.makeSlice 29 (Operand.const (Value.int IntKind.i64 3)) (Operand.const (Value.int IntKind.i64 3)), type := 29, pos := "l08_node.go:43", after := #[], guard := none }) rfl (fun K hK => ?_) AllReadyH.nil
      · go_simp
        obtain ⟨v, hv⟩ : ∃ x, x = V.alloc (.cells (madeCells #[.bool false] 3) 4) := ⟨_, rfl⟩
        have HF := hide (HF.out.cp hv)
        rw [← hv]
        clear hv
        obtain ⟨cp, he⟩ : ∃ x, x = V.heap.size := ⟨_, rfl⟩
        rw [← he] at HF ⊢
        clear he
        refine hK.out _ _ ?_ (fun hHeld => ?_)
        · exact HF.out.st.2.2.1
        clear hK K
        try simp only [Act.put, ly1, ly2, ly3]
        refine wpAnyH_at (m := 4) (k := #[true, true, true, true, true, false, false, true, true, false, false]) (by kernel_rfl) (by kernel_rfl) ?_
        exact K1socp.out im co so cp dA dB bA bB v ⟨HF, trivial⟩
    · apply hide
      rintro im co so cp dA dB bA bB V ⟨HF, -⟩
      refine wpAnyH_ready (rs := [5, 6, 7]) (by kernel_rfl) (by simp) ?_
      refine AllReadyH.cons (o := { dst := some 14, op := Op.call { callee := Callee.value (Operand.func 54), args := #[Operand.tmp 12, Operand.tmp 13], argTypes := #[28, 25] }, type := 28, pos := "l08_node.go:43", after := #[{ on := 3, ground := Ground.data }, { on := 4, ground := Ground.data }, { on := 1, ground := Ground.chain }], guard := none }) rfl (fun K hK => ?_) ?_
      · go_simp
        refine (hslp.out V _ _ _ _ _ HF.out).mono ?_
        rintro e v ⟨bA, bB, dA, dB, rfl, r1, c1, n1, n2⟩
        have HNC : Hid (NC bA dA ∧ NC bB dB) := ⟨n1, n2⟩
        have HF := hide (HF.out.sl (x := rwS Classical.propDecidable bA dA bB dB) (rs_osl r1) c1)
        clear r1 c1 n1 n2
        go_wp2_with fail
        refine hK.out _ _ ?_ (fun hHeld => ?_)
        · exact HF.out.st.2.2.1
        clear hK K
        try simp only [Act.put, ly1, ly2, ly3]
        refine wpAnyH_at (m := 4) (k := #[true, true, true, true, true, true, false, false, true, false, false]) (by kernel_rfl) (by kernel_rfl) ?_
        exact K2cp.out im co so cp dA dB bA bB v ⟨HF, HNC⟩
      refine AllReadyH.cons (o := { dst := some 15, op := Op.makeSlice 29 (Operand.const (Value.int IntKind.i64 3)) (Operand.const (Value.int IntKind.i64 3)), type := 29, pos := "l08_node.go:43", after := #[], guard := none }) rfl (fun K hK => ?_) ?_
      · go_simp
        obtain ⟨v, hv⟩ : ∃ x, x = V.alloc (.cells (madeCells #[.bool false] 3) 4) := ⟨_, rfl⟩
        have HF := hide (HF.out.co hv)
        rw [← hv]
        clear hv
        obtain ⟨co, he⟩ : ∃ x, x = V.heap.size := ⟨_, rfl⟩
        rw [← he] at HF ⊢
        clear he
        refine hK.out _ _ ?_ (fun hHeld => ?_)
        · exact HF.out.st.2.2.1
        clear hK K
        try simp only [Act.put, ly1, ly2, ly3]
        refine wpAnyH_at (m := 4) (k := #[true, true, true, true, true, false, true, false, true, false, false]) (by kernel_rfl) (by kernel_rfl) ?_
        exact K1cocp.out im co so cp dA dB bA bB v ⟨HF, trivial⟩
      refine AllReadyH.cons (o := { dst := some 16, op := Op.makeSlice 23 (Operand.const (Value.int IntKind.i64 3)) (Operand.const (Value.int IntKind.i64 3)), type := 23, pos := "l08_node.go:43", after := #[], guard := none }) rfl (fun K hK => ?_) AllReadyH.nil
      · go_simp
        obtain ⟨v, hv⟩ : ∃ x, x = V.alloc (.cells (madeCells #[.slice none 0 0] 3) 22) := ⟨_, rfl⟩
        have HF := hide (HF.out.so hv)
        rw [← hv]
        clear hv
        obtain ⟨so, he⟩ : ∃ x, x = V.heap.size := ⟨_, rfl⟩
        rw [← he] at HF ⊢
        clear he
        refine hK.out _ _ ?_ (fun hHeld => ?_)
        · exact HF.out.st.2.2.1
        clear hK K
        try simp only [Act.put, ly1, ly2, ly3]
        refine wpAnyH_at (m := 4) (k := #[true, true, true, true, true, false, false, true, true, false, false]) (by kernel_rfl) (by kernel_rfl) ?_
        exact K1socp.out im co so cp dA dB bA bB v ⟨HF, trivial⟩
    · apply hide
      rintro im co so cp dA dB bA bB V ⟨HF, HNC⟩
      refine wpAnyH_ready (rs := [6, 7, 8]) (by kernel_rfl) (by simp) ?_
      refine AllReadyH.cons (o := { dst := some 15, op := Op.makeSlice 29 (Operand.const (Value.int IntKind.i64 3)) (Operand.const (Value.int IntKind.i64 3)), type := 29, pos := "l08_node.go:43", after := #[], guard := none }) rfl (fun K hK => ?_) ?_
      · go_simp
        obtain ⟨v, hv⟩ : ∃ x, x = V.alloc (.cells (madeCells #[.bool false] 3) 4) := ⟨_, rfl⟩
        have HF := hide (HF.out.co hv)
        rw [← hv]
        clear hv
        obtain ⟨co, he⟩ : ∃ x, x = V.heap.size := ⟨_, rfl⟩
        rw [← he] at HF ⊢
        clear he
        refine hK.out _ _ ?_ (fun hHeld => ?_)
        · exact HF.out.st.2.2.1
        clear hK K
        try simp only [Act.put, ly1, ly2, ly3]
        refine wpAnyH_at (m := 4) (k := #[true, true, true, true, true, true, true, false, false, false, false]) (by kernel_rfl) (by kernel_rfl) ?_
        exact K2co.out im co so cp dA dB bA bB v ⟨HF, HNC⟩
      refine AllReadyH.cons (o := { dst := some 16, op := Op.makeSlice 23 (Operand.const (Value.int IntKind.i64 3)) (Operand.const (Value.int IntKind.i64 3)), type := 23, pos := "l08_node.go:43", after := #[], guard := none }) rfl (fun K hK => ?_) ?_
      · go_simp
        obtain ⟨v, hv⟩ : ∃ x, x = V.alloc (.cells (madeCells #[.slice none 0 0] 3) 22) := ⟨_, rfl⟩
        have HF := hide (HF.out.so hv)
        rw [← hv]
        clear hv
        obtain ⟨so, he⟩ : ∃ x, x = V.heap.size := ⟨_, rfl⟩
        rw [← he] at HF ⊢
        clear he
        refine hK.out _ _ ?_ (fun hHeld => ?_)
        · exact HF.out.st.2.2.1
        clear hK K
        try simp only [Act.put, ly1, ly2, ly3]
        refine wpAnyH_at (m := 4) (k := #[true, true, true, true, true, true, false, true, false, false, false]) (by kernel_rfl) (by kernel_rfl) ?_
        exact K2so.out im co so cp dA dB bA bB v ⟨HF, HNC⟩
      refine AllReadyH.cons (o := { dst := some 17, op := Op.makeSlice 29 (Operand.const (Value.int IntKind.i64 3)) (Operand.const (Value.int IntKind.i64 3)), type := 29, pos := "l08_node.go:43", after := #[], guard := none }) rfl (fun K hK => ?_) AllReadyH.nil
      · go_simp
        obtain ⟨v, hv⟩ : ∃ x, x = V.alloc (.cells (madeCells #[.bool false] 3) 4) := ⟨_, rfl⟩
        have HF := hide (HF.out.cp hv)
        rw [← hv]
        clear hv
        obtain ⟨cp, he⟩ : ∃ x, x = V.heap.size := ⟨_, rfl⟩
        rw [← he] at HF ⊢
        clear he
        refine hK.out _ _ ?_ (fun hHeld => ?_)
        · exact HF.out.st.2.2.1
        clear hK K
        try simp only [Act.put, ly1, ly2, ly3]
        refine wpAnyH_at (m := 4) (k := #[true, true, true, true, true, true, false, false, true, false, false]) (by kernel_rfl) (by kernel_rfl) ?_
        exact K2cp.out im co so cp dA dB bA bB v ⟨HF, HNC⟩
    · apply hide
      rintro im co so cp dA dB bA bB V ⟨HF, -⟩
      refine wpAnyH_ready (rs := [1]) (by kernel_rfl) (by simp) ?_
      refine AllReadyH.cons (o := { dst := some 10, op := Op.call { callee := Callee.value (Operand.func 53), args := #[], argTypes := #[] }, type := 22, pos := "l08_node.go:43", after := #[], guard := none }) rfl (fun K hK => ?_) AllReadyH.nil
      go_simp
      refine (image_s V).mono ?_
      rintro e v ⟨rfl, r1, c1⟩
      have HF := hide (HF.out.im r1 c1)
      obtain ⟨im, him⟩ : ∃ x, x = V.heap.size := ⟨_, rfl⟩
      rw [← him] at HF ⊢
      clear r1 c1 him
      go_wp2_with fail
      refine hK.out _ _ ?_ (fun hHeld => ?_)
      · exact HF.out.st.2.2.1
      clear hK K
      try simp only [Act.put, ly1, ly2, ly3]
      refine wpAnyH_at (m := 3) (k := #[true, true, true, true, true, false, true, true, true, false, false]) (by kernel_rfl) (by kernel_rfl) ?_
      exact K1cosocp.out im co so cp dA dB bA bB v ⟨HF, trivial⟩
    · apply hide
      rintro im co so cp dA dB bA bB V ⟨HF, -⟩
      refine wpAnyH_ready (rs := [5, 8]) (by kernel_rfl) (by simp) ?_
      refine AllReadyH.cons (o := { dst := some 14, op := Op.call { callee := Callee.value (Operand.func 54), args := #[Operand.tmp 12, Operand.tmp 13], argTypes := #[28, 25] }, type := 28, pos := "l08_node.go:43", after := #[{ on := 3, ground := Ground.data }, { on := 4, ground := Ground.data }, { on := 1, ground := Ground.chain }], guard := none }) rfl (fun K hK => ?_) ?_
      · go_simp
        refine (hslp.out V _ _ _ _ _ HF.out).mono ?_
        rintro e v ⟨bA, bB, dA, dB, rfl, r1, c1, n1, n2⟩
        have HNC : Hid (NC bA dA ∧ NC bB dB) := ⟨n1, n2⟩
        have HF := hide (HF.out.sl (x := rwS Classical.propDecidable bA dA bB dB) (rs_osl r1) c1)
        clear r1 c1 n1 n2
        go_wp2_with fail
        refine hK.out _ _ ?_ (fun hHeld => ?_)
        · exact HF.out.st.2.2.1
        clear hK K
        try simp only [Act.put, ly1, ly2, ly3]
        refine wpAnyH_at (m := 3) (k := #[true, true, true, true, true, true, true, true, false, false, false]) (by kernel_rfl) (by kernel_rfl) ?_
        exact K2coso.out im co so cp dA dB bA bB v ⟨HF, HNC⟩
      refine AllReadyH.cons (o := { dst := some 17, op := Op.makeSlice 29 (Operand.const (Value.int IntKind.i64 3)) (Operand.const (Value.int IntKind.i64 3)), type := 29, pos := "l08_node.go:43", after := #[], guard := none }) rfl (fun K hK => ?_) AllReadyH.nil
      · go_simp
        obtain ⟨v, hv⟩ : ∃ x, x = V.alloc (.cells (madeCells #[.bool false] 3) 4) := ⟨_, rfl⟩
        have HF := hide (HF.out.cp hv)
        rw [← hv]
        clear hv
        obtain ⟨cp, he⟩ : ∃ x, x = V.heap.size := ⟨_, rfl⟩
        rw [← he] at HF ⊢
        clear he
        refine hK.out _ _ ?_ (fun hHeld => ?_)
        · exact HF.out.st.2.2.1
        clear hK K
        try simp only [Act.put, ly1, ly2, ly3]
        refine wpAnyH_at (m := 3) (k := #[true, true, true, true, true, false, true, true, true, false, false]) (by kernel_rfl) (by kernel_rfl) ?_
        exact K1cosocp.out im co so cp dA dB bA bB v ⟨HF, trivial⟩
    · apply hide
      rintro im co so cp dA dB bA bB V ⟨HF, -⟩
      refine wpAnyH_ready (rs := [5, 7]) (by kernel_rfl) (by simp) ?_
      refine AllReadyH.cons (o := { dst := some 14, op := Op.call { callee := Callee.value (Operand.func 54), args := #[Operand.tmp 12, Operand.tmp 13], argTypes := #[28, 25] }, type := 28, pos := "l08_node.go:43", after := #[{ on := 3, ground := Ground.data }, { on := 4, ground := Ground.data }, { on := 1, ground := Ground.chain }], guard := none }) rfl (fun K hK => ?_) ?_
      · go_simp
        refine (hslp.out V _ _ _ _ _ HF.out).mono ?_
        rintro e v ⟨bA, bB, dA, dB, rfl, r1, c1, n1, n2⟩
        have HNC : Hid (NC bA dA ∧ NC bB dB) := ⟨n1, n2⟩
        have HF := hide (HF.out.sl (x := rwS Classical.propDecidable bA dA bB dB) (rs_osl r1) c1)
        clear r1 c1 n1 n2
        go_wp2_with fail
        refine hK.out _ _ ?_ (fun hHeld => ?_)
        · exact HF.out.st.2.2.1
        clear hK K
        try simp only [Act.put, ly1, ly2, ly3]
        refine wpAnyH_at (m := 3) (k := #[true, true, true, true, true, true, true, false, true, false, false]) (by kernel_rfl) (by kernel_rfl) ?_
        exact K2cocp.out im co so cp dA dB bA bB v ⟨HF, HNC⟩
      refine AllReadyH.cons (o := { dst := some 16, op := Op.makeSlice 23 (Operand.const (Value.int IntKind.i64 3)) (Operand.const (Value.int IntKind.i64 3)), type := 23, pos := "l08_node.go:43", after := #[], guard := none }) rfl (fun K hK => ?_) AllReadyH.nil
      · go_simp
        obtain ⟨v, hv⟩ : ∃ x, x = V.alloc (.cells (madeCells #[.slice none 0 0] 3) 22) := ⟨_, rfl⟩
        have HF := hide (HF.out.so hv)
        rw [← hv]
        clear hv
        obtain ⟨so, he⟩ : ∃ x, x = V.heap.size := ⟨_, rfl⟩
        rw [← he] at HF ⊢
        clear he
        refine hK.out _ _ ?_ (fun hHeld => ?_)
        · exact HF.out.st.2.2.1
        clear hK K
        try simp only [Act.put, ly1, ly2, ly3]
        refine wpAnyH_at (m := 3) (k := #[true, true, true, true, true, false, true, true, true, false, false]) (by kernel_rfl) (by kernel_rfl) ?_
        exact K1cosocp.out im co so cp dA dB bA bB v ⟨HF, trivial⟩
    · apply hide
      rintro im co so cp dA dB bA bB V ⟨HF, -⟩
      refine wpAnyH_ready (rs := [5, 6]) (by kernel_rfl) (by simp) ?_
      refine AllReadyH.cons (o := { dst := some 14, op := Op.call { callee := Callee.value (Operand.func 54), args := #[Operand.tmp 12, Operand.tmp 13], argTypes := #[28, 25] }, type := 28, pos := "l08_node.go:43", after := #[{ on := 3, ground := Ground.data }, { on := 4, ground := Ground.data }, { on := 1, ground := Ground.chain }], guard := none }) rfl (fun K hK => ?_) ?_
      · go_simp
        refine (hslp.out V _ _ _ _ _ HF.out).mono ?_
        rintro e v ⟨bA, bB, dA, dB, rfl, r1, c1, n1, n2⟩
        have HNC : Hid (NC bA dA ∧ NC bB dB) := ⟨n1, n2⟩
        have HF := hide (HF.out.sl (x := rwS Classical.propDecidable bA dA bB dB) (rs_osl r1) c1)
        clear r1 c1 n1 n2
        go_wp2_with fail
        refine hK.out _ _ ?_ (fun hHeld => ?_)
        · exact HF.out.st.2.2.1
        clear hK K
        try simp only [Act.put, ly1, ly2, ly3]
        refine wpAnyH_at (m := 3) (k := #[true, true, true, true, true, true, false, true, true, false, false]) (by kernel_rfl) (by kernel_rfl) ?_
        exact K2socp.out im co so cp dA dB bA bB v ⟨HF, HNC⟩
      refine AllReadyH.cons (o := { dst := some 15, op := Op.makeSlice 29 (Operand.const (Value.int IntKind.i64 3)) (Operand.const (Value.int IntKind.i64 3)), type := 29, pos := "l08_node.go:43", after := #[], guard := none }) rfl (fun K hK => ?_) AllReadyH.nil
      · go_simp
        obtain ⟨v, hv⟩ : ∃ x, x = V.alloc (.cells (madeCells #[.bool false] 3) 4) := ⟨_, rfl⟩
        have HF := hide (HF.out.co hv)
        rw [← hv]
        clear hv
        obtain ⟨co, he⟩ : ∃ x, x = V.heap.size := ⟨_, rfl⟩
        rw [← he] at HF ⊢
        clear he
        refine hK.out _ _ ?_ (fun hHeld => ?_)
        · exact HF.out.st.2.2.1
        clear hK K
        try simp only [Act.put, ly1, ly2, ly3]
        refine wpAnyH_at (m := 3) (k := #[true, true, true, true, true, false, true, true, true, false, false]) (by kernel_rfl) (by kernel_rfl) ?_
        exact K1cosocp.out im co so cp dA dB bA bB v ⟨HF, trivial⟩
    · apply hide
      rintro im co so cp dA dB bA bB V ⟨HF, HNC⟩
      refine wpAnyH_ready (rs := [7, 8]) (by kernel_rfl) (by simp) ?_
      refine AllReadyH.cons (o := { dst := some 16, op := Op.makeSlice 23 (Operand.const (Value.int IntKind.i64 3)) (Operand.const (Value.int IntKind.i64 3)), type := 23, pos := "l08_node.go:43", after := #[], guard := none }) rfl (fun K hK => ?_) ?_
      · go_simp
        obtain ⟨v, hv⟩ : ∃ x, x = V.alloc (.cells (madeCells #[.slice none 0 0] 3) 22) := ⟨_, rfl⟩
        have HF := hide (HF.out.so hv)
        rw [← hv]
        clear hv
        obtain ⟨so, he⟩ : ∃ x, x = V.heap.size := ⟨_, rfl⟩
        rw [← he] at HF ⊢
        clear he
        refine hK.out _ _ ?_ (fun hHeld => ?_)
        · exact HF.out.st.2.2.1
        clear hK K
        try simp only [Act.put, ly1, ly2, ly3]
        refine wpAnyH_at (m := 3) (k := #[true, true, true, true, true, true, true, true, false, false, false]) (by kernel_rfl) (by kernel_rfl) ?_
        exact K2coso.out im co so cp dA dB bA bB v ⟨HF, HNC⟩
      refine AllReadyH.cons (o := { dst := some 17, op := Op.makeSlice 29 (Operand.const (Value.int IntKind.i64 3)) (Operand.const (Value.int IntKind.i64 3)), type := 29, pos := "l08_node.go:43", after := #[], guard := none }) rfl (fun K hK => ?_) AllReadyH.nil
      · go_simp
        obtain ⟨v, hv⟩ : ∃ x, x = V.alloc (.cells (madeCells #[.bool false] 3) 4) := ⟨_, rfl⟩
        have HF := hide (HF.out.cp hv)
        rw [← hv]
        clear hv
        obtain ⟨cp, he⟩ : ∃ x, x = V.heap.size := ⟨_, rfl⟩
        rw [← he] at HF ⊢
        clear he
        refine hK.out _ _ ?_ (fun hHeld => ?_)
        · exact HF.out.st.2.2.1
        clear hK K
        try simp only [Act.put, ly1, ly2, ly3]
        refine wpAnyH_at (m := 3) (k := #[true, true, true, true, true, true, true, false, true, false, false]) (by kernel_rfl) (by kernel_rfl) ?_
        exact K2cocp.out im co so cp dA dB bA bB v ⟨HF, HNC⟩
    · apply hide
      rintro im co so cp dA dB bA bB V ⟨HF, HNC⟩
      refine wpAnyH_ready (rs := [6, 8]) (by kernel_rfl) (by simp) ?_
      refine AllReadyH.cons (o := { dst := some 15, op := Op.makeSlice 29 (Operand.const (Value.int IntKind.i64 3)) (Operand.const (Value.int IntKind.i64 3)), type := 29, pos := "l08_node.go:43", after := #[], guard := none }) rfl (fun K hK => ?_) ?_
      · go_simp
        obtain ⟨v, hv⟩ : ∃ x, x = V.alloc (.cells (madeCells #[.bool false] 3) 4) := ⟨_, rfl⟩
        have HF := hide (HF.out.co hv)
        rw [← hv]
        clear hv
        obtain ⟨co, he⟩ : ∃ x, x = V.heap.size := ⟨_, rfl⟩
        rw [← he] at HF ⊢
        clear he
        refine hK.out _ _ ?_ (fun hHeld => ?_)
        · exact HF.out.st.2.2.1
        clear hK K
        try simp only [Act.put, ly1, ly2, ly3]
        refine wpAnyH_at (m := 3) (k := #[true, true, true, true, true, true, true, true, false, false, false]) (by kernel_rfl) (by kernel_rfl) ?_
        exact K2coso.out im co so cp dA dB bA bB v ⟨HF, HNC⟩
      refine AllReadyH.cons (o := { dst := some 17, op := Op.makeSlice 29 (Operand.const (Value.int IntKind.i64 3)) (Operand.const (Value.int IntKind.i64 3)), type := 29, pos := "l08_node.go:43", after := #[], guard := none }) rfl (fun K hK => ?_) AllReadyH.nil
      · go_simp
        obtain ⟨v, hv⟩ : ∃ x, x = V.alloc (.cells (madeCells #[.bool false] 3) 4) := ⟨_, rfl⟩
        have HF := hide (HF.out.cp hv)
        rw [← hv]
        clear hv
        obtain ⟨cp, he⟩ : ∃ x, x = V.heap.size := ⟨_, rfl⟩
        rw [← he] at HF ⊢
        clear he
        refine hK.out _ _ ?_ (fun hHeld => ?_)
        · exact HF.out.st.2.2.1
        clear hK K
        try simp only [Act.put, ly1, ly2, ly3]
        refine wpAnyH_at (m := 3) (k := #[true, true, true, true, true, true, false, true, true, false, false]) (by kernel_rfl) (by kernel_rfl) ?_
        exact K2socp.out im co so cp dA dB bA bB v ⟨HF, HNC⟩
    · apply hide
      rintro im co so cp dA dB bA bB V ⟨HF, HNC⟩
      refine wpAnyH_ready (rs := [6, 7]) (by kernel_rfl) (by simp) ?_
      refine AllReadyH.cons (o := { dst := some 15, op := Op.makeSlice 29 (Operand.const (Value.int IntKind.i64 3)) (Operand.const (Value.int IntKind.i64 3)), type := 29, pos := "l08_node.go:43", after := #[], guard := none }) rfl (fun K hK => ?_) ?_
      · go_simp
        obtain ⟨v, hv⟩ : ∃ x, x = V.alloc (.cells (madeCells #[.bool false] 3) 4) := ⟨_, rfl⟩
        have HF := hide (HF.out.co hv)
        rw [← hv]
        clear hv
        obtain ⟨co, he⟩ : ∃ x, x = V.heap.size := ⟨_, rfl⟩
        rw [← he] at HF ⊢
        clear he
        refine hK.out _ _ ?_ (fun hHeld => ?_)
        · exact HF.out.st.2.2.1
        clear hK K
        try simp only [Act.put, ly1, ly2, ly3]
        refine wpAnyH_at (m := 3) (k := #[true, true, true, true, true, true, true, false, true, false, false]) (by kernel_rfl) (by kernel_rfl) ?_
        exact K2cocp.out im co so cp dA dB bA bB v ⟨HF, HNC⟩
      refine AllReadyH.cons (o := { dst := some 16, op := Op.makeSlice 23 (Operand.const (Value.int IntKind.i64 3)) (Operand.const (Value.int IntKind.i64 3)), type := 23, pos := "l08_node.go:43", after := #[], guard := none }) rfl (fun K hK => ?_) AllReadyH.nil
      · go_simp
        obtain ⟨v, hv⟩ : ∃ x, x = V.alloc (.cells (madeCells #[.slice none 0 0] 3) 22) := ⟨_, rfl⟩
        have HF := hide (HF.out.so hv)
        rw [← hv]
        clear hv
        obtain ⟨so, he⟩ : ∃ x, x = V.heap.size := ⟨_, rfl⟩
        rw [← he] at HF ⊢
        clear he
        refine hK.out _ _ ?_ (fun hHeld => ?_)
        · exact HF.out.st.2.2.1
        clear hK K
        try simp only [Act.put, ly1, ly2, ly3]
        refine wpAnyH_at (m := 3) (k := #[true, true, true, true, true, true, false, true, true, false, false]) (by kernel_rfl) (by kernel_rfl) ?_
        exact K2socp.out im co so cp dA dB bA bB v ⟨HF, HNC⟩
    · apply hide
      rintro im co so cp dA dB bA bB V ⟨HF, -⟩
      refine wpAnyH_ready (rs := [5]) (by kernel_rfl) (by simp) ?_
      refine AllReadyH.cons (o := { dst := some 14, op := Op.call { callee := Callee.value (Operand.func 54), args := #[Operand.tmp 12, Operand.tmp 13], argTypes := #[28, 25] }, type := 28, pos := "l08_node.go:43", after := #[{ on := 3, ground := Ground.data }, { on := 4, ground := Ground.data }, { on := 1, ground := Ground.chain }], guard := none }) rfl (fun K hK => ?_) AllReadyH.nil
      go_simp
      refine (hslp.out V _ _ _ _ _ HF.out).mono ?_
      rintro e v ⟨bA, bB, dA, dB, rfl, r1, c1, n1, n2⟩
      have HNC : Hid (NC bA dA ∧ NC bB dB) := ⟨n1, n2⟩
      have HF := hide (HF.out.sl (x := rwS Classical.propDecidable bA dA bB dB) (rs_osl r1) c1)
      clear r1 c1 n1 n2
      go_wp2_with fail
      refine hK.out _ _ ?_ (fun hHeld => ?_)
      · exact HF.out.st.2.2.1
      clear hK K
      try simp only [Act.put, ly1, ly2, ly3]
      refine wpAnyH_at (m := 2) (k := #[true, true, true, true, true, true, true, true, true, false, false]) (by kernel_rfl) (by kernel_rfl) ?_
      exact K2cosocp.out im co so cp dA dB bA bB v ⟨HF, HNC⟩
    · apply hide
      rintro im co so cp dA dB bA bB V ⟨HF, HNC⟩
      refine wpAnyH_ready (rs := [8]) (by kernel_rfl) (by simp) ?_
      refine AllReadyH.cons (o := { dst := some 17, op := Op.makeSlice 29 (Operand.const (Value.int IntKind.i64 3)) (Operand.const (Value.int IntKind.i64 3)), type := 29, pos := "l08_node.go:43", after := #[], guard := none }) rfl (fun K hK => ?_) AllReadyH.nil
      go_simp
      obtain ⟨v, hv⟩ : ∃ x, x = V.alloc (.cells (madeCells #[.bool false] 3) 4) := ⟨_, rfl⟩
      have HF := hide (HF.out.cp hv)
      rw [← hv]
      clear hv
      obtain ⟨cp, he⟩ : ∃ x, x = V.heap.size := ⟨_, rfl⟩
      rw [← he] at HF ⊢
      clear he
      refine hK.out _ _ ?_ (fun hHeld => ?_)
      · exact HF.out.st.2.2.1
      clear hK K
      try simp only [Act.put, ly1, ly2, ly3]
      refine wpAnyH_at (m := 2) (k := #[true, true, true, true, true, true, true, true, true, false, false]) (by kernel_rfl) (by kernel_rfl) ?_
      exact K2cosocp.out im co so cp dA dB bA bB v ⟨HF, HNC⟩
    · apply hide
      rintro im co so cp dA dB bA bB V ⟨HF, HNC⟩
      refine wpAnyH_ready (rs := [7]) (by kernel_rfl) (by simp) ?_
      refine AllReadyH.cons (o := { dst := some 16, op := Op.makeSlice 23 (Operand.const (Value.int IntKind.i64 3)) (Operand.const (Value.int IntKind.i64 3)), type := 23, pos := "l08_node.go:43", after := #[], guard := none }) rfl (fun K hK => ?_) AllReadyH.nil
      go_simp
      obtain ⟨v, hv⟩ : ∃ x, x = V.alloc (.cells (madeCells #[.slice none 0 0] 3) 22) := ⟨_, rfl⟩
      have HF := hide (HF.out.so hv)
      rw [← hv]
      clear hv
      obtain ⟨so, he⟩ : ∃ x, x = V.heap.size := ⟨_, rfl⟩
      rw [← he] at HF ⊢
      clear he
      refine hK.out _ _ ?_ (fun hHeld => ?_)
      · exact HF.out.st.2.2.1
      clear hK K
      try simp only [Act.put, ly1, ly2, ly3]
      refine wpAnyH_at (m := 2) (k := #[true, true, true, true, true, true, true, true, true, false, false]) (by kernel_rfl) (by kernel_rfl) ?_
      exact K2cosocp.out im co so cp dA dB bA bB v ⟨HF, HNC⟩
    · apply hide
      rintro im co so cp dA dB bA bB V ⟨HF, HNC⟩
      refine wpAnyH_ready (rs := [6]) (by kernel_rfl) (by simp) ?_
      refine AllReadyH.cons (o := { dst := some 15, op := Op.makeSlice 29 (Operand.const (Value.int IntKind.i64 3)) (Operand.const (Value.int IntKind.i64 3)), type := 29, pos := "l08_node.go:43", after := #[], guard := none }) rfl (fun K hK => ?_) AllReadyH.nil
      go_simp
      obtain ⟨v, hv⟩ : ∃ x, x = V.alloc (.cells (madeCells #[.bool false] 3) 4) := ⟨_, rfl⟩
      have HF := hide (HF.out.co hv)
      rw [← hv]
      clear hv
      obtain ⟨co, he⟩ : ∃ x, x = V.heap.size := ⟨_, rfl⟩
      rw [← he] at HF ⊢
      clear he
      refine hK.out _ _ ?_ (fun hHeld => ?_)
      · exact HF.out.st.2.2.1
      clear hK K
      try simp only [Act.put, ly1, ly2, ly3]
      refine wpAnyH_at (m := 2) (k := #[true, true, true, true, true, true, true, true, true, false, false]) (by kernel_rfl) (by kernel_rfl) ?_
      exact K2cosocp.out im co so cp dA dB bA bB v ⟨HF, HNC⟩
    · apply hide
      rintro im co so cp dA dB bA bB V ⟨HF, HNC⟩
      have hHeld := HF.out.st.2.2.1
      unfold mvv
      refine wpAnyH_take (i := 9) (oi := { dst := some 18, op := Op.build 31 #[(0, Operand.tmp 9), (1, Operand.const (Value.bool true)), (3, Operand.tmp 10), (4, Operand.tmp 11), (5, Operand.tmp 14), (6, Operand.tmp 15), (7, Operand.tmp 16), (8, Operand.tmp 17)], type := 31, pos := "l08_node.go:43", after := #[{ on := 0, ground := Ground.data }, { on := 1, ground := Ground.data }, { on := 2, ground := Ground.data }, { on := 5, ground := Ground.data }, { on := 6, ground := Ground.data }, { on := 7, ground := Ground.data }, { on := 8, ground := Ground.data }], guard := none }) (v := ?_) rfl (by kernel_rfl) (by kernel_rfl) (by kernel_rfl) (fun _ _ _ h => h) (Or.inl ⟨by rfl, ?_⟩) (by assumption) ?_
      rotate_left 1
      · (intro wq hSw; (try dsimp only at hSw); go_simp; try with_reducible rfl)
      try simp only [Act.put, ly1, ly2, ly3]
      refine wpAnyH_ready (rs := [10]) (by kernel_rfl) (by simp) ?_
      refine AllReadyH.cons (o := { dst := none, op := Op.store 31 (Operand.tmp 2) (Operand.tmp 18), type := 0, pos := "l08_node.go:43", after := #[{ on := 9, ground := Ground.data }, { on := 5, ground := Ground.chain }, { on := 0, ground := Ground.phase }, { on := 1, ground := Ground.phase }, { on := 2, ground := Ground.phase }, { on := 3, ground := Ground.phase }, { on := 4, ground := Ground.phase }, { on := 5, ground := Ground.phase }, { on := 6, ground := Ground.phase }, { on := 7, ground := Ground.phase }, { on := 8, ground := Ground.phase }, { on := 9, ground := Ground.phase }], guard := none }) rfl (fun K hK => ?_) AllReadyH.nil
      obtain ⟨b, hb⟩ : ∃ b : Na, b = ⟨some ⟨im, 0, none⟩, 8, am.go, am.gc, am.bo, am.bc, bA, dA, bB, dB, some ⟨co, 0, none⟩, 3, some ⟨so, 0, none⟩, 3, some ⟨cp, 0, none⟩, 3, none, 0⟩ := ⟨_, rfl⟩
      refine step_if (by rfl) (st_node_wp _ _ rfl rfl w.heap.size b (nwd Classical.propDecidable y) rfl (by rw [hb]; rfl) HF.out.st.2.1 (fun F hF hnF => ?_))
      have hX := HF.out.st.2.2.2.1
      have hs := hF.2.1
      have HR : Hid (NB F w.heap.size 31 b (nwd Classical.propDecidable y) ∧ ON F w.heap.size F.heap.size b (nwd Classical.propDecidable y) ∧ Below w.heap.size w F) := by
        have hlt : w.heap.size < BB := HBB.out
        have hbb := HF.out.bb
        have h1 := (HF.out.rs.kept (w' := F) (fun j h1 _ => hF.2.2 j (by omega))).wide (Nat.le_refl BB) (Nat.le_of_eq hs.symm)
        rw [HMR.out] at h1
        exact ⟨hnF, (on_new (b := b) (R := R0) (by rw [hb]; exact h1) (by rw [hb]; exact ⟨rfl, rfl⟩) (by rw [hb]; exact HNC.out) (by omega)).wider (Nat.le_of_lt hlt) (Nat.le_refl _) (Nat.le_refl _), HF.out.st.1.trans (hF.1.mono (Nat.le_refl _))⟩
      refine hK.out _ _ ?_ (fun hHeld => ?_)
      · exact (HF.out.st.2.2.1).far hF (by omega)
      clear hK K
      try simp only [Act.put, ly1, ly2, ly3]
      refine wpAnyH_done (by kernel_rfl) ?_ _
      go_wp2_with fail
      go_meet
      case rel => exact ⟨b, HR.out⟩
  case rest =>
    obtain ⟨b, h1, h2, h3⟩ := hcut
    have HN := hide h1
    have HO := hide h2
    have HBl := hide h3
    clear h1 h2 h3
    go_wp2_with fail
    exact bodyPost_ret (v := nv b (nwd Classical.propDecidable y)) (res_node Tryz.results15 rfl HN.out) rfl ⟨b, rfl, HO.out, HBl.out⟩
set_option maxHeartbeats 100000000 in
theorem nodenew_i (y : Int) (w : World) (hg : ErrT w) (hy : -9223372036854775808 ≤ y ∧ y ≤ 9223372036854775807) :
    Calls Tryz.prog 16 #[.int .i64 y] w fun e w' => ∃ b, e = .returned (nv b (nwr Classical.propDecidable y)) ∧ ON w' w.heap.size w'.heap.size b (nwr Classical.propDecidable y) ∧ Below w.heap.size w w' := by
  have hmk := run_make_row' (P := Tryz.prog) 29 4 (.bool false) 1 Tryz.underlying29 Tryz.info4 rfl .i64 .i64 3 (by omega) (by omega)
  rw [show ((3 : Nat) : Int) = 3 from rfl] at hmk
  have hms := run_make_row' (P := Tryz.prog) 23 22 (.slice none 0 0) 24 Tryz.underlying23 Tryz.infoSl rfl .i64 .i64 3 (by omega) (by omega)
  rw [show ((3 : Nat) : Int) = 3 from rfl] at hms
  obtain ⟨W, hW⟩ : ∃ W, W = w.alloc (.cells (nds Na.zero Nd.zero) 31) := ⟨_, rfl⟩
  have T0 : Hid (Below w.heap.size w W ∧ NB W w.heap.size 31 Na.zero Nd.zero ∧ W.heap.size = w.heap.size + 1) := by rw [hW]; exact ⟨bal1 _ _, NB.new _ _ _ _, by simp⟩
  have HE : Hid (∀ V, Below w.heap.size w V → ErrT V) := fun V hb => hg.below hb
  clear hg
  unfold nds Na.zero Nd.zero at hW
  dsimp only [List.length_nil] at hW
  by_cases hin : 0 ≤ y ∧ y ≤ 2
  case neg =>
    have HR : Hid (nwr Classical.propDecidable y = Nd.zero) := (show _ = _ from by unfold nwr; exact pick_no hin)
    rw [HR.out]
    have hq := nonode_any y W
    rw [show decide (y < 0 ∨ 3 ≤ y) = true by simp; omega] at hq
    have HQ := hide hq
    clear hq hin hmk hms
    go_enter Tryz.func16, Tryz.ntmps16
    go_upto_region 1 with fail
    rw [← hW]
    clear hW
    go_wp2_with fail
    refine HQ.out.mono ?_
    rintro e w' ⟨rfl, hw'⟩
    rw [hw']
    clear hw' HQ
    go_wp2_with (refine st_node rfl _ _ rfl rfl w.heap.size Na.zero Nd.zero rfl rfl T0.out.2.1 (fun F hF1 hF2 => ?_))
    exact bodyPost_ret (v := nv Na.zero Nd.zero) (res_node Tryz.results16 rfl hF2) rfl ⟨Na.zero, rfl, on_none (by have := hF1.2.1; have := T0.out.2.2; omega), T0.out.1.trans (hF1.1.mono (Nat.le_refl _))⟩
  have HR : Hid (nwr Classical.propDecidable y = nwd Classical.propDecidable y) := (show _ = _ from by unfold nwr; exact pick_yes hin)
  rw [HR.out]
  clear HR
  have hq := nonode_any y W
  rw [show decide (y < 0 ∨ 3 ≤ y) = false by simp; omega] at hq
  have HQ := hide hq
  clear hq hin
  go_enter Tryz.func16, Tryz.ntmps16
  go_upto_region 1 with fail
  rw [← hW]
  clear hW
  go_wp2_with fail
  refine HQ.out.mono ?_
  rintro e w' ⟨rfl, hw'⟩
  rw [hw']
  clear hw' HQ w'
  go_wp2_with fail
  refine (mtnew_impl 1 W).mono ?_
  rintro e w1 ⟨go, bo, gc, bc, rfl, o1, c1⟩
  obtain ⟨am, ham⟩ : ∃ am : Na, am = { Na.zero with go := go, gc := gc, bo := bo, bc := bc } := ⟨_, rfl⟩
  obtain ⟨W1, hW1⟩ : ∃ W1, W1 = w1.alloc (.cells #[.slice go (nwg 1).length gc, .slice bo (nwn 1) bc, .bool (nw 1), .bool false, .bool false, .int .i64 0] 25) := ⟨_, rfl⟩
  obtain ⟨X, hX⟩ : ∃ X, X = w1.heap.size := ⟨_, rfl⟩
  obtain ⟨BB, hBB⟩ : ∃ BB, BB = w.heap.size + 1 := ⟨_, rfl⟩
  obtain ⟨R0, hR0⟩ := rs_okm o1
  have bx : Below w1.heap.size w1 W1 := by rw [hW1]; exact bal1 _ _
  have bd : Below w1.heap.size w1 W1.drew := Below.drawn bx 1
  have szW : W1.heap.size = w1.heap.size + 1 := by rw [hW1]; simp
  obtain ⟨mr, hmr⟩ : ∃ x, x = mrows am.go am.gc am.bo am.bc R0 (nwg 1) (nwn 1) (fun _ => []) := ⟨_, rfl⟩
  have HMR : Hid (mr = mrows am.go am.gc am.bo am.bc R0 (nwg 1) (nwn 1) (fun _ => [])) := hmr
  have HF : Hid (NwF w W1.drew BB X am (NwR [] mr [] [] [] [])) := by
    have h1 := T0.out.1.trans (c1.mono T0.out.1.size)
    have hcs := c1.size
    have ht := T0.out.2.2
    refine ⟨⟨h1.trans (bd.mono h1.size), (T0.out.2.1.b c1).b bd, by show MBk W1 X _ am nwm; rw [hX, hW1, ham]; exact MBk.new w1 _ { Na.zero with go := go, gc := gc, bo := bo, bc := bc } nwm, by rw [hX]; omega, by show X < W1.heap.size; rw [hX]; omega⟩, by show BB ≤ W1.heap.size; omega, ?_⟩
    rw [ht] at hR0
    have h2 := (hR0.below bd (Nat.le_refl _)).wide (B' := w.heap.size + 1) (T' := W1.drew.heap.size) (Nat.le_refl _) (by show w1.heap.size ≤ W1.heap.size; omega)
    rw [hmr, hBB, ham]
    simp only [NwR, List.nil_append, List.append_nil]
    exact h2
  have HBB : Hid (w.heap.size < BB) := by rw [hBB]; exact Nat.lt_succ_self _
  have hslp : Hid (∀ V i s c o p, NwF w V BB X am (NwR i mr s c o p) → Calls Tryz.prog 58 #[.agg #[.slice none 0 0, .slice none 0 0], .agg #[.slice am.go nwm.g.length am.gc, .slice am.bo nwm.n am.bc, .bool nwm.fi, .bool nwm.ol, .bool nwm.he, .int .i64 nwm.la]] V fun e w' => PtOut V w' (nwA Classical.propDecidable) (nwC Classical.propDecidable) e) := fun V i s c o p h => by
    have hr : RS V BB V.heap.size mr := h.rs.right.left
    rw [hmr] at hr
    exact slotput_impl none none 0 0 [] [] am.go am.bo am.gc am.bc (nwg 1) (nwn 1) (fun _ => []) (nw 1) false false 0 V (HE.out V h.st.1) (vby_none V) (vby_none V) nc_none nc_none ⟨by show (nwg 1).length ≤ 1048576; decide, by show nwn 1 ≤ 1048576; decide, fun i _ => by simp⟩ hr.mv
  clear o1 c1 hR0 bx bd szW hBB T0 hmr
  rw [show (Value.slice go (nwg 1).length gc) = .slice am.go nwm.g.length am.gc from by rw [ham]; rfl, show (Value.slice bo (nwn 1) bc) = .slice am.bo nwm.n am.bc from by rw [ham]; rfl] at hW1
  go_upto_region 4 with fail
  have hW1' : W1 = w1.alloc (.cells #[.slice go (nwg 1).length gc, .slice bo (nwn 1) bc, .bool (nw 1), .bool false, .bool false, .int .i64 0] 25) := by rw [hW1, ham]; rfl
  rw [← hW1', ← hX]
  clear hW1 hW1' ham
  generalize w1.heap.size = TM at *
  go_cut [] from 3 (fun wc => ∃ b, NB wc w.heap.size 31 b (nwd Classical.propDecidable y) ∧ ON wc w.heap.size wc.heap.size b (nwd Classical.propDecidable y) ∧ Below w.heap.size w wc)
  case first =>
    refine wp_region_held_drew (S := (fun w' => MBk w' X 25 am nwm)) (by kernel_rfl) ?_ (fun hHeld => ?_)
    · exact HF.out.st.2.2.1
    refine wpAnyH_take (i := 0) (oi := { dst := some 8, op := Op.move (Operand.tmp 0), type := 3, pos := "l08_node.go:48", after := #[], guard := none }) (v := ?_) rfl (by kernel_rfl) (by kernel_rfl) (by kernel_rfl) (fun _ _ _ h => h) (Or.inl ⟨by rfl, ?_⟩) (by assumption) ?_
    rotate_left 1
    · (intro wq hSw; (try dsimp only at hSw); go_simp; try with_reducible rfl)
    try simp only [Act.put, ly1, ly2, ly3]
    refine wpAnyH_take (i := 2) (oi := { dst := some 10, op := Op.load 25 (Operand.tmp 3), type := 25, pos := "l08_node.go:48", after := #[], guard := none }) (v := mvv am nwm) rfl (by kernel_rfl) (by kernel_rfl) (by kernel_rfl) (fun _ _ _ h => h) (yieldsIf_load_mid (by rfl) _ _ rfl X 0 rfl (mds am nwm) _ (fun wq hSw => range_of hSw rfl) Tryz.underlying25 rfl (by kernel_rfl)) (by assumption) ?_
    try simp only [Act.put, ly1, ly2, ly3]
    refine wpAnyH_take (i := 3) (oi := { dst := some 11, op := Op.build 28 #[], type := 28, pos := "l08_node.go:48", after := #[], guard := none }) (v := ?_) rfl (by kernel_rfl) (by kernel_rfl) (by kernel_rfl) (fun _ _ _ h => h) (Or.inl ⟨by rfl, ?_⟩) (by assumption) ?_
    rotate_left 1
    · (intro wq hSw; (try dsimp only at hSw); go_simp; try with_reducible rfl)
    try simp only [Act.put, ly1, ly2, ly3]
    refine wpAnyH_take (i := 4) (oi := { dst := some 12, op := Op.load 25 (Operand.tmp 3), type := 25, pos := "l08_node.go:48", after := #[], guard := none }) (v := mvv am nwm) rfl (by kernel_rfl) (by kernel_rfl) (by kernel_rfl) (fun _ _ _ h => h) (yieldsIf_load_mid (by rfl) _ _ rfl X 0 rfl (mds am nwm) _ (fun wq hSw => range_of hSw rfl) Tryz.underlying25 rfl (by kernel_rfl)) (by assumption) ?_
    try simp only [Act.put, ly1, ly2, ly3]
    refine wpAnyH_at (m := 7) (k := #[true, false, true, true, true, false, false, false, false, false, false]) (by kernel_rfl) (by kernel_rfl) ?_
    clear hHeld
    apply cutG (fun im co so cp dA dB bA bB V => Hid (NwF w V BB X am (NwR (rwI im) mr (rwS Classical.propDecidable bA dA bB dB) (rwB co) (rwL so) (rwB cp))) ∧ Hid (NC bA dA ∧ NC bB dB))
    intro K2cosocp
    apply cutG (fun im co so cp dA dB bA bB V => Hid (NwF w V BB X am (NwR (rwI im) mr (rwS Classical.propDecidable bA dA bB dB) [] (rwL so) (rwB cp))) ∧ Hid (NC bA dA ∧ NC bB dB))
    intro K2socp
    apply cutG (fun im co so cp dA dB bA bB V => Hid (NwF w V BB X am (NwR (rwI im) mr (rwS Classical.propDecidable bA dA bB dB) (rwB co) [] (rwB cp))) ∧ Hid (NC bA dA ∧ NC bB dB))
    intro K2cocp
    apply cutG (fun im co so cp dA dB bA bB V => Hid (NwF w V BB X am (NwR (rwI im) mr (rwS Classical.propDecidable bA dA bB dB) (rwB co) (rwL so) [])) ∧ Hid (NC bA dA ∧ NC bB dB))
    intro K2coso
    apply cutG (fun im co so cp dA dB bA bB V => Hid (NwF w V BB X am (NwR (rwI im) mr [] (rwB co) (rwL so) (rwB cp))) ∧ True)
    intro K1cosocp
    apply cutG (fun im co so cp dA dB bA bB V => Hid (NwF w V BB X am (NwR (rwI im) mr (rwS Classical.propDecidable bA dA bB dB) [] [] (rwB cp))) ∧ Hid (NC bA dA ∧ NC bB dB))
    intro K2cp
    apply cutG (fun im co so cp dA dB bA bB V => Hid (NwF w V BB X am (NwR (rwI im) mr (rwS Classical.propDecidable bA dA bB dB) [] (rwL so) [])) ∧ Hid (NC bA dA ∧ NC bB dB))
    intro K2so
    apply cutG (fun im co so cp dA dB bA bB V => Hid (NwF w V BB X am (NwR (rwI im) mr (rwS Classical.propDecidable bA dA bB dB) (rwB co) [] [])) ∧ Hid (NC bA dA ∧ NC bB dB))
    intro K2co
    apply cutG (fun im co so cp dA dB bA bB V => Hid (NwF w V BB X am (NwR (rwI im) mr [] [] (rwL so) (rwB cp))) ∧ True)
    intro K1socp
    apply cutG (fun im co so cp dA dB bA bB V => Hid (NwF w V BB X am (NwR (rwI im) mr [] (rwB co) [] (rwB cp))) ∧ True)
    intro K1cocp
    apply cutG (fun im co so cp dA dB bA bB V => Hid (NwF w V BB X am (NwR (rwI im) mr [] (rwB co) (rwL so) [])) ∧ True)
    intro K1coso
    apply cutG (fun im co so cp dA dB bA bB V => Hid (NwF w V BB X am (NwR [] mr [] (rwB co) (rwL so) (rwB cp))) ∧ True)
    intro K0cosocp
    apply cutG (fun im co so cp dA dB bA bB V => Hid (NwF w V BB X am (NwR (rwI im) mr (rwS Classical.propDecidable bA dA bB dB) [] [] [])) ∧ Hid (NC bA dA ∧ NC bB dB))
    intro K2
    apply cutG (fun im co so cp dA dB bA bB V => Hid (NwF w V BB X am (NwR (rwI im) mr [] [] [] (rwB cp))) ∧ True)
    intro K1cp
    apply cutG (fun im co so cp dA dB bA bB V => Hid (NwF w V BB X am (NwR (rwI im) mr [] [] (rwL so) [])) ∧ True)
    intro K1so
    apply cutG (fun im co so cp dA dB bA bB V => Hid (NwF w V BB X am (NwR (rwI im) mr [] (rwB co) [] [])) ∧ True)
    intro K1co
    apply cutG (fun im co so cp dA dB bA bB V => Hid (NwF w V BB X am (NwR [] mr [] [] (rwL so) (rwB cp))) ∧ True)
    intro K0socp
    apply cutG (fun im co so cp dA dB bA bB V => Hid (NwF w V BB X am (NwR [] mr [] (rwB co) [] (rwB cp))) ∧ True)
    intro K0cocp
    apply cutG (fun im co so cp dA dB bA bB V => Hid (NwF w V BB X am (NwR [] mr [] (rwB co) (rwL so) [])) ∧ True)
    intro K0coso
    apply cutG (fun im co so cp dA dB bA bB V => Hid (NwF w V BB X am (NwR (rwI im) mr [] [] [] [])) ∧ True)
    intro K1
    apply cutG (fun im co so cp dA dB bA bB V => Hid (NwF w V BB X am (NwR [] mr [] [] [] (rwB cp))) ∧ True)
    intro K0cp
    apply cutG (fun im co so cp dA dB bA bB V => Hid (NwF w V BB X am (NwR [] mr [] [] (rwL so) [])) ∧ True)
    intro K0so
    apply cutG (fun im co so cp dA dB bA bB V => Hid (NwF w V BB X am (NwR [] mr [] (rwB co) [] [])) ∧ True)
    intro K0co
    apply cutG (fun im co so cp dA dB bA bB V => Hid (NwF w V BB X am (NwR [] mr [] [] [] [])) ∧ True)
    intro K0
    · refine letters (fun im co so cp dA dB bA bB => ?_)
      obtain ⟨V0, hV0⟩ : ∃ x, x = W1.drew := ⟨_, rfl⟩
      rw [← hV0] at HF ⊢
      exact K0.out im co so cp dA dB bA bB V0 ⟨HF, trivial⟩
    · apply hide
      rintro im co so cp dA dB bA bB V ⟨HF, -⟩
      refine wpAnyH_ready (rs := [1, 6, 7, 8]) (by kernel_rfl) (by simp) ?_
      refine AllReadyH.cons (o := { dst := some 9, op := Op.call { callee := Callee.value (Operand.func 57), args := #[], argTypes := #[] }, type := 22, pos := "l08_node.go:51", after := #[], guard := none }) rfl (fun K hK => ?_) ?_
      · go_simp
        refine (image_i V).mono ?_
        rintro e v ⟨rfl, r1, c1⟩
        have HF := hide (HF.out.im r1 c1)
        obtain ⟨im, him⟩ : ∃ x, x = V.heap.size := ⟨_, rfl⟩
        rw [← him] at HF ⊢
        clear r1 c1 him
        go_wp2_with fail
        refine hK.out _ _ ?_ (fun hHeld => ?_)
        · exact HF.out.st.2.2.1
        clear hK K
        try simp only [Act.put, ly1, ly2, ly3]
        refine wpAnyH_at (m := 6) (k := #[true, true, true, true, true, false, false, false, false, false, false]) (by kernel_rfl) (by kernel_rfl) ?_
        exact K1.out im co so cp dA dB bA bB v ⟨HF, trivial⟩
      refine AllReadyH.cons (o := { dst := some 14, op := Op.makeSlice 29 (Operand.const (Value.int IntKind.i64 3)) (Operand.const (Value.int IntKind.i64 3)), type := 29, pos := "l08_node.go:48", after := #[], guard := none }) rfl (fun K hK => ?_) ?_
      · go_simp
        obtain ⟨v, hv⟩ : ∃ x, x = V.alloc (.cells (madeCells #[.bool false] 3) 4) := ⟨_, rfl⟩
        have HF := hide (HF.out.co hv)
        rw [← hv]
        clear hv
        obtain ⟨co, he⟩ : ∃ x, x = V.heap.size := ⟨_, rfl⟩
        rw [← he] at HF ⊢
        clear he
        refine hK.out _ _ ?_ (fun hHeld => ?_)
        · exact HF.out.st.2.2.1
        clear hK K
        try simp only [Act.put, ly1, ly2, ly3]
        refine wpAnyH_at (m := 6) (k := #[true, false, true, true, true, false, true, false, false, false, false]) (by kernel_rfl) (by kernel_rfl) ?_
        exact K0co.out im co so cp dA dB bA bB v ⟨HF, trivial⟩
      refine AllReadyH.cons (o := { dst := some 15, op := Op.makeSlice 23 (Operand.const (Value.int IntKind.i64 3)) (Operand.const (Value.int IntKind.i64 3)), type := 23, pos := "l08_node.go:48", after := #[], guard := none }) rfl (fun K hK => ?_) ?_
      · go_simp
        obtain ⟨v, hv⟩ : ∃ x, x = V.alloc (.cells (madeCells #[.slice none 0 0] 3) 22) := ⟨_, rfl⟩
        have HF := hide (HF.out.so hv)
        rw [← hv]
        clear hv
        obtain ⟨so, he⟩ : ∃ x, x = V.heap.size := ⟨_, rfl⟩
        rw [← he] at HF ⊢
        clear he
        refine hK.out _ _ ?_ (fun hHeld => ?_)
        · exact HF.out.st.2.2.1
        clear hK K
        try simp only [Act.put, ly1, ly2, ly3]
        refine wpAnyH_at (m := 6) (k := #[true, false, true, true, true, false, false, true, false, false, false]) (by kernel_rfl) (by kernel_rfl) ?_
        exact K0so.out im co so cp dA dB bA bB v ⟨HF, trivial⟩
      refine AllReadyH.cons (o := { dst := some 16, op := Op.makeSlice 29 (Operand.const (Value.int IntKind.i64 3)) (Operand.const (Value.int IntKind.i64 3)), type := 29, pos := "l08_node.go:48", after := #[], guard := none }) rfl (fun K hK => ?_) AllReadyH.nil
      · go_simp
        obtain ⟨v, hv⟩ : ∃ x, x = V.alloc (.cells (madeCells #[.bool false] 3) 4) := ⟨_, rfl⟩
        have HF := hide (HF.out.cp hv)
        rw [← hv]
        clear hv
        obtain ⟨cp, he⟩ : ∃ x, x = V.heap.size := ⟨_, rfl⟩
        rw [← he] at HF ⊢
        clear he
        refine hK.out _ _ ?_ (fun hHeld => ?_)
        · exact HF.out.st.2.2.1
        clear hK K
        try simp only [Act.put, ly1, ly2, ly3]
        refine wpAnyH_at (m := 6) (k := #[true, false, true, true, true, false, false, false, true, false, false]) (by kernel_rfl) (by kernel_rfl) ?_
        exact K0cp.out im co so cp dA dB bA bB v ⟨HF, trivial⟩
    · apply hide
      rintro im co so cp dA dB bA bB V ⟨HF, -⟩
      refine wpAnyH_ready (rs := [1, 7, 8]) (by kernel_rfl) (by simp) ?_
      refine AllReadyH.cons (o := { dst := some 9, op := Op.call { callee := Callee.value (Operand.func 57), args := #[], argTypes := #[] }, type := 22, pos := "l08_node.go:51", after := #[], guard := none }) rfl (fun K hK => ?_) ?_
      · go_simp
        refine (image_i V).mono ?_
        rintro e v ⟨rfl, r1, c1⟩
        have HF := hide (HF.out.im r1 c1)
        obtain ⟨im, him⟩ : ∃ x, x = V.heap.size := ⟨_, rfl⟩
        rw [← him] at HF ⊢
        clear r1 c1 him
        go_wp2_with fail
        refine hK.out _ _ ?_ (fun hHeld => ?_)
        · exact HF.out.st.2.2.1
        clear hK K
        try simp only [Act.put, ly1, ly2, ly3]
        refine wpAnyH_at (m := 5) (k := #[true, true, true, true, true, false, true, false, false, false, false]) (by kernel_rfl) (by kernel_rfl) ?_
        exact K1co.out im co so cp dA dB bA bB v ⟨HF, trivial⟩
      refine AllReadyH.cons (o := { dst := some 15, op := Op.makeSlice 23 (Operand.const (Value.int IntKind.i64 3)) (Operand.const (Value.int IntKind.i64 3)), type := 23, pos := "l08_node.go:48", after := #[], guard := none }) rfl (fun K hK => ?_) ?_
      · go_simp
        obtain ⟨v, hv⟩ : ∃ x, x = V.alloc (.cells (madeCells #[.slice none 0 0] 3) 22) := ⟨_, rfl⟩
        have HF := hide (HF.out.so hv)
        rw [← hv]
        clear hv
        obtain ⟨so, he⟩ : ∃ x, x = V.heap.size := ⟨_, rfl⟩
        rw [← he] at HF ⊢
        clear he
        refine hK.out _ _ ?_ (fun hHeld => ?_)
        · exact HF.out.st.2.2.1
        clear hK K
        try simp only [Act.put, ly1, ly2, ly3]
        refine wpAnyH_at (m := 5) (k := #[true, false, true, true, true, false, true, true, false, false, false]) (by kernel_rfl) (by kernel_rfl) ?_
        exact K0coso.out im co so cp dA dB bA bB v ⟨HF, trivial⟩
      refine AllReadyH.cons (o := { dst := some 16, op := Op.makeSlice 29 (Operand.const (Value.int IntKind.i64 3)) (Operand.const (Value.int IntKind.i64 3)), type := 29, pos := "l08_node.go:48", after := #[], guard := none }) rfl (fun K hK => ?_) AllReadyH.nil
      · go_simp
        obtain ⟨v, hv⟩ : ∃ x, x = V.alloc (.cells (madeCells #[.bool false] 3) 4) := ⟨_, rfl⟩
        have HF := hide (HF.out.cp hv)
        rw [← hv]
        clear hv
        obtain ⟨cp, he⟩ : ∃ x, x = V.heap.size := ⟨_, rfl⟩
        rw [← he] at HF ⊢
        clear he
        refine hK.out _ _ ?_ (fun hHeld => ?_)
        · exact HF.out.st.2.2.1
        clear hK K
        try simp only [Act.put, ly1, ly2, ly3]
        refine wpAnyH_at (m := 5) (k := #[true, false, true, true, true, false, true, false, true, false, false]) (by kernel_rfl) (by kernel_rfl) ?_
        exact K0cocp.out im co so cp dA dB bA bB v ⟨HF, trivial⟩
    · apply hide
      rintro im co so cp dA dB bA bB V ⟨HF, -⟩
      refine wpAnyH_ready (rs := [1, 6, 8]) (by kernel_rfl) (by simp) ?_
      refine AllReadyH.cons (o := { dst := some 9, op := Op.call { callee := Callee.value (Operand.func 57), args := #[], argTypes := #[] }, type := 22, pos := "l08_node.go:51", after := #[], guard := none }) rfl (fun K hK => ?_) ?_
      · go_simp
        refine (image_i V).mono ?_
        rintro e v ⟨rfl, r1, c1⟩
        have HF := hide (HF.out.im r1 c1)
        obtain ⟨im, him⟩ : ∃ x, x = V.heap.size := ⟨_, rfl⟩
        rw [← him] at HF ⊢
        clear r1 c1 him
        go_wp2_with fail
        refine hK.out _ _ ?_ (fun hHeld => ?_)
        · exact HF.out.st.2.2.1
        clear hK K
        try simp only [Act.put, ly1, ly2, ly3]
        refine wpAnyH_at (m := 5) (k := #[true, true, true, true, true, false, false, true, false, false, false]) (by kernel_rfl) (by kernel_rfl) ?_
        exact K1so.out im co so cp dA dB bA bB v ⟨HF, trivial⟩
      refine AllReadyH.cons (o := { dst := some 14, op := Op.makeSlice 29 (Operand.const (Value.int IntKind.i64 3)) (Operand.const (Value.int IntKind.i64 3)), type := 29, pos := "l08_node.go:48", after := #[], guard := none }) rfl (fun K hK => ?_) ?_
      · go_simp
        obtain ⟨v, hv⟩ : ∃ x, x = V.alloc (.cells (madeCells #[.bool false] 3) 4) := ⟨_, rfl⟩
        have HF := hide (HF.out.co hv)
        rw [← hv]
        clear hv
        obtain ⟨co, he⟩ : ∃ x, x = V.heap.size := ⟨_, rfl⟩
        rw [← he] at HF ⊢
        clear he
        refine hK.out _ _ ?_ (fun hHeld => ?_)
        · exact HF.out.st.2.2.1
        clear hK K
        try simp only [Act.put, ly1, ly2, ly3]
        refine wpAnyH_at (m := 5) (k := #[true, false, true, true, true, false, true, true, false, false, false]) (by kernel_rfl) (by kernel_rfl) ?_
        exact K0coso.out im co so cp dA dB bA bB v ⟨HF, trivial⟩
      refine AllReadyH.cons (o := { dst := some 16, op := Op.makeSlice 29 (Operand.const (Value.int IntKind.i64 3)) (Operand.const (Value.int IntKind.i64 3)), type := 29, pos := "l08_node.go:48", after := #[], guard := none }) rfl (fun K hK => ?_) AllReadyH.nil
      · go_simp
        obtain ⟨v, hv⟩ : ∃ x, x = V.alloc (.cells (madeCells #[.bool false] 3) 4) := ⟨_, rfl⟩
        have HF := hide (HF.out.cp hv)
        rw [← hv]
        clear hv
        obtain ⟨cp, he⟩ : ∃ x, x = V.heap.size := ⟨_, rfl⟩
        rw [← he] at HF ⊢
        clear he
        refine hK.out _ _ ?_ (fun hHeld => ?_)
        · exact HF.out.st.2.2.1
        clear hK K
        try simp only [Act.put, ly1, ly2, ly3]
        refine wpAnyH_at (m := 5) (k := #[true, false, true, true, true, false, false, true, true, false, false]) (by kernel_rfl) (by kernel_rfl) ?_
        exact K0socp.out im co so cp dA dB bA bB v ⟨HF, trivial⟩
    · apply hide
      rintro im co so cp dA dB bA bB V ⟨HF, -⟩
      refine wpAnyH_ready (rs := [1, 6, 7]) (by kernel_rfl) (by simp) ?_
      refine AllReadyH.cons (o := { dst := some 9, op := Op.call { callee := Callee.value (Operand.func 57), args := #[], argTypes := #[] }, type := 22, pos := "l08_node.go:51", after := #[], guard := none }) rfl (fun K hK => ?_) ?_
      · go_simp
        refine (image_i V).mono ?_
        rintro e v ⟨rfl, r1, c1⟩
        have HF := hide (HF.out.im r1 c1)
        obtain ⟨im, him⟩ : ∃ x, x = V.heap.size := ⟨_, rfl⟩
        rw [← him] at HF ⊢
        clear r1 c1 him
        go_wp2_with fail
        refine hK.out _ _ ?_ (fun hHeld => ?_)
        · exact HF.out.st.2.2.1
        clear hK K
        try simp only [Act.put, ly1, ly2, ly3]
        refine wpAnyH_at (m := 5) (k := #[true, true, true, true, true, false, false, false, true, false, false]) (by kernel_rfl) (by kernel_rfl) ?_
        exact K1cp.out im co so cp dA dB bA bB v ⟨HF, trivial⟩
      refine AllReadyH.cons (o := { dst := some 14, op := Op.makeSlice 29 (Operand.const (Value.int IntKind.i64 3)) (Operand.const (Value.int IntKind.i64 3)), type := 29, pos := "l08_node.go:48", after := #[], guard := none }) rfl (fun K hK => ?_) ?_
      · go_simp
        obtain ⟨v, hv⟩ : ∃ x, x = V.alloc (.cells (madeCells #[.bool false] 3) 4) := ⟨_, rfl⟩
        have HF := hide (HF.out.co hv)
        rw [← hv]
        clear hv
        obtain ⟨co, he⟩ : ∃ x, x = V.heap.size := ⟨_, rfl⟩
        rw [← he] at HF ⊢
        clear he
        refine hK.out _ _ ?_ (fun hHeld => ?_)
        · exact HF.out.st.2.2.1
        clear hK K
        try simp only [Act.put, ly1, ly2, ly3]
        refine wpAnyH_at (m := 5) (k := #[true, false, true, true, true, false, true, false, true, false, false]) (by kernel_rfl) (by kernel_rfl) ?_
        exact K0cocp.out im co so cp dA dB bA bB v ⟨HF, trivial⟩
      refine AllReadyH.cons (o := { dst := some 15, op := Op.makeSlice 23 (Operand.const (Value.int IntKind.i64 3)) (Operand.const (Value.int IntKind.i64 3)), type := 23, pos := "l08_node.go:48", after := #[], guard := none }) rfl (fun K hK => ?_) AllReadyH.nil
      · go_simp
        obtain ⟨v, hv⟩ : ∃ x, x = V.alloc (.cells (madeCells #[.slice none 0 0] 3) 22) := ⟨_, rfl⟩
        have HF := hide (HF.out.so hv)
        rw [← hv]
        clear hv
        obtain ⟨so, he⟩ : ∃ x, x = V.heap.size := ⟨_, rfl⟩
        rw [← he] at HF ⊢
        clear he
        refine hK.out _ _ ?_ (fun hHeld => ?_)
        · exact HF.out.st.2.2.1
        clear hK K
        try simp only [Act.put, ly1, ly2, ly3]
        refine wpAnyH_at (m := 5) (k := #[true, false, true, true, true, false, false, true, true, false, false]) (by kernel_rfl) (by kernel_rfl) ?_
        exact K0socp.out im co so cp dA dB bA bB v ⟨HF, trivial⟩
    · apply hide
      rintro im co so cp dA dB bA bB V ⟨HF, -⟩
      refine wpAnyH_ready (rs := [5, 6, 7, 8]) (by kernel_rfl) (by simp) ?_
      refine AllReadyH.cons (o := { dst := some 13, op := Op.call { callee := Callee.value (Operand.func 58), args := #[Operand.tmp 11, Operand.tmp 12], argTypes := #[28, 25] }, type := 28, pos := "l08_node.go:53", after := #[{ on := 3, ground := Ground.data }, { on := 4, ground := Ground.data }, { on := 1, ground := Ground.chain }], guard := none }) rfl (fun K hK => ?_) ?_
      · go_simp
        refine (hslp.out V _ _ _ _ _ HF.out).mono ?_
        rintro e v ⟨bA, bB, dA, dB, rfl, r1, c1, n1, n2⟩
        have HNC : Hid (NC bA dA ∧ NC bB dB) := ⟨n1, n2⟩
        have HF := hide (HF.out.sl (x := rwS Classical.propDecidable bA dA bB dB) (rs_osl r1) c1)
        clear r1 c1 n1 n2
        go_wp2_with fail
        refine hK.out _ _ ?_ (fun hHeld => ?_)
        · exact HF.out.st.2.2.1
        clear hK K
        try simp only [Act.put, ly1, ly2, ly3]
        refine wpAnyH_at (m := 5) (k := #[true, true, true, true, true, true, false, false, false, false, false]) (by kernel_rfl) (by kernel_rfl) ?_
        exact K2.out im co so cp dA dB bA bB v ⟨HF, HNC⟩
      refine AllReadyH.cons (o := { dst := some 14, op := Op.makeSlice 29 (Operand.const (Value.int IntKind.i64 3)) (Operand.const (Value.int IntKind.i64 3)), type := 29, pos := "l08_node.go:48", after := #[], guard := none }) rfl (fun K hK => ?_) ?_
      · go_simp
        obtain ⟨v, hv⟩ : ∃ x, x = V.alloc (.cells (madeCells #[.bool false] 3) 4) := ⟨_, rfl⟩
        have HF := hide (HF.out.co hv)
        rw [← hv]
        clear hv
        obtain ⟨co, he⟩ : ∃ x, x = V.heap.size := ⟨_, rfl⟩
        rw [← he] at HF ⊢
        clear he
        refine hK.out _ _ ?_ (fun hHeld => ?_)
        · exact HF.out.st.2.2.1
        clear hK K
        try simp only [Act.put, ly1, ly2, ly3]
        refine wpAnyH_at (m := 5) (k := #[true, true, true, true, true, false, true, false, false, false, false]) (by kernel_rfl) (by kernel_rfl) ?_
        exact K1co.out im co so cp dA dB bA bB v ⟨HF, trivial⟩
      refine AllReadyH.cons (o := { dst := some 15, op := Op.makeSlice 23 (Operand.const (Value.int IntKind.i64 3)) (Operand.const (Value.int IntKind.i64 3)), type := 23, pos := "l08_node.go:48", after := #[], guard := none }) rfl (fun K hK => ?_) ?_
      · go_simp
        obtain ⟨v, hv⟩ : ∃ x, x = V.alloc (.cells (madeCells #[.slice none 0 0] 3) 22) := ⟨_, rfl⟩
        have HF := hide (HF.out.so hv)
        rw [← hv]
        clear hv
        obtain ⟨so, he⟩ : ∃ x, x = V.heap.size := ⟨_, rfl⟩
        rw [← he] at HF ⊢
        clear he
        refine hK.out _ _ ?_ (fun hHeld => ?_)
        · exact HF.out.st.2.2.1
        clear hK K
        try simp only [Act.put, ly1, ly2, ly3]
        refine wpAnyH_at (m := 5) (k := #[true, true, true, true, true, false, false, true, false, false, false]) (by kernel_rfl) (by kernel_rfl) ?_
        exact K1so.out im co so cp dA dB bA bB v ⟨HF, trivial⟩
      refine AllReadyH.cons (o := { dst := some 16, op := Op.makeSlice 29 (Operand.const (Value.int IntKind.i64 3)) (Operand.const (Value.int IntKind.i64 3)), type := 29, pos := "l08_node.go:48", after := #[], guard := none }) rfl (fun K hK => ?_) AllReadyH.nil
      · go_simp
        obtain ⟨v, hv⟩ : ∃ x, x = V.alloc (.cells (madeCells #[.bool false] 3) 4) := ⟨_, rfl⟩
        have HF := hide (HF.out.cp hv)
        rw [← hv]
        clear hv
        obtain ⟨cp, he⟩ : ∃ x, x = V.heap.size := ⟨_, rfl⟩
        rw [← he] at HF ⊢
        clear he
        refine hK.out _ _ ?_ (fun hHeld => ?_)
        · exact HF.out.st.2.2.1
        clear hK K
        try simp only [Act.put, ly1, ly2, ly3]
        refine wpAnyH_at (m := 5) (k := #[true, true, true, true, true, false, false, false, true, false, false]) (by kernel_rfl) (by kernel_rfl) ?_
        exact K1cp.out im co so cp dA dB bA bB v ⟨HF, trivial⟩
    · apply hide
      rintro im co so cp dA dB bA bB V ⟨HF, -⟩
      refine wpAnyH_ready (rs := [1, 8]) (by kernel_rfl) (by simp) ?_
      refine AllReadyH.cons (o := { dst := some 9, op := Op.call { callee := Callee.value (Operand.func 57), args := #[], argTypes := #[] }, type := 22, pos := "l08_node.go:51", after := #[], guard := none }) rfl (fun K hK => ?_) ?_
      · go_simp
        refine (image_i V).mono ?_
        rintro e v ⟨rfl, r1, c1⟩
        have HF := hide (HF.out.im r1 c1)
        obtain ⟨im, him⟩ : ∃ x, x = V.heap.size := ⟨_, rfl⟩
        rw [← him] at HF ⊢
        clear r1 c1 him
        go_wp2_with fail
        refine hK.out _ _ ?_ (fun hHeld => ?_)
        · exact HF.out.st.2.2.1
        clear hK K
        try simp only [Act.put, ly1, ly2, ly3]
        refine wpAnyH_at (m := 4) (k := #[true, true, true, true, true, false, true, true, false, false, false]) (by kernel_rfl) (by kernel_rfl) ?_
        exact K1coso.out im co so cp dA dB bA bB v ⟨HF, trivial⟩
      refine AllReadyH.cons (o := { dst := some 16, op := Op.makeSlice 29 (Operand.const (Value.int IntKind.i64 3)) (Operand.const (Value.int IntKind.i64 3)), type := 29, pos := "l08_node.go:48", after := #[], guard := none }) rfl (fun K hK => ?_) AllReadyH.nil
      · go_simp
        obtain ⟨v, hv⟩ : ∃ x, x = V.alloc (.cells (madeCells #[.bool false] 3) 4) := ⟨_, rfl⟩
        have HF := hide (HF.out.cp hv)
        rw [← hv]
        clear hv
        obtain ⟨cp, he⟩ : ∃ x, x = V.heap.size := ⟨_, rfl⟩
        rw [← he] at HF ⊢
        clear he
        refine hK.out _ _ ?_ (fun hHeld => ?_)
        · exact HF.out.st.2.2.1
        clear hK K
        try simp only [Act.put, ly1, ly2, ly3]
        refine wpAnyH_at (m := 4) (k := #[true, false, true, true, true, false, true, true, true, false, false]) (by kernel_rfl) (by kernel_rfl) ?_
        exact K0cosocp.out im co so cp dA dB bA bB v ⟨HF, trivial⟩
    · apply hide
      rintro im co so cp dA dB bA bB V ⟨HF, -⟩
      refine wpAnyH_ready (rs := [1, 7]) (by kernel_rfl) (by simp) ?_
      refine AllReadyH.cons (o := { dst := some 9, op := Op.call { callee := Callee.value (Operand.func 57), args := #[], argTypes := #[] }, type := 22, pos := "l08_node.go:51", after := #[], guard := none }) rfl (fun K hK => ?_) ?_
      · go_simp
        refine (image_i V).mono ?_
        rintro e v ⟨rfl, r1, c1⟩
        have HF := hide (HF.out.im r1 c1)
        obtain ⟨im, him⟩ : ∃ x, x = V.heap.size := ⟨_, rfl⟩
        rw [← him] at HF ⊢
        clear r1 c1 him
        go_wp2_with fail
        refine hK.out _ _ ?_ (fun hHeld => ?_)
        · exact HF.out.st.2.2.1
        clear hK K
        try simp only [Act.put, ly1, ly2, ly3]
        refine wpAnyH_at (m := 4) (k := #[true, true, true, true, true, false, true, false, true, false, false]) (by kernel_rfl) (by kernel_rfl) ?_
        exact K1cocp.out im co so cp dA dB bA bB v ⟨HF, trivial⟩
      refine AllReadyH.cons (o := { dst := some 15, op := Op.makeSlice 23 (Operand.const (Value.int IntKind.i64 3)) (Operand.const (Value.int IntKind.i64 3)), type := 23, pos := "l08_node.go:48", after := #[], guard := none }) rfl (fun K hK => ?_) AllReadyH.nil
      · go_simp
        obtain ⟨v, hv⟩ : ∃ x, x = V.alloc (.cells (madeCells #[.slice none 0 0] 3) 22) := ⟨_, rfl⟩
        have HF := hide (HF.out.so hv)
        rw [← hv]
        clear hv
        obtain ⟨so, he⟩ : ∃ x, x = V.heap.size := ⟨_, rfl⟩
        rw [← he] at HF ⊢
        clear he
        refine hK.out _ _ ?_ (fun hHeld => ?_)
        · exact HF.out.st.2.2.1
        clear hK K
        try simp only [Act.put, ly1, ly2, ly3]
        refine wpAnyH_at (m := 4) (k := #[true, false, true, true, true, false, true, true, true, false, false]) (by kernel_rfl) (by kernel_rfl) ?_
        exact K0cosocp.out im co so cp dA dB bA bB v ⟨HF, trivial⟩
    · apply hide
      rintro im co so cp dA dB bA bB V ⟨HF, -⟩
      refine wpAnyH_ready (rs := [1, 6]) (by kernel_rfl) (by simp) ?_
      refine AllReadyH.cons (o := { dst := some 9, op := Op.call { callee := Callee.value (Operand.func 57), args := #[], argTypes := #[] }, type := 22, pos := "l08_node.go:51", after := #[], guard := none }) rfl (fun K hK => ?_) ?_
      · go_simp
        refine (image_i V).mono ?_
        rintro e v ⟨rfl, r1, c1⟩
        have HF := hide (HF.out.im r1 c1)
        obtain ⟨im, him⟩ : ∃ x, x = V.heap.size := ⟨_, rfl⟩
        rw [← him] at HF ⊢
        clear r1 c1 him
        go_wp2_with fail
        refine hK.out _ _ ?_ (fun hHeld => ?_)
        · exact HF.out.st.2.2.1
        clear hK K
        try simp only [Act.put, ly1, ly2, ly3]
        refine wpAnyH_at (m := 4) (k := #[true, true, true, true, true, false, false, true, true, false, false]) (by kernel_rfl) (by kernel_rfl) ?_
        exact K1socp.out im co so cp dA dB bA bB v ⟨HF, trivial⟩
      refine AllReadyH.cons (o := { dst := some 14, op := Op.makeSlice 29 (Operand.const (Value.int IntKind.i64 3)) (Operand.const (Value.int IntKind.i64 3)), type := 29, pos := "l08_node.go:48", after := #[], guard := none }) rfl (fun K hK => ?_) AllReadyH.nil
      · go_simp
        obtain ⟨v, hv⟩ : ∃ x, x = V.alloc (.cells (madeCells #[.bool false] 3) 4) := ⟨_, rfl⟩
        have HF := hide (HF.out.co hv)
        rw [← hv]
        clear hv
        obtain ⟨co, he⟩ : ∃ x, x = V.heap.size := ⟨_, rfl⟩
        rw [← he] at HF ⊢
        clear he
        refine hK.out _ _ ?_ (fun hHeld => ?_)
        · exact HF.out.st.2.2.1
        clear hK K
        try simp only [Act.put, ly1, ly2, ly3]
        refine wpAnyH_at (m := 4) (k := #[true, false, true, true, true, false, true, true, true, false, false]) (by kernel_rfl) (by kernel_rfl) ?_
        exact K0cosocp.out im co so cp dA dB bA bB v ⟨HF, trivial⟩
    · apply hide
      rintro im co so cp dA dB bA bB V ⟨HF, -⟩
      refine wpAnyH_ready (rs := [5, 7, 8]) (by kernel_rfl) (by simp) ?_
      refine AllReadyH.cons (o := { dst := some 13, op := Op.call { callee := Callee.value (Operand.func 58), args := #[Operand.tmp 11, Operand.tmp 12], argTypes := #[28, 25] }, type := 28, pos := "l08_node.go:53", after := #[{ on := 3, ground := Ground.data }, { on := 4, ground := Ground.data }, { on := 1, ground := Ground.chain }], guard := none }) rfl (fun K hK => ?_) ?_
      · go_simp
        refine (hslp.out V _ _ _ _ _ HF.out).mono ?_
        rintro e v ⟨bA, bB, dA, dB, rfl, r1, c1, n1, n2⟩
        have HNC : Hid (NC bA dA ∧ NC bB dB) := ⟨n1, n2⟩
        have HF := hide (HF.out.sl (x := rwS Classical.propDecidable bA dA bB dB) (rs_osl r1) c1)
        clear r1 c1 n1 n2
        go_wp2_with fail
        refine hK.out _ _ ?_ (fun hHeld => ?_)
        · exact HF.out.st.2.2.1
        clear hK K
        try simp only [Act.put, ly1, ly2, ly3]
        refine wpAnyH_at (m := 4) (k := #[true, true, true, true, true, true, true, false, false, false, false]) (by kernel_rfl) (by kernel_rfl) ?_
        exact K2co.out im co so cp dA dB bA bB v ⟨HF, HNC⟩
      refine AllReadyH.cons (o := { dst := some 15, op := Op.makeSlice 23 (Operand.const (Value.int IntKind.i64 3)) (Operand.const (Value.int IntKind.i64 3)), type := 23, pos := "l08_node.go:48", after := #[], guard := none }) rfl (fun K hK => ?_) ?_
      · go_simp
        obtain ⟨v, hv⟩ : ∃ x, x = V.alloc (.cells (madeCells #[.slice none 0 0] 3) 22) := ⟨_, rfl⟩
        have HF := hide (HF.out.so hv)
        rw [← hv]
        clear hv
        obtain ⟨so, he⟩ : ∃ x, x = V.heap.size := ⟨_, rfl⟩
        rw [← he] at HF ⊢
        clear he
        refine hK.out _ _ ?_ (fun hHeld => ?_)
        · exact HF.out.st.2.2.1
        clear hK K
        try simp only [Act.put, ly1, ly2, ly3]
        refine wpAnyH_at (m := 4) (k := #[true, true, true, true, true, false, true, true, false, false, false]) (by kernel_rfl) (by kernel_rfl) ?_
        exact K1coso.out im co so cp dA dB bA bB v ⟨HF, trivial⟩
      refine AllReadyH.cons (o := { dst := some 16, op := Op.makeSlice 29 (Operand.const (Value.int IntKind.i64 3)) (Operand.const (Value.int IntKind.i64 3)), type := 29, pos := "l08_node.go:48", after := #[], guard := none }) rfl (fun K hK => ?_) AllReadyH.nil
      · go_simp
        obtain ⟨v, hv⟩ : ∃ x, x = V.alloc (.cells (madeCells #[.bool false] 3) 4) := ⟨_, rfl⟩
        have HF := hide (HF.out.cp hv)
        rw [← hv]
        clear hv
        obtain ⟨cp, he⟩ : ∃ x, x = V.heap.size := ⟨_, rfl⟩
        rw [← he] at HF ⊢
        clear he
        refine hK.out _ _ ?_ (fun hHeld => ?_)
        · exact HF.out.st.2.2.1
        clear hK K
        try simp only [Act.put, ly1, ly2, ly3]
        refine wpAnyH_at (m := 4) (k := #[true, true, true, true, true, false, true, false, true, false, false]) (by kernel_rfl) (by kernel_rfl) ?_
        exact K1cocp.out im co so cp dA dB bA bB v ⟨HF, trivial⟩
    · apply hide
      rintro im co so cp dA dB bA bB V ⟨HF, -⟩
      refine wpAnyH_ready (rs := [5, 6, 8]) (by kernel_rfl) (by simp) ?_
      refine AllReadyH.cons (o := { dst := some 13, op := Op.call { callee := Callee.value (Operand.func 58), args := #[Operand.tmp 11, Operand.tmp 12], argTypes := #[28, 25] }, type := 28, pos := "l08_node.go:53", after := #[{ on := 3, ground := Ground.data }, { on := 4, ground := Ground.data }, { on := 1, ground := Ground.chain }], guard := none }) rfl (fun K hK => ?_) ?_
      · go_simp
        refine (hslp.out V _ _ _ _ _ HF.out).mono ?_
        rintro e v ⟨bA, bB, dA, dB, rfl, r1, c1, n1, n2⟩
        have HNC : Hid (NC bA dA ∧ NC bB dB) := ⟨n1, n2⟩
        have HF := hide (HF.out.sl (x := rwS Classical.propDecidable bA dA bB dB) (rs_osl r1) c1)
        clear r1 c1 n1 n2
        go_wp2_with fail
        refine hK.out _ _ ?_ (fun hHeld => ?_)
        · exact HF.out.st.2.2.1
        clear hK K
        try simp only [Act.put, ly1, ly2, ly3]
        refine wpAnyH_at (m := 4) (k := #[true, true, true, true, true, true, false, true, false, false, false]) (by kernel_rfl) (by kernel_rfl) ?_
        exact K2so.out im co so cp dA dB bA bB v ⟨HF, HNC⟩
      refine AllReadyH.cons (o := { dst := some 14, op := Op.makeSlice 29 (Operand.const (Value.int IntKind.i64 3)) (Operand.const (Value.int IntKind.i64 3)), type := 29, pos := "l08_node.go:48", after := #[], guard := none }) rfl (fun K hK => ?_) ?_
      · go_simp
        obtain ⟨v, hv⟩ : ∃ x, x = V.alloc (.cells (madeCells #[.bool false] 3) 4) := ⟨_, rfl⟩
        have HF := hide (HF.out.co hv)
        rw [← hv]
        clear hv
        obtain ⟨co, he⟩ : ∃ x, x = V.heap.size := ⟨_, rfl⟩
        rw [← he] at HF ⊢
        clear he
        refine hK.out _ _ ?_ (fun hHeld => ?_)
        · exact HF.out.st.2.2.1
        clear hK K
        try simp only [Act.put, ly1, ly2, ly3]
        refine wpAnyH_at (m := 4) (k := #[true, true, true, true, true, false, true, true, false, false, false]) (by kernel_rfl) (by kernel_rfl) ?_
        exact K1coso.out im co so cp dA dB bA bB v ⟨HF, trivial⟩
      refine AllReadyH.cons (o := { dst := some 16, op := Op.makeSlice 29 (Operand.const (Value.int IntKind.i64 3)) (Operand.const (Value.int IntKind.i64 3)), type := 29, pos := "l08_node.go:48", after := #[], guard := none }) rfl (fun K hK => ?_) AllReadyH.nil
      · go_simp
        obtain ⟨v, hv⟩ : ∃ x, x = V.alloc (.cells (madeCells #[.bool false] 3) 4) := ⟨_, rfl⟩
        have HF := hide (HF.out.cp hv)
        rw [← hv]
        clear hv
        obtain ⟨cp, he⟩ : ∃ x, x = V.heap.size := ⟨_, rfl⟩
        rw [← he] at HF ⊢
        clear he
        refine hK.out _ _ ?_ (fun hHeld => ?_)
        · exact HF.out.st.2.2.1
        clear hK K
        try simp only [Act.put, ly1, ly2, ly3]
        refine wpAnyH_at (m := 4) (k := #[true, true, true, true, true, false, false, true, true, false, false]) (by kernel_rfl) (by kernel_rfl) ?_
        exact K1socp.out im co so cp dA dB bA bB v ⟨HF, trivial⟩
    · apply hide
      rintro im co so cp dA dB bA bB V ⟨HF, -⟩
      refine wpAnyH_ready (rs := [5, 6, 7]) (by kernel_rfl) (by simp) ?_
      refine AllReadyH.cons (o := { dst := some 13, op := Op.call { callee := Callee.value (Operand.func 58), args := #[Operand.tmp 11, Operand.tmp 12], argTypes := #[28, 25] }, type := 28, pos := "l08_node.go:53", after := #[{ on := 3, ground := Ground.data }, { on := 4, ground := Ground.data }, { on := 1, ground := Ground.chain }], guard := none }) rfl (fun K hK => ?_) ?_
      · go_simp
        refine (hslp.out V _ _ _ _ _ HF.out).mono ?_
        rintro e v ⟨bA, bB, dA, dB, rfl, r1, c1, n1, n2⟩
        have HNC : Hid (NC bA dA ∧ NC bB dB) := ⟨n1, n2⟩
        have HF := hide (HF.out.sl (x := rwS Classical.propDecidable bA dA bB dB) (rs_osl r1) c1)
        clear r1 c1 n1 n2
        go_wp2_with fail
        refine hK.out _ _ ?_ (fun hHeld => ?_)
        · exact HF.out.st.2.2.1
        clear hK K
        try simp only [Act.put, ly1, ly2, ly3]
        refine wpAnyH_at (m := 4) (k := #[true, true, true, true, true, true, false, false, true, false, false]) (by kernel_rfl) (by kernel_rfl) ?_
        exact K2cp.out im co so cp dA dB bA bB v ⟨HF, HNC⟩
      refine AllReadyH.cons (o := { dst := some 14, op := Op.makeSlice 29 (Operand.const (Value.int IntKind.i64 3)) (Operand.const (Value.int IntKind.i64 3)), type := 29, pos := "l08_node.go:48", after := #[], guard := none }) rfl (fun K hK => ?_) ?_
      · go_simp
        obtain ⟨v, hv⟩ : ∃ x, x = V.alloc (.cells (madeCells #[.bool false] 3) 4) := ⟨_, rfl⟩
        have HF := hide (HF.out.co hv)
        rw [← hv]
        clear hv
        obtain ⟨co, he⟩ : ∃ x, x = V.heap.size := ⟨_, rfl⟩
        rw [← he] at HF ⊢
        clear he
        refine hK.out _ _ ?_ (fun hHeld => ?_)
        · exact HF.out.st.2.2.1
        clear hK K
        try simp only [Act.put, ly1, ly2, ly3]
        refine wpAnyH_at (m := 4) (k := #[true, true, true, true, true, false, true, false, true, false, false]) (by kernel_rfl) (by kernel_rfl) ?_
        exact K1cocp.out im co so cp dA dB bA bB v ⟨HF, trivial⟩
      refine AllReadyH.cons (o := { dst := some 15, op := Op.makeSlice 23 (Operand.const (Value.int IntKind.i64 3)) (Operand.const (Value.int IntKind.i64 3)), type := 23, pos := "l08_node.go:48", after := #[], guard := none }) rfl (fun K hK => ?_) AllReadyH.nil
      · go_simp
        obtain ⟨v, hv⟩ : ∃ x, x = V.alloc (.cells (madeCells #[.slice none 0 0] 3) 22) := ⟨_, rfl⟩
        have HF := hide (HF.out.so hv)
        rw [← hv]
        clear hv
        obtain ⟨so, he⟩ : ∃ x, x = V.heap.size := ⟨_, rfl⟩
        rw [← he] at HF ⊢
        clear he
        refine hK.out _ _ ?_ (fun hHeld => ?_)
        · exact HF.out.st.2.2.1
        clear hK K
        try simp only [Act.put, ly1, ly2, ly3]
        refine wpAnyH_at (m := 4) (k := #[true, true, true, true, true, false, false, true, true, false, false]) (by kernel_rfl) (by kernel_rfl) ?_
        exact K1socp.out im co so cp dA dB bA bB v ⟨HF, trivial⟩
    · apply hide
      rintro im co so cp dA dB bA bB V ⟨HF, HNC⟩
      refine wpAnyH_ready (rs := [6, 7, 8]) (by kernel_rfl) (by simp) ?_
      refine AllReadyH.cons (o := { dst := some 14, op := Op.makeSlice 29 (Operand.const (Value.int IntKind.i64 3)) (Operand.const (Value.int IntKind.i64 3)), type := 29, pos := "l08_node.go:48", after := #[], guard := none }) rfl (fun K hK => ?_) ?_
      · go_simp
        obtain ⟨v, hv⟩ : ∃ x, x = V.alloc (.cells (madeCells #[.bool false] 3) 4) := ⟨_, rfl⟩
        have HF := hide (HF.out.co hv)
        rw [← hv]
        clear hv
        obtain ⟨co, he⟩ : ∃ x, x = V.heap.size := ⟨_, rfl⟩
        rw [← he] at HF ⊢
        clear he
        refine hK.out _ _ ?_ (fun hHeld => ?_)
        · exact HF.out.st.2.2.1
        clear hK K
        try simp only [Act.put, ly1, ly2, ly3]
        refine wpAnyH_at (m := 4) (k := #[true, true, true, true, true, true, true, false, false, false, false]) (by kernel_rfl) (by kernel_rfl) ?_
        exact K2co.out im co so cp dA dB bA bB v ⟨HF, HNC⟩
      refine AllReadyH.cons (o := { dst := some 15, op := Op.makeSlice 23 (Operand.const (Value.int IntKind.i64 3)) (Operand.const (Value.int IntKind.i64 3)), type := 23, pos := "l08_node.go:48", after := #[], guard := none }) rfl (fun K hK => ?_) ?_
      · go_simp
        obtain ⟨v, hv⟩ : ∃ x, x = V.alloc (.cells (madeCells #[.slice none 0 0] 3) 22) := ⟨_, rfl⟩
        have HF := hide (HF.out.so hv)
        rw [← hv]
        clear hv
        obtain ⟨so, he⟩ : ∃ x, x = V.heap.size := ⟨_, rfl⟩
        rw [← he] at HF ⊢
        clear he
        refine hK.out _ _ ?_ (fun hHeld => ?_)
        · exact HF.out.st.2.2.1
        clear hK K
        try simp only [Act.put, ly1, ly2, ly3]
        refine wpAnyH_at (m := 4) (k := #[true, true, true, true, true, true, false, true, false, false, false]) (by kernel_rfl) (by kernel_rfl) ?_
        exact K2so.out im co so cp dA dB bA bB v ⟨HF, HNC⟩
      refine AllReadyH.cons (o := { dst := some 16, op := Op.makeSlice 29 (Operand.const (Value.int IntKind.i64 3)) (Operand.const (Value.int IntKind.i64 3)), type := 29, pos := "l08_node.go:48", after := #[], guard := none }) rfl (fun K hK => ?_) AllReadyH.nil
      · go_simp
        obtain ⟨v, hv⟩ : ∃ x, x = V.alloc (.cells (madeCells #[.bool false] 3) 4) := ⟨_, rfl⟩
        have HF := hide (HF.out.cp hv)
        rw [← hv]
        clear hv
        obtain ⟨cp, he⟩ : ∃ x, x = V.heap.size := ⟨_, rfl⟩
        rw [← he] at HF ⊢
        clear he
        refine hK.out _ _ ?_ (fun hHeld => ?_)
        · exact HF.out.st.2.2.1
        clear hK K
        try simp only [Act.put, ly1, ly2, ly3]
        refine wpAnyH_at (m := 4) (k := #[true, true, true, true, true, true, false, false, true, false, false]) (by kernel_rfl) (by kernel_rfl) ?_
        exact K2cp.out im co so cp dA dB bA bB v ⟨HF, HNC⟩
    · apply hide
      rintro im co so cp dA dB bA bB V ⟨HF, -⟩
      refine wpAnyH_ready (rs := [1]) (by kernel_rfl) (by simp) ?_
      refine AllReadyH.cons (o := { dst := some 9, op := Op.call { callee := Callee.value (Operand.func 57), args := #[], argTypes := #[] }, type := 22, pos := "l08_node.go:51", after := #[], guard := none }) rfl (fun K hK => ?_) AllReadyH.nil
      go_simp
      refine (image_i V).mono ?_
      rintro e v ⟨rfl, r1, c1⟩
      have HF := hide (HF.out.im r1 c1)
      obtain ⟨im, him⟩ : ∃ x, x = V.heap.size := ⟨_, rfl⟩
      rw [← him] at HF ⊢
      clear r1 c1 him
      go_wp2_with fail
      refine hK.out _ _ ?_ (fun hHeld => ?_)
      · exact HF.out.st.2.2.1
      clear hK K
      try simp only [Act.put, ly1, ly2, ly3]
      refine wpAnyH_at (m := 3) (k := #[true, true, true, true, true, false, true, true, true, false, false]) (by kernel_rfl) (by kernel_rfl) ?_
      exact K1cosocp.out im co so cp dA dB bA bB v ⟨HF, trivial⟩
    · apply hide
      rintro im co so cp dA dB bA bB V ⟨HF, -⟩
      refine wpAnyH_ready (rs := [5, 8]) (by kernel_rfl) (by simp) ?_
      refine AllReadyH.cons (o := { dst := some 13, op := Op.call { callee := Callee.value (Operand.func 58), args := #[Operand.tmp 11, Operand.tmp 12], argTypes := #[28, 25] }, type := 28, pos := "l08_node.go:53", after := #[{ on := 3, ground := Ground.data }, { on := 4, ground := Ground.data }, { on := 1, ground := Ground.chain }], guard := none }) rfl (fun K hK => ?_) ?_
      · go_simp
        refine (hslp.out V _ _ _ _ _ HF.out).mono ?_
        rintro e v ⟨bA, bB, dA, dB, rfl, r1, c1, n1, n2⟩
        have HNC : Hid (NC bA dA ∧ NC bB dB) := ⟨n1, n2⟩
        have HF := hide (HF.out.sl (x := rwS Classical.propDecidable bA dA bB dB) (rs_osl r1) c1)
        clear r1 c1 n1 n2
        go_wp2_with fail
        refine hK.out _ _ ?_ (fun hHeld => ?_)
        · exact HF.out.st.2.2.1
        clear hK K
        try simp only [Act.put, ly1, ly2, ly3]
        refine wpAnyH_at (m := 3) (k := #[true, true, true, true, true, true, true, true, false, false, false]) (by kernel_rfl) (by kernel_rfl) ?_
        exact K2coso.out im co so cp dA dB bA bB v ⟨HF, HNC⟩
      refine AllReadyH.cons (o := { dst := some 16, op := Op.makeSlice 29 (Operand.const (Value.int IntKind.i64 3)) (Operand.const (Value.int IntKind.i64 3)), type := 29, pos := "l08_node.go:48", after := #[], guard := none }) rfl (fun K hK => ?_) AllReadyH.nil
      · go_simp
        obtain ⟨v, hv⟩ : ∃ x, x = V.alloc (.cells (madeCells #[.bool false] 3) 4) := ⟨_, rfl⟩
        have HF := hide (HF.out.cp hv)
        rw [← hv]
        clear hv
        obtain ⟨cp, he⟩ : ∃ x, x = V.heap.size := ⟨_, rfl⟩
        rw [← he] at HF ⊢
        clear he
        refine hK.out _ _ ?_ (fun hHeld => ?_)
        · exact HF.out.st.2.2.1
        clear hK K
        try simp only [Act.put, ly1, ly2, ly3]
        refine wpAnyH_at (m := 3) (k := #[true, true, true, true, true, false, true, true, true, false, false]) (by kernel_rfl) (by kernel_rfl) ?_
        exact K1cosocp.out im co so cp dA dB bA bB v ⟨HF, trivial⟩
    · apply hide
      rintro im co so cp dA dB bA bB V ⟨HF, -⟩
      refine wpAnyH_ready (rs := [5, 7]) (by kernel_rfl) (by simp) ?_
      refine AllReadyH.cons (o := { dst := some 13, op := Op.call { callee := Callee.value (Operand.func 58), args := #[Operand.tmp 11, Operand.tmp 12], argTypes := #[28, 25] }, type := 28, pos := "l08_node.go:53", after := #[{ on := 3, ground := Ground.data }, { on := 4, ground := Ground.data }, { on := 1, ground := Ground.chain }], guard := none }) rfl (fun K hK => ?_) ?_
      · go_simp
        refine (hslp.out V _ _ _ _ _ HF.out).mono ?_
        rintro e v ⟨bA, bB, dA, dB, rfl, r1, c1, n1, n2⟩
        have HNC : Hid (NC bA dA ∧ NC bB dB) := ⟨n1, n2⟩
        have HF := hide (HF.out.sl (x := rwS Classical.propDecidable bA dA bB dB) (rs_osl r1) c1)
        clear r1 c1 n1 n2
        go_wp2_with fail
        refine hK.out _ _ ?_ (fun hHeld => ?_)
        · exact HF.out.st.2.2.1
        clear hK K
        try simp only [Act.put, ly1, ly2, ly3]
        refine wpAnyH_at (m := 3) (k := #[true, true, true, true, true, true, true, false, true, false, false]) (by kernel_rfl) (by kernel_rfl) ?_
        exact K2cocp.out im co so cp dA dB bA bB v ⟨HF, HNC⟩
      refine AllReadyH.cons (o := { dst := some 15, op := Op.makeSlice 23 (Operand.const (Value.int IntKind.i64 3)) (Operand.const (Value.int IntKind.i64 3)), type := 23, pos := "l08_node.go:48", after := #[], guard := none }) rfl (fun K hK => ?_) AllReadyH.nil
      · go_simp
        obtain ⟨v, hv⟩ : ∃ x, x = V.alloc (.cells (madeCells #[.slice none 0 0] 3) 22) := ⟨_, rfl⟩
        have HF := hide (HF.out.so hv)
        rw [← hv]
        clear hv
        obtain ⟨so, he⟩ : ∃ x, x = V.heap.size := ⟨_, rfl⟩
        rw [← he] at HF ⊢
        clear he
        refine hK.out _ _ ?_ (fun hHeld => ?_)
        · exact HF.out.st.2.2.1
        clear hK K
        try simp only [Act.put, ly1, ly2, ly3]
        refine wpAnyH_at (m := 3) (k := #[true, true, true, true, true, false, true, true, true, false, false]) (by kernel_rfl) (by kernel_rfl) ?_
        exact K1cosocp.out im co so cp dA dB bA bB v ⟨HF, trivial⟩
    · apply hide
      rintro im co so cp dA dB bA bB V ⟨HF, -⟩
      refine wpAnyH_ready (rs := [5, 6]) (by kernel_rfl) (by simp) ?_
      refine AllReadyH.cons (o := { dst := some 13, op := Op.call { callee := Callee.value (Operand.func 58), args := #[Operand.tmp 11, Operand.tmp 12], argTypes := #[28, 25] }, type := 28, pos := "l08_node.go:53", after := #[{ on := 3, ground := Ground.data }, { on := 4, ground := Ground.data }, { on := 1, ground := Ground.chain }], guard := none }) rfl (fun K hK => ?_) ?_
      · go_simp
        refine (hslp.out V _ _ _ _ _ HF.out).mono ?_
        rintro e v ⟨bA, bB, dA, dB, rfl, r1, c1, n1, n2⟩
        have HNC : Hid (NC bA dA ∧ NC bB dB) := ⟨n1, n2⟩
        have HF := hide (HF.out.sl (x := rwS Classical.propDecidable bA dA bB dB) (rs_osl r1) c1)
        clear r1 c1 n1 n2
        go_wp2_with fail
        refine hK.out _ _ ?_ (fun hHeld => ?_)
        · exact HF.out.st.2.2.1
        clear hK K
        try simp only [Act.put, ly1, ly2, ly3]
        refine wpAnyH_at (m := 3) (k := #[true, true, true, true, true, true, false, true, true, false, false]) (by kernel_rfl) (by kernel_rfl) ?_
        exact K2socp.out im co so cp dA dB bA bB v ⟨HF, HNC⟩
      refine AllReadyH.cons (o := { dst := some 14, op := Op.makeSlice 29 (Operand.const (Value.int IntKind.i64 3)) (Operand.const (Value.int IntKind.i64 3)), type := 29, pos := "l08_node.go:48", after := #[], guard := none }) rfl (fun K hK => ?_) AllReadyH.nil
      · go_simp
        obtain ⟨v, hv⟩ : ∃ x, x = V.alloc (.cells (madeCells #[.bool false] 3) 4) := ⟨_, rfl⟩
        have HF := hide (HF.out.co hv)
        rw [← hv]
        clear hv
        obtain ⟨co, he⟩ : ∃ x, x = V.heap.size := ⟨_, rfl⟩
        rw [← he] at HF ⊢
        clear he
        refine hK.out _ _ ?_ (fun hHeld => ?_)
        · exact HF.out.st.2.2.1
        clear hK K
        try simp only [Act.put, ly1, ly2, ly3]
        refine wpAnyH_at (m := 3) (k := #[true, true, true, true, true, false, true, true, true, false, false]) (by kernel_rfl) (by kernel_rfl) ?_
        exact K1cosocp.out im co so cp dA dB bA bB v ⟨HF, trivial⟩
    · apply hide
      rintro im co so cp dA dB bA bB V ⟨HF, HNC⟩
      refine wpAnyH_ready (rs := [7, 8]) (by kernel_rfl) (by simp) ?_
      refine AllReadyH.cons (o := { dst := some 15, op := Op.makeSlice 23 (Operand.const (Value.int IntKind.i64 3)) (Operand.const (Value.int IntKind.i64 3)), type := 23, pos := "l08_node.go:48", after := #[], guard := none }) rfl (fun K hK => ?_) ?_
      · go_simp
        obtain ⟨v, hv⟩ : ∃ x, x = V.alloc (.cells (madeCells #[.slice none 0 0] 3) 22) := ⟨_, rfl⟩
        have HF := hide (HF.out.so hv)
        rw [← hv]
        clear hv
        obtain ⟨so, he⟩ : ∃ x, x = V.heap.size := ⟨_, rfl⟩
        rw [← he] at HF ⊢
        clear he
        refine hK.out _ _ ?_ (fun hHeld => ?_)
        · exact HF.out.st.2.2.1
        clear hK K
        try simp only [Act.put, ly1, ly2, ly3]
        refine wpAnyH_at (m := 3) (k := #[true, true, true, true, true, true, true, true, false, false, false]) (by kernel_rfl) (by kernel_rfl) ?_
        exact K2coso.out im co so cp dA dB bA bB v ⟨HF, HNC⟩
      refine AllReadyH.cons (o := { dst := some 16, op := Op.makeSlice 29 (Operand.const (Value.int IntKind.i64 3)) (Operand.const (Value.int IntKind.i64 3)), type := 29, pos := "l08_node.go:48", after := #[], guard := none }) rfl (fun K hK => ?_) AllReadyH.nil
      · go_simp
        obtain ⟨v, hv⟩ : ∃ x, x = V.alloc (.cells (madeCells #[.bool false] 3) 4) := ⟨_, rfl⟩
        have HF := hide (HF.out.cp hv)
        rw [← hv]
        clear hv
        obtain ⟨cp, he⟩ : ∃ x, x = V.heap.size := ⟨_, rfl⟩
        rw [← he] at HF ⊢
        clear he
        refine hK.out _ _ ?_ (fun hHeld => ?_)
        · exact HF.out.st.2.2.1
        clear hK K
        try simp only [Act.put, ly1, ly2, ly3]
        refine wpAnyH_at (m := 3) (k := #[true, true, true, true, true, true, true, false, true, false, false]) (by kernel_rfl) (by kernel_rfl) ?_
        exact K2cocp.out im co so cp dA dB bA bB v ⟨HF, HNC⟩
    · apply hide
      rintro im co so cp dA dB bA bB V ⟨HF, HNC⟩
      refine wpAnyH_ready (rs := [6, 8]) (by kernel_rfl) (by simp) ?_
      refine AllReadyH.cons (o := { dst := some 14, op := Op.makeSlice 29 (Operand.const (Value.int IntKind.i64 3)) (Operand.const (Value.int IntKind.i64 3)), type := 29, pos := "l08_node.go:48", after := #[], guard := none }) rfl (fun K hK => ?_) ?_
      · go_simp
        obtain ⟨v, hv⟩ : ∃ x, x = V.alloc (.cells (madeCells #[.bool false] 3) 4) := ⟨_, rfl⟩
        have HF := hide (HF.out.co hv)
        rw [← hv]
        clear hv
        obtain ⟨co, he⟩ : ∃ x, x = V.heap.size := ⟨_, rfl⟩
        rw [← he] at HF ⊢
        clear he
        refine hK.out _ _ ?_ (fun hHeld => ?_)
        · exact HF.out.st.2.2.1
        clear hK K
        try simp only [Act.put, ly1, ly2, ly3]
        refine wpAnyH_at (m := 3) (k := #[true, true, true, true, true, true, true, true, false, false, false]) (by kernel_rfl) (by kernel_rfl) ?_
        exact K2coso.out im co so cp dA dB bA bB v ⟨HF, HNC⟩
      refine AllReadyH.cons (o := { dst := some 16, op := Op.makeSlice 29 (Operand.const (Value.int IntKind.i64 3)) (Operand.const (Value.int IntKind.i64 3)), type := 29, pos := "l08_node.go:48", after := #[], guard := none }) rfl (fun K hK => ?_) AllReadyH.nil
      · go_simp
        obtain ⟨v, hv⟩ : ∃ x, x = V.alloc (.cells (madeCells #[.bool false] 3) 4) := ⟨_, rfl⟩
        have HF := hide (HF.out.cp hv)
        rw [← hv]
        clear hv
        obtain ⟨cp, he⟩ : ∃ x, x = V.heap.size := ⟨_, rfl⟩
        rw [← he] at HF ⊢
        clear he
        refine hK.out _ _ ?_ (fun hHeld => ?_)
        · exact HF.out.st.2.2.1
        clear hK K
        try simp only [Act.put, ly1, ly2, ly3]
        refine wpAnyH_at (m := 3) (k := #[true, true, true, true, true, true, false, true, true, false, false]) (by kernel_rfl) (by kernel_rfl) ?_
        exact K2socp.out im co so cp dA dB bA bB v ⟨HF, HNC⟩
    · apply hide
      rintro im co so cp dA dB bA bB V ⟨HF, HNC⟩
      refine wpAnyH_ready (rs := [6, 7]) (by kernel_rfl) (by simp) ?_
      refine AllReadyH.cons (o := { dst := some 14, op := Op.makeSlice 29 (Operand.const (Value.int IntKind.i64 3)) (Operand.const (Value.int IntKind.i64 3)), type := 29, pos := "l08_node.go:48", after := #[], guard := none }) rfl (fun K hK => ?_) ?_
      · go_simp
        obtain ⟨v, hv⟩ : ∃ x, x = V.alloc (.cells (madeCells #[.bool false] 3) 4) := ⟨_, rfl⟩
        have HF := hide (HF.out.co hv)
        rw [← hv]
        clear hv
        obtain ⟨co, he⟩ : ∃ x, x = V.heap.size := ⟨_, rfl⟩
        rw [← he] at HF ⊢
        clear he
        refine hK.out _ _ ?_ (fun hHeld => ?_)
        · exact HF.out.st.2.2.1
        clear hK K
        try simp only [Act.put, ly1, ly2, ly3]
        refine wpAnyH_at (m := 3) (k := #[true, true, true, true, true, true, true, false, true, false, false]) (by kernel_rfl) (by kernel_rfl) ?_
        exact K2cocp.out im co so cp dA dB bA bB v ⟨HF, HNC⟩
      refine AllReadyH.cons (o := { dst := some 15, op := Op.makeSlice 23 (Operand.const (Value.int IntKind.i64 3)) (Operand.const (Value.int IntKind.i64 3)), type := 23, pos := "l08_node.go:48", after := #[], guard := none }) rfl (fun K hK => ?_) AllReadyH.nil
      · go_simp
        obtain ⟨v, hv⟩ : ∃ x, x = V.alloc (.cells (madeCells #[.slice none 0 0] 3) 22) := ⟨_, rfl⟩
        have HF := hide (HF.out.so hv)
        rw [← hv]
        clear hv
        obtain ⟨so, he⟩ : ∃ x, x = V.heap.size := ⟨_, rfl⟩
        rw [← he] at HF ⊢
        clear he
        refine hK.out _ _ ?_ (fun hHeld => ?_)
        · exact HF.out.st.2.2.1
        clear hK K
        try simp only [Act.put, ly1, ly2, ly3]
        refine wpAnyH_at (m := 3) (k := #[true, true, true, true, true, true, false, true, true, false, false]) (by kernel_rfl) (by kernel_rfl) ?_
        exact K2socp.out im co so cp dA dB bA bB v ⟨HF, HNC⟩
    · apply hide
      rintro im co so cp dA dB bA bB V ⟨HF, -⟩
      refine wpAnyH_ready (rs := [5]) (by kernel_rfl) (by simp) ?_
      refine AllReadyH.cons (o := { dst := some 13, op := Op.call { callee := Callee.value (Operand.func 58), args := #[Operand.tmp 11, Operand.tmp 12], argTypes := #[28, 25] }, type := 28, pos := "l08_node.go:53", after := #[{ on := 3, ground := Ground.data }, { on := 4, ground := Ground.data }, { on := 1, ground := Ground.chain }], guard := none }) rfl (fun K hK => ?_) AllReadyH.nil
      go_simp
      refine (hslp.out V _ _ _ _ _ HF.out).mono ?_
      rintro e v ⟨bA, bB, dA, dB, rfl, r1, c1, n1, n2⟩
      have HNC : Hid (NC bA dA ∧ NC bB dB) := ⟨n1, n2⟩
      have HF := hide (HF.out.sl (x := rwS Classical.propDecidable bA dA bB dB) (rs_osl r1) c1)
      clear r1 c1 n1 n2
      go_wp2_with fail
      refine hK.out _ _ ?_ (fun hHeld => ?_)
      · exact HF.out.st.2.2.1
      clear hK K
      try simp only [Act.put, ly1, ly2, ly3]
      refine wpAnyH_at (m := 2) (k := #[true, true, true, true, true, true, true, true, true, false, false]) (by kernel_rfl) (by kernel_rfl) ?_
      exact K2cosocp.out im co so cp dA dB bA bB v ⟨HF, HNC⟩
    · apply hide
      rintro im co so cp dA dB bA bB V ⟨HF, HNC⟩
      refine wpAnyH_ready (rs := [8]) (by kernel_rfl) (by simp) ?_
      refine AllReadyH.cons (o := { dst := some 16, op := Op.makeSlice 29 (Operand.const (Value.int IntKind.i64 3)) (Operand.const (Value.int IntKind.i64 3)), type := 29, pos := "l08_node.go:48", after := #[], guard := none }) rfl (fun K hK => ?_) AllReadyH.nil
      go_simp
      obtain ⟨v, hv⟩ : ∃ x, x = V.alloc (.cells (madeCells #[.bool false] 3) 4) := ⟨_, rfl⟩
      have HF := hide (HF.out.cp hv)
      rw [← hv]
      clear hv
      obtain ⟨cp, he⟩ : ∃ x, x = V.heap.size := ⟨_, rfl⟩
      rw [← he] at HF ⊢
      clear he
      refine hK.out _ _ ?_ (fun hHeld => ?_)
      · exact HF.out.st.2.2.1
      clear hK K
      try simp only [Act.put, ly1, ly2, ly3]
      refine wpAnyH_at (m := 2) (k := #[true, true, true, true, true, true, true, true, true, false, false]) (by kernel_rfl) (by kernel_rfl) ?_
      exact K2cosocp.out im co so cp dA dB bA bB v ⟨HF, HNC⟩
    · apply hide
      rintro im co so cp dA dB bA bB V ⟨HF, HNC⟩
      refine wpAnyH_ready (rs := [7]) (by kernel_rfl) (by simp) ?_
      refine AllReadyH.cons (o := { dst := some 15, op := Op.makeSlice 23 (Operand.const (Value.int IntKind.i64 3)) (Operand.const (Value.int IntKind.i64 3)), type := 23, pos := "l08_node.go:48", after := #[], guard := none }) rfl (fun K hK => ?_) AllReadyH.nil
      go_simp
      obtain ⟨v, hv⟩ : ∃ x, x = V.alloc (.cells (madeCells #[.slice none 0 0] 3) 22) := ⟨_, rfl⟩
      have HF := hide (HF.out.so hv)
      rw [← hv]
      clear hv
      obtain ⟨so, he⟩ : ∃ x, x = V.heap.size := ⟨_, rfl⟩
      rw [← he] at HF ⊢
      clear he
      refine hK.out _ _ ?_ (fun hHeld => ?_)
      · exact HF.out.st.2.2.1
      clear hK K
      try simp only [Act.put, ly1, ly2, ly3]
      refine wpAnyH_at (m := 2) (k := #[true, true, true, true, true, true, true, true, true, false, false]) (by kernel_rfl) (by kernel_rfl) ?_
      exact K2cosocp.out im co so cp dA dB bA bB v ⟨HF, HNC⟩
    · apply hide
      rintro im co so cp dA dB bA bB V ⟨HF, HNC⟩
      refine wpAnyH_ready (rs := [6]) (by kernel_rfl) (by simp) ?_
      refine AllReadyH.cons (o := { dst := some 14, op := Op.makeSlice 29 (Operand.const (Value.int IntKind.i64 3)) (Operand.const (Value.int IntKind.i64 3)), type := 29, pos := "l08_node.go:48", after := #[], guard := none }) rfl (fun K hK => ?_) AllReadyH.nil
      go_simp
      obtain ⟨v, hv⟩ : ∃ x, x = V.alloc (.cells (madeCells #[.bool false] 3) 4) := ⟨_, rfl⟩
      have HF := hide (HF.out.co hv)
      rw [← hv]
      clear hv
      obtain ⟨co, he⟩ : ∃ x, x = V.heap.size := ⟨_, rfl⟩
      rw [← he] at HF ⊢
      clear he
      refine hK.out _ _ ?_ (fun hHeld => ?_)
      · exact HF.out.st.2.2.1
      clear hK K
      try simp only [Act.put, ly1, ly2, ly3]
      refine wpAnyH_at (m := 2) (k := #[true, true, true, true, true, true, true, true, true, false, false]) (by kernel_rfl) (by kernel_rfl) ?_
      exact K2cosocp.out im co so cp dA dB bA bB v ⟨HF, HNC⟩
    · apply hide
      rintro im co so cp dA dB bA bB V ⟨HF, HNC⟩
      have hHeld := HF.out.st.2.2.1
      unfold mvv
      refine wpAnyH_take (i := 9) (oi := { dst := some 17, op := Op.build 31 #[(0, Operand.tmp 8), (1, Operand.const (Value.bool true)), (3, Operand.tmp 9), (4, Operand.tmp 10), (5, Operand.tmp 13), (6, Operand.tmp 14), (7, Operand.tmp 15), (8, Operand.tmp 16)], type := 31, pos := "l08_node.go:48", after := #[{ on := 0, ground := Ground.data }, { on := 1, ground := Ground.data }, { on := 2, ground := Ground.data }, { on := 5, ground := Ground.data }, { on := 6, ground := Ground.data }, { on := 7, ground := Ground.data }, { on := 8, ground := Ground.data }], guard := none }) (v := ?_) rfl (by kernel_rfl) (by kernel_rfl) (by kernel_rfl) (fun _ _ _ h => h) (Or.inl ⟨by rfl, ?_⟩) (by assumption) ?_
      rotate_left 1
      · (intro wq hSw; (try dsimp only at hSw); go_simp; try with_reducible rfl)
      try simp only [Act.put, ly1, ly2, ly3]
      refine wpAnyH_ready (rs := [10]) (by kernel_rfl) (by simp) ?_
      refine AllReadyH.cons (o := { dst := none, op := Op.store 31 (Operand.tmp 2) (Operand.tmp 17), type := 0, pos := "l08_node.go:48", after := #[{ on := 9, ground := Ground.data }, { on := 5, ground := Ground.chain }, { on := 0, ground := Ground.phase }, { on := 1, ground := Ground.phase }, { on := 2, ground := Ground.phase }, { on := 3, ground := Ground.phase }, { on := 4, ground := Ground.phase }, { on := 5, ground := Ground.phase }, { on := 6, ground := Ground.phase }, { on := 7, ground := Ground.phase }, { on := 8, ground := Ground.phase }, { on := 9, ground := Ground.phase }], guard := none }) rfl (fun K hK => ?_) AllReadyH.nil
      obtain ⟨b, hb⟩ : ∃ b : Na, b = ⟨some ⟨im, 0, none⟩, 8, am.go, am.gc, am.bo, am.bc, bA, dA, bB, dB, some ⟨co, 0, none⟩, 3, some ⟨so, 0, none⟩, 3, some ⟨cp, 0, none⟩, 3, none, 0⟩ := ⟨_, rfl⟩
      refine step_if (by rfl) (st_node_wp _ _ rfl rfl w.heap.size b (nwd Classical.propDecidable y) rfl (by rw [hb]; rfl) HF.out.st.2.1 (fun F hF hnF => ?_))
      have hX := HF.out.st.2.2.2.1
      have hs := hF.2.1
      have HR : Hid (NB F w.heap.size 31 b (nwd Classical.propDecidable y) ∧ ON F w.heap.size F.heap.size b (nwd Classical.propDecidable y) ∧ Below w.heap.size w F) := by
        have hlt : w.heap.size < BB := HBB.out
        have hbb := HF.out.bb
        have h1 := (HF.out.rs.kept (w' := F) (fun j h1 _ => hF.2.2 j (by omega))).wide (Nat.le_refl BB) (Nat.le_of_eq hs.symm)
        rw [HMR.out] at h1
        exact ⟨hnF, (on_new (b := b) (R := R0) (by rw [hb]; exact h1) (by rw [hb]; exact ⟨rfl, rfl⟩) (by rw [hb]; exact HNC.out) (by omega)).wider (Nat.le_of_lt hlt) (Nat.le_refl _) (Nat.le_refl _), HF.out.st.1.trans (hF.1.mono (Nat.le_refl _))⟩
      refine hK.out _ _ ?_ (fun hHeld => ?_)
      · exact (HF.out.st.2.2.1).far hF (by omega)
      clear hK K
      try simp only [Act.put, ly1, ly2, ly3]
      refine wpAnyH_done (by kernel_rfl) ?_ _
      go_wp2_with fail
      go_meet
      case rel => exact ⟨b, HR.out⟩
  case rest =>
    obtain ⟨b, h1, h2, h3⟩ := hcut
    have HN := hide h1
    have HO := hide h2
    have HBl := hide h3
    clear h1 h2 h3
    go_wp2_with fail
    exact bodyPost_ret (v := nv b (nwd Classical.propDecidable y)) (res_node Tryz.results16 rfl HN.out) rfl ⟨b, rfl, HO.out, HBl.out⟩
end Go.Proofs.YtkndnndildnbpaaGreatDoor

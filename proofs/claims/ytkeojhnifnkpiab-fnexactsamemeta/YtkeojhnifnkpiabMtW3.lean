/- What is known, copied into memory of its own. -/
import Derived.Test.YtkeojhnifnkpiabMtW2
namespace Go.Proofs.Ytkeojhnifnkpiab
open Go.ChangeShapes Go.WideShapes Go.ChangeAt Go.RowKit
set_option linter.unusedVariables false
set_option linter.unusedSimpArgs false
set_option maxRecDepth 100000

theorem bal3 (w : World) (o1 o2 o3 : Obj) : (((w.alloc o1).alloc o2).alloc o3).heap[w.heap.size]? = some o1 ∧ (((w.alloc o1).alloc o2).alloc o3).heap[w.heap.size + 1]? = some o2 ∧ (((w.alloc o1).alloc o2).alloc o3).heap[w.heap.size + 1 + 1]? = some o3 ∧ (((w.alloc o1).alloc o2).alloc o3).heap.size = w.heap.size + 1 + 1 + 1 := by
  have e : ∀ (w : World) (o : Obj), (w.alloc o).heap = w.heap.push o := fun _ _ => rfl
  refine ⟨?_, ?_, ?_, ?_⟩
  · simp only [e, Array.getElem?_push, Array.size_push]
    rw [if_neg (by omega), if_neg (by omega), if_pos trivial]
  · simp only [e, Array.getElem?_push, Array.size_push]
    rw [if_neg (by omega), if_pos trivial]
  · simp only [e, Array.getElem?_push, Array.size_push]
    rw [if_pos trivial]
  · simp only [e, Array.size_push]
set_option maxHeartbeats 1000000 in
theorem tom_any (go bo : Option Addr) (gc bc : Nat) (g : List Int) (n : Nat) (L : Nat → List Int) (fi ol he : Bool) (la : Int) (w : World) (hd : Bd g n L) (hv : MV w go gc bo bc g n L) :
    Calls Try.prog 6 #[.agg #[.slice go g.length gc, .slice bo n bc, .bool fi, .bool ol, .bool he, .int .i64 la]] w fun e w' => ∃ go' bo' gc' bc', e = .returned (.agg #[.slice go' g.length gc', .slice bo' n bc', .bool fi, .bool ol, .bool he, .int .i64 la]) ∧ OKm w' w.heap.size w'.heap.size go' gc' bo' bc' g n L ∧ Below w.heap.size w w' := by
  obtain ⟨hg, hn, hL⟩ := hd
  have HV := hide hv
  have HL := hide hL
  clear hv hL
  go_enter Try.func6, Try.ntmps6
  go_wp2_with fail
  obtain ⟨W, hW⟩ : ∃ W, W = (((w.alloc (.cells #[.slice go g.length gc, .slice bo n bc, .bool fi, .bool ol, .bool he, .int .i64 la] 25)).alloc (.cells #[.slice none 0 0, .slice none 0 0, .bool false, .bool false, .bool false, .int .i64 0] 28)).alloc (.cells #[.slice none 0 0, .slice none 0 0, .bool false, .bool false, .bool false, .int .i64 0] 28)) := ⟨_, rfl⟩
  obtain ⟨b1, b2, b3, b4⟩ := bal3 w (.cells #[.slice go g.length gc, .slice bo n bc, .bool fi, .bool ol, .bool he, .int .i64 la] 25) (.cells #[.slice none 0 0, .slice none 0 0, .bool false, .bool false, .bool false, .int .i64 0] 28) (.cells #[.slice none 0 0, .slice none 0 0, .bool false, .bool false, .bool false, .int .i64 0] 28)
  have hB : Below w.heap.size w W := by rw [hW]; exact (((Below.refl _ _).alloc (Nat.le_refl _) _).alloc (by simp) _).alloc (by simp; omega) _
  rw [← hW] at b1 b2 b3 b4 ⊢
  clear hW
  refine (ito_any go g.length gc (fun i => g.getD i 0) W hg (HV.out.below hB).2.1).mono ?_
  rintro e w1 ⟨rfl, hrow, hb⟩
  have HB1 := hide (hB.trans (hb.mono hB.size))
  have HR := hide hrow
  have f1 := (hb.block w.heap.size (by omega)).trans b1
  have f2 := (hb.block (w.heap.size + 1) (by omega)).trans b2
  have f3 := (hb.block (w.heap.size + 1 + 1) (by omega)).trans b3
  have hs1 := hb.size
  have hlt1 : W.heap.size < w1.heap.size := hrow.lt
  clear hrow hb hB b1 b2 b3
  have p1 : w1.cell? ⟨w.heap.size, 1, none⟩ = some (.slice bo n bc) := mblk f1 rfl
  have o0 : w1.cell? ⟨w.heap.size + 1 + 1, 0, none⟩ = some (.slice none 0 0) := mblk f3 rfl
  have z3 : ∀ i, w1.frozen? ⟨w.heap.size + 1 + 1, i, none⟩ = false := fun i => by simp [World.frozen?, f3]
  rw [b4] at hlt1 HR
  rw [b4]
  clear hs1
  go_wp2_with fail
  obtain ⟨W2, hW2⟩ : ∃ W2, W2 = w1.setCell ⟨w.heap.size + 1 + 1, 0, none⟩ (.slice (some ⟨w.heap.size + 1 + 1 + 1, 0, none⟩) g.length g.length) := ⟨_, rfl⟩
  rw [← hW2]
  have f1' := (hfar (R := w.heap.size + 1 + 1) (j := 0) (show ¬ w.heap.size = w.heap.size + 1 + 1 by omega) (.slice (some ⟨w.heap.size + 1 + 1 + 1, 0, none⟩) g.length g.length)).trans f1
  have f2' := (hfar (R := w.heap.size + 1 + 1) (j := 0) (show ¬ w.heap.size + 1 = w.heap.size + 1 + 1 by omega) (.slice (some ⟨w.heap.size + 1 + 1 + 1, 0, none⟩) g.length g.length)).trans f2
  have f3' := sblk (o := 0) (.slice (some ⟨w.heap.size + 1 + 1 + 1, 0, none⟩) g.length g.length) f3
  rw [← hW2] at f1' f2' f3'
  have HB2 : Hid (Below w.heap.size w W2) := by rw [hW2]; exact HB1.out.setCell (p := ⟨w.heap.size + 1 + 1, 0, none⟩) (by simp; omega) _
  have HR2 : Hid (W2.rowIs (w.heap.size + 1 + 1 + 1) 3 g.length (fun i => .int .i64 (g.getD i 0))) := by rw [hW2]; exact row_set HR.out _ (by simp) _
  have hs2 : w1.heap.size = W2.heap.size := by rw [hW2]; simp [World.setCell]
  rw [hs2] at hlt1
  clear hW2 HR HB1 p1 o0 z3 f1 f2 f3 hs2
  refine (toss_any bo n bc L W2 hn HL.out (HV.out.below HB2.out).2.2).mono ?_
  rintro e w2 ⟨rfl, ⟨R, hO, hS⟩, hb2⟩
  have e1 := (hb2.block w.heap.size (by omega)).trans f1'
  have e2 := (hb2.block (w.heap.size + 1) (by omega)).trans f2'
  have e3 := (hb2.block (w.heap.size + 1 + 1) (by omega)).trans f3'
  have HG3 := hide (row_below HR2.out hb2 hlt1)
  have HB3 := hide (HB2.out.trans (hb2.mono HB2.out.size))
  have hsz := hb2.size
  have HOS := hide (And.intro hO hS)
  clear hO hS hb2 f1' f2' f3' HR2 HB2 HV HL
  have p2 : w2.cell? ⟨w.heap.size, 2, none⟩ = some (.bool fi) := mblk e1 rfl
  have p3 : w2.cell? ⟨w.heap.size, 3, none⟩ = some (.bool ol) := mblk e1 rfl
  have p4 : w2.cell? ⟨w.heap.size, 4, none⟩ = some (.bool he) := mblk e1 rfl
  have p5 : w2.cell? ⟨w.heap.size, 5, none⟩ = some (.int .i64 la) := mblk e1 rfl
  have r0 : w2.cell? ⟨w.heap.size + 1, 0, none⟩ = some (.slice none 0 0) := mblk e2 rfl
  have r1 : w2.cell? ⟨w.heap.size + 1, 1, none⟩ = some (.slice none 0 0) := mblk e2 rfl
  have r2 : w2.cell? ⟨w.heap.size + 1, 2, none⟩ = some (.bool false) := mblk e2 rfl
  have r3 : w2.cell? ⟨w.heap.size + 1, 3, none⟩ = some (.bool false) := mblk e2 rfl
  have r4 : w2.cell? ⟨w.heap.size + 1, 4, none⟩ = some (.bool false) := mblk e2 rfl
  have r5 : w2.cell? ⟨w.heap.size + 1, 5, none⟩ = some (.int .i64 0) := mblk e2 rfl
  have o0 : w2.cell? ⟨w.heap.size + 1 + 1, 0, none⟩ = some (.slice (some ⟨w.heap.size + 1 + 1 + 1, 0, none⟩) g.length g.length) := mblk e3 rfl
  have o1 : w2.cell? ⟨w.heap.size + 1 + 1, 1, none⟩ = some (.slice none 0 0) := mblk e3 rfl
  have o2 : w2.cell? ⟨w.heap.size + 1 + 1, 2, none⟩ = some (.bool false) := mblk e3 rfl
  have o3 : w2.cell? ⟨w.heap.size + 1 + 1, 3, none⟩ = some (.bool false) := mblk e3 rfl
  have o4 : w2.cell? ⟨w.heap.size + 1 + 1, 4, none⟩ = some (.bool false) := mblk e3 rfl
  have o5 : w2.cell? ⟨w.heap.size + 1 + 1, 5, none⟩ = some (.int .i64 0) := mblk e3 rfl
  have z2 : ∀ i, w2.frozen? ⟨w.heap.size + 1, i, none⟩ = false := fun i => by simp [World.frozen?, e2]
  have z3 : ∀ i, w2.frozen? ⟨w.heap.size + 1 + 1, i, none⟩ = false := fun i => by simp [World.frozen?, e3]
  have hlt2 : w.heap.size + 1 + 1 + 1 < w2.heap.size := by omega
  clear e1 e2 e3
  go_wp2
  refine bodyPost_ret (v := .agg #[.slice (some ⟨w.heap.size + 1 + 1 + 1, 0, none⟩) g.length g.length, .slice (some ⟨W2.heap.size, 0, none⟩) n n, .bool fi, .bool ol, .bool he, .int .i64 la]) (by simp [results, Try.results6, go_sem, r0, r1, r2, r3, r4, r5]) rfl ⟨_, _, _, _, rfl, ?_, ?_⟩
  · have hfin : ∀ F : World, F.heap.size = w2.heap.size → (∀ j, w.heap.size + 1 + 1 + 1 ≤ j → F.heap[j]? = w2.heap[j]?) → OKm F w.heap.size F.heap.size (some ⟨w.heap.size + 1 + 1 + 1, 0, none⟩) g.length (some ⟨W2.heap.size, 0, none⟩) n g n L := fun F hs hk => by
      rw [hs]
      refine ⟨⟨by omega, by omega⟩, Nat.le_refl _, R, ?_, (HOS.out.2.kept (fun j h1 h2 => hk j (by omega))).wide (by omega) (Nat.le_refl _)⟩
      refine ((OR.cons (r := (some ⟨w.heap.size + 1 + 1 + 1, 0, none⟩, g.length)) (B := w.heap.size + 1 + 1 + 1) HOS.out.1 (by omega) (by omega) (Nat.le_refl _) ?_).kept (fun j h1 h2 => hk j h1)).wide (by omega) (Nat.le_refl _)
      exact .inr ⟨_, rfl, ⟨Nat.le_refl _, hlt1⟩, HG3.out.choose, HG3.out.choose_spec.1, by rw [HG3.out.choose_spec.2.1]; exact Nat.le_refl _, HG3.out.choose_spec.2.2⟩
    refine hfin _ (by simp [World.setCell]) ?_
    intro j hj
    simp only [World.setCell, Array.getElem?_modify]
    repeat rw [if_neg (by omega)]
  · repeat (refine Below.setCell ?_ (by first | (show w.heap.size ≤ w.heap.size + 1; omega) | (show w.heap.size ≤ w.heap.size + 1 + 1; omega)) _)
    exact HB3.out
end Go.Proofs.Ytkeojhnifnkpiab

/- What is known, copied and held against another one. -/
import Derived.Test.YtkeojhnifnkpiabMtW
namespace Go.Proofs.Ytkeojhnifnkpiab
open Go.ChangeShapes Go.WideShapes Go.ChangeAt Go.RowKit
set_option linter.unusedVariables false
set_option linter.unusedSimpArgs false
set_option maxRecDepth 100000

theorem Try.infoSl : (Try.prog.info? 22).map (fun i => (i.zero, i.size, i.bytes)) = some (some (.slice none 0 0), 1, 24) := by kernel_rfl
theorem al2 (w : World) (o1 o2 : Obj) : ((w.alloc o1).alloc o2).heap[w.heap.size]? = some o1 ∧ ((w.alloc o1).alloc o2).heap[w.heap.size + 1]? = some o2 ∧ ((w.alloc o1).alloc o2).heap.size = w.heap.size + 1 + 1 := by
  have e : ∀ (w : World) (o : Obj), (w.alloc o).heap = w.heap.push o := fun _ _ => rfl
  refine ⟨?_, ?_, ?_⟩
  · simp only [e, Array.getElem?_push, Array.size_push]
    rw [if_neg (by omega), if_pos trivial]
  · simp only [e, Array.getElem?_push, Array.size_push]
    rw [if_pos trivial]
  · simp only [e, Array.size_push]
theorem hfar {w : World} {R g j : Nat} (h : ¬ g = R) (v : Value) : (w.setCell ⟨R, j, none⟩ v).heap[g]? = w.heap[g]? := by
  simp only [World.setCell, Array.getElem?_modify]; rw [if_neg (fun e => h e.symm)]
theorem sblk {w : World} {g o : Nat} {x : Array Value} {t : TypeId} (v : Value) (h : w.heap[g]? = some (.cells x t (0, 0))) : (w.setCell ⟨g, o, none⟩ v).heap[g]? = some (.cells (x.setIfInBounds o v) t (0, 0)) := by
  simp [World.setCell, Array.getElem?_modify, h]

theorem toss_any (bo : Option Addr) (n bc : Nat) (L : Nat → List Int) (w : World) (hn : n ≤ 1048576) (hL : ∀ i, i < n → (L i).length ≤ 1048576) (hv : BV w bo n L) :
    Calls Try.prog 13 #[.slice bo n bc] w fun e w' => e = .returned (.slice (some ⟨w.heap.size, 0, none⟩) n n) ∧ (∃ R, OR w' w.heap.size w'.heap.size n L R ∧ SR w' w.heap.size w'.heap.size (some ⟨w.heap.size, 0, none⟩) n L R) ∧ Below w.heap.size w w' := by
  have hmk := run_make_row' (P := Try.prog) 23 22 (.slice none 0 0) 24 Try.underlying23 Try.infoSl rfl .i64 .i64 n (by omega) (by omega)
  have HV := hide hv
  have HL := hide hL
  clear hv hL
  go_enter Try.func13, Try.ntmps13
  go_wp2
  go_loopw [4] (fun i wr => ∃ (k : Nat) (R : Nat → Option Addr × Nat), k ≤ n ∧ i = .int .i64 k ∧ Hid (wr.rowIs w.heap.size 22 n (fun j => if j < k then .slice (R j).1 (L j).length (R j).2 else .slice none 0 0) ∧ OR wr (w.heap.size + 1) wr.heap.size k L R ∧ Below w.heap.size w wr)) (fun i _ => n - (intOf i).toNat)
  case atStart => exact ⟨0, fun _ => (none, 0), Nat.zero_le _, rfl, (World.rowIs_made _ _ _ _).congr (by intro i _; simp), OR.nil, (Below.refl _ _).alloc (Nat.le_refl _) _⟩
  case round =>
    obtain ⟨k, R, hk, rfl, HI⟩ := hrel
    clear hmk
    by_cases hlt : k < n
    · obtain ⟨b, off, ro, rc, rfl, hc, hrc, hsl⟩ := HV.out.below HI.out.2.2 k hlt
      have hcall := hide (ito_any ro (L k).length rc (fun j => (L k).getD j 0) wr (HL.out k hlt) hsl)
      have hgl : w.heap.size < wr.heap.size := HI.out.1.lt
      clear hsl hrc
      generalize hl : (L k).length = l at *
      have EL := hide hl
      clear hl
      go_wp2_with fail
      refine hcall.out.mono ?_
      rintro e w1 ⟨rfl, hrow, hb1⟩
      have r1 := row_below HI.out.1 hb1 hgl
      have hf := r1.frozen k
      have hcl := r1.cell hlt
      have HN : Hid ((w1.setCell ⟨w.heap.size, k, none⟩ (.slice (some ⟨wr.heap.size, 0, none⟩) l l)).rowIs w.heap.size 22 n (fun j => if j < k + 1 then .slice (setr R k (some ⟨wr.heap.size, 0, none⟩, l) j).1 (L j).length (setr R k (some ⟨wr.heap.size, 0, none⟩, l) j).2 else .slice none 0 0) ∧
          OR (w1.setCell ⟨w.heap.size, k, none⟩ (.slice (some ⟨wr.heap.size, 0, none⟩) l l)) (w.heap.size + 1) (w1.setCell ⟨w.heap.size, k, none⟩ (.slice (some ⟨wr.heap.size, 0, none⟩) l l)).heap.size (k + 1) L (setr R k (some ⟨wr.heap.size, 0, none⟩, l)) ∧ Below w.heap.size w (w1.setCell ⟨w.heap.size, k, none⟩ (.slice (some ⟨wr.heap.size, 0, none⟩) l l))) := by
        refine ⟨?_, ?_, (HI.out.2.2.trans (hb1.mono HI.out.2.2.size)).setCell (p := ⟨w.heap.size, k, none⟩) (Nat.le_refl _) _⟩
        · refine (r1.set k _).congr fun j hj => ?_
          by_cases e : j = k
          · subst e; rw [if_pos rfl, if_pos (by omega), setr_at, EL.out]
          · rw [if_neg e, setr_ne _ _ _ e]
            by_cases e2 : j < k
            · rw [if_pos e2, if_pos (by omega)]
            · rw [if_neg e2, if_neg (by omega)]
        · have o1 : OR (w1.setCell ⟨w.heap.size, k, none⟩ (.slice (some ⟨wr.heap.size, 0, none⟩) l l)) (w.heap.size + 1) wr.heap.size k L R := HI.out.2.1.kept fun j h1 h2 => (hfar (by omega) _).trans (hb1.block j h2)
          refine o1.push (by omega) (by simp [World.setCell]; exact hb1.size) (by rw [EL.out]; exact Nat.le_refl _) ?_
          rw [EL.out]
          have o2 := Rt.of (Own.of_row (row_set hrow ⟨w.heap.size, k, none⟩ (by simp; omega) (.slice (some ⟨wr.heap.size, 0, none⟩) l l)) (Nat.le_refl _))
          exact o2
      clear hcall hrow hb1 r1 HI hc
      go_wp2
      go_roundw
      case rel => exact ⟨k + 1, _, by omega, by go_num, HN.out⟩
      case measure => simp [intOf]; omega
    · obtain rfl : k = n := by omega
      go_wp2
      go_ret
      refine ⟨rfl, ⟨R, HI.out.2.1.wide (by omega) (Nat.le_refl _), ?_⟩, HI.out.2.2⟩
      obtain ⟨c, hc, hs, hF⟩ := HI.out.1
      exact .inr ⟨w.heap.size, c, rfl, ⟨Nat.le_refl _, (Array.getElem?_eq_some_iff.1 hc).1⟩, hc, by omega, fun i hi => by rw [hF i hi]; exact congrArg some (if_pos hi)⟩

theorem eqss_yes (ao bo : Option Addr) (n ca cb : Nat) (L : Nat → List Int) (w : World) (hn : n ≤ 1048576) (hL : ∀ i, i < n → (L i).length ≤ 1048576) (hA : BV w ao n L) (hB : BV w bo n L) :
    Calls Try.prog 19 #[.slice ao n ca, .slice bo n cb] w fun e w' => e = .returned (.bool true) ∧ ∃ q, w' = w.drewN q := by
  have HA := hide hA
  have HB := hide hB
  have HL := hide hL
  clear hA hB hL
  go_enter Try.func19, Try.ntmps19
  go_wp2
  go_loopw [5] (fun i wr => ∃ k : Nat, k ≤ n ∧ i = .int .i64 k ∧ ∃ q, wr = w.drewN q) (fun i _ => n - (intOf i).toNat)
  case atStart => exact ⟨0, Nat.zero_le _, rfl, 0, rfl⟩
  case round =>
    obtain ⟨k, hk, rfl, q, rfl⟩ := hrel
    by_cases hlt : k < n
    · obtain ⟨b, off, ro, rc, rfl, hc, hrc, hsl⟩ := HA.out k hlt
      obtain ⟨b', off', ro', rc', rfl, hc', hrc', hsl'⟩ := HB.out k hlt
      have hcall : Hid (∀ q, Calls Try.prog 18 #[.slice ro (L k).length rc, .slice ro' (L k).length rc'] (w.drewN q) fun e w' => e = .returned (.bool true) ∧ ∃ m, w' = (w.drewN q).drewN m) := fun q => ieq_yes ro ro' (L k).length rc rc' (fun j => (L k).getD j 0) (fun j => (L k).getD j 0) (w.drewN q) (HL.out k hlt) hsl hsl' (fun _ _ => rfl)
      clear hsl hsl' hrc hrc'
      generalize (L k).length = l at *
      go_wp2
      go_quiet (first | (go_at_call 18; refine quiet_qq (hcall.out _)))
      go_wp2
      go_roundw
      case rel => exact ⟨k + 1, by omega, by go_num, _, rfl⟩
      case measure => simp [intOf]; omega
    · go_wp2
      go_ret
      exact ⟨rfl, q, rfl⟩

theorem eqm_yes (go bo go' bo' : Option Addr) (gc bc gc' bc' : Nat) (g : List Int) (n : Nat) (L : Nat → List Int) (fi ol he : Bool) (la : Int) (w : World) (hd : Bd g n L) (hA : MV w go gc bo bc g n L) (hB : MV w go' gc' bo' bc' g n L) :
    Calls Try.prog 8 #[.agg #[.slice go g.length gc, .slice bo n bc, .bool fi, .bool ol, .bool he, .int .i64 la], .agg #[.slice go' g.length gc', .slice bo' n bc', .bool fi, .bool ol, .bool he, .int .i64 la]] w fun e w' => e = .returned (.bool true) ∧ Below w.heap.size w w' := by
  have hb : Below w.heap.size w ((w.alloc (.cells #[.slice go g.length gc, .slice bo n bc, .bool fi, .bool ol, .bool he, .int .i64 la] 28)).alloc (.cells #[.slice go' g.length gc', .slice bo' n bc', .bool fi, .bool ol, .bool he, .int .i64 la] 28)) := ((Below.refl _ _).alloc (Nat.le_refl _) _).alloc (by simp) _
  obtain ⟨W, hW⟩ : ∃ W, W = ((w.alloc (.cells #[.slice go g.length gc, .slice bo n bc, .bool fi, .bool ol, .bool he, .int .i64 la] 28)).alloc (.cells #[.slice go' g.length gc', .slice bo' n bc', .bool fi, .bool ol, .bool he, .int .i64 la] 28)) := ⟨_, rfl⟩
  rw [← hW] at hb
  have b1 : W.heap[w.heap.size]? = some (.cells #[.slice go g.length gc, .slice bo n bc, .bool fi, .bool ol, .bool he, .int .i64 la] 28 (0, 0)) := by
    rw [hW]; exact (al2 w _ _).1
  have b2 : W.heap[w.heap.size + 1]? = some (.cells #[.slice go' g.length gc', .slice bo' n bc', .bool fi, .bool ol, .bool he, .int .i64 la] 28 (0, 0)) := by
    rw [hW]; exact (al2 w _ _).2.1
  have hc1 := hide (ieq_yes go go' g.length gc gc' (fun i => g.getD i 0) (fun i => g.getD i 0) W hd.1 (hA.below hb).2.1 (hB.below hb).2.1 (fun _ _ => rfl))
  have hc2 : Hid (∀ q, Calls Try.prog 19 #[.slice bo n bc, .slice bo' n bc'] (W.drewN q) fun e w' => e = .returned (.bool true) ∧ ∃ m, w' = (W.drewN q).drewN m) := fun q => eqss_yes bo bo' n bc bc' L (W.drewN q) hd.2.1 hd.2.2 (hA.below hb).2.2 (hB.below hb).2.2
  have HB : Hid (∀ q, Below w.heap.size w (W.drewN q)) := fun q => Below.drawn hb q
  have p0 : W.cell? ⟨w.heap.size, 0, none⟩ = some (.slice go g.length gc) := mblk b1 rfl
  have p1 : W.cell? ⟨w.heap.size, 1, none⟩ = some (.slice bo n bc) := mblk b1 rfl
  have p2 : W.cell? ⟨w.heap.size, 2, none⟩ = some (.bool fi) := mblk b1 rfl
  have p3 : W.cell? ⟨w.heap.size, 3, none⟩ = some (.bool ol) := mblk b1 rfl
  have p4 : W.cell? ⟨w.heap.size, 4, none⟩ = some (.bool he) := mblk b1 rfl
  have p5 : W.cell? ⟨w.heap.size, 5, none⟩ = some (.int .i64 la) := mblk b1 rfl
  have q0 : W.cell? ⟨w.heap.size + 1, 0, none⟩ = some (.slice go' g.length gc') := mblk b2 rfl
  have q1 : W.cell? ⟨w.heap.size + 1, 1, none⟩ = some (.slice bo' n bc') := mblk b2 rfl
  have q2 : W.cell? ⟨w.heap.size + 1, 2, none⟩ = some (.bool fi) := mblk b2 rfl
  have q3 : W.cell? ⟨w.heap.size + 1, 3, none⟩ = some (.bool ol) := mblk b2 rfl
  have q4 : W.cell? ⟨w.heap.size + 1, 4, none⟩ = some (.bool he) := mblk b2 rfl
  have q5 : W.cell? ⟨w.heap.size + 1, 5, none⟩ = some (.int .i64 la) := mblk b2 rfl
  have s1 : w.heap.size < W.heap.size := (Array.getElem?_eq_some_iff.1 b1).1
  clear hA hB hd hb b1 b2
  go_enter Try.func8, Try.ntmps8
  go_wp2_with fail
  rw [← hW]
  clear hW
  refine hc1.out.mono ?_
  rintro e w1 ⟨rfl, q, rfl⟩
  go_wp2_with fail
  refine (hc2.out _).mono ?_
  rintro e w2 ⟨rfl, q', rfl⟩
  go_wp2
  go_ret
  exact ⟨rfl, HB.out _⟩
end Go.Proofs.Ytkeojhnifnkpiab

/- What is known, held against another one, of both. -/
import Derived.Test.YtabknfmhhjelaaaGreatDoorMtEZ

namespace Go.Proofs.YtabknfmhhjelaaaGreatDoor
open Go.ChangeShapes Go.WideShapes Go.ChangeAt Go.RowKit
set_option linter.unusedVariables false
set_option linter.unusedSimpArgs false
set_option maxRecDepth 100000

def SmM (g : List Int) (n : Nat) (L : Nat → List Int) (fi ol he : Bool) (la : Int) (g' : List Int) (n' : Nat) (L' : Nat → List Int) (fi' ol' he' : Bool) (la' : Int) : Prop :=
  n = n' ∧ g = g' ∧ fi = fi' ∧ ol = ol' ∧ he = he' ∧ la = la' ∧ ∀ i, i < n → L i = L' i

set_option maxHeartbeats 2000000 in
theorem samem_spec (go bo go' bo' : Option Addr) (gc bc gc' bc' : Nat) (g g' : List Int) (n n' : Nat) (L L' : Nat → List Int) (fi ol he fi' ol' he' : Bool) (la la' : Int) (w : World) (hd : Bd g n L) (hd' : Bd g' n' L') (hA : MV w go gc bo bc g n L) (hB : MV w go' gc' bo' bc' g' n' L') :
    Calls Tryz.prog 41 #[.agg #[.slice go g.length gc, .slice bo n bc, .bool fi, .bool ol, .bool he, .int .i64 la], .agg #[.slice go' g'.length gc', .slice bo' n' bc', .bool fi', .bool ol', .bool he', .int .i64 la']] w fun e w' => Tells w w' e (SmM g n L fi ol he la g' n' L' fi' ol' he' la') := by
  have hb : Below w.heap.size w ((w.alloc (.cells #[.slice go g.length gc, .slice bo n bc, .bool fi, .bool ol, .bool he, .int .i64 la] 34)).alloc (.cells #[.slice go' g'.length gc', .slice bo' n' bc', .bool fi', .bool ol', .bool he', .int .i64 la'] 34)) := ((Below.refl _ _).alloc (Nat.le_refl _) _).alloc (by simp) _
  have hA' := hA.below hb
  have hB' := hB.below hb
  have hcG := lsame_spec go go' gc gc' g g' ((w.alloc (.cells #[.slice go g.length gc, .slice bo n bc, .bool fi, .bool ol, .bool he, .int .i64 la] 34)).alloc (.cells #[.slice go' g'.length gc', .slice bo' n' bc', .bool fi', .bool ol', .bool he', .int .i64 la'] 34)) hd.1 hd'.1 hA'.2.1 hB'.2.1
  have HB0 := hide hb
  have HB : Hid (∀ q, Below w.heap.size w (((w.alloc (.cells #[.slice go g.length gc, .slice bo n bc, .bool fi, .bool ol, .bool he, .int .i64 la] 34)).alloc (.cells #[.slice go' g'.length gc', .slice bo' n' bc', .bool fi', .bool ol', .bool he', .int .i64 la'] 34)).drewN q)) := fun q => Below.drawn hb q
  by_cases h1 : n = n'
  case neg =>
    have HN : Hid (¬ SmM g n L fi ol he la g' n' L' fi' ol' he' la') := fun x => h1 x.1
    have d1 : ((n : Int) == (n' : Int)) = false := by simp; omega
    have d2 : decide ((n : Int) = (n' : Int)) = false := by simp; omega
    have d3 : ¬ (n : Int) = (n' : Int) := by omega
    clear hcG hA hB hA' hB' hb
    go_enter Tryz.func41, Tryz.ntmps41
    go_wp2
    go_ret
    exact Tells.no HN.out (HB0.out)
  subst h1
  by_cases h2 : g = g'
  case neg =>
    have HN : Hid (¬ SmM g n L fi ol he la g' n L' fi' ol' he' la') := fun x => h2 x.2.1
    have hcG2 : Hid (Calls Tryz.prog 58 #[.slice go g.length gc, .slice go' g'.length gc'] ((w.alloc (.cells #[.slice go g.length gc, .slice bo n bc, .bool fi, .bool ol, .bool he, .int .i64 la] 34)).alloc (.cells #[.slice go' g'.length gc', .slice bo' n bc', .bool fi', .bool ol', .bool he', .int .i64 la'] 34)) fun e w' => e = .returned (.bool false) ∧ ∃ q, w' = ((w.alloc (.cells #[.slice go g.length gc, .slice bo n bc, .bool fi, .bool ol, .bool he, .int .i64 la] 34)).alloc (.cells #[.slice go' g'.length gc', .slice bo' n bc', .bool fi', .bool ol', .bool he', .int .i64 la'] 34)).drewN q) := hcG.mono fun _ _ ⟨x, y⟩ => ⟨x.elim (fun z => absurd z.1 h2) (·.2), y⟩
    clear hcG hA hB hA' hB' hb h2
    go_enter Tryz.func41, Tryz.ntmps41
    go_wp2_with (first
      | (go_at_call 58; refine hcG2.out.mono ?_; rintro e9 w9 ⟨rfl, q9, hw9⟩; rw [hw9]; clear hw9)
      | fail)
    go_ret
    exact Tells.no HN.out (HB.out _)
  have hcG2 : Hid (Calls Tryz.prog 58 #[.slice go g.length gc, .slice go' g'.length gc'] ((w.alloc (.cells #[.slice go g.length gc, .slice bo n bc, .bool fi, .bool ol, .bool he, .int .i64 la] 34)).alloc (.cells #[.slice go' g'.length gc', .slice bo' n bc', .bool fi', .bool ol', .bool he', .int .i64 la'] 34)) fun e w' => e = .returned (.bool true) ∧ ∃ q, w' = ((w.alloc (.cells #[.slice go g.length gc, .slice bo n bc, .bool fi, .bool ol, .bool he, .int .i64 la] 34)).alloc (.cells #[.slice go' g'.length gc', .slice bo' n bc', .bool fi', .bool ol', .bool he', .int .i64 la'] 34)).drewN q) := hcG.mono fun _ _ ⟨x, y⟩ => ⟨x.elim (·.2) (fun z => absurd h2 z.1), y⟩
  have HE2 := hide h2
  clear hcG h2
  by_cases h3 : fi = fi'
  case neg =>
    have HN : Hid (¬ SmM g n L fi ol he la g' n L' fi' ol' he' la') := fun x => h3 x.2.2.1
    clear hA hB hA' hB' hb
    cases fi <;> cases fi'
    case false.false => exact absurd rfl h3
    case true.true => exact absurd rfl h3
    all_goals
      clear h3
      go_enter Tryz.func41, Tryz.ntmps41
      go_wp2_with (first
        | (go_at_call 58; refine hcG2.out.mono ?_; rintro e9 w9 ⟨rfl, q9, hw9⟩; rw [hw9]; clear hw9)
        | fail)
      go_ret
      exact Tells.no HN.out (HB.out _)
  subst h3
  by_cases h4 : ol = ol'
  case neg =>
    have HN : Hid (¬ SmM g n L fi ol he la g' n L' fi ol' he' la') := fun x => h4 x.2.2.2.1
    clear hA hB hA' hB' hb
    cases ol <;> cases ol'
    case false.false => exact absurd rfl h4
    case true.true => exact absurd rfl h4
    all_goals
      clear h4
      go_enter Tryz.func41, Tryz.ntmps41
      go_wp2_with (first
        | (go_at_call 58; refine hcG2.out.mono ?_; rintro e9 w9 ⟨rfl, q9, hw9⟩; rw [hw9]; clear hw9)
        | fail)
      go_ret
      exact Tells.no HN.out (HB.out _)
  subst h4
  by_cases h5 : he = he'
  case neg =>
    have HN : Hid (¬ SmM g n L fi ol he la g' n L' fi ol he' la') := fun x => h5 x.2.2.2.2.1
    clear hA hB hA' hB' hb
    cases he <;> cases he'
    case false.false => exact absurd rfl h5
    case true.true => exact absurd rfl h5
    all_goals
      clear h5
      go_enter Tryz.func41, Tryz.ntmps41
      go_wp2_with (first
        | (go_at_call 58; refine hcG2.out.mono ?_; rintro e9 w9 ⟨rfl, q9, hw9⟩; rw [hw9]; clear hw9)
        | fail)
      go_ret
      exact Tells.no HN.out (HB.out _)
  subst h5
  by_cases h6 : la = la'
  case neg =>
    have HN : Hid (¬ SmM g n L fi ol he la g' n L' fi ol he la') := fun x => h6 x.2.2.2.2.2.1
    have d1 : (la == la') = false := by simpa using h6
    have d2 : decide (la = la') = false := by simpa using h6
    clear hA hB hA' hB' hb
    go_enter Tryz.func41, Tryz.ntmps41
    go_wp2_with (first
      | (go_at_call 58; refine hcG2.out.mono ?_; rintro e9 w9 ⟨rfl, q9, hw9⟩; rw [hw9]; clear hw9)
      | fail)
    go_ret
    exact Tells.no HN.out (HB.out _)
  subst h6
  obtain ⟨W, hW⟩ : ∃ W, W = ((w.alloc (.cells #[.slice go g.length gc, .slice bo n bc, .bool fi, .bool ol, .bool he, .int .i64 la] 34)).alloc (.cells #[.slice go' g'.length gc', .slice bo' n bc', .bool fi, .bool ol, .bool he, .int .i64 la] 34)) := ⟨_, rfl⟩
  rw [← hW] at hcG2 HB hA' hB' hb
  have b1 : W.heap[w.heap.size]? = some (.cells #[.slice go g.length gc, .slice bo n bc, .bool fi, .bool ol, .bool he, .int .i64 la] 34 (0, 0)) := by rw [hW]; exact (al2 w _ _).1
  have b2 : W.heap[w.heap.size + 1]? = some (.cells #[.slice go' g'.length gc', .slice bo' n bc', .bool fi, .bool ol, .bool he, .int .i64 la] 34 (0, 0)) := by rw [hW]; exact (al2 w _ _).2.1
  have p1 : W.cell? ⟨w.heap.size, 1, none⟩ = some (.slice bo n bc) := mblk b1 rfl
  have q1 : W.cell? ⟨w.heap.size + 1, 1, none⟩ = some (.slice bo' n bc') := mblk b2 rfl
  have p2 : W.cell? ⟨w.heap.size, 2, none⟩ = some (.bool fi) := mblk b1 rfl
  have q2 : W.cell? ⟨w.heap.size + 1, 2, none⟩ = some (.bool fi) := mblk b2 rfl
  have p3 : W.cell? ⟨w.heap.size, 3, none⟩ = some (.bool ol) := mblk b1 rfl
  have q3 : W.cell? ⟨w.heap.size + 1, 3, none⟩ = some (.bool ol) := mblk b2 rfl
  have p4 : W.cell? ⟨w.heap.size, 4, none⟩ = some (.bool he) := mblk b1 rfl
  have q4 : W.cell? ⟨w.heap.size + 1, 4, none⟩ = some (.bool he) := mblk b2 rfl
  have p5 : W.cell? ⟨w.heap.size, 5, none⟩ = some (.int .i64 la) := mblk b1 rfl
  have q5 : W.cell? ⟨w.heap.size + 1, 5, none⟩ = some (.int .i64 la) := mblk b2 rfl
  have HVA : Hid (∀ q, BV (W.drewN q) bo n L) := fun q => hA'.2.2
  have HVB : Hid (∀ q, BV (W.drewN q) bo' n L') := fun q => hB'.2.2
  have HL := hide hd.2.2
  have HL' := hide hd'.2.2
  have hn := hd.2.1
  clear hA hB hA' hB' hb b1 b2 hd hd' HB0
  go_enter Tryz.func41, Tryz.ntmps41
  go_wp2_with fail
  rw [← hW]
  clear hW
  refine hcG2.out.mono ?_
  rintro e w1 ⟨rfl, q9, rfl⟩
  clear hcG2
  go_wp2
  go_loopw [5] (fun i wr => ∃ k : Nat, k ≤ n ∧ i = .int .i64 k ∧ Hid (∀ j, j < k → L j = L' j) ∧ ∃ q, wr = W.drewN q) (fun i _ => n - (intOf i).toNat)
  case atStart => exact ⟨0, by omega, rfl, (fun j hj => absurd hj (by omega)), _, rfl⟩
  case round =>
    obtain ⟨k, hk, rfl, A, q, rfl⟩ := hrel
    by_cases hlt : k < n
    · obtain ⟨b, off, ro, rc, rfl, hc, hrc, hsl⟩ := HVA.out q k hlt
      obtain ⟨b', off', ro', rc', rfl, hc', hrc', hsl'⟩ := HVB.out q k hlt
      have hc0 : W.cell? ⟨b, off + k, none⟩ = some (.slice ro (L k).length rc) := hc
      have hc0' : W.cell? ⟨b', off' + k, none⟩ = some (.slice ro' (L' k).length rc') := hc'
      have hcall : ∀ q, Calls Tryz.prog 58 #[.slice ro (L k).length rc, .slice ro' (L' k).length rc'] (W.drewN q) fun e w' => ((L k = L' k ∧ e = .returned (.bool true)) ∨ (L k ≠ L' k ∧ e = .returned (.bool false))) ∧ ∃ m, w' = (W.drewN q).drewN m := fun q => lsame_spec ro ro' rc rc' (L k) (L' k) (W.drewN q) (HL.out k hlt) (HL'.out k hlt) hsl hsl'
      clear hsl hsl' hrc hrc' hc hc'
      by_cases heq : L k = L' k
      · have hcl : Hid (∀ q, Calls Tryz.prog 58 #[.slice ro (L k).length rc, .slice ro' (L' k).length rc'] (W.drewN q) fun e w' => e = .returned (.bool true) ∧ ∃ m, w' = (W.drewN q).drewN m) := fun q => (hcall q).mono fun _ _ ⟨x, y⟩ => ⟨x.elim (·.2) (fun z => absurd heq z.1), y⟩
        have HY := hide heq
        clear hcall heq
        generalize (L k).length = y at *
        generalize (L' k).length = z at *
        go_wp2
        go_quiet (first | (go_at_call 58; refine quiet_qq (hcl.out _)))
        go_wp2
        go_roundw
        case rel =>
          refine ⟨k + 1, by omega, by go_num, fun j hj => ?_, _, rfl⟩
          by_cases e : j = k
          · subst e; exact HY.out
          · exact A.out j (by omega)
        case measure => simp [intOf]; omega
      · have hcl : Hid (∀ q, Calls Tryz.prog 58 #[.slice ro (L k).length rc, .slice ro' (L' k).length rc'] (W.drewN q) fun e w' => e = .returned (.bool false) ∧ ∃ m, w' = (W.drewN q).drewN m) := fun q => (hcall q).mono fun _ _ ⟨x, y⟩ => ⟨x.elim (fun z => absurd z.1 heq) (·.2), y⟩
        have HN : Hid (¬ SmM g n L fi ol he la g' n L' fi ol he la) := fun x => heq (x.2.2.2.2.2.2 k hlt)
        clear hcall heq
        generalize (L k).length = y at *
        generalize (L' k).length = z at *
        go_wp2
        go_quiet (first | (go_at_call 58; refine quiet_qq (hcl.out _)))
        go_wp2
        go_ret
        exact Tells.no HN.out (by rw [World.drewN_drewN]; exact HB.out _)
    · obtain rfl : k = n := by omega
      go_wp2
      go_ret
      exact Tells.yes ⟨rfl, HE2.out, rfl, rfl, rfl, rfl, A.out⟩ (HB.out _)
end Go.Proofs.YtabknfmhhjelaaaGreatDoor

/- Lists of numbers, and what is known, held against each other: the parts. -/
import Derived.Test.YtkndnndildnbpaaGreatDoorGd
import Derived.Laws.StructEq
import Derived.Deep.RegionHeld3

namespace Go.Proofs.YtkndnndildnbpaaGreatDoor
open Go.ChangeShapes Go.WideShapes Go.ChangeAt Go.RowKit
set_option linter.unusedVariables false
set_option linter.unusedSimpArgs false
set_option maxRecDepth 100000

theorem same_list {l l' : List Int} : SameI (fun i => l.getD i 0) (fun i => l'.getD i 0) l.length l'.length ↔ l = l' := by
  constructor
  · rintro ⟨h1, h2⟩
    refine List.ext_getElem? fun j => ?_
    by_cases h : j < l.length
    · have := h2 j h
      have h' : j < l'.length := by omega
      simp only [List.getD, List.getElem?_eq_getElem h, List.getElem?_eq_getElem h', Option.getD_some] at this
      rw [List.getElem?_eq_getElem h, List.getElem?_eq_getElem h', this]
    · rw [List.getElem?_eq_none (by omega), List.getElem?_eq_none (by omega)]
  · rintro rfl
    exact ⟨rfl, fun _ _ => rfl⟩
theorem leq_impl (ao bo : Option Addr) (ca cb : Nat) (l l' : List Int) (w : World) (hl : l.length ≤ 1048576) (hA : SL .i64 w ao l.length (fun i => l.getD i 0)) (hB : SL .i64 w bo l'.length (fun i => l'.getD i 0)) :
    Calls Tryz.prog 226 #[.slice ao l.length ca, .slice bo l'.length cb] w fun e w' => ((l = l' ∧ e = .returned (.bool true)) ∨ (l ≠ l' ∧ e = .returned (.bool false))) ∧ ∃ q, w' = w.drewN q := by
  refine (sequal_any ao bo l.length l'.length ca cb _ _ w hl hA hB).mono ?_
  rintro e w' ⟨h, hq⟩
  refine ⟨?_, hq⟩
  rcases h with ⟨h, rfl⟩ | ⟨h, rfl⟩
  · exact .inl ⟨same_list.1 h, rfl⟩
  · exact .inr ⟨fun e => h (same_list.2 e), rfl⟩
theorem smarks_impl (ao bo : Option Addr) (ca cb : Nat) (l l' : List Int) (w : World) (hl : l.length ≤ 1048576) (hA : SL .i64 w ao l.length (fun i => l.getD i 0)) (hB : SL .i64 w bo l'.length (fun i => l'.getD i 0)) :
    Calls Tryz.prog 242 #[.slice ao l.length ca, .slice bo l'.length cb] w fun e w' => ((l = l' ∧ e = .returned (.bool true)) ∨ (l ≠ l' ∧ e = .returned (.bool false))) ∧ ∃ q, w' = w.drewN q := by
  have hc := hide (leq_impl ao bo ca cb l l' w hl hA hB)
  clear hA hB
  go_enter Tryz.func242, Tryz.ntmps242
  go_wp2_with fail
  refine hc.out.mono ?_
  rintro e w1 ⟨h, q, rfl⟩
  rcases h with ⟨h, rfl⟩ | ⟨h, rfl⟩
  · have HQ := hide h
    clear h
    go_wp2
    go_ret
    exact ⟨.inl ⟨HQ.out, rfl⟩, _, rfl⟩
  · have HQ := hide h
    clear h
    go_wp2
    go_ret
    exact ⟨.inr ⟨HQ.out, rfl⟩, _, rfl⟩
theorem smarks_yes (ao bo : Option Addr) (ca cb : Nat) (l l' : List Int) (w : World) (hl : l.length ≤ 1048576) (hA : SL .i64 w ao l.length (fun i => l.getD i 0)) (hB : SL .i64 w bo l'.length (fun i => l'.getD i 0)) (h : l = l') :
    Calls Tryz.prog 242 #[.slice ao l.length ca, .slice bo l'.length cb] w fun e w' => e = .returned (.bool true) ∧ ∃ q, w' = w.drewN q :=
  (smarks_impl ao bo ca cb l l' w hl hA hB).mono fun _ _ ⟨h1, h2⟩ => ⟨h1.elim (·.2) (fun x => absurd h x.1), h2⟩
theorem smarks_no (ao bo : Option Addr) (ca cb : Nat) (l l' : List Int) (w : World) (hl : l.length ≤ 1048576) (hA : SL .i64 w ao l.length (fun i => l.getD i 0)) (hB : SL .i64 w bo l'.length (fun i => l'.getD i 0)) (h : ¬ l = l') :
    Calls Tryz.prog 242 #[.slice ao l.length ca, .slice bo l'.length cb] w fun e w' => e = .returned (.bool false) ∧ ∃ q, w' = w.drewN q :=
  (smarks_impl ao bo ca cb l l' w hl hA hB).mono fun _ _ ⟨h1, h2⟩ => ⟨h1.elim (fun x => absurd x.1 h) (·.2), h2⟩

theorem lsame_spec (ao bo : Option Addr) (ca cb : Nat) (l l' : List Int) (w : World) (hl : l.length ≤ 1048576) (hl' : l'.length ≤ 1048576) (hA : SL .i64 w ao l.length (fun i => l.getD i 0)) (hB : SL .i64 w bo l'.length (fun i => l'.getD i 0)) :
    Calls Tryz.prog 207 #[.slice ao l.length ca, .slice bo l'.length cb] w fun e w' => ((l = l' ∧ e = .returned (.bool true)) ∨ (l ≠ l' ∧ e = .returned (.bool false))) ∧ ∃ q, w' = w.drewN q := by
  obtain ⟨f, hf⟩ : ∃ f : Nat → Int, f = fun i => l.getD i 0 := ⟨_, rfl⟩
  obtain ⟨g, hg⟩ : ∃ g : Nat → Int, g = fun i => l'.getD i 0 := ⟨_, rfl⟩
  have hE : Hid (SameI f g l.length l'.length ↔ l = l') := by rw [hf, hg]; exact same_list
  rw [← hf] at hA
  rw [← hg] at hB
  clear hf hg
  generalize l.length = n at *
  generalize l'.length = m at *
  have HA := hide hA
  have HB := hide hB
  clear hA hB
  go_enter Tryz.func207, Tryz.ntmps207
  go_wp2
  go_loopw [5] (fun i wr => ∃ k : Nat, (k ≤ n ∧ k ≤ m) ∧ i = .int .i64 k ∧ Hid (∀ j, j < k → f j = g j) ∧ ∃ q, wr = w.drewN q) (fun i _ => n - (intOf i).toNat)
  case atStart => exact ⟨0, by omega, rfl, (fun j hj => absurd hj (by omega)), 0, rfl⟩
  case round =>
    obtain ⟨k, ⟨hk, hk'⟩, rfl, A, q, rfl⟩ := hrel
    by_cases hlt : k < n
    · have d1 : decide ((k : Int) < (n : Int)) = true := decide_eq_true (by omega)
      by_cases hlt' : k < m
      · have d2 : decide ((k : Int) < (m : Int)) = true := decide_eq_true (by omega)
        obtain ⟨b, off, rfl, hb, hc⟩ := HA.out k hlt
        obtain ⟨b', off', rfl, hb', hc'⟩ := HB.out k hlt'
        generalize hy : f k = y at *
        generalize hz : g k = z at *
        have B := hide hy
        have C := hide hz
        clear hy hz
        by_cases he : y = z
        · subst he
          go_wp2
          go_quiet (fail)
          go_wp2
          go_roundw
          case rel =>
            refine ⟨k + 1, by omega, by go_num, fun j hj => ?_, _, rfl⟩
            by_cases e : j = k
            · subst e; rw [B.out, C.out]
            · exact A.out j (by omega)
          case measure => simp [intOf]; omega
        · have hd : decide (y = z) = false := by simpa using he
          have hno : Hid (l ≠ l') := fun h => he (by rw [← B.out, ← C.out]; exact (hE.out.2 h).2 k hlt)
          go_wp2
          go_quiet (fail)
          go_wp2
          go_ret
          exact ⟨.inr ⟨hno.out, rfl⟩, _, World.drewN_drewN ..⟩
      · have d2 : decide ((k : Int) < (m : Int)) = false := decide_eq_false (by omega)
        have hno : Hid (l ≠ l') := fun h => by have := (hE.out.2 h).1; omega
        have hd : ¬ (n : Int) = (m : Int) := by omega
        have hd2 : decide ((n : Int) = (m : Int)) = false := decide_eq_false hd
        have hd3 : ((n : Int) == (m : Int)) = false := by simpa using hd
        go_wp2
        go_ret
        exact ⟨.inr ⟨hno.out, rfl⟩, _, rfl⟩
    · have d1 : decide ((k : Int) < (n : Int)) = false := decide_eq_false (by omega)
      obtain rfl : k = n := by omega
      by_cases hnm : k = m
      · have hyes : Hid (l = l') := hE.out.1 ⟨hnm, A.out⟩
        subst hnm
        go_wp2
        go_ret
        exact ⟨.inl ⟨hyes.out, rfl⟩, _, rfl⟩
      · have hno : Hid (l ≠ l') := fun h => hnm (hE.out.2 h).1
        have hd : ¬ (k : Int) = (m : Int) := by omega
        have hd2 : decide ((k : Int) = (m : Int)) = false := decide_eq_false hd
        have hd3 : ((k : Int) == (m : Int)) = false := by simpa using hd
        go_wp2
        go_ret
        exact ⟨.inr ⟨hno.out, rfl⟩, _, rfl⟩

theorem eqfunc_impl (bo bo' : Option Addr) (n n' bc bc' : Nat) (L L' : Nat → List Int) (w : World) (hn : n ≤ 1048576) (hL : ∀ i, i < n → (L i).length ≤ 1048576) (hA : BV w bo n L) (hB : BV w bo' n' L') :
    Calls Tryz.prog 241 #[.slice bo n bc, .slice bo' n' bc', .func (.func 242) #[] #[]] w fun e w' => (((n = n' ∧ ∀ i, i < n → L i = L' i) ∧ e = .returned (.bool true)) ∨ (¬ (n = n' ∧ ∀ i, i < n → L i = L' i) ∧ e = .returned (.bool false))) ∧ ∃ q, w' = w.drewN q := by
  have eg : ∀ args w, (callFunc 242 args).run Tryz.prog w = .ok (.enter 242 args) w := enters_of Tryz.func242 (by kernel_rfl) rfl
  have HA := hide hA
  have HB := hide hB
  have HL := hide hL
  clear hA hB hL
  by_cases hnm : n = n'
  · subst hnm
    go_enter Tryz.func241, Tryz.ntmps241
    go_wp2
    go_loopw [7, 8, 9, 17] (fun _ _ _ i wr => ∃ k : Nat, k ≤ n ∧ i = .int .i64 k ∧ Hid (∀ j, j < k → L j = L' j) ∧ ∃ q, wr = w.drewN q) (fun _ _ _ i _ => n - (intOf i).toNat)
    case atStart => exact ⟨0, by omega, rfl, (fun j hj => absurd hj (by omega)), 0, rfl⟩
    case round =>
      obtain ⟨k, hk, rfl, A, q, rfl⟩ := hrel
      by_cases hlt : k < n
      · obtain ⟨b, off, ro, rc, rfl, hc, hrc, hsl⟩ := HA.out k hlt
        obtain ⟨b', off', ro', rc', rfl, hc', hrc', hsl'⟩ := HB.out k hlt
        by_cases heq : L k = L' k
        · have hcall := hide (smarks_yes ro ro' rc rc' (L k) (L' k) (w.drewN q) (HL.out k hlt) hsl hsl' heq)
          have HY := hide heq
          clear hsl hsl' hrc hrc' heq
          generalize (L k).length = y at *
          generalize (L' k).length = z at *
          go_wp2_with (go_at_fn 242; refine hcall.out.mono ?_; rintro e w1 ⟨rfl, q1, rfl⟩)
          go_roundw
          case rel =>
            refine ⟨k + 1, by omega, by go_num, fun j hj => ?_, _, rfl⟩
            by_cases e : j = k
            · subst e; exact HY.out
            · exact A.out j (by omega)
          case measure => simp [intOf]; omega
        · have hcall := hide (smarks_no ro ro' rc rc' (L k) (L' k) (w.drewN q) (HL.out k hlt) hsl hsl' heq)
          have hno : Hid (¬ (n = n ∧ ∀ i, i < n → L i = L' i)) := fun x => heq (x.2 k hlt)
          clear hsl hsl' hrc hrc' heq
          generalize (L k).length = y at *
          generalize (L' k).length = z at *
          go_wp2_with (go_at_fn 242; refine hcall.out.mono ?_; rintro e w1 ⟨rfl, q1, rfl⟩)
          go_ret
          exact ⟨.inr ⟨hno.out, rfl⟩, _, rfl⟩
      · obtain rfl : k = n := by omega
        go_wp2
        go_ret
        exact ⟨.inl ⟨⟨by simp, A.out⟩, rfl⟩, q, rfl⟩
  · have hd : ((n : Int) == (n' : Int)) = false := by simp; omega
    have hd2 : decide ((n : Int) = (n' : Int)) = false := by simp; omega
    have hd3 : ¬ (n : Int) = (n' : Int) := by omega
    go_enter Tryz.func241, Tryz.ntmps241
    go_wp2
    go_ret
    exact ⟨.inr ⟨fun h => hnm h.1, rfl⟩, 0, rfl⟩

theorem stateof (go bo : Option Addr) (gl gc n bc : Nat) (fi ol he : Bool) (la : Int) (w : World) :
    Calls Tryz.prog 240 #[.agg #[.slice go gl gc, .slice bo n bc, .bool fi, .bool ol, .bool he, .int .i64 la]] w fun e w' => e = .returned (.agg #[.bool fi, .bool ol, .bool he, .int .i64 la]) ∧ Below w.heap.size w w' := by
  go_enter Tryz.func240, Tryz.ntmps240
  go_wp2
  refine bodyPost_ret (v := .agg #[.bool fi, .bool ol, .bool he, .int .i64 la]) (by simp [results, Tryz.results240, go_sem]) rfl ⟨rfl, ((Below.refl _ _).alloc (Nat.le_refl _) _).alloc (by simp) _⟩
def SmM (g : List Int) (n : Nat) (L : Nat → List Int) (fi ol he : Bool) (la : Int) (g' : List Int) (n' : Nat) (L' : Nat → List Int) (fi' ol' he' : Bool) (la' : Int) : Prop :=
  n = n' ∧ g = g' ∧ fi = fi' ∧ ol = ol' ∧ he = he' ∧ la = la' ∧ ∀ i, i < n → L i = L' i

set_option maxHeartbeats 2000000 in
theorem samem_spec (go bo go' bo' : Option Addr) (gc bc gc' bc' : Nat) (g g' : List Int) (n n' : Nat) (L L' : Nat → List Int) (fi ol he fi' ol' he' : Bool) (la la' : Int) (w : World) (hd : Bd g n L) (hd' : Bd g' n' L') (hA : MV w go gc bo bc g n L) (hB : MV w go' gc' bo' bc' g' n' L') :
    Calls Tryz.prog 146 #[.agg #[.slice go g.length gc, .slice bo n bc, .bool fi, .bool ol, .bool he, .int .i64 la], .agg #[.slice go' g'.length gc', .slice bo' n' bc', .bool fi', .bool ol', .bool he', .int .i64 la']] w fun e w' => Tells w w' e (SmM g n L fi ol he la g' n' L' fi' ol' he' la') := by
  have hb : Below w.heap.size w ((w.alloc (.cells #[.slice go g.length gc, .slice bo n bc, .bool fi, .bool ol, .bool he, .int .i64 la] 25)).alloc (.cells #[.slice go' g'.length gc', .slice bo' n' bc', .bool fi', .bool ol', .bool he', .int .i64 la'] 25)) := ((Below.refl _ _).alloc (Nat.le_refl _) _).alloc (by simp) _
  have hA' := hA.below hb
  have hB' := hB.below hb
  have hcG := lsame_spec go go' gc gc' g g' ((w.alloc (.cells #[.slice go g.length gc, .slice bo n bc, .bool fi, .bool ol, .bool he, .int .i64 la] 25)).alloc (.cells #[.slice go' g'.length gc', .slice bo' n' bc', .bool fi', .bool ol', .bool he', .int .i64 la'] 25)) hd.1 hd'.1 hA'.2.1 hB'.2.1
  have HB0 := hide hb
  have HB : Hid (∀ q, Below w.heap.size w (((w.alloc (.cells #[.slice go g.length gc, .slice bo n bc, .bool fi, .bool ol, .bool he, .int .i64 la] 25)).alloc (.cells #[.slice go' g'.length gc', .slice bo' n' bc', .bool fi', .bool ol', .bool he', .int .i64 la'] 25)).drewN q)) := fun q => Below.drawn hb q
  by_cases h1 : n = n'
  case neg =>
    have HN : Hid (¬ SmM g n L fi ol he la g' n' L' fi' ol' he' la') := fun x => h1 x.1
    have d1 : ((n : Int) == (n' : Int)) = false := by simp; omega
    have d2 : decide ((n : Int) = (n' : Int)) = false := by simp; omega
    have d3 : ¬ (n : Int) = (n' : Int) := by omega
    clear hcG hA hB hA' hB' hb
    go_enter Tryz.func146, Tryz.ntmps146
    go_wp2
    go_ret
    exact Tells.no HN.out (HB0.out)
  subst h1
  by_cases h2 : g = g'
  case neg =>
    have HN : Hid (¬ SmM g n L fi ol he la g' n L' fi' ol' he' la') := fun x => h2 x.2.1
    have hcG2 : Hid (Calls Tryz.prog 207 #[.slice go g.length gc, .slice go' g'.length gc'] ((w.alloc (.cells #[.slice go g.length gc, .slice bo n bc, .bool fi, .bool ol, .bool he, .int .i64 la] 25)).alloc (.cells #[.slice go' g'.length gc', .slice bo' n bc', .bool fi', .bool ol', .bool he', .int .i64 la'] 25)) fun e w' => e = .returned (.bool false) ∧ ∃ q, w' = ((w.alloc (.cells #[.slice go g.length gc, .slice bo n bc, .bool fi, .bool ol, .bool he, .int .i64 la] 25)).alloc (.cells #[.slice go' g'.length gc', .slice bo' n bc', .bool fi', .bool ol', .bool he', .int .i64 la'] 25)).drewN q) := hcG.mono fun _ _ ⟨x, y⟩ => ⟨x.elim (fun z => absurd z.1 h2) (·.2), y⟩
    clear hcG hA hB hA' hB' hb h2
    go_enter Tryz.func146, Tryz.ntmps146
    go_wp2_with (first
      | (go_at_call 207; refine hcG2.out.mono ?_; rintro e9 w9 ⟨rfl, q9, hw9⟩; rw [hw9]; clear hw9)
      | fail)
    go_ret
    exact Tells.no HN.out (HB.out _)
  have hcG2 : Hid (Calls Tryz.prog 207 #[.slice go g.length gc, .slice go' g'.length gc'] ((w.alloc (.cells #[.slice go g.length gc, .slice bo n bc, .bool fi, .bool ol, .bool he, .int .i64 la] 25)).alloc (.cells #[.slice go' g'.length gc', .slice bo' n bc', .bool fi', .bool ol', .bool he', .int .i64 la'] 25)) fun e w' => e = .returned (.bool true) ∧ ∃ q, w' = ((w.alloc (.cells #[.slice go g.length gc, .slice bo n bc, .bool fi, .bool ol, .bool he, .int .i64 la] 25)).alloc (.cells #[.slice go' g'.length gc', .slice bo' n bc', .bool fi', .bool ol', .bool he', .int .i64 la'] 25)).drewN q) := hcG.mono fun _ _ ⟨x, y⟩ => ⟨x.elim (·.2) (fun z => absurd h2 z.1), y⟩
  have HE2 := hide h2
  clear hcG h2
  by_cases h3 : fi = fi'
  case neg =>
    have HN : Hid (¬ SmM g n L fi ol he la g' n L' fi' ol' he' la') := fun x => h3 x.2.2.1
    clear hA hB hA' hB' hb
    cases fi <;> cases fi'
    case false.false => exact absurd rfl h3
    case true.true => exact absurd rfl h3
    all_goals
      clear h3
      go_enter Tryz.func146, Tryz.ntmps146
      go_wp2_with (first
        | (go_at_call 207; refine hcG2.out.mono ?_; rintro e9 w9 ⟨rfl, q9, hw9⟩; rw [hw9]; clear hw9)
        | fail)
      go_ret
      exact Tells.no HN.out (HB.out _)
  subst h3
  by_cases h4 : ol = ol'
  case neg =>
    have HN : Hid (¬ SmM g n L fi ol he la g' n L' fi ol' he' la') := fun x => h4 x.2.2.2.1
    clear hA hB hA' hB' hb
    cases ol <;> cases ol'
    case false.false => exact absurd rfl h4
    case true.true => exact absurd rfl h4
    all_goals
      clear h4
      go_enter Tryz.func146, Tryz.ntmps146
      go_wp2_with (first
        | (go_at_call 207; refine hcG2.out.mono ?_; rintro e9 w9 ⟨rfl, q9, hw9⟩; rw [hw9]; clear hw9)
        | fail)
      go_ret
      exact Tells.no HN.out (HB.out _)
  subst h4
  by_cases h5 : he = he'
  case neg =>
    have HN : Hid (¬ SmM g n L fi ol he la g' n L' fi ol he' la') := fun x => h5 x.2.2.2.2.1
    clear hA hB hA' hB' hb
    cases he <;> cases he'
    case false.false => exact absurd rfl h5
    case true.true => exact absurd rfl h5
    all_goals
      clear h5
      go_enter Tryz.func146, Tryz.ntmps146
      go_wp2_with (first
        | (go_at_call 207; refine hcG2.out.mono ?_; rintro e9 w9 ⟨rfl, q9, hw9⟩; rw [hw9]; clear hw9)
        | fail)
      go_ret
      exact Tells.no HN.out (HB.out _)
  subst h5
  by_cases h6 : la = la'
  case neg =>
    have HN : Hid (¬ SmM g n L fi ol he la g' n L' fi ol he la') := fun x => h6 x.2.2.2.2.2.1
    have d1 : (la == la') = false := by simpa using h6
    have d2 : decide (la = la') = false := by simpa using h6
    clear hA hB hA' hB' hb
    go_enter Tryz.func146, Tryz.ntmps146
    go_wp2_with (first
      | (go_at_call 207; refine hcG2.out.mono ?_; rintro e9 w9 ⟨rfl, q9, hw9⟩; rw [hw9]; clear hw9)
      | fail)
    go_ret
    exact Tells.no HN.out (HB.out _)
  subst h6
  obtain ⟨W, hW⟩ : ∃ W, W = ((w.alloc (.cells #[.slice go g.length gc, .slice bo n bc, .bool fi, .bool ol, .bool he, .int .i64 la] 25)).alloc (.cells #[.slice go' g'.length gc', .slice bo' n bc', .bool fi, .bool ol, .bool he, .int .i64 la] 25)) := ⟨_, rfl⟩
  rw [← hW] at hcG2 HB hA' hB' hb
  have b1 : W.heap[w.heap.size]? = some (.cells #[.slice go g.length gc, .slice bo n bc, .bool fi, .bool ol, .bool he, .int .i64 la] 25 (0, 0)) := by rw [hW]; exact (al2 w _ _).1
  have b2 : W.heap[w.heap.size + 1]? = some (.cells #[.slice go' g'.length gc', .slice bo' n bc', .bool fi, .bool ol, .bool he, .int .i64 la] 25 (0, 0)) := by rw [hW]; exact (al2 w _ _).2.1
  have p1 : W.cell? ⟨w.heap.size, 1, none⟩ = some (.slice bo n bc) := mblk b1 rfl
  have q1 : W.cell? ⟨w.heap.size + 1, 1, none⟩ = some (.slice bo' n bc') := mblk b2 rfl
  have p2 : W.cell? ⟨w.heap.size, 2, none⟩ = some (.bool fi) := mblk b1 rfl
  have q2 : W.cell? ⟨w.heap.size + 1, 2, none⟩ = some (.bool fi) := mblk b2 rfl
  have p3 : W.cell? ⟨w.heap.size, 3, none⟩ = some (.bool ol) := mblk b1 rfl
  have q3 : W.cell? ⟨w.heap.size + 1, 3, none⟩ = some (.bool ol) := mblk b2 rfl
  have p4 : W.cell? ⟨w.heap.size, 4, none⟩ = some (.bool he) := mblk b1 rfl
  have q4 : W.cell? ⟨w.heap.size + 1, 4, none⟩ = some (.bool he) := mblk b2 rfl
  have p5 : W.cell? ⟨w.heap.size, 5, none⟩ = some (.int .i64 la) := mblk b1 rfl
  have q5 : W.cell? ⟨w.heap.size + 1, 5, none⟩ = some (.int .i64 la) := mblk b2 rfl
  have HVA : Hid (∀ q, BV (W.drewN q) bo n L) := fun q => hA'.2.2
  have HVB : Hid (∀ q, BV (W.drewN q) bo' n L') := fun q => hB'.2.2
  have HL := hide hd.2.2
  have HL' := hide hd'.2.2
  have hn := hd.2.1
  clear hA hB hA' hB' hb b1 b2 hd hd' HB0
  go_enter Tryz.func146, Tryz.ntmps146
  go_wp2_with fail
  rw [← hW]
  clear hW
  refine hcG2.out.mono ?_
  rintro e w1 ⟨rfl, q9, rfl⟩
  clear hcG2
  go_wp2
  go_loopw [5] (fun i wr => ∃ k : Nat, k ≤ n ∧ i = .int .i64 k ∧ Hid (∀ j, j < k → L j = L' j) ∧ ∃ q, wr = W.drewN q) (fun i _ => n - (intOf i).toNat)
  case atStart => exact ⟨0, by omega, rfl, (fun j hj => absurd hj (by omega)), _, rfl⟩
  case round =>
    obtain ⟨k, hk, rfl, A, q, rfl⟩ := hrel
    by_cases hlt : k < n
    · obtain ⟨b, off, ro, rc, rfl, hc, hrc, hsl⟩ := HVA.out q k hlt
      obtain ⟨b', off', ro', rc', rfl, hc', hrc', hsl'⟩ := HVB.out q k hlt
      have hc0 : W.cell? ⟨b, off + k, none⟩ = some (.slice ro (L k).length rc) := hc
      have hc0' : W.cell? ⟨b', off' + k, none⟩ = some (.slice ro' (L' k).length rc') := hc'
      have hcall : ∀ q, Calls Tryz.prog 207 #[.slice ro (L k).length rc, .slice ro' (L' k).length rc'] (W.drewN q) fun e w' => ((L k = L' k ∧ e = .returned (.bool true)) ∨ (L k ≠ L' k ∧ e = .returned (.bool false))) ∧ ∃ m, w' = (W.drewN q).drewN m := fun q => lsame_spec ro ro' rc rc' (L k) (L' k) (W.drewN q) (HL.out k hlt) (HL'.out k hlt) hsl hsl'
      clear hsl hsl' hrc hrc' hc hc'
      by_cases heq : L k = L' k
      · have hcl : Hid (∀ q, Calls Tryz.prog 207 #[.slice ro (L k).length rc, .slice ro' (L' k).length rc'] (W.drewN q) fun e w' => e = .returned (.bool true) ∧ ∃ m, w' = (W.drewN q).drewN m) := fun q => (hcall q).mono fun _ _ ⟨x, y⟩ => ⟨x.elim (·.2) (fun z => absurd heq z.1), y⟩
        have HY := hide heq
        clear hcall heq
        generalize (L k).length = y at *
        generalize (L' k).length = z at *
        go_wp2
        go_quiet (first | (go_at_call 207; refine quiet_qq (hcl.out _)))
        go_wp2
        go_roundw
        case rel =>
          refine ⟨k + 1, by omega, by go_num, fun j hj => ?_, _, rfl⟩
          by_cases e : j = k
          · subst e; exact HY.out
          · exact A.out j (by omega)
        case measure => simp [intOf]; omega
      · have hcl : Hid (∀ q, Calls Tryz.prog 207 #[.slice ro (L k).length rc, .slice ro' (L' k).length rc'] (W.drewN q) fun e w' => e = .returned (.bool false) ∧ ∃ m, w' = (W.drewN q).drewN m) := fun q => (hcall q).mono fun _ _ ⟨x, y⟩ => ⟨x.elim (fun z => absurd z.1 heq) (·.2), y⟩
        have HN : Hid (¬ SmM g n L fi ol he la g' n L' fi ol he la) := fun x => heq (x.2.2.2.2.2.2 k hlt)
        clear hcall heq
        generalize (L k).length = y at *
        generalize (L' k).length = z at *
        go_wp2
        go_quiet (first | (go_at_call 207; refine quiet_qq (hcl.out _)))
        go_wp2
        go_ret
        exact Tells.no HN.out (by rw [World.drewN_drewN]; exact HB.out _)
    · obtain rfl : k = n := by omega
      go_wp2
      go_ret
      exact Tells.yes ⟨rfl, HE2.out, rfl, rfl, rfl, rfl, A.out⟩ (HB.out _)
theorem leq_yes (ao bo : Option Addr) (ca cb : Nat) (l l' : List Int) (w : World) (hl : l.length ≤ 1048576) (hA : SL .i64 w ao l.length (fun i => l.getD i 0)) (hB : SL .i64 w bo l'.length (fun i => l'.getD i 0)) (h : l = l') :
    Calls Tryz.prog 226 #[.slice ao l.length ca, .slice bo l'.length cb] w fun e w' => e = .returned (.bool true) ∧ ∃ q, w' = w.drewN q :=
  (leq_impl ao bo ca cb l l' w hl hA hB).mono fun _ _ ⟨h1, h2⟩ => ⟨h1.elim (·.2) (fun x => absurd h x.1), h2⟩
theorem leq_no (ao bo : Option Addr) (ca cb : Nat) (l l' : List Int) (w : World) (hl : l.length ≤ 1048576) (hA : SL .i64 w ao l.length (fun i => l.getD i 0)) (hB : SL .i64 w bo l'.length (fun i => l'.getD i 0)) (h : ¬ l = l') :
    Calls Tryz.prog 226 #[.slice ao l.length ca, .slice bo l'.length cb] w fun e w' => e = .returned (.bool false) ∧ ∃ q, w' = w.drewN q :=
  (leq_impl ao bo ca cb l l' w hl hA hB).mono fun _ _ ⟨h1, h2⟩ => ⟨h1.elim (fun x => absurd x.1 h) (·.2), h2⟩
theorem eqfunc_yes (bo bo' : Option Addr) (n n' bc bc' : Nat) (L L' : Nat → List Int) (w : World) (hn : n ≤ 1048576) (hL : ∀ i, i < n → (L i).length ≤ 1048576) (hA : BV w bo n L) (hB : BV w bo' n' L') (h : n = n' ∧ ∀ i, i < n → L i = L' i) :
    Calls Tryz.prog 241 #[.slice bo n bc, .slice bo' n' bc', .func (.func 242) #[] #[]] w fun e w' => e = .returned (.bool true) ∧ ∃ q, w' = w.drewN q :=
  (eqfunc_impl bo bo' n n' bc bc' L L' w hn hL hA hB).mono fun _ _ ⟨h1, h2⟩ => ⟨h1.elim (·.2) (fun x => absurd h x.1), h2⟩
theorem eqfunc_no (bo bo' : Option Addr) (n n' bc bc' : Nat) (L L' : Nat → List Int) (w : World) (hn : n ≤ 1048576) (hL : ∀ i, i < n → (L i).length ≤ 1048576) (hA : BV w bo n L) (hB : BV w bo' n' L') (h : ¬ (n = n' ∧ ∀ i, i < n → L i = L' i)) :
    Calls Tryz.prog 241 #[.slice bo n bc, .slice bo' n' bc', .func (.func 242) #[] #[]] w fun e w' => e = .returned (.bool false) ∧ ∃ q, w' = w.drewN q :=
  (eqfunc_impl bo bo' n n' bc bc' L L' w hn hL hA hB).mono fun _ _ ⟨h1, h2⟩ => ⟨h1.elim (fun x => absurd x.1 h) (·.2), h2⟩

set_option maxHeartbeats 2000000 in
theorem samem_impl (go bo go' bo' : Option Addr) (gc bc gc' bc' : Nat) (g g' : List Int) (n n' : Nat) (L L' : Nat → List Int) (fi ol he fi' ol' he' : Bool) (la la' : Int) (w : World) (hd : Bd g n L) (hA : MV w go gc bo bc g n L) (hB : MV w go' gc' bo' bc' g' n' L') :
    Calls Tryz.prog 211 #[.agg #[.slice go g.length gc, .slice bo n bc, .bool fi, .bool ol, .bool he, .int .i64 la], .agg #[.slice go' g'.length gc', .slice bo' n' bc', .bool fi', .bool ol', .bool he', .int .i64 la']] w fun e w' => Tells w w' e (SmM g n L fi ol he la g' n' L' fi' ol' he' la') := by
  by_cases h3 : fi = fi'
  case neg =>
    have HN : Hid (¬ SmM g n L fi ol he la g' n' L' fi' ol' he' la') := fun x => h3 x.2.2.1
    have d1 : (fi == fi') = false := by simpa using h3
    obtain ⟨W, hW⟩ : ∃ W, W = ((w.alloc (.cells #[.slice go g.length gc, .slice bo n bc, .bool fi, .bool ol, .bool he, .int .i64 la] 25)).alloc (.cells #[.slice go' g'.length gc', .slice bo' n' bc', .bool fi', .bool ol', .bool he', .int .i64 la'] 25)) := ⟨_, rfl⟩
    have hb : Below w.heap.size w W := by rw [hW]; exact ((Below.refl _ _).alloc (Nat.le_refl _) _).alloc (by simp) _
    have M1 : KB W w.heap.size 25 go g.length gc bo n bc fi ol he la := by rw [hW]; exact (al2 w _ _).1
    have M2 : KB W (w.heap.size + 1) 25 go' g'.length gc' bo' n' bc' fi' ol' he' la' := by rw [hW]; exact (al2 w _ _).2.1
    have H5 : Hid (KB W.drew w.heap.size 25 go g.length gc bo n bc fi ol he la ∧ KB W.drew (w.heap.size + 1) 25 go' g'.length gc' bo' n' bc' fi' ol' he' la' ∧ MV W.drew go gc bo bc g n L ∧ MV W.drew go' gc' bo' bc' g' n' L' ∧ Below w.heap.size w W.drew) := ⟨M1, M2, hA.below (Below.drawn hb 1), hB.below (Below.drawn hb 1), Below.drawn hb 1⟩
    obtain ⟨m0, m1, m2, m3, m4, m5⟩ := M1.cells
    obtain ⟨x0, x1, x2, x3, x4, x5⟩ := M2.cells
    clear M1 M2 hb hA hB
    go_enter Tryz.func211, Tryz.ntmps211
    go_wp2_with fail
    rw [← hW]
    clear hW
    refine wp_region_held_drew (S := (fun w' => (w'.cell? ⟨w.heap.size, 0, none⟩ = some (.slice go g.length gc) ∧ w'.cell? ⟨w.heap.size, 1, none⟩ = some (.slice bo n bc) ∧ w'.cell? ⟨w.heap.size, 2, none⟩ = some (.bool fi) ∧ w'.cell? ⟨w.heap.size, 3, none⟩ = some (.bool ol) ∧ w'.cell? ⟨w.heap.size, 4, none⟩ = some (.bool he) ∧ w'.cell? ⟨w.heap.size, 5, none⟩ = some (.int .i64 la)) ∧ (w'.cell? ⟨w.heap.size + 1, 0, none⟩ = some (.slice go' g'.length gc') ∧ w'.cell? ⟨w.heap.size + 1, 1, none⟩ = some (.slice bo' n' bc') ∧ w'.cell? ⟨w.heap.size + 1, 2, none⟩ = some (.bool fi') ∧ w'.cell? ⟨w.heap.size + 1, 3, none⟩ = some (.bool ol') ∧ w'.cell? ⟨w.heap.size + 1, 4, none⟩ = some (.bool he') ∧ w'.cell? ⟨w.heap.size + 1, 5, none⟩ = some (.int .i64 la')))) (by kernel_rfl) ?_ (fun hHeld => ?_)
    · exact ⟨⟨m0, m1, m2, m3, m4, m5⟩, x0, x1, x2, x3, x4, x5⟩
    refine wpAnyH_take (i := 0) (oi := { dst := some 5, op := Op.load 25 (Operand.tmp 2), type := 25, pos := "l05_meta.go:68", after := #[], guard := none }) (v := ?_) rfl (by kernel_rfl) (by kernel_rfl) (by kernel_rfl) (fun _ _ _ h => h) (Or.inl ⟨by rfl, ?_⟩) (by assumption) ?_
    rotate_left 1
    · (intro wq hSw; (try dsimp only at hSw); go_simp; try with_reducible rfl)
    try simp only [Act.put, ly1, ly2, ly3]
    refine wpAnyH_take (i := 2) (oi := { dst := some 7, op := Op.load 25 (Operand.tmp 3), type := 25, pos := "l05_meta.go:68", after := #[], guard := none }) (v := ?_) rfl (by kernel_rfl) (by kernel_rfl) (by kernel_rfl) (fun _ _ _ h => h) (Or.inl ⟨by rfl, ?_⟩) (by assumption) ?_
    rotate_left 1
    · (intro wq hSw; (try dsimp only at hSw); go_simp; try with_reducible rfl)
    try simp only [Act.put, ly1, ly2, ly3]
    refine wpAnyH_ready (rs := [1]) (by kernel_rfl) (by simp) ?_
    refine AllReadyH.cons (o := { dst := some 6, op := Op.call { callee := Callee.value (Operand.func 240), args := #[Operand.tmp 5], argTypes := #[25] }, type := 209, pos := "l05_meta.go:68", after := #[{ on := 0, ground := Ground.data }], guard := none }) rfl (fun K hK => ?_) AllReadyH.nil
    go_simp
    refine (stateof _ _ _ _ _ _ _ _ _ _ _).mono ?_
    rintro e w6 ⟨rfl, b6⟩
    have H6 : Hid (KB w6 w.heap.size 25 go g.length gc bo n bc fi ol he la ∧ KB w6 (w.heap.size + 1) 25 go' g'.length gc' bo' n' bc' fi' ol' he' la' ∧ MV w6 go gc bo bc g n L ∧ MV w6 go' gc' bo' bc' g' n' L' ∧ Below w.heap.size w w6) := ⟨H5.out.1.b b6, H5.out.2.1.b b6, H5.out.2.2.1.below b6, H5.out.2.2.2.1.below b6, H5.out.2.2.2.2.trans (b6.mono H5.out.2.2.2.2.size)⟩
    have hk6 := And.intro H6.out.1.cells H6.out.2.1.cells
    clear b6
    go_wp2_with fail
    refine hK.out _ _ ?_ (fun hHeld => ?_)
    · exact hk6
    clear hK K
    try simp only [Act.put, ly1, ly2, ly3]
    refine wpAnyH_ready (rs := [3]) (by kernel_rfl) (by simp) ?_
    refine AllReadyH.cons (o := { dst := some 8, op := Op.call { callee := Callee.value (Operand.func 240), args := #[Operand.tmp 7], argTypes := #[25] }, type := 209, pos := "l05_meta.go:68", after := #[{ on := 2, ground := Ground.data }, { on := 1, ground := Ground.chain }], guard := none }) rfl (fun K hK => ?_) AllReadyH.nil
    go_simp
    refine (stateof _ _ _ _ _ _ _ _ _ _ _).mono ?_
    rintro e w7 ⟨rfl, b7⟩
    have H7 : Hid (KB w7 w.heap.size 25 go g.length gc bo n bc fi ol he la ∧ KB w7 (w.heap.size + 1) 25 go' g'.length gc' bo' n' bc' fi' ol' he' la' ∧ MV w7 go gc bo bc g n L ∧ MV w7 go' gc' bo' bc' g' n' L' ∧ Below w.heap.size w w7) := ⟨H6.out.1.b b7, H6.out.2.1.b b7, H6.out.2.2.1.below b7, H6.out.2.2.2.1.below b7, H6.out.2.2.2.2.trans (b7.mono H6.out.2.2.2.2.size)⟩
    have hk7 := And.intro H7.out.1.cells H7.out.2.1.cells
    clear b7
    go_wp2_with fail
    refine hK.out _ _ ?_ (fun hHeld => ?_)
    · exact hk7
    clear hK K
    try simp only [Act.put, ly1, ly2, ly3]
    refine wpAnyH_take (i := 4) (oi := { dst := some 9, op := Op.binOp BinOp.eql 209 (Operand.tmp 6) (Operand.tmp 8) 209, type := 4, pos := "l05_meta.go:68", after := #[{ on := 1, ground := Ground.data }, { on := 3, ground := Ground.data }], guard := none }) (v := ?_) rfl (by kernel_rfl) (by kernel_rfl) (by kernel_rfl) (fun _ _ _ h => h) (Or.inl ⟨by rfl, ?_⟩) (by assumption) ?_
    rotate_left 1
    · (intro wq hSw; (try dsimp only at hSw); go_simp; try with_reducible rfl)
    try simp only [Act.put, ly1, ly2, ly3]
    refine wpAnyH_take (i := 5) (oi := { dst := some 10, op := Op.move (Operand.tmp 9), type := 4, pos := "l05_meta.go:68", after := #[{ on := 4, ground := Ground.data }, { on := 3, ground := Ground.chain }], guard := none }) (v := ?_) rfl (by kernel_rfl) (by kernel_rfl) (by kernel_rfl) (fun _ _ _ h => h) (Or.inl ⟨by rfl, ?_⟩) (by assumption) ?_
    rotate_left 1
    · (intro wq hSw; (try dsimp only at hSw); go_simp; try with_reducible rfl)
    try simp only [Act.put, ly1, ly2, ly3]
    refine wpAnyH_take (i := 6) (oi := { dst := some 11, op := Op.fieldAddr 25 (Operand.tmp 2) 0, type := 0, pos := "l05_meta.go:68", after := #[{ on := 5, ground := Ground.guard }], guard := some (5, true) }) (v := undef) rfl (by kernel_rfl) (by kernel_rfl) (by kernel_rfl) (fun _ _ _ h => h) (Or.inr ⟨by rfl, rfl⟩) (by assumption) ?_
    try simp only [Act.put, ly1, ly2, ly3]
    refine wpAnyH_take (i := 7) (oi := { dst := some 12, op := Op.load 22 (Operand.tmp 11), type := 22, pos := "l05_meta.go:68", after := #[{ on := 6, ground := Ground.data }, { on := 5, ground := Ground.guard }], guard := some (5, true) }) (v := undef) rfl (by kernel_rfl) (by kernel_rfl) (by kernel_rfl) (fun _ _ _ h => h) (Or.inr ⟨by rfl, rfl⟩) (by assumption) ?_
    try simp only [Act.put, ly1, ly2, ly3]
    refine wpAnyH_take (i := 8) (oi := { dst := some 13, op := Op.fieldAddr 25 (Operand.tmp 3) 0, type := 0, pos := "l05_meta.go:68", after := #[{ on := 5, ground := Ground.guard }], guard := some (5, true) }) (v := undef) rfl (by kernel_rfl) (by kernel_rfl) (by kernel_rfl) (fun _ _ _ h => h) (Or.inr ⟨by rfl, rfl⟩) (by assumption) ?_
    try simp only [Act.put, ly1, ly2, ly3]
    refine wpAnyH_take (i := 9) (oi := { dst := some 14, op := Op.load 22 (Operand.tmp 13), type := 22, pos := "l05_meta.go:68", after := #[{ on := 8, ground := Ground.data }, { on := 5, ground := Ground.guard }], guard := some (5, true) }) (v := undef) rfl (by kernel_rfl) (by kernel_rfl) (by kernel_rfl) (fun _ _ _ h => h) (Or.inr ⟨by rfl, rfl⟩) (by assumption) ?_
    try simp only [Act.put, ly1, ly2, ly3]
    refine wpAnyH_take (i := 10) (oi := { dst := some 15, op := Op.call { callee := Callee.value (Operand.func 226), args := #[Operand.tmp 12, Operand.tmp 14], argTypes := #[22, 22] }, type := 4, pos := "l05_meta.go:68", after := #[{ on := 7, ground := Ground.data }, { on := 9, ground := Ground.data }, { on := 5, ground := Ground.chain }, { on := 5, ground := Ground.guard }], guard := some (5, true) }) (v := undef) rfl (by kernel_rfl) (by kernel_rfl) (by kernel_rfl) (fun _ _ _ h => h) (Or.inr ⟨by rfl, rfl⟩) (by assumption) ?_
    try simp only [Act.put, ly1, ly2, ly3]
    refine wpAnyH_take (i := 11) (oi := { dst := some 16, op := Op.pick (Operand.tmp 10) (Operand.tmp 15) (Operand.const (Value.bool false)), type := 4, pos := "l05_meta.go:68", after := #[{ on := 5, ground := Ground.data }, { on := 10, ground := Ground.data }], guard := none }) (v := ?_) rfl (by kernel_rfl) (by kernel_rfl) (by kernel_rfl) (fun _ _ _ h => h) (Or.inl ⟨by rfl, ?_⟩) (by assumption) ?_
    rotate_left 1
    · (intro wq hSw; (try dsimp only at hSw); go_simp; try with_reducible rfl)
    try simp only [Act.put, ly1, ly2, ly3]
    refine wpAnyH_take (i := 12) (oi := { dst := some 17, op := Op.move (Operand.tmp 16), type := 4, pos := "l05_meta.go:68", after := #[{ on := 11, ground := Ground.data }, { on := 10, ground := Ground.chain }], guard := none }) (v := ?_) rfl (by kernel_rfl) (by kernel_rfl) (by kernel_rfl) (fun _ _ _ h => h) (Or.inl ⟨by rfl, ?_⟩) (by assumption) ?_
    rotate_left 1
    · (intro wq hSw; (try dsimp only at hSw); go_simp; try with_reducible rfl)
    try simp only [Act.put, ly1, ly2, ly3]
    refine wpAnyH_take (i := 13) (oi := { dst := some 18, op := Op.fieldAddr 25 (Operand.tmp 2) 1, type := 0, pos := "l05_meta.go:68", after := #[{ on := 12, ground := Ground.guard }], guard := some (12, true) }) (v := undef) rfl (by kernel_rfl) (by kernel_rfl) (by kernel_rfl) (fun _ _ _ h => h) (Or.inr ⟨by rfl, rfl⟩) (by assumption) ?_
    try simp only [Act.put, ly1, ly2, ly3]
    refine wpAnyH_take (i := 14) (oi := { dst := some 19, op := Op.load 23 (Operand.tmp 18), type := 23, pos := "l05_meta.go:68", after := #[{ on := 13, ground := Ground.data }, { on := 12, ground := Ground.guard }], guard := some (12, true) }) (v := undef) rfl (by kernel_rfl) (by kernel_rfl) (by kernel_rfl) (fun _ _ _ h => h) (Or.inr ⟨by rfl, rfl⟩) (by assumption) ?_
    try simp only [Act.put, ly1, ly2, ly3]
    refine wpAnyH_take (i := 15) (oi := { dst := some 20, op := Op.fieldAddr 25 (Operand.tmp 3) 1, type := 0, pos := "l05_meta.go:68", after := #[{ on := 12, ground := Ground.guard }], guard := some (12, true) }) (v := undef) rfl (by kernel_rfl) (by kernel_rfl) (by kernel_rfl) (fun _ _ _ h => h) (Or.inr ⟨by rfl, rfl⟩) (by assumption) ?_
    try simp only [Act.put, ly1, ly2, ly3]
    refine wpAnyH_take (i := 16) (oi := { dst := some 21, op := Op.load 23 (Operand.tmp 20), type := 23, pos := "l05_meta.go:68", after := #[{ on := 15, ground := Ground.data }, { on := 12, ground := Ground.guard }], guard := some (12, true) }) (v := undef) rfl (by kernel_rfl) (by kernel_rfl) (by kernel_rfl) (fun _ _ _ h => h) (Or.inr ⟨by rfl, rfl⟩) (by assumption) ?_
    try simp only [Act.put, ly1, ly2, ly3]
    refine wpAnyH_take (i := 17) (oi := { dst := some 22, op := Op.call { callee := Callee.value (Operand.func 241), args := #[Operand.tmp 19, Operand.tmp 21, Operand.func 242], argTypes := #[23, 23, 77] }, type := 4, pos := "l05_meta.go:68", after := #[{ on := 14, ground := Ground.data }, { on := 16, ground := Ground.data }, { on := 12, ground := Ground.chain }, { on := 12, ground := Ground.guard }], guard := some (12, true) }) (v := undef) rfl (by kernel_rfl) (by kernel_rfl) (by kernel_rfl) (fun _ _ _ h => h) (Or.inr ⟨by rfl, rfl⟩) (by assumption) ?_
    try simp only [Act.put, ly1, ly2, ly3]
    refine wpAnyH_take (i := 18) (oi := { dst := some 23, op := Op.pick (Operand.tmp 17) (Operand.tmp 22) (Operand.const (Value.bool false)), type := 4, pos := "l05_meta.go:68", after := #[{ on := 12, ground := Ground.data }, { on := 17, ground := Ground.data }], guard := none }) (v := ?_) rfl (by kernel_rfl) (by kernel_rfl) (by kernel_rfl) (fun _ _ _ h => h) (Or.inl ⟨by rfl, ?_⟩) (by assumption) ?_
    rotate_left 1
    · (intro wq hSw; (try dsimp only at hSw); go_simp; try with_reducible rfl)
    try simp only [Act.put, ly1, ly2, ly3]
    refine wpAnyH_take (i := 19) (oi := { dst := some 4, op := Op.assign (Operand.tmp 23), type := 4, pos := "l05_meta.go:68", after := #[{ on := 18, ground := Ground.data }, { on := 17, ground := Ground.chain }, { on := 0, ground := Ground.phase }, { on := 1, ground := Ground.phase }, { on := 2, ground := Ground.phase }, { on := 3, ground := Ground.phase }, { on := 4, ground := Ground.phase }, { on := 5, ground := Ground.phase }, { on := 6, ground := Ground.phase }, { on := 7, ground := Ground.phase }, { on := 8, ground := Ground.phase }, { on := 9, ground := Ground.phase }, { on := 10, ground := Ground.phase }, { on := 11, ground := Ground.phase }, { on := 12, ground := Ground.phase }, { on := 13, ground := Ground.phase }, { on := 14, ground := Ground.phase }, { on := 15, ground := Ground.phase }, { on := 16, ground := Ground.phase }, { on := 17, ground := Ground.phase }, { on := 18, ground := Ground.phase }], guard := none }) (v := ?_) rfl (by kernel_rfl) (by kernel_rfl) (by kernel_rfl) (fun _ _ _ h => h) (Or.inl ⟨by rfl, ?_⟩) (by assumption) ?_
    rotate_left 1
    · (intro wq hSw; (try dsimp only at hSw); go_simp; try with_reducible rfl)
    try simp only [Act.put, ly1, ly2, ly3]
    refine wpAnyH_done (by kernel_rfl) ?_ _
    go_wp2
    go_ret
    exact Tells.no HN.out (H7.out.2.2.2.2)
  subst h3
  by_cases h4 : ol = ol'
  case neg =>
    have HN : Hid (¬ SmM g n L fi ol he la g' n' L' fi ol' he' la') := fun x => h4 x.2.2.2.1
    have d1 : (ol == ol') = false := by simpa using h4
    obtain ⟨W, hW⟩ : ∃ W, W = ((w.alloc (.cells #[.slice go g.length gc, .slice bo n bc, .bool fi, .bool ol, .bool he, .int .i64 la] 25)).alloc (.cells #[.slice go' g'.length gc', .slice bo' n' bc', .bool fi, .bool ol', .bool he', .int .i64 la'] 25)) := ⟨_, rfl⟩
    have hb : Below w.heap.size w W := by rw [hW]; exact ((Below.refl _ _).alloc (Nat.le_refl _) _).alloc (by simp) _
    have M1 : KB W w.heap.size 25 go g.length gc bo n bc fi ol he la := by rw [hW]; exact (al2 w _ _).1
    have M2 : KB W (w.heap.size + 1) 25 go' g'.length gc' bo' n' bc' fi ol' he' la' := by rw [hW]; exact (al2 w _ _).2.1
    have H5 : Hid (KB W.drew w.heap.size 25 go g.length gc bo n bc fi ol he la ∧ KB W.drew (w.heap.size + 1) 25 go' g'.length gc' bo' n' bc' fi ol' he' la' ∧ MV W.drew go gc bo bc g n L ∧ MV W.drew go' gc' bo' bc' g' n' L' ∧ Below w.heap.size w W.drew) := ⟨M1, M2, hA.below (Below.drawn hb 1), hB.below (Below.drawn hb 1), Below.drawn hb 1⟩
    obtain ⟨m0, m1, m2, m3, m4, m5⟩ := M1.cells
    obtain ⟨x0, x1, x2, x3, x4, x5⟩ := M2.cells
    clear M1 M2 hb hA hB
    go_enter Tryz.func211, Tryz.ntmps211
    go_wp2_with fail
    rw [← hW]
    clear hW
    refine wp_region_held_drew (S := (fun w' => (w'.cell? ⟨w.heap.size, 0, none⟩ = some (.slice go g.length gc) ∧ w'.cell? ⟨w.heap.size, 1, none⟩ = some (.slice bo n bc) ∧ w'.cell? ⟨w.heap.size, 2, none⟩ = some (.bool fi) ∧ w'.cell? ⟨w.heap.size, 3, none⟩ = some (.bool ol) ∧ w'.cell? ⟨w.heap.size, 4, none⟩ = some (.bool he) ∧ w'.cell? ⟨w.heap.size, 5, none⟩ = some (.int .i64 la)) ∧ (w'.cell? ⟨w.heap.size + 1, 0, none⟩ = some (.slice go' g'.length gc') ∧ w'.cell? ⟨w.heap.size + 1, 1, none⟩ = some (.slice bo' n' bc') ∧ w'.cell? ⟨w.heap.size + 1, 2, none⟩ = some (.bool fi) ∧ w'.cell? ⟨w.heap.size + 1, 3, none⟩ = some (.bool ol') ∧ w'.cell? ⟨w.heap.size + 1, 4, none⟩ = some (.bool he') ∧ w'.cell? ⟨w.heap.size + 1, 5, none⟩ = some (.int .i64 la')))) (by kernel_rfl) ?_ (fun hHeld => ?_)
    · exact ⟨⟨m0, m1, m2, m3, m4, m5⟩, x0, x1, x2, x3, x4, x5⟩
    refine wpAnyH_take (i := 0) (oi := { dst := some 5, op := Op.load 25 (Operand.tmp 2), type := 25, pos := "l05_meta.go:68", after := #[], guard := none }) (v := ?_) rfl (by kernel_rfl) (by kernel_rfl) (by kernel_rfl) (fun _ _ _ h => h) (Or.inl ⟨by rfl, ?_⟩) (by assumption) ?_
    rotate_left 1
    · (intro wq hSw; (try dsimp only at hSw); go_simp; try with_reducible rfl)
    try simp only [Act.put, ly1, ly2, ly3]
    refine wpAnyH_take (i := 2) (oi := { dst := some 7, op := Op.load 25 (Operand.tmp 3), type := 25, pos := "l05_meta.go:68", after := #[], guard := none }) (v := ?_) rfl (by kernel_rfl) (by kernel_rfl) (by kernel_rfl) (fun _ _ _ h => h) (Or.inl ⟨by rfl, ?_⟩) (by assumption) ?_
    rotate_left 1
    · (intro wq hSw; (try dsimp only at hSw); go_simp; try with_reducible rfl)
    try simp only [Act.put, ly1, ly2, ly3]
    refine wpAnyH_ready (rs := [1]) (by kernel_rfl) (by simp) ?_
    refine AllReadyH.cons (o := { dst := some 6, op := Op.call { callee := Callee.value (Operand.func 240), args := #[Operand.tmp 5], argTypes := #[25] }, type := 209, pos := "l05_meta.go:68", after := #[{ on := 0, ground := Ground.data }], guard := none }) rfl (fun K hK => ?_) AllReadyH.nil
    go_simp
    refine (stateof _ _ _ _ _ _ _ _ _ _ _).mono ?_
    rintro e w6 ⟨rfl, b6⟩
    have H6 : Hid (KB w6 w.heap.size 25 go g.length gc bo n bc fi ol he la ∧ KB w6 (w.heap.size + 1) 25 go' g'.length gc' bo' n' bc' fi ol' he' la' ∧ MV w6 go gc bo bc g n L ∧ MV w6 go' gc' bo' bc' g' n' L' ∧ Below w.heap.size w w6) := ⟨H5.out.1.b b6, H5.out.2.1.b b6, H5.out.2.2.1.below b6, H5.out.2.2.2.1.below b6, H5.out.2.2.2.2.trans (b6.mono H5.out.2.2.2.2.size)⟩
    have hk6 := And.intro H6.out.1.cells H6.out.2.1.cells
    clear b6
    go_wp2_with fail
    refine hK.out _ _ ?_ (fun hHeld => ?_)
    · exact hk6
    clear hK K
    try simp only [Act.put, ly1, ly2, ly3]
    refine wpAnyH_ready (rs := [3]) (by kernel_rfl) (by simp) ?_
    refine AllReadyH.cons (o := { dst := some 8, op := Op.call { callee := Callee.value (Operand.func 240), args := #[Operand.tmp 7], argTypes := #[25] }, type := 209, pos := "l05_meta.go:68", after := #[{ on := 2, ground := Ground.data }, { on := 1, ground := Ground.chain }], guard := none }) rfl (fun K hK => ?_) AllReadyH.nil
    go_simp
    refine (stateof _ _ _ _ _ _ _ _ _ _ _).mono ?_
    rintro e w7 ⟨rfl, b7⟩
    have H7 : Hid (KB w7 w.heap.size 25 go g.length gc bo n bc fi ol he la ∧ KB w7 (w.heap.size + 1) 25 go' g'.length gc' bo' n' bc' fi ol' he' la' ∧ MV w7 go gc bo bc g n L ∧ MV w7 go' gc' bo' bc' g' n' L' ∧ Below w.heap.size w w7) := ⟨H6.out.1.b b7, H6.out.2.1.b b7, H6.out.2.2.1.below b7, H6.out.2.2.2.1.below b7, H6.out.2.2.2.2.trans (b7.mono H6.out.2.2.2.2.size)⟩
    have hk7 := And.intro H7.out.1.cells H7.out.2.1.cells
    clear b7
    go_wp2_with fail
    refine hK.out _ _ ?_ (fun hHeld => ?_)
    · exact hk7
    clear hK K
    try simp only [Act.put, ly1, ly2, ly3]
    refine wpAnyH_take (i := 4) (oi := { dst := some 9, op := Op.binOp BinOp.eql 209 (Operand.tmp 6) (Operand.tmp 8) 209, type := 4, pos := "l05_meta.go:68", after := #[{ on := 1, ground := Ground.data }, { on := 3, ground := Ground.data }], guard := none }) (v := ?_) rfl (by kernel_rfl) (by kernel_rfl) (by kernel_rfl) (fun _ _ _ h => h) (Or.inl ⟨by rfl, ?_⟩) (by assumption) ?_
    rotate_left 1
    · (intro wq hSw; (try dsimp only at hSw); go_simp; try with_reducible rfl)
    try simp only [Act.put, ly1, ly2, ly3]
    refine wpAnyH_take (i := 5) (oi := { dst := some 10, op := Op.move (Operand.tmp 9), type := 4, pos := "l05_meta.go:68", after := #[{ on := 4, ground := Ground.data }, { on := 3, ground := Ground.chain }], guard := none }) (v := ?_) rfl (by kernel_rfl) (by kernel_rfl) (by kernel_rfl) (fun _ _ _ h => h) (Or.inl ⟨by rfl, ?_⟩) (by assumption) ?_
    rotate_left 1
    · (intro wq hSw; (try dsimp only at hSw); go_simp; try with_reducible rfl)
    try simp only [Act.put, ly1, ly2, ly3]
    refine wpAnyH_take (i := 6) (oi := { dst := some 11, op := Op.fieldAddr 25 (Operand.tmp 2) 0, type := 0, pos := "l05_meta.go:68", after := #[{ on := 5, ground := Ground.guard }], guard := some (5, true) }) (v := undef) rfl (by kernel_rfl) (by kernel_rfl) (by kernel_rfl) (fun _ _ _ h => h) (Or.inr ⟨by rfl, rfl⟩) (by assumption) ?_
    try simp only [Act.put, ly1, ly2, ly3]
    refine wpAnyH_take (i := 7) (oi := { dst := some 12, op := Op.load 22 (Operand.tmp 11), type := 22, pos := "l05_meta.go:68", after := #[{ on := 6, ground := Ground.data }, { on := 5, ground := Ground.guard }], guard := some (5, true) }) (v := undef) rfl (by kernel_rfl) (by kernel_rfl) (by kernel_rfl) (fun _ _ _ h => h) (Or.inr ⟨by rfl, rfl⟩) (by assumption) ?_
    try simp only [Act.put, ly1, ly2, ly3]
    refine wpAnyH_take (i := 8) (oi := { dst := some 13, op := Op.fieldAddr 25 (Operand.tmp 3) 0, type := 0, pos := "l05_meta.go:68", after := #[{ on := 5, ground := Ground.guard }], guard := some (5, true) }) (v := undef) rfl (by kernel_rfl) (by kernel_rfl) (by kernel_rfl) (fun _ _ _ h => h) (Or.inr ⟨by rfl, rfl⟩) (by assumption) ?_
    try simp only [Act.put, ly1, ly2, ly3]
    refine wpAnyH_take (i := 9) (oi := { dst := some 14, op := Op.load 22 (Operand.tmp 13), type := 22, pos := "l05_meta.go:68", after := #[{ on := 8, ground := Ground.data }, { on := 5, ground := Ground.guard }], guard := some (5, true) }) (v := undef) rfl (by kernel_rfl) (by kernel_rfl) (by kernel_rfl) (fun _ _ _ h => h) (Or.inr ⟨by rfl, rfl⟩) (by assumption) ?_
    try simp only [Act.put, ly1, ly2, ly3]
    refine wpAnyH_take (i := 10) (oi := { dst := some 15, op := Op.call { callee := Callee.value (Operand.func 226), args := #[Operand.tmp 12, Operand.tmp 14], argTypes := #[22, 22] }, type := 4, pos := "l05_meta.go:68", after := #[{ on := 7, ground := Ground.data }, { on := 9, ground := Ground.data }, { on := 5, ground := Ground.chain }, { on := 5, ground := Ground.guard }], guard := some (5, true) }) (v := undef) rfl (by kernel_rfl) (by kernel_rfl) (by kernel_rfl) (fun _ _ _ h => h) (Or.inr ⟨by rfl, rfl⟩) (by assumption) ?_
    try simp only [Act.put, ly1, ly2, ly3]
    refine wpAnyH_take (i := 11) (oi := { dst := some 16, op := Op.pick (Operand.tmp 10) (Operand.tmp 15) (Operand.const (Value.bool false)), type := 4, pos := "l05_meta.go:68", after := #[{ on := 5, ground := Ground.data }, { on := 10, ground := Ground.data }], guard := none }) (v := ?_) rfl (by kernel_rfl) (by kernel_rfl) (by kernel_rfl) (fun _ _ _ h => h) (Or.inl ⟨by rfl, ?_⟩) (by assumption) ?_
    rotate_left 1
    · (intro wq hSw; (try dsimp only at hSw); go_simp; try with_reducible rfl)
    try simp only [Act.put, ly1, ly2, ly3]
    refine wpAnyH_take (i := 12) (oi := { dst := some 17, op := Op.move (Operand.tmp 16), type := 4, pos := "l05_meta.go:68", after := #[{ on := 11, ground := Ground.data }, { on := 10, ground := Ground.chain }], guard := none }) (v := ?_) rfl (by kernel_rfl) (by kernel_rfl) (by kernel_rfl) (fun _ _ _ h => h) (Or.inl ⟨by rfl, ?_⟩) (by assumption) ?_
    rotate_left 1
    · (intro wq hSw; (try dsimp only at hSw); go_simp; try with_reducible rfl)
    try simp only [Act.put, ly1, ly2, ly3]
    refine wpAnyH_take (i := 13) (oi := { dst := some 18, op := Op.fieldAddr 25 (Operand.tmp 2) 1, type := 0, pos := "l05_meta.go:68", after := #[{ on := 12, ground := Ground.guard }], guard := some (12, true) }) (v := undef) rfl (by kernel_rfl) (by kernel_rfl) (by kernel_rfl) (fun _ _ _ h => h) (Or.inr ⟨by rfl, rfl⟩) (by assumption) ?_
    try simp only [Act.put, ly1, ly2, ly3]
    refine wpAnyH_take (i := 14) (oi := { dst := some 19, op := Op.load 23 (Operand.tmp 18), type := 23, pos := "l05_meta.go:68", after := #[{ on := 13, ground := Ground.data }, { on := 12, ground := Ground.guard }], guard := some (12, true) }) (v := undef) rfl (by kernel_rfl) (by kernel_rfl) (by kernel_rfl) (fun _ _ _ h => h) (Or.inr ⟨by rfl, rfl⟩) (by assumption) ?_
    try simp only [Act.put, ly1, ly2, ly3]
    refine wpAnyH_take (i := 15) (oi := { dst := some 20, op := Op.fieldAddr 25 (Operand.tmp 3) 1, type := 0, pos := "l05_meta.go:68", after := #[{ on := 12, ground := Ground.guard }], guard := some (12, true) }) (v := undef) rfl (by kernel_rfl) (by kernel_rfl) (by kernel_rfl) (fun _ _ _ h => h) (Or.inr ⟨by rfl, rfl⟩) (by assumption) ?_
    try simp only [Act.put, ly1, ly2, ly3]
    refine wpAnyH_take (i := 16) (oi := { dst := some 21, op := Op.load 23 (Operand.tmp 20), type := 23, pos := "l05_meta.go:68", after := #[{ on := 15, ground := Ground.data }, { on := 12, ground := Ground.guard }], guard := some (12, true) }) (v := undef) rfl (by kernel_rfl) (by kernel_rfl) (by kernel_rfl) (fun _ _ _ h => h) (Or.inr ⟨by rfl, rfl⟩) (by assumption) ?_
    try simp only [Act.put, ly1, ly2, ly3]
    refine wpAnyH_take (i := 17) (oi := { dst := some 22, op := Op.call { callee := Callee.value (Operand.func 241), args := #[Operand.tmp 19, Operand.tmp 21, Operand.func 242], argTypes := #[23, 23, 77] }, type := 4, pos := "l05_meta.go:68", after := #[{ on := 14, ground := Ground.data }, { on := 16, ground := Ground.data }, { on := 12, ground := Ground.chain }, { on := 12, ground := Ground.guard }], guard := some (12, true) }) (v := undef) rfl (by kernel_rfl) (by kernel_rfl) (by kernel_rfl) (fun _ _ _ h => h) (Or.inr ⟨by rfl, rfl⟩) (by assumption) ?_
    try simp only [Act.put, ly1, ly2, ly3]
    refine wpAnyH_take (i := 18) (oi := { dst := some 23, op := Op.pick (Operand.tmp 17) (Operand.tmp 22) (Operand.const (Value.bool false)), type := 4, pos := "l05_meta.go:68", after := #[{ on := 12, ground := Ground.data }, { on := 17, ground := Ground.data }], guard := none }) (v := ?_) rfl (by kernel_rfl) (by kernel_rfl) (by kernel_rfl) (fun _ _ _ h => h) (Or.inl ⟨by rfl, ?_⟩) (by assumption) ?_
    rotate_left 1
    · (intro wq hSw; (try dsimp only at hSw); go_simp; try with_reducible rfl)
    try simp only [Act.put, ly1, ly2, ly3]
    refine wpAnyH_take (i := 19) (oi := { dst := some 4, op := Op.assign (Operand.tmp 23), type := 4, pos := "l05_meta.go:68", after := #[{ on := 18, ground := Ground.data }, { on := 17, ground := Ground.chain }, { on := 0, ground := Ground.phase }, { on := 1, ground := Ground.phase }, { on := 2, ground := Ground.phase }, { on := 3, ground := Ground.phase }, { on := 4, ground := Ground.phase }, { on := 5, ground := Ground.phase }, { on := 6, ground := Ground.phase }, { on := 7, ground := Ground.phase }, { on := 8, ground := Ground.phase }, { on := 9, ground := Ground.phase }, { on := 10, ground := Ground.phase }, { on := 11, ground := Ground.phase }, { on := 12, ground := Ground.phase }, { on := 13, ground := Ground.phase }, { on := 14, ground := Ground.phase }, { on := 15, ground := Ground.phase }, { on := 16, ground := Ground.phase }, { on := 17, ground := Ground.phase }, { on := 18, ground := Ground.phase }], guard := none }) (v := ?_) rfl (by kernel_rfl) (by kernel_rfl) (by kernel_rfl) (fun _ _ _ h => h) (Or.inl ⟨by rfl, ?_⟩) (by assumption) ?_
    rotate_left 1
    · (intro wq hSw; (try dsimp only at hSw); go_simp; try with_reducible rfl)
    try simp only [Act.put, ly1, ly2, ly3]
    refine wpAnyH_done (by kernel_rfl) ?_ _
    go_wp2
    go_ret
    exact Tells.no HN.out (H7.out.2.2.2.2)
  subst h4
  by_cases h5 : he = he'
  case neg =>
    have HN : Hid (¬ SmM g n L fi ol he la g' n' L' fi ol he' la') := fun x => h5 x.2.2.2.2.1
    have d1 : (he == he') = false := by simpa using h5
    obtain ⟨W, hW⟩ : ∃ W, W = ((w.alloc (.cells #[.slice go g.length gc, .slice bo n bc, .bool fi, .bool ol, .bool he, .int .i64 la] 25)).alloc (.cells #[.slice go' g'.length gc', .slice bo' n' bc', .bool fi, .bool ol, .bool he', .int .i64 la'] 25)) := ⟨_, rfl⟩
    have hb : Below w.heap.size w W := by rw [hW]; exact ((Below.refl _ _).alloc (Nat.le_refl _) _).alloc (by simp) _
    have M1 : KB W w.heap.size 25 go g.length gc bo n bc fi ol he la := by rw [hW]; exact (al2 w _ _).1
    have M2 : KB W (w.heap.size + 1) 25 go' g'.length gc' bo' n' bc' fi ol he' la' := by rw [hW]; exact (al2 w _ _).2.1
    have H5 : Hid (KB W.drew w.heap.size 25 go g.length gc bo n bc fi ol he la ∧ KB W.drew (w.heap.size + 1) 25 go' g'.length gc' bo' n' bc' fi ol he' la' ∧ MV W.drew go gc bo bc g n L ∧ MV W.drew go' gc' bo' bc' g' n' L' ∧ Below w.heap.size w W.drew) := ⟨M1, M2, hA.below (Below.drawn hb 1), hB.below (Below.drawn hb 1), Below.drawn hb 1⟩
    obtain ⟨m0, m1, m2, m3, m4, m5⟩ := M1.cells
    obtain ⟨x0, x1, x2, x3, x4, x5⟩ := M2.cells
    clear M1 M2 hb hA hB
    go_enter Tryz.func211, Tryz.ntmps211
    go_wp2_with fail
    rw [← hW]
    clear hW
    refine wp_region_held_drew (S := (fun w' => (w'.cell? ⟨w.heap.size, 0, none⟩ = some (.slice go g.length gc) ∧ w'.cell? ⟨w.heap.size, 1, none⟩ = some (.slice bo n bc) ∧ w'.cell? ⟨w.heap.size, 2, none⟩ = some (.bool fi) ∧ w'.cell? ⟨w.heap.size, 3, none⟩ = some (.bool ol) ∧ w'.cell? ⟨w.heap.size, 4, none⟩ = some (.bool he) ∧ w'.cell? ⟨w.heap.size, 5, none⟩ = some (.int .i64 la)) ∧ (w'.cell? ⟨w.heap.size + 1, 0, none⟩ = some (.slice go' g'.length gc') ∧ w'.cell? ⟨w.heap.size + 1, 1, none⟩ = some (.slice bo' n' bc') ∧ w'.cell? ⟨w.heap.size + 1, 2, none⟩ = some (.bool fi) ∧ w'.cell? ⟨w.heap.size + 1, 3, none⟩ = some (.bool ol) ∧ w'.cell? ⟨w.heap.size + 1, 4, none⟩ = some (.bool he') ∧ w'.cell? ⟨w.heap.size + 1, 5, none⟩ = some (.int .i64 la')))) (by kernel_rfl) ?_ (fun hHeld => ?_)
    · exact ⟨⟨m0, m1, m2, m3, m4, m5⟩, x0, x1, x2, x3, x4, x5⟩
    refine wpAnyH_take (i := 0) (oi := { dst := some 5, op := Op.load 25 (Operand.tmp 2), type := 25, pos := "l05_meta.go:68", after := #[], guard := none }) (v := ?_) rfl (by kernel_rfl) (by kernel_rfl) (by kernel_rfl) (fun _ _ _ h => h) (Or.inl ⟨by rfl, ?_⟩) (by assumption) ?_
    rotate_left 1
    · (intro wq hSw; (try dsimp only at hSw); go_simp; try with_reducible rfl)
    try simp only [Act.put, ly1, ly2, ly3]
    refine wpAnyH_take (i := 2) (oi := { dst := some 7, op := Op.load 25 (Operand.tmp 3), type := 25, pos := "l05_meta.go:68", after := #[], guard := none }) (v := ?_) rfl (by kernel_rfl) (by kernel_rfl) (by kernel_rfl) (fun _ _ _ h => h) (Or.inl ⟨by rfl, ?_⟩) (by assumption) ?_
    rotate_left 1
    · (intro wq hSw; (try dsimp only at hSw); go_simp; try with_reducible rfl)
    try simp only [Act.put, ly1, ly2, ly3]
    refine wpAnyH_ready (rs := [1]) (by kernel_rfl) (by simp) ?_
    refine AllReadyH.cons (o := { dst := some 6, op := Op.call { callee := Callee.value (Operand.func 240), args := #[Operand.tmp 5], argTypes := #[25] }, type := 209, pos := "l05_meta.go:68", after := #[{ on := 0, ground := Ground.data }], guard := none }) rfl (fun K hK => ?_) AllReadyH.nil
    go_simp
    refine (stateof _ _ _ _ _ _ _ _ _ _ _).mono ?_
    rintro e w6 ⟨rfl, b6⟩
    have H6 : Hid (KB w6 w.heap.size 25 go g.length gc bo n bc fi ol he la ∧ KB w6 (w.heap.size + 1) 25 go' g'.length gc' bo' n' bc' fi ol he' la' ∧ MV w6 go gc bo bc g n L ∧ MV w6 go' gc' bo' bc' g' n' L' ∧ Below w.heap.size w w6) := ⟨H5.out.1.b b6, H5.out.2.1.b b6, H5.out.2.2.1.below b6, H5.out.2.2.2.1.below b6, H5.out.2.2.2.2.trans (b6.mono H5.out.2.2.2.2.size)⟩
    have hk6 := And.intro H6.out.1.cells H6.out.2.1.cells
    clear b6
    go_wp2_with fail
    refine hK.out _ _ ?_ (fun hHeld => ?_)
    · exact hk6
    clear hK K
    try simp only [Act.put, ly1, ly2, ly3]
    refine wpAnyH_ready (rs := [3]) (by kernel_rfl) (by simp) ?_
    refine AllReadyH.cons (o := { dst := some 8, op := Op.call { callee := Callee.value (Operand.func 240), args := #[Operand.tmp 7], argTypes := #[25] }, type := 209, pos := "l05_meta.go:68", after := #[{ on := 2, ground := Ground.data }, { on := 1, ground := Ground.chain }], guard := none }) rfl (fun K hK => ?_) AllReadyH.nil
    go_simp
    refine (stateof _ _ _ _ _ _ _ _ _ _ _).mono ?_
    rintro e w7 ⟨rfl, b7⟩
    have H7 : Hid (KB w7 w.heap.size 25 go g.length gc bo n bc fi ol he la ∧ KB w7 (w.heap.size + 1) 25 go' g'.length gc' bo' n' bc' fi ol he' la' ∧ MV w7 go gc bo bc g n L ∧ MV w7 go' gc' bo' bc' g' n' L' ∧ Below w.heap.size w w7) := ⟨H6.out.1.b b7, H6.out.2.1.b b7, H6.out.2.2.1.below b7, H6.out.2.2.2.1.below b7, H6.out.2.2.2.2.trans (b7.mono H6.out.2.2.2.2.size)⟩
    have hk7 := And.intro H7.out.1.cells H7.out.2.1.cells
    clear b7
    go_wp2_with fail
    refine hK.out _ _ ?_ (fun hHeld => ?_)
    · exact hk7
    clear hK K
    try simp only [Act.put, ly1, ly2, ly3]
    refine wpAnyH_take (i := 4) (oi := { dst := some 9, op := Op.binOp BinOp.eql 209 (Operand.tmp 6) (Operand.tmp 8) 209, type := 4, pos := "l05_meta.go:68", after := #[{ on := 1, ground := Ground.data }, { on := 3, ground := Ground.data }], guard := none }) (v := ?_) rfl (by kernel_rfl) (by kernel_rfl) (by kernel_rfl) (fun _ _ _ h => h) (Or.inl ⟨by rfl, ?_⟩) (by assumption) ?_
    rotate_left 1
    · (intro wq hSw; (try dsimp only at hSw); go_simp; try with_reducible rfl)
    try simp only [Act.put, ly1, ly2, ly3]
    refine wpAnyH_take (i := 5) (oi := { dst := some 10, op := Op.move (Operand.tmp 9), type := 4, pos := "l05_meta.go:68", after := #[{ on := 4, ground := Ground.data }, { on := 3, ground := Ground.chain }], guard := none }) (v := ?_) rfl (by kernel_rfl) (by kernel_rfl) (by kernel_rfl) (fun _ _ _ h => h) (Or.inl ⟨by rfl, ?_⟩) (by assumption) ?_
    rotate_left 1
    · (intro wq hSw; (try dsimp only at hSw); go_simp; try with_reducible rfl)
    try simp only [Act.put, ly1, ly2, ly3]
    refine wpAnyH_take (i := 6) (oi := { dst := some 11, op := Op.fieldAddr 25 (Operand.tmp 2) 0, type := 0, pos := "l05_meta.go:68", after := #[{ on := 5, ground := Ground.guard }], guard := some (5, true) }) (v := undef) rfl (by kernel_rfl) (by kernel_rfl) (by kernel_rfl) (fun _ _ _ h => h) (Or.inr ⟨by rfl, rfl⟩) (by assumption) ?_
    try simp only [Act.put, ly1, ly2, ly3]
    refine wpAnyH_take (i := 7) (oi := { dst := some 12, op := Op.load 22 (Operand.tmp 11), type := 22, pos := "l05_meta.go:68", after := #[{ on := 6, ground := Ground.data }, { on := 5, ground := Ground.guard }], guard := some (5, true) }) (v := undef) rfl (by kernel_rfl) (by kernel_rfl) (by kernel_rfl) (fun _ _ _ h => h) (Or.inr ⟨by rfl, rfl⟩) (by assumption) ?_
    try simp only [Act.put, ly1, ly2, ly3]
    refine wpAnyH_take (i := 8) (oi := { dst := some 13, op := Op.fieldAddr 25 (Operand.tmp 3) 0, type := 0, pos := "l05_meta.go:68", after := #[{ on := 5, ground := Ground.guard }], guard := some (5, true) }) (v := undef) rfl (by kernel_rfl) (by kernel_rfl) (by kernel_rfl) (fun _ _ _ h => h) (Or.inr ⟨by rfl, rfl⟩) (by assumption) ?_
    try simp only [Act.put, ly1, ly2, ly3]
    refine wpAnyH_take (i := 9) (oi := { dst := some 14, op := Op.load 22 (Operand.tmp 13), type := 22, pos := "l05_meta.go:68", after := #[{ on := 8, ground := Ground.data }, { on := 5, ground := Ground.guard }], guard := some (5, true) }) (v := undef) rfl (by kernel_rfl) (by kernel_rfl) (by kernel_rfl) (fun _ _ _ h => h) (Or.inr ⟨by rfl, rfl⟩) (by assumption) ?_
    try simp only [Act.put, ly1, ly2, ly3]
    refine wpAnyH_take (i := 10) (oi := { dst := some 15, op := Op.call { callee := Callee.value (Operand.func 226), args := #[Operand.tmp 12, Operand.tmp 14], argTypes := #[22, 22] }, type := 4, pos := "l05_meta.go:68", after := #[{ on := 7, ground := Ground.data }, { on := 9, ground := Ground.data }, { on := 5, ground := Ground.chain }, { on := 5, ground := Ground.guard }], guard := some (5, true) }) (v := undef) rfl (by kernel_rfl) (by kernel_rfl) (by kernel_rfl) (fun _ _ _ h => h) (Or.inr ⟨by rfl, rfl⟩) (by assumption) ?_
    try simp only [Act.put, ly1, ly2, ly3]
    refine wpAnyH_take (i := 11) (oi := { dst := some 16, op := Op.pick (Operand.tmp 10) (Operand.tmp 15) (Operand.const (Value.bool false)), type := 4, pos := "l05_meta.go:68", after := #[{ on := 5, ground := Ground.data }, { on := 10, ground := Ground.data }], guard := none }) (v := ?_) rfl (by kernel_rfl) (by kernel_rfl) (by kernel_rfl) (fun _ _ _ h => h) (Or.inl ⟨by rfl, ?_⟩) (by assumption) ?_
    rotate_left 1
    · (intro wq hSw; (try dsimp only at hSw); go_simp; try with_reducible rfl)
    try simp only [Act.put, ly1, ly2, ly3]
    refine wpAnyH_take (i := 12) (oi := { dst := some 17, op := Op.move (Operand.tmp 16), type := 4, pos := "l05_meta.go:68", after := #[{ on := 11, ground := Ground.data }, { on := 10, ground := Ground.chain }], guard := none }) (v := ?_) rfl (by kernel_rfl) (by kernel_rfl) (by kernel_rfl) (fun _ _ _ h => h) (Or.inl ⟨by rfl, ?_⟩) (by assumption) ?_
    rotate_left 1
    · (intro wq hSw; (try dsimp only at hSw); go_simp; try with_reducible rfl)
    try simp only [Act.put, ly1, ly2, ly3]
    refine wpAnyH_take (i := 13) (oi := { dst := some 18, op := Op.fieldAddr 25 (Operand.tmp 2) 1, type := 0, pos := "l05_meta.go:68", after := #[{ on := 12, ground := Ground.guard }], guard := some (12, true) }) (v := undef) rfl (by kernel_rfl) (by kernel_rfl) (by kernel_rfl) (fun _ _ _ h => h) (Or.inr ⟨by rfl, rfl⟩) (by assumption) ?_
    try simp only [Act.put, ly1, ly2, ly3]
    refine wpAnyH_take (i := 14) (oi := { dst := some 19, op := Op.load 23 (Operand.tmp 18), type := 23, pos := "l05_meta.go:68", after := #[{ on := 13, ground := Ground.data }, { on := 12, ground := Ground.guard }], guard := some (12, true) }) (v := undef) rfl (by kernel_rfl) (by kernel_rfl) (by kernel_rfl) (fun _ _ _ h => h) (Or.inr ⟨by rfl, rfl⟩) (by assumption) ?_
    try simp only [Act.put, ly1, ly2, ly3]
    refine wpAnyH_take (i := 15) (oi := { dst := some 20, op := Op.fieldAddr 25 (Operand.tmp 3) 1, type := 0, pos := "l05_meta.go:68", after := #[{ on := 12, ground := Ground.guard }], guard := some (12, true) }) (v := undef) rfl (by kernel_rfl) (by kernel_rfl) (by kernel_rfl) (fun _ _ _ h => h) (Or.inr ⟨by rfl, rfl⟩) (by assumption) ?_
    try simp only [Act.put, ly1, ly2, ly3]
    refine wpAnyH_take (i := 16) (oi := { dst := some 21, op := Op.load 23 (Operand.tmp 20), type := 23, pos := "l05_meta.go:68", after := #[{ on := 15, ground := Ground.data }, { on := 12, ground := Ground.guard }], guard := some (12, true) }) (v := undef) rfl (by kernel_rfl) (by kernel_rfl) (by kernel_rfl) (fun _ _ _ h => h) (Or.inr ⟨by rfl, rfl⟩) (by assumption) ?_
    try simp only [Act.put, ly1, ly2, ly3]
    refine wpAnyH_take (i := 17) (oi := { dst := some 22, op := Op.call { callee := Callee.value (Operand.func 241), args := #[Operand.tmp 19, Operand.tmp 21, Operand.func 242], argTypes := #[23, 23, 77] }, type := 4, pos := "l05_meta.go:68", after := #[{ on := 14, ground := Ground.data }, { on := 16, ground := Ground.data }, { on := 12, ground := Ground.chain }, { on := 12, ground := Ground.guard }], guard := some (12, true) }) (v := undef) rfl (by kernel_rfl) (by kernel_rfl) (by kernel_rfl) (fun _ _ _ h => h) (Or.inr ⟨by rfl, rfl⟩) (by assumption) ?_
    try simp only [Act.put, ly1, ly2, ly3]
    refine wpAnyH_take (i := 18) (oi := { dst := some 23, op := Op.pick (Operand.tmp 17) (Operand.tmp 22) (Operand.const (Value.bool false)), type := 4, pos := "l05_meta.go:68", after := #[{ on := 12, ground := Ground.data }, { on := 17, ground := Ground.data }], guard := none }) (v := ?_) rfl (by kernel_rfl) (by kernel_rfl) (by kernel_rfl) (fun _ _ _ h => h) (Or.inl ⟨by rfl, ?_⟩) (by assumption) ?_
    rotate_left 1
    · (intro wq hSw; (try dsimp only at hSw); go_simp; try with_reducible rfl)
    try simp only [Act.put, ly1, ly2, ly3]
    refine wpAnyH_take (i := 19) (oi := { dst := some 4, op := Op.assign (Operand.tmp 23), type := 4, pos := "l05_meta.go:68", after := #[{ on := 18, ground := Ground.data }, { on := 17, ground := Ground.chain }, { on := 0, ground := Ground.phase }, { on := 1, ground := Ground.phase }, { on := 2, ground := Ground.phase }, { on := 3, ground := Ground.phase }, { on := 4, ground := Ground.phase }, { on := 5, ground := Ground.phase }, { on := 6, ground := Ground.phase }, { on := 7, ground := Ground.phase }, { on := 8, ground := Ground.phase }, { on := 9, ground := Ground.phase }, { on := 10, ground := Ground.phase }, { on := 11, ground := Ground.phase }, { on := 12, ground := Ground.phase }, { on := 13, ground := Ground.phase }, { on := 14, ground := Ground.phase }, { on := 15, ground := Ground.phase }, { on := 16, ground := Ground.phase }, { on := 17, ground := Ground.phase }, { on := 18, ground := Ground.phase }], guard := none }) (v := ?_) rfl (by kernel_rfl) (by kernel_rfl) (by kernel_rfl) (fun _ _ _ h => h) (Or.inl ⟨by rfl, ?_⟩) (by assumption) ?_
    rotate_left 1
    · (intro wq hSw; (try dsimp only at hSw); go_simp; try with_reducible rfl)
    try simp only [Act.put, ly1, ly2, ly3]
    refine wpAnyH_done (by kernel_rfl) ?_ _
    go_wp2
    go_ret
    exact Tells.no HN.out (H7.out.2.2.2.2)
  subst h5
  by_cases h6 : la = la'
  case neg =>
    have HN : Hid (¬ SmM g n L fi ol he la g' n' L' fi ol he la') := fun x => h6 x.2.2.2.2.2.1
    obtain ⟨W, hW⟩ : ∃ W, W = ((w.alloc (.cells #[.slice go g.length gc, .slice bo n bc, .bool fi, .bool ol, .bool he, .int .i64 la] 25)).alloc (.cells #[.slice go' g'.length gc', .slice bo' n' bc', .bool fi, .bool ol, .bool he, .int .i64 la'] 25)) := ⟨_, rfl⟩
    have hb : Below w.heap.size w W := by rw [hW]; exact ((Below.refl _ _).alloc (Nat.le_refl _) _).alloc (by simp) _
    have M1 : KB W w.heap.size 25 go g.length gc bo n bc fi ol he la := by rw [hW]; exact (al2 w _ _).1
    have M2 : KB W (w.heap.size + 1) 25 go' g'.length gc' bo' n' bc' fi ol he la' := by rw [hW]; exact (al2 w _ _).2.1
    have H5 : Hid (KB W.drew w.heap.size 25 go g.length gc bo n bc fi ol he la ∧ KB W.drew (w.heap.size + 1) 25 go' g'.length gc' bo' n' bc' fi ol he la' ∧ MV W.drew go gc bo bc g n L ∧ MV W.drew go' gc' bo' bc' g' n' L' ∧ Below w.heap.size w W.drew) := ⟨M1, M2, hA.below (Below.drawn hb 1), hB.below (Below.drawn hb 1), Below.drawn hb 1⟩
    obtain ⟨m0, m1, m2, m3, m4, m5⟩ := M1.cells
    obtain ⟨x0, x1, x2, x3, x4, x5⟩ := M2.cells
    clear M1 M2 hb hA hB
    go_enter Tryz.func211, Tryz.ntmps211
    go_wp2_with fail
    rw [← hW]
    clear hW
    refine wp_region_held_drew (S := (fun w' => (w'.cell? ⟨w.heap.size, 0, none⟩ = some (.slice go g.length gc) ∧ w'.cell? ⟨w.heap.size, 1, none⟩ = some (.slice bo n bc) ∧ w'.cell? ⟨w.heap.size, 2, none⟩ = some (.bool fi) ∧ w'.cell? ⟨w.heap.size, 3, none⟩ = some (.bool ol) ∧ w'.cell? ⟨w.heap.size, 4, none⟩ = some (.bool he) ∧ w'.cell? ⟨w.heap.size, 5, none⟩ = some (.int .i64 la)) ∧ (w'.cell? ⟨w.heap.size + 1, 0, none⟩ = some (.slice go' g'.length gc') ∧ w'.cell? ⟨w.heap.size + 1, 1, none⟩ = some (.slice bo' n' bc') ∧ w'.cell? ⟨w.heap.size + 1, 2, none⟩ = some (.bool fi) ∧ w'.cell? ⟨w.heap.size + 1, 3, none⟩ = some (.bool ol) ∧ w'.cell? ⟨w.heap.size + 1, 4, none⟩ = some (.bool he) ∧ w'.cell? ⟨w.heap.size + 1, 5, none⟩ = some (.int .i64 la')))) (by kernel_rfl) ?_ (fun hHeld => ?_)
    · exact ⟨⟨m0, m1, m2, m3, m4, m5⟩, x0, x1, x2, x3, x4, x5⟩
    refine wpAnyH_take (i := 0) (oi := { dst := some 5, op := Op.load 25 (Operand.tmp 2), type := 25, pos := "l05_meta.go:68", after := #[], guard := none }) (v := ?_) rfl (by kernel_rfl) (by kernel_rfl) (by kernel_rfl) (fun _ _ _ h => h) (Or.inl ⟨by rfl, ?_⟩) (by assumption) ?_
    rotate_left 1
    · (intro wq hSw; (try dsimp only at hSw); go_simp; try with_reducible rfl)
    try simp only [Act.put, ly1, ly2, ly3]
    refine wpAnyH_take (i := 2) (oi := { dst := some 7, op := Op.load 25 (Operand.tmp 3), type := 25, pos := "l05_meta.go:68", after := #[], guard := none }) (v := ?_) rfl (by kernel_rfl) (by kernel_rfl) (by kernel_rfl) (fun _ _ _ h => h) (Or.inl ⟨by rfl, ?_⟩) (by assumption) ?_
    rotate_left 1
    · (intro wq hSw; (try dsimp only at hSw); go_simp; try with_reducible rfl)
    try simp only [Act.put, ly1, ly2, ly3]
    refine wpAnyH_ready (rs := [1]) (by kernel_rfl) (by simp) ?_
    refine AllReadyH.cons (o := { dst := some 6, op := Op.call { callee := Callee.value (Operand.func 240), args := #[Operand.tmp 5], argTypes := #[25] }, type := 209, pos := "l05_meta.go:68", after := #[{ on := 0, ground := Ground.data }], guard := none }) rfl (fun K hK => ?_) AllReadyH.nil
    go_simp
    refine (stateof _ _ _ _ _ _ _ _ _ _ _).mono ?_
    rintro e w6 ⟨rfl, b6⟩
    have H6 : Hid (KB w6 w.heap.size 25 go g.length gc bo n bc fi ol he la ∧ KB w6 (w.heap.size + 1) 25 go' g'.length gc' bo' n' bc' fi ol he la' ∧ MV w6 go gc bo bc g n L ∧ MV w6 go' gc' bo' bc' g' n' L' ∧ Below w.heap.size w w6) := ⟨H5.out.1.b b6, H5.out.2.1.b b6, H5.out.2.2.1.below b6, H5.out.2.2.2.1.below b6, H5.out.2.2.2.2.trans (b6.mono H5.out.2.2.2.2.size)⟩
    have hk6 := And.intro H6.out.1.cells H6.out.2.1.cells
    clear b6
    go_wp2_with fail
    refine hK.out _ _ ?_ (fun hHeld => ?_)
    · exact hk6
    clear hK K
    try simp only [Act.put, ly1, ly2, ly3]
    refine wpAnyH_ready (rs := [3]) (by kernel_rfl) (by simp) ?_
    refine AllReadyH.cons (o := { dst := some 8, op := Op.call { callee := Callee.value (Operand.func 240), args := #[Operand.tmp 7], argTypes := #[25] }, type := 209, pos := "l05_meta.go:68", after := #[{ on := 2, ground := Ground.data }, { on := 1, ground := Ground.chain }], guard := none }) rfl (fun K hK => ?_) AllReadyH.nil
    go_simp
    refine (stateof _ _ _ _ _ _ _ _ _ _ _).mono ?_
    rintro e w7 ⟨rfl, b7⟩
    have H7 : Hid (KB w7 w.heap.size 25 go g.length gc bo n bc fi ol he la ∧ KB w7 (w.heap.size + 1) 25 go' g'.length gc' bo' n' bc' fi ol he la' ∧ MV w7 go gc bo bc g n L ∧ MV w7 go' gc' bo' bc' g' n' L' ∧ Below w.heap.size w w7) := ⟨H6.out.1.b b7, H6.out.2.1.b b7, H6.out.2.2.1.below b7, H6.out.2.2.2.1.below b7, H6.out.2.2.2.2.trans (b7.mono H6.out.2.2.2.2.size)⟩
    have hk7 := And.intro H7.out.1.cells H7.out.2.1.cells
    clear b7
    go_wp2_with fail
    refine hK.out _ _ ?_ (fun hHeld => ?_)
    · exact hk7
    clear hK K
    try simp only [Act.put, ly1, ly2, ly3]
    refine wpAnyH_take (i := 4) (oi := { dst := some 9, op := Op.binOp BinOp.eql 209 (Operand.tmp 6) (Operand.tmp 8) 209, type := 4, pos := "l05_meta.go:68", after := #[{ on := 1, ground := Ground.data }, { on := 3, ground := Ground.data }], guard := none }) (v := ?_) rfl (by kernel_rfl) (by kernel_rfl) (by kernel_rfl) (fun _ _ _ h => h) (Or.inl ⟨by rfl, ?_⟩) (by assumption) ?_
    rotate_left 1
    · (intro wq hSw; (try dsimp only at hSw); go_simp; try with_reducible rfl)
    try simp only [Act.put, ly1, ly2, ly3]
    refine wpAnyH_take (i := 5) (oi := { dst := some 10, op := Op.move (Operand.tmp 9), type := 4, pos := "l05_meta.go:68", after := #[{ on := 4, ground := Ground.data }, { on := 3, ground := Ground.chain }], guard := none }) (v := ?_) rfl (by kernel_rfl) (by kernel_rfl) (by kernel_rfl) (fun _ _ _ h => h) (Or.inl ⟨by rfl, ?_⟩) (by assumption) ?_
    rotate_left 1
    · (intro wq hSw; (try dsimp only at hSw); go_simp; try with_reducible rfl)
    try simp only [Act.put, ly1, ly2, ly3]
    refine wpAnyH_take (i := 6) (oi := { dst := some 11, op := Op.fieldAddr 25 (Operand.tmp 2) 0, type := 0, pos := "l05_meta.go:68", after := #[{ on := 5, ground := Ground.guard }], guard := some (5, true) }) (v := undef) rfl (by kernel_rfl) (by kernel_rfl) (by kernel_rfl) (fun _ _ _ h => h) (Or.inr ⟨by rfl, rfl⟩) (by assumption) ?_
    try simp only [Act.put, ly1, ly2, ly3]
    refine wpAnyH_take (i := 7) (oi := { dst := some 12, op := Op.load 22 (Operand.tmp 11), type := 22, pos := "l05_meta.go:68", after := #[{ on := 6, ground := Ground.data }, { on := 5, ground := Ground.guard }], guard := some (5, true) }) (v := undef) rfl (by kernel_rfl) (by kernel_rfl) (by kernel_rfl) (fun _ _ _ h => h) (Or.inr ⟨by rfl, rfl⟩) (by assumption) ?_
    try simp only [Act.put, ly1, ly2, ly3]
    refine wpAnyH_take (i := 8) (oi := { dst := some 13, op := Op.fieldAddr 25 (Operand.tmp 3) 0, type := 0, pos := "l05_meta.go:68", after := #[{ on := 5, ground := Ground.guard }], guard := some (5, true) }) (v := undef) rfl (by kernel_rfl) (by kernel_rfl) (by kernel_rfl) (fun _ _ _ h => h) (Or.inr ⟨by rfl, rfl⟩) (by assumption) ?_
    try simp only [Act.put, ly1, ly2, ly3]
    refine wpAnyH_take (i := 9) (oi := { dst := some 14, op := Op.load 22 (Operand.tmp 13), type := 22, pos := "l05_meta.go:68", after := #[{ on := 8, ground := Ground.data }, { on := 5, ground := Ground.guard }], guard := some (5, true) }) (v := undef) rfl (by kernel_rfl) (by kernel_rfl) (by kernel_rfl) (fun _ _ _ h => h) (Or.inr ⟨by rfl, rfl⟩) (by assumption) ?_
    try simp only [Act.put, ly1, ly2, ly3]
    refine wpAnyH_take (i := 10) (oi := { dst := some 15, op := Op.call { callee := Callee.value (Operand.func 226), args := #[Operand.tmp 12, Operand.tmp 14], argTypes := #[22, 22] }, type := 4, pos := "l05_meta.go:68", after := #[{ on := 7, ground := Ground.data }, { on := 9, ground := Ground.data }, { on := 5, ground := Ground.chain }, { on := 5, ground := Ground.guard }], guard := some (5, true) }) (v := undef) rfl (by kernel_rfl) (by kernel_rfl) (by kernel_rfl) (fun _ _ _ h => h) (Or.inr ⟨by rfl, rfl⟩) (by assumption) ?_
    try simp only [Act.put, ly1, ly2, ly3]
    refine wpAnyH_take (i := 11) (oi := { dst := some 16, op := Op.pick (Operand.tmp 10) (Operand.tmp 15) (Operand.const (Value.bool false)), type := 4, pos := "l05_meta.go:68", after := #[{ on := 5, ground := Ground.data }, { on := 10, ground := Ground.data }], guard := none }) (v := ?_) rfl (by kernel_rfl) (by kernel_rfl) (by kernel_rfl) (fun _ _ _ h => h) (Or.inl ⟨by rfl, ?_⟩) (by assumption) ?_
    rotate_left 1
    · (intro wq hSw; (try dsimp only at hSw); go_simp; try with_reducible rfl)
    try simp only [Act.put, ly1, ly2, ly3]
    refine wpAnyH_take (i := 12) (oi := { dst := some 17, op := Op.move (Operand.tmp 16), type := 4, pos := "l05_meta.go:68", after := #[{ on := 11, ground := Ground.data }, { on := 10, ground := Ground.chain }], guard := none }) (v := ?_) rfl (by kernel_rfl) (by kernel_rfl) (by kernel_rfl) (fun _ _ _ h => h) (Or.inl ⟨by rfl, ?_⟩) (by assumption) ?_
    rotate_left 1
    · (intro wq hSw; (try dsimp only at hSw); go_simp; try with_reducible rfl)
    try simp only [Act.put, ly1, ly2, ly3]
    refine wpAnyH_take (i := 13) (oi := { dst := some 18, op := Op.fieldAddr 25 (Operand.tmp 2) 1, type := 0, pos := "l05_meta.go:68", after := #[{ on := 12, ground := Ground.guard }], guard := some (12, true) }) (v := undef) rfl (by kernel_rfl) (by kernel_rfl) (by kernel_rfl) (fun _ _ _ h => h) (Or.inr ⟨by rfl, rfl⟩) (by assumption) ?_
    try simp only [Act.put, ly1, ly2, ly3]
    refine wpAnyH_take (i := 14) (oi := { dst := some 19, op := Op.load 23 (Operand.tmp 18), type := 23, pos := "l05_meta.go:68", after := #[{ on := 13, ground := Ground.data }, { on := 12, ground := Ground.guard }], guard := some (12, true) }) (v := undef) rfl (by kernel_rfl) (by kernel_rfl) (by kernel_rfl) (fun _ _ _ h => h) (Or.inr ⟨by rfl, rfl⟩) (by assumption) ?_
    try simp only [Act.put, ly1, ly2, ly3]
    refine wpAnyH_take (i := 15) (oi := { dst := some 20, op := Op.fieldAddr 25 (Operand.tmp 3) 1, type := 0, pos := "l05_meta.go:68", after := #[{ on := 12, ground := Ground.guard }], guard := some (12, true) }) (v := undef) rfl (by kernel_rfl) (by kernel_rfl) (by kernel_rfl) (fun _ _ _ h => h) (Or.inr ⟨by rfl, rfl⟩) (by assumption) ?_
    try simp only [Act.put, ly1, ly2, ly3]
    refine wpAnyH_take (i := 16) (oi := { dst := some 21, op := Op.load 23 (Operand.tmp 20), type := 23, pos := "l05_meta.go:68", after := #[{ on := 15, ground := Ground.data }, { on := 12, ground := Ground.guard }], guard := some (12, true) }) (v := undef) rfl (by kernel_rfl) (by kernel_rfl) (by kernel_rfl) (fun _ _ _ h => h) (Or.inr ⟨by rfl, rfl⟩) (by assumption) ?_
    try simp only [Act.put, ly1, ly2, ly3]
    refine wpAnyH_take (i := 17) (oi := { dst := some 22, op := Op.call { callee := Callee.value (Operand.func 241), args := #[Operand.tmp 19, Operand.tmp 21, Operand.func 242], argTypes := #[23, 23, 77] }, type := 4, pos := "l05_meta.go:68", after := #[{ on := 14, ground := Ground.data }, { on := 16, ground := Ground.data }, { on := 12, ground := Ground.chain }, { on := 12, ground := Ground.guard }], guard := some (12, true) }) (v := undef) rfl (by kernel_rfl) (by kernel_rfl) (by kernel_rfl) (fun _ _ _ h => h) (Or.inr ⟨by rfl, rfl⟩) (by assumption) ?_
    try simp only [Act.put, ly1, ly2, ly3]
    refine wpAnyH_take (i := 18) (oi := { dst := some 23, op := Op.pick (Operand.tmp 17) (Operand.tmp 22) (Operand.const (Value.bool false)), type := 4, pos := "l05_meta.go:68", after := #[{ on := 12, ground := Ground.data }, { on := 17, ground := Ground.data }], guard := none }) (v := ?_) rfl (by kernel_rfl) (by kernel_rfl) (by kernel_rfl) (fun _ _ _ h => h) (Or.inl ⟨by rfl, ?_⟩) (by assumption) ?_
    rotate_left 1
    · (intro wq hSw; (try dsimp only at hSw); go_simp; try with_reducible rfl)
    try simp only [Act.put, ly1, ly2, ly3]
    refine wpAnyH_take (i := 19) (oi := { dst := some 4, op := Op.assign (Operand.tmp 23), type := 4, pos := "l05_meta.go:68", after := #[{ on := 18, ground := Ground.data }, { on := 17, ground := Ground.chain }, { on := 0, ground := Ground.phase }, { on := 1, ground := Ground.phase }, { on := 2, ground := Ground.phase }, { on := 3, ground := Ground.phase }, { on := 4, ground := Ground.phase }, { on := 5, ground := Ground.phase }, { on := 6, ground := Ground.phase }, { on := 7, ground := Ground.phase }, { on := 8, ground := Ground.phase }, { on := 9, ground := Ground.phase }, { on := 10, ground := Ground.phase }, { on := 11, ground := Ground.phase }, { on := 12, ground := Ground.phase }, { on := 13, ground := Ground.phase }, { on := 14, ground := Ground.phase }, { on := 15, ground := Ground.phase }, { on := 16, ground := Ground.phase }, { on := 17, ground := Ground.phase }, { on := 18, ground := Ground.phase }], guard := none }) (v := ?_) rfl (by kernel_rfl) (by kernel_rfl) (by kernel_rfl) (fun _ _ _ h => h) (Or.inl ⟨by rfl, ?_⟩) (by assumption) ?_
    rotate_left 1
    · (intro wq hSw; (try dsimp only at hSw); go_simp; try with_reducible rfl)
    try simp only [Act.put, ly1, ly2, ly3]
    refine wpAnyH_done (by kernel_rfl) ?_ _
    go_wp2
    go_ret
    exact Tells.no HN.out (H7.out.2.2.2.2)
  subst h6
  by_cases h2 : g = g'
  case neg =>
    have HN : Hid (¬ SmM g n L fi ol he la g' n' L' fi ol he la) := fun x => h2 x.2.1
    have HG := hide h2
    clear h2
    obtain ⟨W, hW⟩ : ∃ W, W = ((w.alloc (.cells #[.slice go g.length gc, .slice bo n bc, .bool fi, .bool ol, .bool he, .int .i64 la] 25)).alloc (.cells #[.slice go' g'.length gc', .slice bo' n' bc', .bool fi, .bool ol, .bool he, .int .i64 la] 25)) := ⟨_, rfl⟩
    have hb : Below w.heap.size w W := by rw [hW]; exact ((Below.refl _ _).alloc (Nat.le_refl _) _).alloc (by simp) _
    have M1 : KB W w.heap.size 25 go g.length gc bo n bc fi ol he la := by rw [hW]; exact (al2 w _ _).1
    have M2 : KB W (w.heap.size + 1) 25 go' g'.length gc' bo' n' bc' fi ol he la := by rw [hW]; exact (al2 w _ _).2.1
    have H5 : Hid (KB W.drew w.heap.size 25 go g.length gc bo n bc fi ol he la ∧ KB W.drew (w.heap.size + 1) 25 go' g'.length gc' bo' n' bc' fi ol he la ∧ MV W.drew go gc bo bc g n L ∧ MV W.drew go' gc' bo' bc' g' n' L' ∧ Below w.heap.size w W.drew) := ⟨M1, M2, hA.below (Below.drawn hb 1), hB.below (Below.drawn hb 1), Below.drawn hb 1⟩
    obtain ⟨m0, m1, m2, m3, m4, m5⟩ := M1.cells
    obtain ⟨x0, x1, x2, x3, x4, x5⟩ := M2.cells
    clear M1 M2 hb hA hB
    go_enter Tryz.func211, Tryz.ntmps211
    go_wp2_with fail
    rw [← hW]
    clear hW
    refine wp_region_held_drew (S := (fun w' => (w'.cell? ⟨w.heap.size, 0, none⟩ = some (.slice go g.length gc) ∧ w'.cell? ⟨w.heap.size, 1, none⟩ = some (.slice bo n bc) ∧ w'.cell? ⟨w.heap.size, 2, none⟩ = some (.bool fi) ∧ w'.cell? ⟨w.heap.size, 3, none⟩ = some (.bool ol) ∧ w'.cell? ⟨w.heap.size, 4, none⟩ = some (.bool he) ∧ w'.cell? ⟨w.heap.size, 5, none⟩ = some (.int .i64 la)) ∧ (w'.cell? ⟨w.heap.size + 1, 0, none⟩ = some (.slice go' g'.length gc') ∧ w'.cell? ⟨w.heap.size + 1, 1, none⟩ = some (.slice bo' n' bc') ∧ w'.cell? ⟨w.heap.size + 1, 2, none⟩ = some (.bool fi) ∧ w'.cell? ⟨w.heap.size + 1, 3, none⟩ = some (.bool ol) ∧ w'.cell? ⟨w.heap.size + 1, 4, none⟩ = some (.bool he) ∧ w'.cell? ⟨w.heap.size + 1, 5, none⟩ = some (.int .i64 la)))) (by kernel_rfl) ?_ (fun hHeld => ?_)
    · exact ⟨⟨m0, m1, m2, m3, m4, m5⟩, x0, x1, x2, x3, x4, x5⟩
    refine wpAnyH_take (i := 0) (oi := { dst := some 5, op := Op.load 25 (Operand.tmp 2), type := 25, pos := "l05_meta.go:68", after := #[], guard := none }) (v := ?_) rfl (by kernel_rfl) (by kernel_rfl) (by kernel_rfl) (fun _ _ _ h => h) (Or.inl ⟨by rfl, ?_⟩) (by assumption) ?_
    rotate_left 1
    · (intro wq hSw; (try dsimp only at hSw); go_simp; try with_reducible rfl)
    try simp only [Act.put, ly1, ly2, ly3]
    refine wpAnyH_take (i := 2) (oi := { dst := some 7, op := Op.load 25 (Operand.tmp 3), type := 25, pos := "l05_meta.go:68", after := #[], guard := none }) (v := ?_) rfl (by kernel_rfl) (by kernel_rfl) (by kernel_rfl) (fun _ _ _ h => h) (Or.inl ⟨by rfl, ?_⟩) (by assumption) ?_
    rotate_left 1
    · (intro wq hSw; (try dsimp only at hSw); go_simp; try with_reducible rfl)
    try simp only [Act.put, ly1, ly2, ly3]
    refine wpAnyH_ready (rs := [1]) (by kernel_rfl) (by simp) ?_
    refine AllReadyH.cons (o := { dst := some 6, op := Op.call { callee := Callee.value (Operand.func 240), args := #[Operand.tmp 5], argTypes := #[25] }, type := 209, pos := "l05_meta.go:68", after := #[{ on := 0, ground := Ground.data }], guard := none }) rfl (fun K hK => ?_) AllReadyH.nil
    go_simp
    refine (stateof _ _ _ _ _ _ _ _ _ _ _).mono ?_
    rintro e w6 ⟨rfl, b6⟩
    have H6 : Hid (KB w6 w.heap.size 25 go g.length gc bo n bc fi ol he la ∧ KB w6 (w.heap.size + 1) 25 go' g'.length gc' bo' n' bc' fi ol he la ∧ MV w6 go gc bo bc g n L ∧ MV w6 go' gc' bo' bc' g' n' L' ∧ Below w.heap.size w w6) := ⟨H5.out.1.b b6, H5.out.2.1.b b6, H5.out.2.2.1.below b6, H5.out.2.2.2.1.below b6, H5.out.2.2.2.2.trans (b6.mono H5.out.2.2.2.2.size)⟩
    have hk6 := And.intro H6.out.1.cells H6.out.2.1.cells
    clear b6
    go_wp2_with fail
    refine hK.out _ _ ?_ (fun hHeld => ?_)
    · exact hk6
    clear hK K
    try simp only [Act.put, ly1, ly2, ly3]
    refine wpAnyH_ready (rs := [3]) (by kernel_rfl) (by simp) ?_
    refine AllReadyH.cons (o := { dst := some 8, op := Op.call { callee := Callee.value (Operand.func 240), args := #[Operand.tmp 7], argTypes := #[25] }, type := 209, pos := "l05_meta.go:68", after := #[{ on := 2, ground := Ground.data }, { on := 1, ground := Ground.chain }], guard := none }) rfl (fun K hK => ?_) AllReadyH.nil
    go_simp
    refine (stateof _ _ _ _ _ _ _ _ _ _ _).mono ?_
    rintro e w7 ⟨rfl, b7⟩
    have H7 : Hid (KB w7 w.heap.size 25 go g.length gc bo n bc fi ol he la ∧ KB w7 (w.heap.size + 1) 25 go' g'.length gc' bo' n' bc' fi ol he la ∧ MV w7 go gc bo bc g n L ∧ MV w7 go' gc' bo' bc' g' n' L' ∧ Below w.heap.size w w7) := ⟨H6.out.1.b b7, H6.out.2.1.b b7, H6.out.2.2.1.below b7, H6.out.2.2.2.1.below b7, H6.out.2.2.2.2.trans (b7.mono H6.out.2.2.2.2.size)⟩
    have hk7 := And.intro H7.out.1.cells H7.out.2.1.cells
    clear b7
    go_wp2_with fail
    refine hK.out _ _ ?_ (fun hHeld => ?_)
    · exact hk7
    clear hK K
    try simp only [Act.put, ly1, ly2, ly3]
    refine wpAnyH_take (i := 4) (oi := { dst := some 9, op := Op.binOp BinOp.eql 209 (Operand.tmp 6) (Operand.tmp 8) 209, type := 4, pos := "l05_meta.go:68", after := #[{ on := 1, ground := Ground.data }, { on := 3, ground := Ground.data }], guard := none }) (v := ?_) rfl (by kernel_rfl) (by kernel_rfl) (by kernel_rfl) (fun _ _ _ h => h) (Or.inl ⟨by rfl, ?_⟩) (by assumption) ?_
    rotate_left 1
    · (intro wq hSw; (try dsimp only at hSw); go_simp; try with_reducible rfl)
    try simp only [Act.put, ly1, ly2, ly3]
    refine wpAnyH_take (i := 5) (oi := { dst := some 10, op := Op.move (Operand.tmp 9), type := 4, pos := "l05_meta.go:68", after := #[{ on := 4, ground := Ground.data }, { on := 3, ground := Ground.chain }], guard := none }) (v := ?_) rfl (by kernel_rfl) (by kernel_rfl) (by kernel_rfl) (fun _ _ _ h => h) (Or.inl ⟨by rfl, ?_⟩) (by assumption) ?_
    rotate_left 1
    · (intro wq hSw; (try dsimp only at hSw); go_simp; try with_reducible rfl)
    try simp only [Act.put, ly1, ly2, ly3]
    refine wpAnyH_take (i := 6) (oi := { dst := some 11, op := Op.fieldAddr 25 (Operand.tmp 2) 0, type := 0, pos := "l05_meta.go:68", after := #[{ on := 5, ground := Ground.guard }], guard := some (5, true) }) (v := ?_) rfl (by kernel_rfl) (by kernel_rfl) (by kernel_rfl) (fun _ _ _ h => h) (Or.inl ⟨by rfl, ?_⟩) (by assumption) ?_
    rotate_left 1
    · (intro wq hSw; (try dsimp only at hSw); go_simp; try with_reducible rfl)
    try simp only [Act.put, ly1, ly2, ly3]
    refine wpAnyH_take (i := 7) (oi := { dst := some 12, op := Op.load 22 (Operand.tmp 11), type := 22, pos := "l05_meta.go:68", after := #[{ on := 6, ground := Ground.data }, { on := 5, ground := Ground.guard }], guard := some (5, true) }) (v := ?_) rfl (by kernel_rfl) (by kernel_rfl) (by kernel_rfl) (fun _ _ _ h => h) (Or.inl ⟨by rfl, ?_⟩) (by assumption) ?_
    rotate_left 1
    · (intro wq hSw; (try dsimp only at hSw); go_simp; try with_reducible rfl)
    try simp only [Act.put, ly1, ly2, ly3]
    refine wpAnyH_take (i := 8) (oi := { dst := some 13, op := Op.fieldAddr 25 (Operand.tmp 3) 0, type := 0, pos := "l05_meta.go:68", after := #[{ on := 5, ground := Ground.guard }], guard := some (5, true) }) (v := ?_) rfl (by kernel_rfl) (by kernel_rfl) (by kernel_rfl) (fun _ _ _ h => h) (Or.inl ⟨by rfl, ?_⟩) (by assumption) ?_
    rotate_left 1
    · (intro wq hSw; (try dsimp only at hSw); go_simp; try with_reducible rfl)
    try simp only [Act.put, ly1, ly2, ly3]
    refine wpAnyH_take (i := 9) (oi := { dst := some 14, op := Op.load 22 (Operand.tmp 13), type := 22, pos := "l05_meta.go:68", after := #[{ on := 8, ground := Ground.data }, { on := 5, ground := Ground.guard }], guard := some (5, true) }) (v := ?_) rfl (by kernel_rfl) (by kernel_rfl) (by kernel_rfl) (fun _ _ _ h => h) (Or.inl ⟨by rfl, ?_⟩) (by assumption) ?_
    rotate_left 1
    · (intro wq hSw; (try dsimp only at hSw); go_simp; try with_reducible rfl)
    try simp only [Act.put, ly1, ly2, ly3]
    refine wpAnyH_ready (rs := [10]) (by kernel_rfl) (by simp) ?_
    refine AllReadyH.cons (o := { dst := some 15, op := Op.call { callee := Callee.value (Operand.func 226), args := #[Operand.tmp 12, Operand.tmp 14], argTypes := #[22, 22] }, type := 4, pos := "l05_meta.go:68", after := #[{ on := 7, ground := Ground.data }, { on := 9, ground := Ground.data }, { on := 5, ground := Ground.chain }, { on := 5, ground := Ground.guard }], guard := some (5, true) }) rfl (fun K hK => ?_) AllReadyH.nil
    go_simp
    refine (leq_no go go' gc gc' g g' _ hd.1 H7.out.2.2.1.2.1 H7.out.2.2.2.1.2.1 HG.out).mono ?_
    rintro e w8 ⟨rfl, q8, hw8⟩
    have b8 : Below w7.heap.size w7 w8 := hw8 ▸ Below.drawn (Below.refl _ _) q8
    clear hw8
    have H8 : Hid (KB w8 w.heap.size 25 go g.length gc bo n bc fi ol he la ∧ KB w8 (w.heap.size + 1) 25 go' g'.length gc' bo' n' bc' fi ol he la ∧ MV w8 go gc bo bc g n L ∧ MV w8 go' gc' bo' bc' g' n' L' ∧ Below w.heap.size w w8) := ⟨H7.out.1.b b8, H7.out.2.1.b b8, H7.out.2.2.1.below b8, H7.out.2.2.2.1.below b8, H7.out.2.2.2.2.trans (b8.mono H7.out.2.2.2.2.size)⟩
    have hk8 := And.intro H8.out.1.cells H8.out.2.1.cells
    clear b8
    go_wp2_with fail
    refine hK.out _ _ ?_ (fun hHeld => ?_)
    · exact hk8
    clear hK K
    try simp only [Act.put, ly1, ly2, ly3]
    refine wpAnyH_take (i := 11) (oi := { dst := some 16, op := Op.pick (Operand.tmp 10) (Operand.tmp 15) (Operand.const (Value.bool false)), type := 4, pos := "l05_meta.go:68", after := #[{ on := 5, ground := Ground.data }, { on := 10, ground := Ground.data }], guard := none }) (v := ?_) rfl (by kernel_rfl) (by kernel_rfl) (by kernel_rfl) (fun _ _ _ h => h) (Or.inl ⟨by rfl, ?_⟩) (by assumption) ?_
    rotate_left 1
    · (intro wq hSw; (try dsimp only at hSw); go_simp; try with_reducible rfl)
    try simp only [Act.put, ly1, ly2, ly3]
    refine wpAnyH_take (i := 12) (oi := { dst := some 17, op := Op.move (Operand.tmp 16), type := 4, pos := "l05_meta.go:68", after := #[{ on := 11, ground := Ground.data }, { on := 10, ground := Ground.chain }], guard := none }) (v := ?_) rfl (by kernel_rfl) (by kernel_rfl) (by kernel_rfl) (fun _ _ _ h => h) (Or.inl ⟨by rfl, ?_⟩) (by assumption) ?_
    rotate_left 1
    · (intro wq hSw; (try dsimp only at hSw); go_simp; try with_reducible rfl)
    try simp only [Act.put, ly1, ly2, ly3]
    refine wpAnyH_take (i := 13) (oi := { dst := some 18, op := Op.fieldAddr 25 (Operand.tmp 2) 1, type := 0, pos := "l05_meta.go:68", after := #[{ on := 12, ground := Ground.guard }], guard := some (12, true) }) (v := undef) rfl (by kernel_rfl) (by kernel_rfl) (by kernel_rfl) (fun _ _ _ h => h) (Or.inr ⟨by rfl, rfl⟩) (by assumption) ?_
    try simp only [Act.put, ly1, ly2, ly3]
    refine wpAnyH_take (i := 14) (oi := { dst := some 19, op := Op.load 23 (Operand.tmp 18), type := 23, pos := "l05_meta.go:68", after := #[{ on := 13, ground := Ground.data }, { on := 12, ground := Ground.guard }], guard := some (12, true) }) (v := undef) rfl (by kernel_rfl) (by kernel_rfl) (by kernel_rfl) (fun _ _ _ h => h) (Or.inr ⟨by rfl, rfl⟩) (by assumption) ?_
    try simp only [Act.put, ly1, ly2, ly3]
    refine wpAnyH_take (i := 15) (oi := { dst := some 20, op := Op.fieldAddr 25 (Operand.tmp 3) 1, type := 0, pos := "l05_meta.go:68", after := #[{ on := 12, ground := Ground.guard }], guard := some (12, true) }) (v := undef) rfl (by kernel_rfl) (by kernel_rfl) (by kernel_rfl) (fun _ _ _ h => h) (Or.inr ⟨by rfl, rfl⟩) (by assumption) ?_
    try simp only [Act.put, ly1, ly2, ly3]
    refine wpAnyH_take (i := 16) (oi := { dst := some 21, op := Op.load 23 (Operand.tmp 20), type := 23, pos := "l05_meta.go:68", after := #[{ on := 15, ground := Ground.data }, { on := 12, ground := Ground.guard }], guard := some (12, true) }) (v := undef) rfl (by kernel_rfl) (by kernel_rfl) (by kernel_rfl) (fun _ _ _ h => h) (Or.inr ⟨by rfl, rfl⟩) (by assumption) ?_
    try simp only [Act.put, ly1, ly2, ly3]
    refine wpAnyH_take (i := 17) (oi := { dst := some 22, op := Op.call { callee := Callee.value (Operand.func 241), args := #[Operand.tmp 19, Operand.tmp 21, Operand.func 242], argTypes := #[23, 23, 77] }, type := 4, pos := "l05_meta.go:68", after := #[{ on := 14, ground := Ground.data }, { on := 16, ground := Ground.data }, { on := 12, ground := Ground.chain }, { on := 12, ground := Ground.guard }], guard := some (12, true) }) (v := undef) rfl (by kernel_rfl) (by kernel_rfl) (by kernel_rfl) (fun _ _ _ h => h) (Or.inr ⟨by rfl, rfl⟩) (by assumption) ?_
    try simp only [Act.put, ly1, ly2, ly3]
    refine wpAnyH_take (i := 18) (oi := { dst := some 23, op := Op.pick (Operand.tmp 17) (Operand.tmp 22) (Operand.const (Value.bool false)), type := 4, pos := "l05_meta.go:68", after := #[{ on := 12, ground := Ground.data }, { on := 17, ground := Ground.data }], guard := none }) (v := ?_) rfl (by kernel_rfl) (by kernel_rfl) (by kernel_rfl) (fun _ _ _ h => h) (Or.inl ⟨by rfl, ?_⟩) (by assumption) ?_
    rotate_left 1
    · (intro wq hSw; (try dsimp only at hSw); go_simp; try with_reducible rfl)
    try simp only [Act.put, ly1, ly2, ly3]
    refine wpAnyH_take (i := 19) (oi := { dst := some 4, op := Op.assign (Operand.tmp 23), type := 4, pos := "l05_meta.go:68", after := #[{ on := 18, ground := Ground.data }, { on := 17, ground := Ground.chain }, { on := 0, ground := Ground.phase }, { on := 1, ground := Ground.phase }, { on := 2, ground := Ground.phase }, { on := 3, ground := Ground.phase }, { on := 4, ground := Ground.phase }, { on := 5, ground := Ground.phase }, { on := 6, ground := Ground.phase }, { on := 7, ground := Ground.phase }, { on := 8, ground := Ground.phase }, { on := 9, ground := Ground.phase }, { on := 10, ground := Ground.phase }, { on := 11, ground := Ground.phase }, { on := 12, ground := Ground.phase }, { on := 13, ground := Ground.phase }, { on := 14, ground := Ground.phase }, { on := 15, ground := Ground.phase }, { on := 16, ground := Ground.phase }, { on := 17, ground := Ground.phase }, { on := 18, ground := Ground.phase }], guard := none }) (v := ?_) rfl (by kernel_rfl) (by kernel_rfl) (by kernel_rfl) (fun _ _ _ h => h) (Or.inl ⟨by rfl, ?_⟩) (by assumption) ?_
    rotate_left 1
    · (intro wq hSw; (try dsimp only at hSw); go_simp; try with_reducible rfl)
    try simp only [Act.put, ly1, ly2, ly3]
    refine wpAnyH_done (by kernel_rfl) ?_ _
    go_wp2
    go_ret
    exact Tells.no HN.out (H8.out.2.2.2.2)
  have HG := hide h2
  clear h2
  by_cases h7 : n = n' ∧ ∀ i, i < n → L i = L' i
  case neg =>
    have HN : Hid (¬ SmM g n L fi ol he la g' n' L' fi ol he la) := fun x => h7 ⟨x.1, x.2.2.2.2.2.2⟩
    have HL := hide h7
    clear h7
    obtain ⟨W, hW⟩ : ∃ W, W = ((w.alloc (.cells #[.slice go g.length gc, .slice bo n bc, .bool fi, .bool ol, .bool he, .int .i64 la] 25)).alloc (.cells #[.slice go' g'.length gc', .slice bo' n' bc', .bool fi, .bool ol, .bool he, .int .i64 la] 25)) := ⟨_, rfl⟩
    have hb : Below w.heap.size w W := by rw [hW]; exact ((Below.refl _ _).alloc (Nat.le_refl _) _).alloc (by simp) _
    have M1 : KB W w.heap.size 25 go g.length gc bo n bc fi ol he la := by rw [hW]; exact (al2 w _ _).1
    have M2 : KB W (w.heap.size + 1) 25 go' g'.length gc' bo' n' bc' fi ol he la := by rw [hW]; exact (al2 w _ _).2.1
    have H5 : Hid (KB W.drew w.heap.size 25 go g.length gc bo n bc fi ol he la ∧ KB W.drew (w.heap.size + 1) 25 go' g'.length gc' bo' n' bc' fi ol he la ∧ MV W.drew go gc bo bc g n L ∧ MV W.drew go' gc' bo' bc' g' n' L' ∧ Below w.heap.size w W.drew) := ⟨M1, M2, hA.below (Below.drawn hb 1), hB.below (Below.drawn hb 1), Below.drawn hb 1⟩
    obtain ⟨m0, m1, m2, m3, m4, m5⟩ := M1.cells
    obtain ⟨x0, x1, x2, x3, x4, x5⟩ := M2.cells
    clear M1 M2 hb hA hB
    go_enter Tryz.func211, Tryz.ntmps211
    go_wp2_with fail
    rw [← hW]
    clear hW
    refine wp_region_held_drew (S := (fun w' => (w'.cell? ⟨w.heap.size, 0, none⟩ = some (.slice go g.length gc) ∧ w'.cell? ⟨w.heap.size, 1, none⟩ = some (.slice bo n bc) ∧ w'.cell? ⟨w.heap.size, 2, none⟩ = some (.bool fi) ∧ w'.cell? ⟨w.heap.size, 3, none⟩ = some (.bool ol) ∧ w'.cell? ⟨w.heap.size, 4, none⟩ = some (.bool he) ∧ w'.cell? ⟨w.heap.size, 5, none⟩ = some (.int .i64 la)) ∧ (w'.cell? ⟨w.heap.size + 1, 0, none⟩ = some (.slice go' g'.length gc') ∧ w'.cell? ⟨w.heap.size + 1, 1, none⟩ = some (.slice bo' n' bc') ∧ w'.cell? ⟨w.heap.size + 1, 2, none⟩ = some (.bool fi) ∧ w'.cell? ⟨w.heap.size + 1, 3, none⟩ = some (.bool ol) ∧ w'.cell? ⟨w.heap.size + 1, 4, none⟩ = some (.bool he) ∧ w'.cell? ⟨w.heap.size + 1, 5, none⟩ = some (.int .i64 la)))) (by kernel_rfl) ?_ (fun hHeld => ?_)
    · exact ⟨⟨m0, m1, m2, m3, m4, m5⟩, x0, x1, x2, x3, x4, x5⟩
    refine wpAnyH_take (i := 0) (oi := { dst := some 5, op := Op.load 25 (Operand.tmp 2), type := 25, pos := "l05_meta.go:68", after := #[], guard := none }) (v := ?_) rfl (by kernel_rfl) (by kernel_rfl) (by kernel_rfl) (fun _ _ _ h => h) (Or.inl ⟨by rfl, ?_⟩) (by assumption) ?_
    rotate_left 1
    · (intro wq hSw; (try dsimp only at hSw); go_simp; try with_reducible rfl)
    try simp only [Act.put, ly1, ly2, ly3]
    refine wpAnyH_take (i := 2) (oi := { dst := some 7, op := Op.load 25 (Operand.tmp 3), type := 25, pos := "l05_meta.go:68", after := #[], guard := none }) (v := ?_) rfl (by kernel_rfl) (by kernel_rfl) (by kernel_rfl) (fun _ _ _ h => h) (Or.inl ⟨by rfl, ?_⟩) (by assumption) ?_
    rotate_left 1
    · (intro wq hSw; (try dsimp only at hSw); go_simp; try with_reducible rfl)
    try simp only [Act.put, ly1, ly2, ly3]
    refine wpAnyH_ready (rs := [1]) (by kernel_rfl) (by simp) ?_
    refine AllReadyH.cons (o := { dst := some 6, op := Op.call { callee := Callee.value (Operand.func 240), args := #[Operand.tmp 5], argTypes := #[25] }, type := 209, pos := "l05_meta.go:68", after := #[{ on := 0, ground := Ground.data }], guard := none }) rfl (fun K hK => ?_) AllReadyH.nil
    go_simp
    refine (stateof _ _ _ _ _ _ _ _ _ _ _).mono ?_
    rintro e w6 ⟨rfl, b6⟩
    have H6 : Hid (KB w6 w.heap.size 25 go g.length gc bo n bc fi ol he la ∧ KB w6 (w.heap.size + 1) 25 go' g'.length gc' bo' n' bc' fi ol he la ∧ MV w6 go gc bo bc g n L ∧ MV w6 go' gc' bo' bc' g' n' L' ∧ Below w.heap.size w w6) := ⟨H5.out.1.b b6, H5.out.2.1.b b6, H5.out.2.2.1.below b6, H5.out.2.2.2.1.below b6, H5.out.2.2.2.2.trans (b6.mono H5.out.2.2.2.2.size)⟩
    have hk6 := And.intro H6.out.1.cells H6.out.2.1.cells
    clear b6
    go_wp2_with fail
    refine hK.out _ _ ?_ (fun hHeld => ?_)
    · exact hk6
    clear hK K
    try simp only [Act.put, ly1, ly2, ly3]
    refine wpAnyH_ready (rs := [3]) (by kernel_rfl) (by simp) ?_
    refine AllReadyH.cons (o := { dst := some 8, op := Op.call { callee := Callee.value (Operand.func 240), args := #[Operand.tmp 7], argTypes := #[25] }, type := 209, pos := "l05_meta.go:68", after := #[{ on := 2, ground := Ground.data }, { on := 1, ground := Ground.chain }], guard := none }) rfl (fun K hK => ?_) AllReadyH.nil
    go_simp
    refine (stateof _ _ _ _ _ _ _ _ _ _ _).mono ?_
    rintro e w7 ⟨rfl, b7⟩
    have H7 : Hid (KB w7 w.heap.size 25 go g.length gc bo n bc fi ol he la ∧ KB w7 (w.heap.size + 1) 25 go' g'.length gc' bo' n' bc' fi ol he la ∧ MV w7 go gc bo bc g n L ∧ MV w7 go' gc' bo' bc' g' n' L' ∧ Below w.heap.size w w7) := ⟨H6.out.1.b b7, H6.out.2.1.b b7, H6.out.2.2.1.below b7, H6.out.2.2.2.1.below b7, H6.out.2.2.2.2.trans (b7.mono H6.out.2.2.2.2.size)⟩
    have hk7 := And.intro H7.out.1.cells H7.out.2.1.cells
    clear b7
    go_wp2_with fail
    refine hK.out _ _ ?_ (fun hHeld => ?_)
    · exact hk7
    clear hK K
    try simp only [Act.put, ly1, ly2, ly3]
    refine wpAnyH_take (i := 4) (oi := { dst := some 9, op := Op.binOp BinOp.eql 209 (Operand.tmp 6) (Operand.tmp 8) 209, type := 4, pos := "l05_meta.go:68", after := #[{ on := 1, ground := Ground.data }, { on := 3, ground := Ground.data }], guard := none }) (v := ?_) rfl (by kernel_rfl) (by kernel_rfl) (by kernel_rfl) (fun _ _ _ h => h) (Or.inl ⟨by rfl, ?_⟩) (by assumption) ?_
    rotate_left 1
    · (intro wq hSw; (try dsimp only at hSw); go_simp; try with_reducible rfl)
    try simp only [Act.put, ly1, ly2, ly3]
    refine wpAnyH_take (i := 5) (oi := { dst := some 10, op := Op.move (Operand.tmp 9), type := 4, pos := "l05_meta.go:68", after := #[{ on := 4, ground := Ground.data }, { on := 3, ground := Ground.chain }], guard := none }) (v := ?_) rfl (by kernel_rfl) (by kernel_rfl) (by kernel_rfl) (fun _ _ _ h => h) (Or.inl ⟨by rfl, ?_⟩) (by assumption) ?_
    rotate_left 1
    · (intro wq hSw; (try dsimp only at hSw); go_simp; try with_reducible rfl)
    try simp only [Act.put, ly1, ly2, ly3]
    refine wpAnyH_take (i := 6) (oi := { dst := some 11, op := Op.fieldAddr 25 (Operand.tmp 2) 0, type := 0, pos := "l05_meta.go:68", after := #[{ on := 5, ground := Ground.guard }], guard := some (5, true) }) (v := ?_) rfl (by kernel_rfl) (by kernel_rfl) (by kernel_rfl) (fun _ _ _ h => h) (Or.inl ⟨by rfl, ?_⟩) (by assumption) ?_
    rotate_left 1
    · (intro wq hSw; (try dsimp only at hSw); go_simp; try with_reducible rfl)
    try simp only [Act.put, ly1, ly2, ly3]
    refine wpAnyH_take (i := 7) (oi := { dst := some 12, op := Op.load 22 (Operand.tmp 11), type := 22, pos := "l05_meta.go:68", after := #[{ on := 6, ground := Ground.data }, { on := 5, ground := Ground.guard }], guard := some (5, true) }) (v := ?_) rfl (by kernel_rfl) (by kernel_rfl) (by kernel_rfl) (fun _ _ _ h => h) (Or.inl ⟨by rfl, ?_⟩) (by assumption) ?_
    rotate_left 1
    · (intro wq hSw; (try dsimp only at hSw); go_simp; try with_reducible rfl)
    try simp only [Act.put, ly1, ly2, ly3]
    refine wpAnyH_take (i := 8) (oi := { dst := some 13, op := Op.fieldAddr 25 (Operand.tmp 3) 0, type := 0, pos := "l05_meta.go:68", after := #[{ on := 5, ground := Ground.guard }], guard := some (5, true) }) (v := ?_) rfl (by kernel_rfl) (by kernel_rfl) (by kernel_rfl) (fun _ _ _ h => h) (Or.inl ⟨by rfl, ?_⟩) (by assumption) ?_
    rotate_left 1
    · (intro wq hSw; (try dsimp only at hSw); go_simp; try with_reducible rfl)
    try simp only [Act.put, ly1, ly2, ly3]
    refine wpAnyH_take (i := 9) (oi := { dst := some 14, op := Op.load 22 (Operand.tmp 13), type := 22, pos := "l05_meta.go:68", after := #[{ on := 8, ground := Ground.data }, { on := 5, ground := Ground.guard }], guard := some (5, true) }) (v := ?_) rfl (by kernel_rfl) (by kernel_rfl) (by kernel_rfl) (fun _ _ _ h => h) (Or.inl ⟨by rfl, ?_⟩) (by assumption) ?_
    rotate_left 1
    · (intro wq hSw; (try dsimp only at hSw); go_simp; try with_reducible rfl)
    try simp only [Act.put, ly1, ly2, ly3]
    refine wpAnyH_ready (rs := [10]) (by kernel_rfl) (by simp) ?_
    refine AllReadyH.cons (o := { dst := some 15, op := Op.call { callee := Callee.value (Operand.func 226), args := #[Operand.tmp 12, Operand.tmp 14], argTypes := #[22, 22] }, type := 4, pos := "l05_meta.go:68", after := #[{ on := 7, ground := Ground.data }, { on := 9, ground := Ground.data }, { on := 5, ground := Ground.chain }, { on := 5, ground := Ground.guard }], guard := some (5, true) }) rfl (fun K hK => ?_) AllReadyH.nil
    go_simp
    refine (leq_yes go go' gc gc' g g' _ hd.1 H7.out.2.2.1.2.1 H7.out.2.2.2.1.2.1 HG.out).mono ?_
    rintro e w8 ⟨rfl, q8, hw8⟩
    have b8 : Below w7.heap.size w7 w8 := hw8 ▸ Below.drawn (Below.refl _ _) q8
    clear hw8
    have H8 : Hid (KB w8 w.heap.size 25 go g.length gc bo n bc fi ol he la ∧ KB w8 (w.heap.size + 1) 25 go' g'.length gc' bo' n' bc' fi ol he la ∧ MV w8 go gc bo bc g n L ∧ MV w8 go' gc' bo' bc' g' n' L' ∧ Below w.heap.size w w8) := ⟨H7.out.1.b b8, H7.out.2.1.b b8, H7.out.2.2.1.below b8, H7.out.2.2.2.1.below b8, H7.out.2.2.2.2.trans (b8.mono H7.out.2.2.2.2.size)⟩
    have hk8 := And.intro H8.out.1.cells H8.out.2.1.cells
    clear b8
    go_wp2_with fail
    refine hK.out _ _ ?_ (fun hHeld => ?_)
    · exact hk8
    clear hK K
    try simp only [Act.put, ly1, ly2, ly3]
    refine wpAnyH_take (i := 11) (oi := { dst := some 16, op := Op.pick (Operand.tmp 10) (Operand.tmp 15) (Operand.const (Value.bool false)), type := 4, pos := "l05_meta.go:68", after := #[{ on := 5, ground := Ground.data }, { on := 10, ground := Ground.data }], guard := none }) (v := ?_) rfl (by kernel_rfl) (by kernel_rfl) (by kernel_rfl) (fun _ _ _ h => h) (Or.inl ⟨by rfl, ?_⟩) (by assumption) ?_
    rotate_left 1
    · (intro wq hSw; (try dsimp only at hSw); go_simp; try with_reducible rfl)
    try simp only [Act.put, ly1, ly2, ly3]
    refine wpAnyH_take (i := 12) (oi := { dst := some 17, op := Op.move (Operand.tmp 16), type := 4, pos := "l05_meta.go:68", after := #[{ on := 11, ground := Ground.data }, { on := 10, ground := Ground.chain }], guard := none }) (v := ?_) rfl (by kernel_rfl) (by kernel_rfl) (by kernel_rfl) (fun _ _ _ h => h) (Or.inl ⟨by rfl, ?_⟩) (by assumption) ?_
    rotate_left 1
    · (intro wq hSw; (try dsimp only at hSw); go_simp; try with_reducible rfl)
    try simp only [Act.put, ly1, ly2, ly3]
    refine wpAnyH_take (i := 13) (oi := { dst := some 18, op := Op.fieldAddr 25 (Operand.tmp 2) 1, type := 0, pos := "l05_meta.go:68", after := #[{ on := 12, ground := Ground.guard }], guard := some (12, true) }) (v := ?_) rfl (by kernel_rfl) (by kernel_rfl) (by kernel_rfl) (fun _ _ _ h => h) (Or.inl ⟨by rfl, ?_⟩) (by assumption) ?_
    rotate_left 1
    · (intro wq hSw; (try dsimp only at hSw); go_simp; try with_reducible rfl)
    try simp only [Act.put, ly1, ly2, ly3]
    refine wpAnyH_take (i := 14) (oi := { dst := some 19, op := Op.load 23 (Operand.tmp 18), type := 23, pos := "l05_meta.go:68", after := #[{ on := 13, ground := Ground.data }, { on := 12, ground := Ground.guard }], guard := some (12, true) }) (v := ?_) rfl (by kernel_rfl) (by kernel_rfl) (by kernel_rfl) (fun _ _ _ h => h) (Or.inl ⟨by rfl, ?_⟩) (by assumption) ?_
    rotate_left 1
    · (intro wq hSw; (try dsimp only at hSw); go_simp; try with_reducible rfl)
    try simp only [Act.put, ly1, ly2, ly3]
    refine wpAnyH_take (i := 15) (oi := { dst := some 20, op := Op.fieldAddr 25 (Operand.tmp 3) 1, type := 0, pos := "l05_meta.go:68", after := #[{ on := 12, ground := Ground.guard }], guard := some (12, true) }) (v := ?_) rfl (by kernel_rfl) (by kernel_rfl) (by kernel_rfl) (fun _ _ _ h => h) (Or.inl ⟨by rfl, ?_⟩) (by assumption) ?_
    rotate_left 1
    · (intro wq hSw; (try dsimp only at hSw); go_simp; try with_reducible rfl)
    try simp only [Act.put, ly1, ly2, ly3]
    refine wpAnyH_take (i := 16) (oi := { dst := some 21, op := Op.load 23 (Operand.tmp 20), type := 23, pos := "l05_meta.go:68", after := #[{ on := 15, ground := Ground.data }, { on := 12, ground := Ground.guard }], guard := some (12, true) }) (v := ?_) rfl (by kernel_rfl) (by kernel_rfl) (by kernel_rfl) (fun _ _ _ h => h) (Or.inl ⟨by rfl, ?_⟩) (by assumption) ?_
    rotate_left 1
    · (intro wq hSw; (try dsimp only at hSw); go_simp; try with_reducible rfl)
    try simp only [Act.put, ly1, ly2, ly3]
    refine wpAnyH_ready (rs := [17]) (by kernel_rfl) (by simp) ?_
    refine AllReadyH.cons (o := { dst := some 22, op := Op.call { callee := Callee.value (Operand.func 241), args := #[Operand.tmp 19, Operand.tmp 21, Operand.func 242], argTypes := #[23, 23, 77] }, type := 4, pos := "l05_meta.go:68", after := #[{ on := 14, ground := Ground.data }, { on := 16, ground := Ground.data }, { on := 12, ground := Ground.chain }, { on := 12, ground := Ground.guard }], guard := some (12, true) }) rfl (fun K hK => ?_) AllReadyH.nil
    go_simp
    refine (eqfunc_no bo bo' n n' bc bc' L L' _ hd.2.1 hd.2.2 H8.out.2.2.1.2.2 H8.out.2.2.2.1.2.2 HL.out).mono ?_
    rintro e w9 ⟨rfl, q9, hw9⟩
    have b9 : Below w8.heap.size w8 w9 := hw9 ▸ Below.drawn (Below.refl _ _) q9
    clear hw9
    have H9 : Hid (KB w9 w.heap.size 25 go g.length gc bo n bc fi ol he la ∧ KB w9 (w.heap.size + 1) 25 go' g'.length gc' bo' n' bc' fi ol he la ∧ MV w9 go gc bo bc g n L ∧ MV w9 go' gc' bo' bc' g' n' L' ∧ Below w.heap.size w w9) := ⟨H8.out.1.b b9, H8.out.2.1.b b9, H8.out.2.2.1.below b9, H8.out.2.2.2.1.below b9, H8.out.2.2.2.2.trans (b9.mono H8.out.2.2.2.2.size)⟩
    have hk9 := And.intro H9.out.1.cells H9.out.2.1.cells
    clear b9
    go_wp2_with fail
    refine hK.out _ _ ?_ (fun hHeld => ?_)
    · exact hk9
    clear hK K
    try simp only [Act.put, ly1, ly2, ly3]
    refine wpAnyH_take (i := 18) (oi := { dst := some 23, op := Op.pick (Operand.tmp 17) (Operand.tmp 22) (Operand.const (Value.bool false)), type := 4, pos := "l05_meta.go:68", after := #[{ on := 12, ground := Ground.data }, { on := 17, ground := Ground.data }], guard := none }) (v := ?_) rfl (by kernel_rfl) (by kernel_rfl) (by kernel_rfl) (fun _ _ _ h => h) (Or.inl ⟨by rfl, ?_⟩) (by assumption) ?_
    rotate_left 1
    · (intro wq hSw; (try dsimp only at hSw); go_simp; try with_reducible rfl)
    try simp only [Act.put, ly1, ly2, ly3]
    refine wpAnyH_take (i := 19) (oi := { dst := some 4, op := Op.assign (Operand.tmp 23), type := 4, pos := "l05_meta.go:68", after := #[{ on := 18, ground := Ground.data }, { on := 17, ground := Ground.chain }, { on := 0, ground := Ground.phase }, { on := 1, ground := Ground.phase }, { on := 2, ground := Ground.phase }, { on := 3, ground := Ground.phase }, { on := 4, ground := Ground.phase }, { on := 5, ground := Ground.phase }, { on := 6, ground := Ground.phase }, { on := 7, ground := Ground.phase }, { on := 8, ground := Ground.phase }, { on := 9, ground := Ground.phase }, { on := 10, ground := Ground.phase }, { on := 11, ground := Ground.phase }, { on := 12, ground := Ground.phase }, { on := 13, ground := Ground.phase }, { on := 14, ground := Ground.phase }, { on := 15, ground := Ground.phase }, { on := 16, ground := Ground.phase }, { on := 17, ground := Ground.phase }, { on := 18, ground := Ground.phase }], guard := none }) (v := ?_) rfl (by kernel_rfl) (by kernel_rfl) (by kernel_rfl) (fun _ _ _ h => h) (Or.inl ⟨by rfl, ?_⟩) (by assumption) ?_
    rotate_left 1
    · (intro wq hSw; (try dsimp only at hSw); go_simp; try with_reducible rfl)
    try simp only [Act.put, ly1, ly2, ly3]
    refine wpAnyH_done (by kernel_rfl) ?_ _
    go_wp2
    go_ret
    exact Tells.no HN.out (H9.out.2.2.2.2)
  have HL := hide h7
  clear h7
  obtain ⟨W, hW⟩ : ∃ W, W = ((w.alloc (.cells #[.slice go g.length gc, .slice bo n bc, .bool fi, .bool ol, .bool he, .int .i64 la] 25)).alloc (.cells #[.slice go' g'.length gc', .slice bo' n' bc', .bool fi, .bool ol, .bool he, .int .i64 la] 25)) := ⟨_, rfl⟩
  have hb : Below w.heap.size w W := by rw [hW]; exact ((Below.refl _ _).alloc (Nat.le_refl _) _).alloc (by simp) _
  have M1 : KB W w.heap.size 25 go g.length gc bo n bc fi ol he la := by rw [hW]; exact (al2 w _ _).1
  have M2 : KB W (w.heap.size + 1) 25 go' g'.length gc' bo' n' bc' fi ol he la := by rw [hW]; exact (al2 w _ _).2.1
  have H5 : Hid (KB W.drew w.heap.size 25 go g.length gc bo n bc fi ol he la ∧ KB W.drew (w.heap.size + 1) 25 go' g'.length gc' bo' n' bc' fi ol he la ∧ MV W.drew go gc bo bc g n L ∧ MV W.drew go' gc' bo' bc' g' n' L' ∧ Below w.heap.size w W.drew) := ⟨M1, M2, hA.below (Below.drawn hb 1), hB.below (Below.drawn hb 1), Below.drawn hb 1⟩
  obtain ⟨m0, m1, m2, m3, m4, m5⟩ := M1.cells
  obtain ⟨x0, x1, x2, x3, x4, x5⟩ := M2.cells
  clear M1 M2 hb hA hB
  go_enter Tryz.func211, Tryz.ntmps211
  go_wp2_with fail
  rw [← hW]
  clear hW
  refine wp_region_held_drew (S := (fun w' => (w'.cell? ⟨w.heap.size, 0, none⟩ = some (.slice go g.length gc) ∧ w'.cell? ⟨w.heap.size, 1, none⟩ = some (.slice bo n bc) ∧ w'.cell? ⟨w.heap.size, 2, none⟩ = some (.bool fi) ∧ w'.cell? ⟨w.heap.size, 3, none⟩ = some (.bool ol) ∧ w'.cell? ⟨w.heap.size, 4, none⟩ = some (.bool he) ∧ w'.cell? ⟨w.heap.size, 5, none⟩ = some (.int .i64 la)) ∧ (w'.cell? ⟨w.heap.size + 1, 0, none⟩ = some (.slice go' g'.length gc') ∧ w'.cell? ⟨w.heap.size + 1, 1, none⟩ = some (.slice bo' n' bc') ∧ w'.cell? ⟨w.heap.size + 1, 2, none⟩ = some (.bool fi) ∧ w'.cell? ⟨w.heap.size + 1, 3, none⟩ = some (.bool ol) ∧ w'.cell? ⟨w.heap.size + 1, 4, none⟩ = some (.bool he) ∧ w'.cell? ⟨w.heap.size + 1, 5, none⟩ = some (.int .i64 la)))) (by kernel_rfl) ?_ (fun hHeld => ?_)
  · exact ⟨⟨m0, m1, m2, m3, m4, m5⟩, x0, x1, x2, x3, x4, x5⟩
  refine wpAnyH_take (i := 0) (oi := { dst := some 5, op := Op.load 25 (Operand.tmp 2), type := 25, pos := "l05_meta.go:68", after := #[], guard := none }) (v := ?_) rfl (by kernel_rfl) (by kernel_rfl) (by kernel_rfl) (fun _ _ _ h => h) (Or.inl ⟨by rfl, ?_⟩) (by assumption) ?_
  rotate_left 1
  · (intro wq hSw; (try dsimp only at hSw); go_simp; try with_reducible rfl)
  try simp only [Act.put, ly1, ly2, ly3]
  refine wpAnyH_take (i := 2) (oi := { dst := some 7, op := Op.load 25 (Operand.tmp 3), type := 25, pos := "l05_meta.go:68", after := #[], guard := none }) (v := ?_) rfl (by kernel_rfl) (by kernel_rfl) (by kernel_rfl) (fun _ _ _ h => h) (Or.inl ⟨by rfl, ?_⟩) (by assumption) ?_
  rotate_left 1
  · (intro wq hSw; (try dsimp only at hSw); go_simp; try with_reducible rfl)
  try simp only [Act.put, ly1, ly2, ly3]
  refine wpAnyH_ready (rs := [1]) (by kernel_rfl) (by simp) ?_
  refine AllReadyH.cons (o := { dst := some 6, op := Op.call { callee := Callee.value (Operand.func 240), args := #[Operand.tmp 5], argTypes := #[25] }, type := 209, pos := "l05_meta.go:68", after := #[{ on := 0, ground := Ground.data }], guard := none }) rfl (fun K hK => ?_) AllReadyH.nil
  go_simp
  refine (stateof _ _ _ _ _ _ _ _ _ _ _).mono ?_
  rintro e w6 ⟨rfl, b6⟩
  have H6 : Hid (KB w6 w.heap.size 25 go g.length gc bo n bc fi ol he la ∧ KB w6 (w.heap.size + 1) 25 go' g'.length gc' bo' n' bc' fi ol he la ∧ MV w6 go gc bo bc g n L ∧ MV w6 go' gc' bo' bc' g' n' L' ∧ Below w.heap.size w w6) := ⟨H5.out.1.b b6, H5.out.2.1.b b6, H5.out.2.2.1.below b6, H5.out.2.2.2.1.below b6, H5.out.2.2.2.2.trans (b6.mono H5.out.2.2.2.2.size)⟩
  have hk6 := And.intro H6.out.1.cells H6.out.2.1.cells
  clear b6
  go_wp2_with fail
  refine hK.out _ _ ?_ (fun hHeld => ?_)
  · exact hk6
  clear hK K
  try simp only [Act.put, ly1, ly2, ly3]
  refine wpAnyH_ready (rs := [3]) (by kernel_rfl) (by simp) ?_
  refine AllReadyH.cons (o := { dst := some 8, op := Op.call { callee := Callee.value (Operand.func 240), args := #[Operand.tmp 7], argTypes := #[25] }, type := 209, pos := "l05_meta.go:68", after := #[{ on := 2, ground := Ground.data }, { on := 1, ground := Ground.chain }], guard := none }) rfl (fun K hK => ?_) AllReadyH.nil
  go_simp
  refine (stateof _ _ _ _ _ _ _ _ _ _ _).mono ?_
  rintro e w7 ⟨rfl, b7⟩
  have H7 : Hid (KB w7 w.heap.size 25 go g.length gc bo n bc fi ol he la ∧ KB w7 (w.heap.size + 1) 25 go' g'.length gc' bo' n' bc' fi ol he la ∧ MV w7 go gc bo bc g n L ∧ MV w7 go' gc' bo' bc' g' n' L' ∧ Below w.heap.size w w7) := ⟨H6.out.1.b b7, H6.out.2.1.b b7, H6.out.2.2.1.below b7, H6.out.2.2.2.1.below b7, H6.out.2.2.2.2.trans (b7.mono H6.out.2.2.2.2.size)⟩
  have hk7 := And.intro H7.out.1.cells H7.out.2.1.cells
  clear b7
  go_wp2_with fail
  refine hK.out _ _ ?_ (fun hHeld => ?_)
  · exact hk7
  clear hK K
  try simp only [Act.put, ly1, ly2, ly3]
  refine wpAnyH_take (i := 4) (oi := { dst := some 9, op := Op.binOp BinOp.eql 209 (Operand.tmp 6) (Operand.tmp 8) 209, type := 4, pos := "l05_meta.go:68", after := #[{ on := 1, ground := Ground.data }, { on := 3, ground := Ground.data }], guard := none }) (v := ?_) rfl (by kernel_rfl) (by kernel_rfl) (by kernel_rfl) (fun _ _ _ h => h) (Or.inl ⟨by rfl, ?_⟩) (by assumption) ?_
  rotate_left 1
  · (intro wq hSw; (try dsimp only at hSw); go_simp; try with_reducible rfl)
  try simp only [Act.put, ly1, ly2, ly3]
  refine wpAnyH_take (i := 5) (oi := { dst := some 10, op := Op.move (Operand.tmp 9), type := 4, pos := "l05_meta.go:68", after := #[{ on := 4, ground := Ground.data }, { on := 3, ground := Ground.chain }], guard := none }) (v := ?_) rfl (by kernel_rfl) (by kernel_rfl) (by kernel_rfl) (fun _ _ _ h => h) (Or.inl ⟨by rfl, ?_⟩) (by assumption) ?_
  rotate_left 1
  · (intro wq hSw; (try dsimp only at hSw); go_simp; try with_reducible rfl)
  try simp only [Act.put, ly1, ly2, ly3]
  refine wpAnyH_take (i := 6) (oi := { dst := some 11, op := Op.fieldAddr 25 (Operand.tmp 2) 0, type := 0, pos := "l05_meta.go:68", after := #[{ on := 5, ground := Ground.guard }], guard := some (5, true) }) (v := ?_) rfl (by kernel_rfl) (by kernel_rfl) (by kernel_rfl) (fun _ _ _ h => h) (Or.inl ⟨by rfl, ?_⟩) (by assumption) ?_
  rotate_left 1
  · (intro wq hSw; (try dsimp only at hSw); go_simp; try with_reducible rfl)
  try simp only [Act.put, ly1, ly2, ly3]
  refine wpAnyH_take (i := 7) (oi := { dst := some 12, op := Op.load 22 (Operand.tmp 11), type := 22, pos := "l05_meta.go:68", after := #[{ on := 6, ground := Ground.data }, { on := 5, ground := Ground.guard }], guard := some (5, true) }) (v := ?_) rfl (by kernel_rfl) (by kernel_rfl) (by kernel_rfl) (fun _ _ _ h => h) (Or.inl ⟨by rfl, ?_⟩) (by assumption) ?_
  rotate_left 1
  · (intro wq hSw; (try dsimp only at hSw); go_simp; try with_reducible rfl)
  try simp only [Act.put, ly1, ly2, ly3]
  refine wpAnyH_take (i := 8) (oi := { dst := some 13, op := Op.fieldAddr 25 (Operand.tmp 3) 0, type := 0, pos := "l05_meta.go:68", after := #[{ on := 5, ground := Ground.guard }], guard := some (5, true) }) (v := ?_) rfl (by kernel_rfl) (by kernel_rfl) (by kernel_rfl) (fun _ _ _ h => h) (Or.inl ⟨by rfl, ?_⟩) (by assumption) ?_
  rotate_left 1
  · (intro wq hSw; (try dsimp only at hSw); go_simp; try with_reducible rfl)
  try simp only [Act.put, ly1, ly2, ly3]
  refine wpAnyH_take (i := 9) (oi := { dst := some 14, op := Op.load 22 (Operand.tmp 13), type := 22, pos := "l05_meta.go:68", after := #[{ on := 8, ground := Ground.data }, { on := 5, ground := Ground.guard }], guard := some (5, true) }) (v := ?_) rfl (by kernel_rfl) (by kernel_rfl) (by kernel_rfl) (fun _ _ _ h => h) (Or.inl ⟨by rfl, ?_⟩) (by assumption) ?_
  rotate_left 1
  · (intro wq hSw; (try dsimp only at hSw); go_simp; try with_reducible rfl)
  try simp only [Act.put, ly1, ly2, ly3]
  refine wpAnyH_ready (rs := [10]) (by kernel_rfl) (by simp) ?_
  refine AllReadyH.cons (o := { dst := some 15, op := Op.call { callee := Callee.value (Operand.func 226), args := #[Operand.tmp 12, Operand.tmp 14], argTypes := #[22, 22] }, type := 4, pos := "l05_meta.go:68", after := #[{ on := 7, ground := Ground.data }, { on := 9, ground := Ground.data }, { on := 5, ground := Ground.chain }, { on := 5, ground := Ground.guard }], guard := some (5, true) }) rfl (fun K hK => ?_) AllReadyH.nil
  go_simp
  refine (leq_yes go go' gc gc' g g' _ hd.1 H7.out.2.2.1.2.1 H7.out.2.2.2.1.2.1 HG.out).mono ?_
  rintro e w8 ⟨rfl, q8, hw8⟩
  have b8 : Below w7.heap.size w7 w8 := hw8 ▸ Below.drawn (Below.refl _ _) q8
  clear hw8
  have H8 : Hid (KB w8 w.heap.size 25 go g.length gc bo n bc fi ol he la ∧ KB w8 (w.heap.size + 1) 25 go' g'.length gc' bo' n' bc' fi ol he la ∧ MV w8 go gc bo bc g n L ∧ MV w8 go' gc' bo' bc' g' n' L' ∧ Below w.heap.size w w8) := ⟨H7.out.1.b b8, H7.out.2.1.b b8, H7.out.2.2.1.below b8, H7.out.2.2.2.1.below b8, H7.out.2.2.2.2.trans (b8.mono H7.out.2.2.2.2.size)⟩
  have hk8 := And.intro H8.out.1.cells H8.out.2.1.cells
  clear b8
  go_wp2_with fail
  refine hK.out _ _ ?_ (fun hHeld => ?_)
  · exact hk8
  clear hK K
  try simp only [Act.put, ly1, ly2, ly3]
  refine wpAnyH_take (i := 11) (oi := { dst := some 16, op := Op.pick (Operand.tmp 10) (Operand.tmp 15) (Operand.const (Value.bool false)), type := 4, pos := "l05_meta.go:68", after := #[{ on := 5, ground := Ground.data }, { on := 10, ground := Ground.data }], guard := none }) (v := ?_) rfl (by kernel_rfl) (by kernel_rfl) (by kernel_rfl) (fun _ _ _ h => h) (Or.inl ⟨by rfl, ?_⟩) (by assumption) ?_
  rotate_left 1
  · (intro wq hSw; (try dsimp only at hSw); go_simp; try with_reducible rfl)
  try simp only [Act.put, ly1, ly2, ly3]
  refine wpAnyH_take (i := 12) (oi := { dst := some 17, op := Op.move (Operand.tmp 16), type := 4, pos := "l05_meta.go:68", after := #[{ on := 11, ground := Ground.data }, { on := 10, ground := Ground.chain }], guard := none }) (v := ?_) rfl (by kernel_rfl) (by kernel_rfl) (by kernel_rfl) (fun _ _ _ h => h) (Or.inl ⟨by rfl, ?_⟩) (by assumption) ?_
  rotate_left 1
  · (intro wq hSw; (try dsimp only at hSw); go_simp; try with_reducible rfl)
  try simp only [Act.put, ly1, ly2, ly3]
  refine wpAnyH_take (i := 13) (oi := { dst := some 18, op := Op.fieldAddr 25 (Operand.tmp 2) 1, type := 0, pos := "l05_meta.go:68", after := #[{ on := 12, ground := Ground.guard }], guard := some (12, true) }) (v := ?_) rfl (by kernel_rfl) (by kernel_rfl) (by kernel_rfl) (fun _ _ _ h => h) (Or.inl ⟨by rfl, ?_⟩) (by assumption) ?_
  rotate_left 1
  · (intro wq hSw; (try dsimp only at hSw); go_simp; try with_reducible rfl)
  try simp only [Act.put, ly1, ly2, ly3]
  refine wpAnyH_take (i := 14) (oi := { dst := some 19, op := Op.load 23 (Operand.tmp 18), type := 23, pos := "l05_meta.go:68", after := #[{ on := 13, ground := Ground.data }, { on := 12, ground := Ground.guard }], guard := some (12, true) }) (v := ?_) rfl (by kernel_rfl) (by kernel_rfl) (by kernel_rfl) (fun _ _ _ h => h) (Or.inl ⟨by rfl, ?_⟩) (by assumption) ?_
  rotate_left 1
  · (intro wq hSw; (try dsimp only at hSw); go_simp; try with_reducible rfl)
  try simp only [Act.put, ly1, ly2, ly3]
  refine wpAnyH_take (i := 15) (oi := { dst := some 20, op := Op.fieldAddr 25 (Operand.tmp 3) 1, type := 0, pos := "l05_meta.go:68", after := #[{ on := 12, ground := Ground.guard }], guard := some (12, true) }) (v := ?_) rfl (by kernel_rfl) (by kernel_rfl) (by kernel_rfl) (fun _ _ _ h => h) (Or.inl ⟨by rfl, ?_⟩) (by assumption) ?_
  rotate_left 1
  · (intro wq hSw; (try dsimp only at hSw); go_simp; try with_reducible rfl)
  try simp only [Act.put, ly1, ly2, ly3]
  refine wpAnyH_take (i := 16) (oi := { dst := some 21, op := Op.load 23 (Operand.tmp 20), type := 23, pos := "l05_meta.go:68", after := #[{ on := 15, ground := Ground.data }, { on := 12, ground := Ground.guard }], guard := some (12, true) }) (v := ?_) rfl (by kernel_rfl) (by kernel_rfl) (by kernel_rfl) (fun _ _ _ h => h) (Or.inl ⟨by rfl, ?_⟩) (by assumption) ?_
  rotate_left 1
  · (intro wq hSw; (try dsimp only at hSw); go_simp; try with_reducible rfl)
  try simp only [Act.put, ly1, ly2, ly3]
  refine wpAnyH_ready (rs := [17]) (by kernel_rfl) (by simp) ?_
  refine AllReadyH.cons (o := { dst := some 22, op := Op.call { callee := Callee.value (Operand.func 241), args := #[Operand.tmp 19, Operand.tmp 21, Operand.func 242], argTypes := #[23, 23, 77] }, type := 4, pos := "l05_meta.go:68", after := #[{ on := 14, ground := Ground.data }, { on := 16, ground := Ground.data }, { on := 12, ground := Ground.chain }, { on := 12, ground := Ground.guard }], guard := some (12, true) }) rfl (fun K hK => ?_) AllReadyH.nil
  go_simp
  refine (eqfunc_yes bo bo' n n' bc bc' L L' _ hd.2.1 hd.2.2 H8.out.2.2.1.2.2 H8.out.2.2.2.1.2.2 HL.out).mono ?_
  rintro e w9 ⟨rfl, q9, hw9⟩
  have b9 : Below w8.heap.size w8 w9 := hw9 ▸ Below.drawn (Below.refl _ _) q9
  clear hw9
  have H9 : Hid (KB w9 w.heap.size 25 go g.length gc bo n bc fi ol he la ∧ KB w9 (w.heap.size + 1) 25 go' g'.length gc' bo' n' bc' fi ol he la ∧ MV w9 go gc bo bc g n L ∧ MV w9 go' gc' bo' bc' g' n' L' ∧ Below w.heap.size w w9) := ⟨H8.out.1.b b9, H8.out.2.1.b b9, H8.out.2.2.1.below b9, H8.out.2.2.2.1.below b9, H8.out.2.2.2.2.trans (b9.mono H8.out.2.2.2.2.size)⟩
  have hk9 := And.intro H9.out.1.cells H9.out.2.1.cells
  clear b9
  go_wp2_with fail
  refine hK.out _ _ ?_ (fun hHeld => ?_)
  · exact hk9
  clear hK K
  try simp only [Act.put, ly1, ly2, ly3]
  refine wpAnyH_take (i := 18) (oi := { dst := some 23, op := Op.pick (Operand.tmp 17) (Operand.tmp 22) (Operand.const (Value.bool false)), type := 4, pos := "l05_meta.go:68", after := #[{ on := 12, ground := Ground.data }, { on := 17, ground := Ground.data }], guard := none }) (v := ?_) rfl (by kernel_rfl) (by kernel_rfl) (by kernel_rfl) (fun _ _ _ h => h) (Or.inl ⟨by rfl, ?_⟩) (by assumption) ?_
  rotate_left 1
  · (intro wq hSw; (try dsimp only at hSw); go_simp; try with_reducible rfl)
  try simp only [Act.put, ly1, ly2, ly3]
  refine wpAnyH_take (i := 19) (oi := { dst := some 4, op := Op.assign (Operand.tmp 23), type := 4, pos := "l05_meta.go:68", after := #[{ on := 18, ground := Ground.data }, { on := 17, ground := Ground.chain }, { on := 0, ground := Ground.phase }, { on := 1, ground := Ground.phase }, { on := 2, ground := Ground.phase }, { on := 3, ground := Ground.phase }, { on := 4, ground := Ground.phase }, { on := 5, ground := Ground.phase }, { on := 6, ground := Ground.phase }, { on := 7, ground := Ground.phase }, { on := 8, ground := Ground.phase }, { on := 9, ground := Ground.phase }, { on := 10, ground := Ground.phase }, { on := 11, ground := Ground.phase }, { on := 12, ground := Ground.phase }, { on := 13, ground := Ground.phase }, { on := 14, ground := Ground.phase }, { on := 15, ground := Ground.phase }, { on := 16, ground := Ground.phase }, { on := 17, ground := Ground.phase }, { on := 18, ground := Ground.phase }], guard := none }) (v := ?_) rfl (by kernel_rfl) (by kernel_rfl) (by kernel_rfl) (fun _ _ _ h => h) (Or.inl ⟨by rfl, ?_⟩) (by assumption) ?_
  rotate_left 1
  · (intro wq hSw; (try dsimp only at hSw); go_simp; try with_reducible rfl)
  try simp only [Act.put, ly1, ly2, ly3]
  refine wpAnyH_done (by kernel_rfl) ?_ _
  go_wp2
  go_ret
  exact Tells.yes ⟨HL.out.1, HG.out, rfl, rfl, rfl, rfl, HL.out.2⟩ (H9.out.2.2.2.2)
end Go.Proofs.YtkndnndildnbpaaGreatDoor

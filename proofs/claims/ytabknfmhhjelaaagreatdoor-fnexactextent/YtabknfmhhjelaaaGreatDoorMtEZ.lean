/- Lists of numbers, and what is known, held against each other: the parts. -/
import Derived.Test.YtabknfmhhjelaaaGreatDoorGd
import Derived.Laws.StructEq
import Derived.Deep.RegionHeld3

namespace Go.Proofs.YtabknfmhhjelaaaGreatDoor
open Go.ChangeShapes Go.WideShapes Go.ChangeAt Go.RowKit
set_option linter.unusedVariables false
set_option linter.unusedSimpArgs false
set_option maxRecDepth 100000

theorem same_list {l l' : List Int} : SameI (fun i => l.getD i 0) (fun i => l'.getD i 0) l.length l'.length ↔ l = l' := by
  constructor
  · rintro ⟨h1, h2⟩
    refine List.ext_getElem? fun j => ?_
    by_cases h : j < l.length
    · have := h2 j h
      have h' : j < l'.length := by omega
      simp only [List.getD, List.getElem?_eq_getElem h, List.getElem?_eq_getElem h', Option.getD_some] at this
      rw [List.getElem?_eq_getElem h, List.getElem?_eq_getElem h', this]
    · rw [List.getElem?_eq_none (by omega), List.getElem?_eq_none (by omega)]
  · rintro rfl
    exact ⟨rfl, fun _ _ => rfl⟩
theorem leq_impl (ao bo : Option Addr) (ca cb : Nat) (l l' : List Int) (w : World) (hl : l.length ≤ 1048576) (hA : SL .i64 w ao l.length (fun i => l.getD i 0)) (hB : SL .i64 w bo l'.length (fun i => l'.getD i 0)) :
    Calls Tryz.prog 77 #[.slice ao l.length ca, .slice bo l'.length cb] w fun e w' => ((l = l' ∧ e = .returned (.bool true)) ∨ (l ≠ l' ∧ e = .returned (.bool false))) ∧ ∃ q, w' = w.drewN q := by
  refine (sequal_any ao bo l.length l'.length ca cb _ _ w hl hA hB).mono ?_
  rintro e w' ⟨h, hq⟩
  refine ⟨?_, hq⟩
  rcases h with ⟨h, rfl⟩ | ⟨h, rfl⟩
  · exact .inl ⟨same_list.1 h, rfl⟩
  · exact .inr ⟨fun e => h (same_list.2 e), rfl⟩
theorem smarks_impl (ao bo : Option Addr) (ca cb : Nat) (l l' : List Int) (w : World) (hl : l.length ≤ 1048576) (hA : SL .i64 w ao l.length (fun i => l.getD i 0)) (hB : SL .i64 w bo l'.length (fun i => l'.getD i 0)) :
    Calls Tryz.prog 79 #[.slice ao l.length ca, .slice bo l'.length cb] w fun e w' => ((l = l' ∧ e = .returned (.bool true)) ∨ (l ≠ l' ∧ e = .returned (.bool false))) ∧ ∃ q, w' = w.drewN q := by
  have hc := hide (leq_impl ao bo ca cb l l' w hl hA hB)
  clear hA hB
  go_enter Tryz.func79, Tryz.ntmps79
  go_wp2_with fail
  refine hc.out.mono ?_
  rintro e w1 ⟨h, q, rfl⟩
  rcases h with ⟨h, rfl⟩ | ⟨h, rfl⟩
  · have HQ := hide h
    clear h
    go_wp2
    go_ret
    exact ⟨.inl ⟨HQ.out, rfl⟩, _, rfl⟩
  · have HQ := hide h
    clear h
    go_wp2
    go_ret
    exact ⟨.inr ⟨HQ.out, rfl⟩, _, rfl⟩
theorem smarks_yes (ao bo : Option Addr) (ca cb : Nat) (l l' : List Int) (w : World) (hl : l.length ≤ 1048576) (hA : SL .i64 w ao l.length (fun i => l.getD i 0)) (hB : SL .i64 w bo l'.length (fun i => l'.getD i 0)) (h : l = l') :
    Calls Tryz.prog 79 #[.slice ao l.length ca, .slice bo l'.length cb] w fun e w' => e = .returned (.bool true) ∧ ∃ q, w' = w.drewN q :=
  (smarks_impl ao bo ca cb l l' w hl hA hB).mono fun _ _ ⟨h1, h2⟩ => ⟨h1.elim (·.2) (fun x => absurd h x.1), h2⟩
theorem smarks_no (ao bo : Option Addr) (ca cb : Nat) (l l' : List Int) (w : World) (hl : l.length ≤ 1048576) (hA : SL .i64 w ao l.length (fun i => l.getD i 0)) (hB : SL .i64 w bo l'.length (fun i => l'.getD i 0)) (h : ¬ l = l') :
    Calls Tryz.prog 79 #[.slice ao l.length ca, .slice bo l'.length cb] w fun e w' => e = .returned (.bool false) ∧ ∃ q, w' = w.drewN q :=
  (smarks_impl ao bo ca cb l l' w hl hA hB).mono fun _ _ ⟨h1, h2⟩ => ⟨h1.elim (fun x => absurd x.1 h) (·.2), h2⟩

theorem lsame_spec (ao bo : Option Addr) (ca cb : Nat) (l l' : List Int) (w : World) (hl : l.length ≤ 1048576) (hl' : l'.length ≤ 1048576) (hA : SL .i64 w ao l.length (fun i => l.getD i 0)) (hB : SL .i64 w bo l'.length (fun i => l'.getD i 0)) :
    Calls Tryz.prog 58 #[.slice ao l.length ca, .slice bo l'.length cb] w fun e w' => ((l = l' ∧ e = .returned (.bool true)) ∨ (l ≠ l' ∧ e = .returned (.bool false))) ∧ ∃ q, w' = w.drewN q := by
  obtain ⟨f, hf⟩ : ∃ f : Nat → Int, f = fun i => l.getD i 0 := ⟨_, rfl⟩
  obtain ⟨g, hg⟩ : ∃ g : Nat → Int, g = fun i => l'.getD i 0 := ⟨_, rfl⟩
  have hE : Hid (SameI f g l.length l'.length ↔ l = l') := by rw [hf, hg]; exact same_list
  rw [← hf] at hA
  rw [← hg] at hB
  clear hf hg
  generalize l.length = n at *
  generalize l'.length = m at *
  have HA := hide hA
  have HB := hide hB
  clear hA hB
  go_enter Tryz.func58, Tryz.ntmps58
  go_wp2
  go_loopw [5] (fun i wr => ∃ k : Nat, (k ≤ n ∧ k ≤ m) ∧ i = .int .i64 k ∧ Hid (∀ j, j < k → f j = g j) ∧ ∃ q, wr = w.drewN q) (fun i _ => n - (intOf i).toNat)
  case atStart => exact ⟨0, by omega, rfl, (fun j hj => absurd hj (by omega)), 0, rfl⟩
  case round =>
    obtain ⟨k, ⟨hk, hk'⟩, rfl, A, q, rfl⟩ := hrel
    by_cases hlt : k < n
    · have d1 : decide ((k : Int) < (n : Int)) = true := decide_eq_true (by omega)
      by_cases hlt' : k < m
      · have d2 : decide ((k : Int) < (m : Int)) = true := decide_eq_true (by omega)
        obtain ⟨b, off, rfl, hb, hc⟩ := HA.out k hlt
        obtain ⟨b', off', rfl, hb', hc'⟩ := HB.out k hlt'
        generalize hy : f k = y at *
        generalize hz : g k = z at *
        have B := hide hy
        have C := hide hz
        clear hy hz
        by_cases he : y = z
        · subst he
          go_wp2
          go_quiet (fail)
          go_wp2
          go_roundw
          case rel =>
            refine ⟨k + 1, by omega, by go_num, fun j hj => ?_, _, rfl⟩
            by_cases e : j = k
            · subst e; rw [B.out, C.out]
            · exact A.out j (by omega)
          case measure => simp [intOf]; omega
        · have hd : decide (y = z) = false := by simpa using he
          have hno : Hid (l ≠ l') := fun h => he (by rw [← B.out, ← C.out]; exact (hE.out.2 h).2 k hlt)
          go_wp2
          go_quiet (fail)
          go_wp2
          go_ret
          exact ⟨.inr ⟨hno.out, rfl⟩, _, World.drewN_drewN ..⟩
      · have d2 : decide ((k : Int) < (m : Int)) = false := decide_eq_false (by omega)
        have hno : Hid (l ≠ l') := fun h => by have := (hE.out.2 h).1; omega
        have hd : ¬ (n : Int) = (m : Int) := by omega
        have hd2 : decide ((n : Int) = (m : Int)) = false := decide_eq_false hd
        have hd3 : ((n : Int) == (m : Int)) = false := by simpa using hd
        go_wp2
        go_ret
        exact ⟨.inr ⟨hno.out, rfl⟩, _, rfl⟩
    · have d1 : decide ((k : Int) < (n : Int)) = false := decide_eq_false (by omega)
      obtain rfl : k = n := by omega
      by_cases hnm : k = m
      · have hyes : Hid (l = l') := hE.out.1 ⟨hnm, A.out⟩
        subst hnm
        go_wp2
        go_ret
        exact ⟨.inl ⟨hyes.out, rfl⟩, _, rfl⟩
      · have hno : Hid (l ≠ l') := fun h => hnm (hE.out.2 h).1
        have hd : ¬ (k : Int) = (m : Int) := by omega
        have hd2 : decide ((k : Int) = (m : Int)) = false := decide_eq_false hd
        have hd3 : ((k : Int) == (m : Int)) = false := by simpa using hd
        go_wp2
        go_ret
        exact ⟨.inr ⟨hno.out, rfl⟩, _, rfl⟩

theorem eqfunc_impl (bo bo' : Option Addr) (n n' bc bc' : Nat) (L L' : Nat → List Int) (w : World) (hn : n ≤ 1048576) (hL : ∀ i, i < n → (L i).length ≤ 1048576) (hA : BV w bo n L) (hB : BV w bo' n' L') :
    Calls Tryz.prog 78 #[.slice bo n bc, .slice bo' n' bc', .func (.func 79) #[] #[]] w fun e w' => (((n = n' ∧ ∀ i, i < n → L i = L' i) ∧ e = .returned (.bool true)) ∨ (¬ (n = n' ∧ ∀ i, i < n → L i = L' i) ∧ e = .returned (.bool false))) ∧ ∃ q, w' = w.drewN q := by
  have eg : ∀ args w, (callFunc 79 args).run Tryz.prog w = .ok (.enter 79 args) w := enters_of Tryz.func79 (by kernel_rfl) rfl
  have HA := hide hA
  have HB := hide hB
  have HL := hide hL
  clear hA hB hL
  by_cases hnm : n = n'
  · subst hnm
    go_enter Tryz.func78, Tryz.ntmps78
    go_wp2
    go_loopw [7, 8, 9, 17] (fun _ _ _ i wr => ∃ k : Nat, k ≤ n ∧ i = .int .i64 k ∧ Hid (∀ j, j < k → L j = L' j) ∧ ∃ q, wr = w.drewN q) (fun _ _ _ i _ => n - (intOf i).toNat)
    case atStart => exact ⟨0, by omega, rfl, (fun j hj => absurd hj (by omega)), 0, rfl⟩
    case round =>
      obtain ⟨k, hk, rfl, A, q, rfl⟩ := hrel
      by_cases hlt : k < n
      · obtain ⟨b, off, ro, rc, rfl, hc, hrc, hsl⟩ := HA.out k hlt
        obtain ⟨b', off', ro', rc', rfl, hc', hrc', hsl'⟩ := HB.out k hlt
        by_cases heq : L k = L' k
        · have hcall := hide (smarks_yes ro ro' rc rc' (L k) (L' k) (w.drewN q) (HL.out k hlt) hsl hsl' heq)
          have HY := hide heq
          clear hsl hsl' hrc hrc' heq
          generalize (L k).length = y at *
          generalize (L' k).length = z at *
          go_wp2_with (go_at_fn 79; refine hcall.out.mono ?_; rintro e w1 ⟨rfl, q1, rfl⟩)
          go_roundw
          case rel =>
            refine ⟨k + 1, by omega, by go_num, fun j hj => ?_, _, rfl⟩
            by_cases e : j = k
            · subst e; exact HY.out
            · exact A.out j (by omega)
          case measure => simp [intOf]; omega
        · have hcall := hide (smarks_no ro ro' rc rc' (L k) (L' k) (w.drewN q) (HL.out k hlt) hsl hsl' heq)
          have hno : Hid (¬ (n = n ∧ ∀ i, i < n → L i = L' i)) := fun x => heq (x.2 k hlt)
          clear hsl hsl' hrc hrc' heq
          generalize (L k).length = y at *
          generalize (L' k).length = z at *
          go_wp2_with (go_at_fn 79; refine hcall.out.mono ?_; rintro e w1 ⟨rfl, q1, rfl⟩)
          go_ret
          exact ⟨.inr ⟨hno.out, rfl⟩, _, rfl⟩
      · obtain rfl : k = n := by omega
        go_wp2
        go_ret
        exact ⟨.inl ⟨⟨by simp, A.out⟩, rfl⟩, q, rfl⟩
  · have hd : ((n : Int) == (n' : Int)) = false := by simp; omega
    have hd2 : decide ((n : Int) = (n' : Int)) = false := by simp; omega
    have hd3 : ¬ (n : Int) = (n' : Int) := by omega
    go_enter Tryz.func78, Tryz.ntmps78
    go_wp2
    go_ret
    exact ⟨.inr ⟨fun h => hnm h.1, rfl⟩, 0, rfl⟩

theorem stateof (go bo : Option Addr) (gl gc n bc : Nat) (fi ol he : Bool) (la : Int) (w : World) :
    Calls Tryz.prog 76 #[.agg #[.slice go gl gc, .slice bo n bc, .bool fi, .bool ol, .bool he, .int .i64 la]] w fun e w' => e = .returned (.agg #[.bool fi, .bool ol, .bool he, .int .i64 la]) ∧ Below w.heap.size w w' := by
  go_enter Tryz.func76, Tryz.ntmps76
  go_wp2
  refine bodyPost_ret (v := .agg #[.bool fi, .bool ol, .bool he, .int .i64 la]) (by simp [results, Tryz.results76, go_sem]) rfl ⟨rfl, ((Below.refl _ _).alloc (Nat.le_refl _) _).alloc (by simp) _⟩
end Go.Proofs.YtabknfmhhjelaaaGreatDoor

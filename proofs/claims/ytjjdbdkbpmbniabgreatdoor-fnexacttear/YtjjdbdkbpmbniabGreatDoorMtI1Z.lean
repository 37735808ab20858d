/- What is one, of the program. -/
import Derived.Test.YtjjdbdkbpmbniabGreatDoorGb

namespace Go.Proofs.YtjjdbdkbpmbniabGreatDoor
open Go.ChangeShapes Go.WideShapes Go.ChangeAt Go.RowKit
set_option linter.unusedVariables false
set_option linter.unusedSimpArgs false

theorem gensi_yes (ao : Option Addr) (n cap : Nat) (f : Nat → Int) (w : World) (hn : n ≤ 1048576) (hcap : n ≤ cap) (hs : SL .i64 w ao n f) (h : GOk f n) :
    Calls Tryz.prog 73 #[.slice ao n cap] w fun e w' => e = .returned (.bool true) ∧ ∃ q, w' = w.drewN q :=
  (gensok_impl ao n cap f w hn hcap hs).mono fun _ _ ⟨h1, h2⟩ => ⟨h1.elim (·.2) (fun x => absurd h x.1), h2⟩
theorem gensi_no (ao : Option Addr) (n cap : Nat) (f : Nat → Int) (w : World) (hn : n ≤ 1048576) (hcap : n ≤ cap) (hs : SL .i64 w ao n f) (h : ¬ GOk f n) :
    Calls Tryz.prog 73 #[.slice ao n cap] w fun e w' => e = .returned (.bool false) ∧ ∃ q, w' = w.drewN q :=
  (gensok_impl ao n cap f w hn hcap hs).mono fun _ _ ⟨h1, h2⟩ => ⟨h1.elim (fun x => absurd x.1 h) (·.2), h2⟩

theorem bitsok_impl (bo : Option Addr) (n bc : Nat) (L : Nat → List Int) (w : World) (hn : n ≤ 1048576) (hL : ∀ i, i < n → (L i).length ≤ 1048576) (hv : BV w bo n L) :
    Calls Tryz.prog 74 #[.slice bo n bc] w fun e w' => (((n = 3 ∧ ∀ i, i < n → KOk (L i)) ∧ e = .returned (.bool true)) ∨ (¬ (n = 3 ∧ ∀ i, i < n → KOk (L i)) ∧ e = .returned (.bool false))) ∧ ∃ q, w' = w.drewN q := by
  have HV : Hid (∀ q, BV (w.drewN q) bo n L) := fun q => hv
  have HL := hide hL
  clear hv hL
  go_enter Tryz.func74, Tryz.ntmps74
  go_wp2
  go_loopw [4, 7] (fun _ i wr => ∃ k : Nat, k ≤ n ∧ i = .int .i64 k ∧ Hid (∀ j, j < k → KOk (L j)) ∧ ∃ q, wr = w.drewN q) (fun _ i _ => n - (intOf i).toNat)
  case atStart => exact ⟨0, by omega, rfl, (fun j hj => absurd hj (by omega)), 0, rfl⟩
  case round =>
    obtain ⟨k, hk, rfl, A, q, rfl⟩ := hrel
    by_cases hlt : k < n
    · obtain ⟨b, off, ro, rc, rfl, hc, hrc, hsl⟩ := HV.out q k hlt
      have hcall := hide (marks_impl ro rc (L k) (w.drewN q) (HL.out k hlt) hsl)
      clear hsl hrc
      go_wp2_with fail
      refine hcall.out.mono ?_
      rintro e w1 ⟨h1, q1, rfl⟩
      clear hcall
      rcases h1 with ⟨hok, rfl⟩ | ⟨hok, rfl⟩
      · have HK := hide hok
        clear hok
        go_wp2
        go_roundw
        case rel =>
          refine ⟨k + 1, by omega, by go_num, fun j hj => ?_, _, rfl⟩
          by_cases e : j = k
          · subst e; exact HK.out
          · exact A.out j (by omega)
        case measure => simp [intOf]; omega
      · have HK : Hid (¬ (n = 3 ∧ ∀ i, i < n → KOk (L i))) := fun x => hok (x.2 k hlt)
        clear hok
        go_wp2
        go_ret
        exact ⟨.inr ⟨HK.out, rfl⟩, _, rfl⟩
    · obtain rfl : k = n := by omega
      by_cases h3 : k = 3
      · have HK : Hid (k = 3 ∧ ∀ i, i < k → KOk (L i)) := ⟨h3, A.out⟩
        have d3 : decide ((k : Int) = 3) = true := by simp; omega
        go_wp2
        go_ret
        refine ⟨.inl ⟨HK.out, ?_⟩, _, rfl⟩
        first | rfl | (have := HK.out.1; simp; omega)
      · have HK : Hid (¬ (k = 3 ∧ ∀ i, i < k → KOk (L i))) := fun x => h3 x.1
        have d3 : decide ((k : Int) = 3) = false := by simp; omega
        have d3' : ((k : Int) == 3) = false := by simp; omega
        go_wp2
        go_ret
        exact ⟨.inr ⟨HK.out, rfl⟩, _, rfl⟩
theorem bitsok_yes (bo : Option Addr) (n bc : Nat) (L : Nat → List Int) (w : World) (hn : n ≤ 1048576) (hL : ∀ i, i < n → (L i).length ≤ 1048576) (hv : BV w bo n L) (h : n = 3 ∧ ∀ i, i < n → KOk (L i)) :
    Calls Tryz.prog 74 #[.slice bo n bc] w fun e w' => e = .returned (.bool true) ∧ ∃ q, w' = w.drewN q :=
  (bitsok_impl bo n bc L w hn hL hv).mono fun _ _ ⟨h1, h2⟩ => ⟨h1.elim (·.2) (fun x => absurd h x.1), h2⟩
theorem bitsok_no (bo : Option Addr) (n bc : Nat) (L : Nat → List Int) (w : World) (hn : n ≤ 1048576) (hL : ∀ i, i < n → (L i).length ≤ 1048576) (hv : BV w bo n L) (h : ¬ (n = 3 ∧ ∀ i, i < n → KOk (L i))) :
    Calls Tryz.prog 74 #[.slice bo n bc] w fun e w' => e = .returned (.bool false) ∧ ∃ q, w' = w.drewN q :=
  (bitsok_impl bo n bc L w hn hL hv).mono fun _ _ ⟨h1, h2⟩ => ⟨h1.elim (fun x => absurd x.1 h) (·.2), h2⟩

set_option maxHeartbeats 4000000 in
set_option maxRecDepth 100000 in
theorem mtok_impl (go bo : Option Addr) (gc bc : Nat) (g : List Int) (n : Nat) (L : Nat → List Int) (fi ol he : Bool) (la : Int) (w : World) (hd : Bd g n L) (hv : MV w go gc bo bc g n L) :
    Calls Tryz.prog 64 #[.agg #[.slice go g.length gc, .slice bo n bc, .bool fi, .bool ol, .bool he, .int .i64 la]] w fun e w' => Tells w w' e (MtOk g n L ol he la) := by
  obtain ⟨hg, hn, hLn⟩ := hd
  obtain ⟨W, hW⟩ : ∃ W, W = w.alloc (.cells #[.slice go g.length gc, .slice bo n bc, .bool fi, .bool ol, .bool he, .int .i64 la] 34) := ⟨_, rfl⟩
  have hb : Below w.heap.size w W := by rw [hW]; exact (Below.refl _ _).alloc (Nat.le_refl _) _
  have hblk : W.heap[w.heap.size]? = some (.cells #[.slice go g.length gc, .slice bo n bc, .bool fi, .bool ol, .bool he, .int .i64 la] 34 (0, 0)) := by rw [hW]; exact Deep.blk_alloc_new _ _
  have HB : Hid (∀ q, Below w.heap.size w ((w.alloc (.cells #[.slice go g.length gc, .slice bo n bc, .bool fi, .bool ol, .bool he, .int .i64 la] 34)).drewN q)) := fun q => by rw [← hW]; exact Below.drawn hb q
  have HB0 : Hid (Below w.heap.size w (w.alloc (.cells #[.slice go g.length gc, .slice bo n bc, .bool fi, .bool ol, .bool he, .int .i64 la] 34))) := by rw [← hW]; exact hb
  have hv' := hv.below hb
  rw [hW] at hv'
  have HG0 := hide hv'.2.1
  have HG : Hid (∀ q, SL .i64 ((w.alloc (.cells #[.slice go g.length gc, .slice bo n bc, .bool fi, .bool ol, .bool he, .int .i64 la] 34)).drewN q) go g.length (fun i => g.getD i 0)) := fun q => hv'.2.1
  have HV : Hid (∀ q, BV ((w.alloc (.cells #[.slice go g.length gc, .slice bo n bc, .bool fi, .bool ol, .bool he, .int .i64 la] 34)).drewN q) bo n L) := fun q => hv'.2.2
  have HL := hide hLn
  have hgc := hv.1.1
  clear hv hv' hLn hblk hb hW
  by_cases h2 : 0 < g.length
  · have d2 : decide ((0 : Int) < (g.length : Int)) = true := by simp; omega
    by_cases h1 : GOk (fun i => g.getD i 0) g.length
    · by_cases h3 : n = 3 ∧ ∀ i, i < n → KOk (L i)
      · have H3 := hide h3
        clear h3
        by_cases h4 : 0 ≤ la ∧ la ≤ 200
        · have HA : Hid (¬ (ol = true ∧ he = true) → MtOk g n L ol he la) := fun x => ⟨⟨h1, h2⟩, H3.out, h4, x⟩
          have HN : Hid ((ol = true ∧ he = true) → ¬ MtOk g n L ol he la) := fun x y => y.2.2.2 x
          have h4' : decide (la < 0 ∨ 200 < la) = false := decide_eq_false (by omega)
          cases ol with
          | false =>
            go_enter Tryz.func64, Tryz.ntmps64
            go_wp2_with (first
              | (go_at_call 73; refine (gensi_yes _ _ _ _ _ hg hgc HG0.out h1).mono ?_; rintro e9 w9 ⟨rfl, q9, hw9⟩; rw [hw9]; clear hw9)
              | (go_at_call 74; refine (bitsok_yes _ _ _ _ _ hn HL.out (HV.out _) H3.out).mono ?_; rintro e9 w9 ⟨rfl, q8, hw9⟩; rw [hw9]; clear hw9)
              | (go_at_call 75; refine (nowrite_any _ _).mono ?_; rintro e9 w9 ⟨rfl, hw9⟩; rw [hw9, h4']; clear hw9)
              | fail)
            go_ret
            (try simp only [World.drewN_drewN])
            exact Tells.yes (HA.out (by simp)) (HB.out _)
          | true =>
            cases he with
            | false =>
              go_enter Tryz.func64, Tryz.ntmps64
              go_wp2_with (first
                | (go_at_call 73; refine (gensi_yes _ _ _ _ _ hg hgc HG0.out h1).mono ?_; rintro e9 w9 ⟨rfl, q9, hw9⟩; rw [hw9]; clear hw9)
                | (go_at_call 74; refine (bitsok_yes _ _ _ _ _ hn HL.out (HV.out _) H3.out).mono ?_; rintro e9 w9 ⟨rfl, q8, hw9⟩; rw [hw9]; clear hw9)
                | (go_at_call 75; refine (nowrite_any _ _).mono ?_; rintro e9 w9 ⟨rfl, hw9⟩; rw [hw9, h4']; clear hw9)
                | fail)
              go_ret
              (try simp only [World.drewN_drewN])
              exact Tells.yes (HA.out (by simp)) (HB.out _)
            | true =>
              go_enter Tryz.func64, Tryz.ntmps64
              go_wp2_with (first
                | (go_at_call 73; refine (gensi_yes _ _ _ _ _ hg hgc HG0.out h1).mono ?_; rintro e9 w9 ⟨rfl, q9, hw9⟩; rw [hw9]; clear hw9)
                | (go_at_call 74; refine (bitsok_yes _ _ _ _ _ hn HL.out (HV.out _) H3.out).mono ?_; rintro e9 w9 ⟨rfl, q8, hw9⟩; rw [hw9]; clear hw9)
                | (go_at_call 75; refine (nowrite_any _ _).mono ?_; rintro e9 w9 ⟨rfl, hw9⟩; rw [hw9, h4']; clear hw9)
                | fail)
              go_ret
              (try simp only [World.drewN_drewN])
              exact Tells.no (HN.out (by simp)) (HB.out _)
        · have h4' : decide (la < 0 ∨ 200 < la) = true := decide_eq_true (by omega)
          have HN : Hid (¬ MtOk g n L ol he la) := fun x => h4 x.2.2.1
          clear h4
          go_enter Tryz.func64, Tryz.ntmps64
          go_wp2_with (first
            | (go_at_call 73; refine (gensi_yes _ _ _ _ _ hg hgc HG0.out h1).mono ?_; rintro e9 w9 ⟨rfl, q9, hw9⟩; rw [hw9]; clear hw9)
            | (go_at_call 74; refine (bitsok_yes _ _ _ _ _ hn HL.out (HV.out _) H3.out).mono ?_; rintro e9 w9 ⟨rfl, q8, hw9⟩; rw [hw9]; clear hw9)
            | (go_at_call 75; refine (nowrite_any _ _).mono ?_; rintro e9 w9 ⟨rfl, hw9⟩; rw [hw9, h4']; clear hw9)
            | fail)
          go_ret
          (try simp only [World.drewN_drewN])
          exact Tells.no (HN.out) (HB.out _)
      · have HN : Hid (¬ MtOk g n L ol he la) := fun x => h3 x.2.1
        have H3 := hide h3
        clear h3
        go_enter Tryz.func64, Tryz.ntmps64
        go_wp2_with (first
          | (go_at_call 73; refine (gensi_yes _ _ _ _ _ hg hgc HG0.out h1).mono ?_; rintro e9 w9 ⟨rfl, q9, hw9⟩; rw [hw9]; clear hw9)
          | (go_at_call 74; refine (bitsok_no _ _ _ _ _ hn HL.out (HV.out _) H3.out).mono ?_; rintro e9 w9 ⟨rfl, q8, hw9⟩; rw [hw9]; clear hw9)
          | fail)
        go_ret
        (try simp only [World.drewN_drewN])
        exact Tells.no (HN.out) (HB.out _)
    · have HN : Hid (¬ MtOk g n L ol he la) := fun x => h1 x.1.1
      go_enter Tryz.func64, Tryz.ntmps64
      go_wp2_with (first
        | (go_at_call 73; refine (gensi_no _ _ _ _ _ hg hgc HG0.out h1).mono ?_; rintro e9 w9 ⟨rfl, q9, hw9⟩; rw [hw9]; clear hw9)
        | fail)
      go_ret
      (try simp only [World.drewN_drewN])
      exact Tells.no (HN.out) (HB.out _)
  · have d2 : decide ((0 : Int) < (g.length : Int)) = false := decide_eq_false (by omega)
    have HN : Hid (¬ MtOk g n L ol he la) := fun x => h2 x.1.2
    go_enter Tryz.func64, Tryz.ntmps64
    go_wp2_with (first
      | fail)
    go_ret
    (try simp only [World.drewN_drewN])
    exact Tells.no (HN.out) (HB0.out)
end Go.Proofs.YtjjdbdkbpmbniabGreatDoor

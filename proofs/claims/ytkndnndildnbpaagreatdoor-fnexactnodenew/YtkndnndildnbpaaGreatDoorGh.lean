/- What is one, of the model. -/
import Derived.Test.YtkndnndildnbpaaGreatDoorGb
import Derived.Laws.AppendOwnNone
import Derived.Lib.AppendZeros
import Derived.Test.YtkndnndildnbpaaGreatDoorGd
import Derived.Deep.RegionHeld3

namespace Go.Proofs.YtkndnndildnbpaaGreatDoor
open Go.ChangeShapes Go.WideShapes Go.ChangeAt Go.RowKit
set_option linter.unusedVariables false
set_option linter.unusedSimpArgs false

set_option maxHeartbeats 4000000 in
set_option maxRecDepth 100000 in
theorem mtok_spec (go bo : Option Addr) (gc bc : Nat) (g : List Int) (n : Nat) (L : Nat → List Int) (fi ol he : Bool) (la : Int) (w : World) (hd : Bd g n L) (hv : MV w go gc bo bc g n L) :
    Calls Tryz.prog 131 #[.agg #[.slice go g.length gc, .slice bo n bc, .bool fi, .bool ol, .bool he, .int .i64 la]] w fun e w' => Tells w w' e (MtOk g n L ol he la) := by
  obtain ⟨hg, hn, hLn⟩ := hd
  obtain ⟨W, hW⟩ : ∃ W, W = w.alloc (.cells #[.slice go g.length gc, .slice bo n bc, .bool fi, .bool ol, .bool he, .int .i64 la] 25) := ⟨_, rfl⟩
  have hb : Below w.heap.size w W := by rw [hW]; exact (Below.refl _ _).alloc (Nat.le_refl _) _
  have hblk : W.heap[w.heap.size]? = some (.cells #[.slice go g.length gc, .slice bo n bc, .bool fi, .bool ol, .bool he, .int .i64 la] 25 (0, 0)) := by rw [hW]; exact Deep.blk_alloc_new _ _
  have c0 : W.cell? ⟨w.heap.size, 0, none⟩ = some (.slice go g.length gc) := mblk hblk rfl
  have c1 : W.cell? ⟨w.heap.size, 1, none⟩ = some (.slice bo n bc) := mblk hblk rfl
  have c3 : W.cell? ⟨w.heap.size, 3, none⟩ = some (.bool ol) := mblk hblk rfl
  have c4 : W.cell? ⟨w.heap.size, 4, none⟩ = some (.bool he) := mblk hblk rfl
  have c5 : W.cell? ⟨w.heap.size, 5, none⟩ = some (.int .i64 la) := mblk hblk rfl
  have HB : Hid (∀ q, Below w.heap.size w (W.drewN q)) := fun q => Below.drawn hb q
  have hv' := hv.below hb
  have HG : Hid (∀ q, SL .i64 (W.drewN q) go g.length (fun i => g.getD i 0)) := fun q => hv'.2.1
  have HV : Hid (∀ q, BV (W.drewN q) bo n L) := fun q => hv'.2.2
  have HL := hide hLn
  have hgc := hv.1.1
  clear hv hv' hLn hblk hb
  go_enter Tryz.func131, Tryz.ntmps131
  go_wp2
  rw [← hW]
  clear hW
  go_loopw [3] (fun i wr => ∃ k : Nat, k ≤ n ∧ i = .int .i64 k ∧ Hid (∀ j, j < k → KOk (L j)) ∧ ∃ q, wr = W.drewN q) (fun i _ => n - (intOf i).toNat)
  case atStart => exact ⟨0, by omega, rfl, (fun j hj => absurd hj (by omega)), 0, rfl⟩
  case round =>
    obtain ⟨k, hk, rfl, A, q, rfl⟩ := hrel
    by_cases hlt : k < n
    · obtain ⟨b, off, ro, rc, rfl, hc, hrc, hsl⟩ := HV.out q k hlt
      have hcall := hide (marks_spec ro rc (L k) (W.drewN q) (HL.out k hlt) hsl)
      clear hsl hrc
      go_wp2_with fail
      refine hcall.out.mono ?_
      rintro e w1 ⟨h1, q1, rfl⟩
      clear hcall
      rcases h1 with ⟨hok, rfl⟩ | ⟨hok, rfl⟩
      · have HK := hide hok
        clear hok
        go_wp2
        go_roundw
        case rel =>
          refine ⟨k + 1, by omega, by go_num, fun j hj => ?_, _, rfl⟩
          by_cases e : j = k
          · subst e; exact HK.out
          · exact A.out j (by omega)
        case measure => simp [intOf]; omega
      · have HK : Hid (¬ MtOk g n L ol he la) := fun x => hok (x.2.1.2 k hlt)
        clear hok
        go_wp2
        go_ret
        exact Tells.no HK.out (HB.out _)
    · obtain rfl : k = n := by omega
      by_cases h1 : GOk (fun i => g.getD i 0) g.length
      · by_cases h2 : 0 < g.length
        · by_cases h3 : k = 3
          · have d3 : decide ((k : Int) = 3) = true := by simp; omega
            have d2 : decide ((0 : Int) < (g.length : Int)) = true := by simp; omega
            by_cases h4 : 0 ≤ la ∧ la ≤ 200
            · have HA : Hid (¬ (ol = true ∧ he = true) → MtOk g k L ol he la) := fun x => ⟨⟨h1, h2⟩, ⟨h3, A.out⟩, h4, x⟩
              have HN : Hid ((ol = true ∧ he = true) → ¬ MtOk g k L ol he la) := fun x y => y.2.2.2 x
              cases ol with
              | false =>
                go_wp2_with (first
                  | (go_at_call 172; refine (gens_yes _ _ _ _ _ hg hgc (HG.out _) h1).mono ?_; rintro e9 w9 ⟨rfl, q9, hw9⟩; rw [hw9]; clear hw9)
                  | (go_at_call 51; refine (in_yes _ _ _ _ h4.1 h4.2).mono ?_; rintro e9 w9 ⟨rfl, hw9⟩; rw [hw9]; clear hw9)
                  | fail)
                go_ret
                simp only [World.drewN_drewN]
                exact Tells.yes (HA.out (by simp)) (HB.out _)
              | true =>
                cases he with
                | false =>
                  go_wp2_with (first
                    | (go_at_call 172; refine (gens_yes _ _ _ _ _ hg hgc (HG.out _) h1).mono ?_; rintro e9 w9 ⟨rfl, q9, hw9⟩; rw [hw9]; clear hw9)
                    | (go_at_call 51; refine (in_yes _ _ _ _ h4.1 h4.2).mono ?_; rintro e9 w9 ⟨rfl, hw9⟩; rw [hw9]; clear hw9)
                    | fail)
                  go_ret
                  simp only [World.drewN_drewN]
                  exact Tells.yes (HA.out (by simp)) (HB.out _)
                | true =>
                  go_wp2_with (first
                    | (go_at_call 172; refine (gens_yes _ _ _ _ _ hg hgc (HG.out _) h1).mono ?_; rintro e9 w9 ⟨rfl, q9, hw9⟩; rw [hw9]; clear hw9)
                    | (go_at_call 51; refine (in_yes _ _ _ _ h4.1 h4.2).mono ?_; rintro e9 w9 ⟨rfl, hw9⟩; rw [hw9]; clear hw9)
                    | fail)
                  go_ret
                  simp only [World.drewN_drewN]
                  exact Tells.no (HN.out (by simp)) (HB.out _)
            · have h4' : la < 0 ∨ 200 < la := by omega
              have HN : Hid (¬ MtOk g k L ol he la) := fun x => h4 x.2.2.1
              clear h4
              go_wp2_with (first
                | (go_at_call 172; refine (gens_yes _ _ _ _ _ hg hgc (HG.out _) h1).mono ?_; rintro e9 w9 ⟨rfl, q9, hw9⟩; rw [hw9]; clear hw9)
                | (go_at_call 51; refine (in_no _ _ _ _ h4').mono ?_; rintro e9 w9 ⟨rfl, hw9⟩; rw [hw9]; clear hw9)
                | fail)
              go_ret
              simp only [World.drewN_drewN]
              exact Tells.no (HN.out) (HB.out _)
          · have d3 : decide ((k : Int) = 3) = false := by simp; omega
            have d3' : ((k : Int) == 3) = false := by simp; omega
            have d2 : decide ((0 : Int) < (g.length : Int)) = true := by simp; omega
            have HN : Hid (¬ MtOk g k L ol he la) := fun x => h3 x.2.1.1
            go_wp2_with (first
              | (go_at_call 172; refine (gens_yes _ _ _ _ _ hg hgc (HG.out _) h1).mono ?_; rintro e9 w9 ⟨rfl, q9, hw9⟩; rw [hw9]; clear hw9)
              | fail)
            go_ret
            simp only [World.drewN_drewN]
            exact Tells.no (HN.out) (HB.out _)
        · have d2 : decide ((0 : Int) < (g.length : Int)) = false := decide_eq_false (by omega)
          have HN : Hid (¬ MtOk g k L ol he la) := fun x => h2 x.1.2
          go_wp2_with (first
            | (go_at_call 172; refine (gens_yes _ _ _ _ _ hg hgc (HG.out _) h1).mono ?_; rintro e9 w9 ⟨rfl, q9, hw9⟩; rw [hw9]; clear hw9)
            | fail)
          go_ret
          simp only [World.drewN_drewN]
          exact Tells.no (HN.out) (HB.out _)
      · have HN : Hid (¬ MtOk g k L ol he la) := fun x => h1 x.1.1
        go_wp2_with (first
          | (go_at_call 172; refine (gens_no _ _ _ _ _ hg hgc (HG.out _) h1).mono ?_; rintro e9 w9 ⟨rfl, q9, hw9⟩; rw [hw9]; clear hw9)
          | fail)
        go_ret
        simp only [World.drewN_drewN]
        exact Tells.no (HN.out) (HB.out _)
theorem gensi_yes (ao : Option Addr) (n cap : Nat) (f : Nat → Int) (w : World) (hn : n ≤ 1048576) (hcap : n ≤ cap) (hs : SL .i64 w ao n f) (h : GOk f n) :
    Calls Tryz.prog 201 #[.slice ao n cap] w fun e w' => e = .returned (.bool true) ∧ ∃ q, w' = w.drewN q :=
  (gensok_impl ao n cap f w hn hcap hs).mono fun _ _ ⟨h1, h2⟩ => ⟨h1.elim (·.2) (fun x => absurd h x.1), h2⟩
theorem gensi_no (ao : Option Addr) (n cap : Nat) (f : Nat → Int) (w : World) (hn : n ≤ 1048576) (hcap : n ≤ cap) (hs : SL .i64 w ao n f) (h : ¬ GOk f n) :
    Calls Tryz.prog 201 #[.slice ao n cap] w fun e w' => e = .returned (.bool false) ∧ ∃ q, w' = w.drewN q :=
  (gensok_impl ao n cap f w hn hcap hs).mono fun _ _ ⟨h1, h2⟩ => ⟨h1.elim (fun x => absurd x.1 h) (·.2), h2⟩

theorem bitsok_impl (bo : Option Addr) (n bc : Nat) (L : Nat → List Int) (w : World) (hn : n ≤ 1048576) (hL : ∀ i, i < n → (L i).length ≤ 1048576) (hv : BV w bo n L) :
    Calls Tryz.prog 202 #[.slice bo n bc] w fun e w' => (((n = 3 ∧ ∀ i, i < n → KOk (L i)) ∧ e = .returned (.bool true)) ∨ (¬ (n = 3 ∧ ∀ i, i < n → KOk (L i)) ∧ e = .returned (.bool false))) ∧ ∃ q, w' = w.drewN q := by
  have HV : Hid (∀ q, BV (w.drewN q) bo n L) := fun q => hv
  have HL := hide hL
  clear hv hL
  go_enter Tryz.func202, Tryz.ntmps202
  go_wp2
  go_loopw [4, 7] (fun _ i wr => ∃ k : Nat, k ≤ n ∧ i = .int .i64 k ∧ Hid (∀ j, j < k → KOk (L j)) ∧ ∃ q, wr = w.drewN q) (fun _ i _ => n - (intOf i).toNat)
  case atStart => exact ⟨0, by omega, rfl, (fun j hj => absurd hj (by omega)), 0, rfl⟩
  case round =>
    obtain ⟨k, hk, rfl, A, q, rfl⟩ := hrel
    by_cases hlt : k < n
    · obtain ⟨b, off, ro, rc, rfl, hc, hrc, hsl⟩ := HV.out q k hlt
      have hcall := hide (marks_impl ro rc (L k) (w.drewN q) (HL.out k hlt) hsl)
      clear hsl hrc
      go_wp2_with fail
      refine hcall.out.mono ?_
      rintro e w1 ⟨h1, q1, rfl⟩
      clear hcall
      rcases h1 with ⟨hok, rfl⟩ | ⟨hok, rfl⟩
      · have HK := hide hok
        clear hok
        go_wp2
        go_roundw
        case rel =>
          refine ⟨k + 1, by omega, by go_num, fun j hj => ?_, _, rfl⟩
          by_cases e : j = k
          · subst e; exact HK.out
          · exact A.out j (by omega)
        case measure => simp [intOf]; omega
      · have HK : Hid (¬ (n = 3 ∧ ∀ i, i < n → KOk (L i))) := fun x => hok (x.2 k hlt)
        clear hok
        go_wp2
        go_ret
        exact ⟨.inr ⟨HK.out, rfl⟩, _, rfl⟩
    · obtain rfl : k = n := by omega
      by_cases h3 : k = 3
      · have HK : Hid (k = 3 ∧ ∀ i, i < k → KOk (L i)) := ⟨h3, A.out⟩
        have d3 : decide ((k : Int) = 3) = true := by simp; omega
        go_wp2
        go_ret
        refine ⟨.inl ⟨HK.out, ?_⟩, _, rfl⟩
        first | rfl | (have := HK.out.1; simp; omega)
      · have HK : Hid (¬ (k = 3 ∧ ∀ i, i < k → KOk (L i))) := fun x => h3 x.1
        have d3 : decide ((k : Int) = 3) = false := by simp; omega
        have d3' : ((k : Int) == 3) = false := by simp; omega
        go_wp2
        go_ret
        exact ⟨.inr ⟨HK.out, rfl⟩, _, rfl⟩
theorem bitsok_yes (bo : Option Addr) (n bc : Nat) (L : Nat → List Int) (w : World) (hn : n ≤ 1048576) (hL : ∀ i, i < n → (L i).length ≤ 1048576) (hv : BV w bo n L) (h : n = 3 ∧ ∀ i, i < n → KOk (L i)) :
    Calls Tryz.prog 202 #[.slice bo n bc] w fun e w' => e = .returned (.bool true) ∧ ∃ q, w' = w.drewN q :=
  (bitsok_impl bo n bc L w hn hL hv).mono fun _ _ ⟨h1, h2⟩ => ⟨h1.elim (·.2) (fun x => absurd h x.1), h2⟩
theorem bitsok_no (bo : Option Addr) (n bc : Nat) (L : Nat → List Int) (w : World) (hn : n ≤ 1048576) (hL : ∀ i, i < n → (L i).length ≤ 1048576) (hv : BV w bo n L) (h : ¬ (n = 3 ∧ ∀ i, i < n → KOk (L i))) :
    Calls Tryz.prog 202 #[.slice bo n bc] w fun e w' => e = .returned (.bool false) ∧ ∃ q, w' = w.drewN q :=
  (bitsok_impl bo n bc L w hn hL hv).mono fun _ _ ⟨h1, h2⟩ => ⟨h1.elim (fun x => absurd x.1 h) (·.2), h2⟩

set_option maxHeartbeats 4000000 in
set_option maxRecDepth 100000 in
theorem mtok_impl (go bo : Option Addr) (gc bc : Nat) (g : List Int) (n : Nat) (L : Nat → List Int) (fi ol he : Bool) (la : Int) (w : World) (hd : Bd g n L) (hv : MV w go gc bo bc g n L) :
    Calls Tryz.prog 136 #[.agg #[.slice go g.length gc, .slice bo n bc, .bool fi, .bool ol, .bool he, .int .i64 la]] w fun e w' => Tells w w' e (MtOk g n L ol he la) := by
  obtain ⟨hg, hn, hLn⟩ := hd
  obtain ⟨W, hW⟩ : ∃ W, W = w.alloc (.cells #[.slice go g.length gc, .slice bo n bc, .bool fi, .bool ol, .bool he, .int .i64 la] 25) := ⟨_, rfl⟩
  have hb : Below w.heap.size w W := by rw [hW]; exact (Below.refl _ _).alloc (Nat.le_refl _) _
  have hblk : W.heap[w.heap.size]? = some (.cells #[.slice go g.length gc, .slice bo n bc, .bool fi, .bool ol, .bool he, .int .i64 la] 25 (0, 0)) := by rw [hW]; exact Deep.blk_alloc_new _ _
  have HB : Hid (∀ q, Below w.heap.size w ((w.alloc (.cells #[.slice go g.length gc, .slice bo n bc, .bool fi, .bool ol, .bool he, .int .i64 la] 25)).drewN q)) := fun q => by rw [← hW]; exact Below.drawn hb q
  have HB0 : Hid (Below w.heap.size w (w.alloc (.cells #[.slice go g.length gc, .slice bo n bc, .bool fi, .bool ol, .bool he, .int .i64 la] 25))) := by rw [← hW]; exact hb
  have hv' := hv.below hb
  rw [hW] at hv'
  have HG0 := hide hv'.2.1
  have HG : Hid (∀ q, SL .i64 ((w.alloc (.cells #[.slice go g.length gc, .slice bo n bc, .bool fi, .bool ol, .bool he, .int .i64 la] 25)).drewN q) go g.length (fun i => g.getD i 0)) := fun q => hv'.2.1
  have HV : Hid (∀ q, BV ((w.alloc (.cells #[.slice go g.length gc, .slice bo n bc, .bool fi, .bool ol, .bool he, .int .i64 la] 25)).drewN q) bo n L) := fun q => hv'.2.2
  have HL := hide hLn
  have hgc := hv.1.1
  clear hv hv' hLn hblk hb hW
  by_cases h2 : 0 < g.length
  · have d2 : decide ((0 : Int) < (g.length : Int)) = true := by simp; omega
    by_cases h1 : GOk (fun i => g.getD i 0) g.length
    · by_cases h3 : n = 3 ∧ ∀ i, i < n → KOk (L i)
      · have H3 := hide h3
        clear h3
        by_cases h4 : 0 ≤ la ∧ la ≤ 200
        · have HA : Hid (¬ (ol = true ∧ he = true) → MtOk g n L ol he la) := fun x => ⟨⟨h1, h2⟩, H3.out, h4, x⟩
          have HN : Hid ((ol = true ∧ he = true) → ¬ MtOk g n L ol he la) := fun x y => y.2.2.2 x
          have h4' : decide (la < 0 ∨ 200 < la) = false := decide_eq_false (by omega)
          cases ol with
          | false =>
            go_enter Tryz.func136, Tryz.ntmps136
            go_wp2_with (first
              | (go_at_call 201; refine (gensi_yes _ _ _ _ _ hg hgc HG0.out h1).mono ?_; rintro e9 w9 ⟨rfl, q9, hw9⟩; rw [hw9]; clear hw9)
              | (go_at_call 202; refine (bitsok_yes _ _ _ _ _ hn HL.out (HV.out _) H3.out).mono ?_; rintro e9 w9 ⟨rfl, q8, hw9⟩; rw [hw9]; clear hw9)
              | (go_at_call 203; refine (nowrite_any _ _).mono ?_; rintro e9 w9 ⟨rfl, hw9⟩; rw [hw9, h4']; clear hw9)
              | fail)
            go_ret
            (try simp only [World.drewN_drewN])
            exact Tells.yes (HA.out (by simp)) (HB.out _)
          | true =>
            cases he with
            | false =>
              go_enter Tryz.func136, Tryz.ntmps136
              go_wp2_with (first
                | (go_at_call 201; refine (gensi_yes _ _ _ _ _ hg hgc HG0.out h1).mono ?_; rintro e9 w9 ⟨rfl, q9, hw9⟩; rw [hw9]; clear hw9)
                | (go_at_call 202; refine (bitsok_yes _ _ _ _ _ hn HL.out (HV.out _) H3.out).mono ?_; rintro e9 w9 ⟨rfl, q8, hw9⟩; rw [hw9]; clear hw9)
                | (go_at_call 203; refine (nowrite_any _ _).mono ?_; rintro e9 w9 ⟨rfl, hw9⟩; rw [hw9, h4']; clear hw9)
                | fail)
              go_ret
              (try simp only [World.drewN_drewN])
              exact Tells.yes (HA.out (by simp)) (HB.out _)
            | true =>
              go_enter Tryz.func136, Tryz.ntmps136
              go_wp2_with (first
                | (go_at_call 201; refine (gensi_yes _ _ _ _ _ hg hgc HG0.out h1).mono ?_; rintro e9 w9 ⟨rfl, q9, hw9⟩; rw [hw9]; clear hw9)
                | (go_at_call 202; refine (bitsok_yes _ _ _ _ _ hn HL.out (HV.out _) H3.out).mono ?_; rintro e9 w9 ⟨rfl, q8, hw9⟩; rw [hw9]; clear hw9)
                | (go_at_call 203; refine (nowrite_any _ _).mono ?_; rintro e9 w9 ⟨rfl, hw9⟩; rw [hw9, h4']; clear hw9)
                | fail)
              go_ret
              (try simp only [World.drewN_drewN])
              exact Tells.no (HN.out (by simp)) (HB.out _)
        · have h4' : decide (la < 0 ∨ 200 < la) = true := decide_eq_true (by omega)
          have HN : Hid (¬ MtOk g n L ol he la) := fun x => h4 x.2.2.1
          clear h4
          go_enter Tryz.func136, Tryz.ntmps136
          go_wp2_with (first
            | (go_at_call 201; refine (gensi_yes _ _ _ _ _ hg hgc HG0.out h1).mono ?_; rintro e9 w9 ⟨rfl, q9, hw9⟩; rw [hw9]; clear hw9)
            | (go_at_call 202; refine (bitsok_yes _ _ _ _ _ hn HL.out (HV.out _) H3.out).mono ?_; rintro e9 w9 ⟨rfl, q8, hw9⟩; rw [hw9]; clear hw9)
            | (go_at_call 203; refine (nowrite_any _ _).mono ?_; rintro e9 w9 ⟨rfl, hw9⟩; rw [hw9, h4']; clear hw9)
            | fail)
          go_ret
          (try simp only [World.drewN_drewN])
          exact Tells.no (HN.out) (HB.out _)
      · have HN : Hid (¬ MtOk g n L ol he la) := fun x => h3 x.2.1
        have H3 := hide h3
        clear h3
        go_enter Tryz.func136, Tryz.ntmps136
        go_wp2_with (first
          | (go_at_call 201; refine (gensi_yes _ _ _ _ _ hg hgc HG0.out h1).mono ?_; rintro e9 w9 ⟨rfl, q9, hw9⟩; rw [hw9]; clear hw9)
          | (go_at_call 202; refine (bitsok_no _ _ _ _ _ hn HL.out (HV.out _) H3.out).mono ?_; rintro e9 w9 ⟨rfl, q8, hw9⟩; rw [hw9]; clear hw9)
          | fail)
        go_ret
        (try simp only [World.drewN_drewN])
        exact Tells.no (HN.out) (HB.out _)
    · have HN : Hid (¬ MtOk g n L ol he la) := fun x => h1 x.1.1
      go_enter Tryz.func136, Tryz.ntmps136
      go_wp2_with (first
        | (go_at_call 201; refine (gensi_no _ _ _ _ _ hg hgc HG0.out h1).mono ?_; rintro e9 w9 ⟨rfl, q9, hw9⟩; rw [hw9]; clear hw9)
        | fail)
      go_ret
      (try simp only [World.drewN_drewN])
      exact Tells.no (HN.out) (HB.out _)
  · have d2 : decide ((0 : Int) < (g.length : Int)) = false := decide_eq_false (by omega)
    have HN : Hid (¬ MtOk g n L ol he la) := fun x => h2 x.1.2
    go_enter Tryz.func136, Tryz.ntmps136
    go_wp2_with (first
      | fail)
    go_ret
    (try simp only [World.drewN_drewN])
    exact Tells.no (HN.out) (HB0.out)
/-- A slice that holds the numbers L, or nil where there are none. -/
def Src (k : IntKind) (w : World) (x : Value) (L : List Int) : Prop :=
  (x = .slice none 0 0 ∧ L = []) ∨ ∃ ad c, x = .slice (some ad) L.length c ∧ ∀ j u, (L.map (Value.int k))[j]? = some u → w.cell? (ad.add j) = some u
theorem Src.of_owns {w : World} {B : Nat} {v : Value} {L : List Int} {k : IntKind} {t : TypeId} (h : w.ownsRow B t 1 v L.length (L.map (.int k))) : Src k w v L := by
  rcases h.2 with ⟨e, h0⟩ | ⟨g, cap, cur, e, hge, hc, _⟩
  · exact .inl ⟨e, List.length_eq_zero_iff.1 h0⟩
  · exact .inr ⟨⟨g, 0, none⟩, cap, e, h.cells (by rw [e]; rfl)⟩
theorem Src.below {k : IntKind} {w w' : World} {x : Value} {L : List Int} (h : Src k w x L) (hb : Below w.heap.size w w') : Src k w' x L := by
  rcases h with h | ⟨ad, c, e, hc⟩
  · exact .inl h
  · refine .inr ⟨ad, c, e, fun j u hu => ?_⟩
    have h1 := hc j u hu
    exact (hb.cell (lt_of_cell h1)).trans h1
theorem Src.form {k : IntKind} {w : World} {x : Value} {L : List Int} (h : Src k w x L) : ∃ ao c, x = .slice ao L.length c := by
  rcases h with ⟨e, rfl⟩ | ⟨ad, c, e, _⟩
  · exact ⟨none, 0, e⟩
  · exact ⟨some ad, c, e⟩
theorem Src.of_sl {k : IntKind} {w : World} {ao : Option Addr} {n c : Nat} {f : Nat → Int} (h : SL k w ao n f) (h0 : ao = none → n = 0 ∧ c = 0) : Src k w (.slice ao n c) ((List.range n).map f) := by
  cases ao with
  | none =>
    obtain ⟨rfl, rfl⟩ := h0 rfl
    exact .inl ⟨rfl, rfl⟩
  | some ad =>
    refine .inr ⟨ad, c, by simp, fun j u hu => ?_⟩
    have hj : j < n := by
      by_cases hj : j < n
      · exact hj
      · rw [List.getElem?_eq_none (by simp; omega)] at hu; cases hu
    obtain ⟨b, off, e, hlt, hc⟩ := h j hj
    simp only [Option.some.injEq] at e
    subst e
    rw [Addr.add_lit, hc]
    simpa [hj] using hu

theorem Src.slu {w : World} {ao : Option Addr} {c : Nat} {L : List Int} {k : IntKind} (h : Src k w (.slice ao L.length c) L) : SL k w ao L.length (fun i => L.getD i 0) := by
  intro i hi
  rcases h with ⟨_, rfl⟩ | ⟨ad, c', e, hc⟩
  · simp at hi
  · cases e
    have h1 := hc i (.int k (L.getD i 0)) (by simp [List.getD, hi])
    obtain ⟨b, off, spot⟩ := ad
    have h2 := hc 0 (.int k (L.getD 0 0)) (by simp [List.getD, show 0 < L.length by omega])
    have hspot : spot = none := by simpa [Addr.add] using World.cell?_spot h2
    subst hspot
    rw [Addr.add_lit] at h1
    exact ⟨b, off, rfl, lt_of_cell h1, h1⟩

theorem grownBy_refl (w : World) (r : Option Nat) : w.grownBy w r := by
  constructor <;> first | exact Nat.le_refl _ | (intros; rfl) | skip

theorem wpList_append_src {P : Program} {w : World} {ops : Array Oper} {rest : List Oper} {o : Oper} {a : Act} {Q : Exit → Act → World → Prop} (hgd : o.guard = none) (s x : Operand) (t : TypeId)
    (ho : o.op = .call { callee := .builtin .append, args := #[s, x], argTypes := #[t, t] })
    (base : Nat) (e : TypeId) (i : TypeInfo) (z : Value) (bytes : Nat) (ht : P.underlying t = some (.slice e)) (hi : P.info? e = some i) (hz : i.zero = some z)
    (hsize : i.size = 1) (hby : i.bytes = bytes) (hzs : z.cells.size = 1) (k : IntKind)
    (v : Value) (M : List Int) (hs : a.eval s = v) (hown : w.ownsRow base e 1 v M.length (M.map (.int k)))
    (xv : Value) (L : List Int) (hx : a.eval x = xv) (hsrc : Src k w xv L)
    (h63 : M.length + L.length ≤ maxLen) (hbytes : (M.length + L.length) * bytes ≤ 140737488355328) (hbase : base ≤ w.heap.size)
    (h : ∀ v' w', w'.ownsRow base e 1 v' (M ++ L).length ((M ++ L).map (.int k)) → w.grownBy w' v.ownBlock → wpList P ops Q rest (a.put o.dst v') w') : wpList P ops Q (o :: rest) a w := by
  rcases hsrc with ⟨e1, rfl⟩ | ⟨ad, c, e1, hc⟩
  · refine wpList_append_own_none hgd s x t ho base e i 1 ht hi v M.length (M.map (.int k)) hs hown (hx.trans e1) ?_
    exact h v w (by simpa using hown) (grownBy_refl _ _)
  · refine wpList_append_own w hgd s x t ho base e i z 1 bytes ht hi hz hsize hby hzs (by decide) v M.length (M.map (.int k)) hs hown ad L.length c (L.map (.int k)) (hx.trans e1) (by simp) hc (gones _ _) h63 hbytes hbase ?_
    intro v' w' h1 h2 _
    exact h v' w' (by simpa using h1) h2

set_option maxRecDepth 100000 in
theorem bgrow_any (n : Nat) (w : World) (hn : n ≤ 4194304) :
    Calls Tryz.prog 262 #[.slice none 0 0, .int .i64 (n : Int)] w fun e w' => ∃ v, e = .returned v ∧ w'.ownsRow w.heap.size 5 1 v 0 (([] : List Int).map (.int .u8)) ∧ Below w.heap.size w w' := by
  obtain ⟨i0, hi0, hz0, hz1, hz2⟩ := info_parts Tryz.info5
  by_cases h0 : n = 0
  · subst h0
    go_enter Tryz.func262, Tryz.ntmps262
    go_wp2
    go_ret
    exact ⟨_, rfl, gnil, Below.refl _ _⟩
  · have hrz : ∀ ty, (Builtin.append_ #[26, 3] ty #[.slice none 0 0, .int .i64 (n : Int)]).run Tryz.prog w =
        .ok (.slice (some ⟨w.heap.size, 0, none⟩) n (grownCap w n 0 5)) (w.drew.alloc (.cells (Builtin.zeroCells (Value.int .u8 0).cells n ++ Builtin.zeroCells (Value.int .u8 0).cells (grownCap w n 0 5 - n)) 5)) := fun ty =>
      Lib.run_append_nil_zeros w 26 3 ty 5 i0 _ .u8 .i64 Tryz.underlying26 Tryz.underlying3 hi0 hz0 n (by omega) (by omega) (by omega) (by rw [hz2]; omega)
    have hGn : n ≤ grownCap w n 0 5 := grownCap_ge w _ _ _
    have hGm : grownCap w n 0 5 ≤ maxLen := grownCap_le_maxLen w n 0 5 (by unfold maxLen; omega)
    generalize grownCap w n 0 5 = G at *
    obtain ⟨ROW, hROW⟩ : ∃ ROW : Array Value, ROW = Builtin.zeroCells (Value.int .u8 0).cells n ++ Builtin.zeroCells (Value.int .u8 0).cells (G - n) := ⟨_, rfl⟩
    have hRs : ROW.size = G := by rw [hROW]; simp [Builtin.zeroCells, Value.cells]; omega
    rw [← hROW] at hrz
    have hfin : (w.drew.alloc (.cells ROW 5)).ownsRow w.heap.size 5 1 (.slice (some ⟨w.heap.size, 0, none⟩) 0 G) 0 (([] : List Int).map (.int .u8)) :=
      ⟨rfl, .inr ⟨_, G, ROW, rfl, Nat.le_refl _, Deep.blk_alloc_new w.drew _, by omega, hGm, by omega, by simp⟩⟩
    have hB : Below w.heap.size w (w.drew.alloc (.cells ROW 5)) := (Below.drawn (Below.refl _ w) 1).alloc (Nat.le_refl _) _
    obtain ⟨W1, hW⟩ : ∃ W1, W1 = w.drew.alloc (.cells ROW 5) := ⟨_, rfl⟩
    rw [← hW] at hrz hfin hB
    have R := hide (And.intro hfin hB)
    clear hfin hB hW hROW hRs
    unfold maxLen at hGm
    have hpos : (0 : Int) < (n : Int) := by omega
    go_enter Tryz.func262, Tryz.ntmps262
    go_wp2_with (first
      | (at_builtin; refine Lib.wpList_append_run _ rfl _ _ _ _ rfl _ _ rfl rfl _ _ (hrz _) ?_))
    go_wp2
    go_ret
    exact ⟨_, rfl, R.out⟩

/-- The first k lists, one behind the other. -/
def catk (L : Nat → List Int) : Nat → List Int
  | 0 => []
  | k + 1 => catk L k ++ L k
theorem catk_len (L : Nat → List Int) (k : Nat) : (catk L (k + 1)).length = (catk L k).length + (L k).length := by simp [catk]
theorem catk_le (L : Nat → List Int) (k n : Nat) (h : k ≤ n) : (catk L k).length ≤ (catk L n).length := by
  induction n with
  | zero => obtain rfl : k = 0 := by omega
            exact Nat.le_refl _
  | succ n ih =>
    by_cases e : k = n + 1
    · subst e; exact Nat.le_refl _
    · have := ih (by omega); rw [catk_len]; omega

set_option maxRecDepth 100000 in
theorem bconcat_any (vb N : Nat) (ao : Nat → Option Addr) (c : Nat → Nat) (L : Nat → List Int) (w : World) (hN : N ≤ 16) (hlen : (catk L N).length ≤ 1048576) (hvlt : vb < w.heap.size)
    (hv : ∀ k, k < N → w.cell? ⟨vb, k, none⟩ = some (.slice (ao k) (L k).length (c k))) (hs : ∀ k, k < N → Src .u8 w (.slice (ao k) (L k).length (c k)) (L k)) :
    Calls Tryz.prog 252 #[.slice (some ⟨vb, 0, none⟩) N N] w fun e w' => ∃ v, e = .returned v ∧ w'.ownsRow w.heap.size 5 1 v (catk L N).length ((catk L N).map (.int .u8)) ∧ Below w.heap.size w w' := by
  obtain ⟨i0, hi, hz0, hz1, hz2⟩ := info_parts Tryz.info5
  have HV := hide hv
  have HS := hide hs
  clear hv hs
  go_enter Tryz.func252, Tryz.ntmps252
  go_wp2
  go_loop [3, 5, 11] (fun s _ i => ∃ k : Nat, k ≤ N ∧ i = .int .i64 k ∧ s = .int .i64 ((catk L k).length : Nat)) (fun _ _ i => N - (intOf i).toNat)
  case atStart => exact ⟨0, by omega, rfl, rfl⟩
  case round =>
    obtain ⟨k, hk, rfl, rfl⟩ := hrel
    by_cases hlt : k < N
    · have c0 := HV.out k hlt
      have hk1 := catk_le L (k + 1) N (by omega)
      have hk2 := catk_len L k
      generalize hx : (catk L k).length = x at *
      generalize hy : (L k).length = y at *
      have hle : (0 : Int) ≤ (x : Int) + (y : Int) := by omega
      go_wp2
      go_round
      case rel => exact ⟨k + 1, by omega, by go_num, by rw [hk2]; go_num⟩
      case measure => simp [intOf]; omega
    · obtain rfl : k = N := by omega
      go_wp2_with fail
      refine (bgrow_any (catk L k).length _ (by omega)).mono ?_
      rintro e w1 ⟨v1, rfl, ho1, b1⟩
      have HO1 := hide ho1
      have HB1 := hide b1
      clear ho1 b1
      go_wp2_with fail
      go_loopw [6, 8, 27] (fun v _ i wr => ∃ j : Nat, j ≤ k ∧ i = .int .i64 j ∧ Hid (wr.ownsRow w.heap.size 5 1 v (catk L j).length ((catk L j).map (.int .u8)) ∧ Below w.heap.size w wr)) (fun _ _ i _ => k - (intOf i).toNat)
      case atStart => exact ⟨0, by omega, rfl, HO1.out, HB1.out⟩
      case round =>
        obtain ⟨j, hj, rfl, HI⟩ := hrel
        clear HO1 HB1
        by_cases hlt : j < k
        · have d0 := (HI.out.2.cell (p := ⟨vb, j, none⟩) hvlt).trans (HV.out j hlt)
          have hsrc := hide ((HS.out j hlt).below HI.out.2)
          have hsz := HI.out.2.size
          have hk1 := catk_le L (j + 1) k (by omega)
          have hk2 := catk_len L j
          have hLj : Hid (catk L (j + 1) = catk L j ++ L j) := rfl
          generalize L j = M at *
          generalize catk L j = C at *
          go_wp2_with (first
            | (at_builtin; refine wpList_append_src rfl _ _ 26 rfl w.heap.size 5 i0 (.int .u8 0) 1 Tryz.underlying26 hi hz0 hz1 hz2 rfl .u8 _ C rfl HI.out.1 _ M rfl hsrc.out (glens (by omega)) (by omega) hsz ?_; intro v' w2 hown' hgrow))
          have R := hide (And.intro hown' (ggrown HI.out.2 hsz HI.out.1 hgrow))
          clear hown' hgrow
          go_wp2
          go_roundw
          case rel => exact ⟨j + 1, by omega, by go_num, by rw [hLj.out]; exact R.out⟩
          case measure => simp [intOf]; omega
        · obtain rfl : j = k := by omega
          go_wp2
          go_ret
          exact ⟨_, rfl, HI.out⟩
theorem kin_ge {f : Nat → Int} {n : Nat} (h : KIn f n) (i : Nat) (hi : i < n) : (i : Int) ≤ f i := by
  induction i with
  | zero => have := (h.1 0 hi).1; omega
  | succ i ih => have h1 := ih (by omega); have h2 := h.2 (i + 1) (by omega) hi; rw [show i + 1 - 1 = i by omega] at h2; omega
theorem kok_len {l : List Int} (h : KOk l) : l.length ≤ 8 := by
  by_cases h0 : l.length = 0
  · omega
  · have h1 := kin_ge h (l.length - 1) (by omega)
    have h2 : l.getD (l.length - 1) 0 ≤ 7 := (h.1 (l.length - 1) (by omega)).2
    omega
theorem kok_mem {l : List Int} (h : KOk l) : ∀ x ∈ l, 0 ≤ x ∧ x ≤ 7 := by
  intro x hx
  obtain ⟨i, hi, rfl⟩ := List.getElem_of_mem hx
  have := h.1 i hi
  simpa [List.getD, hi] using this
theorem gok_mem {g : List Int} (h : GOk (fun i => g.getD i 0) g.length) : ∀ x ∈ g, 1 ≤ x ∧ x ≤ 100000 := by
  intro x hx
  obtain ⟨i, hi, rfl⟩ := List.getElem_of_mem hx
  have := (h.2 i hi).1
  simpa [List.getD, hi] using this

/-- A list, with how many there are ahead of it. -/
def lsq (l : List Int) : List Int := (l.length : Int) :: l
def pre (g : List Int) (L : Nat → List Int) : Nat → List Int
  | 0 => lsq g
  | k + 1 => pre g L k ++ lsq (L k)
def bi (b : Bool) : Int := bif b then 1 else 0
theorem bi_bd (b : Bool) : 0 ≤ bi b ∧ bi b ≤ 1 := by cases b <;> simp [bi]
def flg (fi ol he : Bool) : Int := bi fi + 2 * bi ol + 4 * bi he
def mseq (g : List Int) (L : Nat → List Int) (fi ol he : Bool) (la : Int) : List Int := pre g L 3 ++ [flg fi ol he, la]
def mtb (D : (p : Prop) → Decidable p) (g : List Int) (n : Nat) (L : Nat → List Int) (fi ol he : Bool) (la : Int) : List Int := @ite (List Int) (MtOk g n L ol he la) (D _) (nums (mseq g L fi ol he la)) []
theorem mtb_yes {g : List Int} {n : Nat} {L : Nat → List Int} {fi ol he : Bool} {la : Int} (h : MtOk g n L ol he la) : (mtb Classical.propDecidable) g n L fi ol he la = nums (mseq g L fi ol he la) := by unfold mtb; rw [if_pos h]
theorem mtb_no {g : List Int} {n : Nat} {L : Nat → List Int} {fi ol he : Bool} {la : Int} (h : ¬ MtOk g n L ol he la) : (mtb Classical.propDecidable) g n L fi ol he la = [] := by unfold mtb; rw [if_neg h]
theorem lsq_len (l : List Int) : (lsq l).length = l.length + 1 := by simp [lsq]
theorem pre_len {g : List Int} {L : Nat → List Int} (hg : g.length ≤ 12) (k : Nat) (hL : ∀ i, i < k → (L i).length ≤ 8) : (pre g L k).length ≤ 13 + 9 * k := by
  induction k with
  | zero => simp [pre, lsq_len]; omega
  | succ k ih => have := ih (fun i hi => hL i (by omega)); have := hL k (by omega); simp [pre, lsq_len]; omega
theorem mtok_g {g : List Int} {n : Nat} {L : Nat → List Int} {ol he : Bool} {la : Int} (h : MtOk g n L ol he la) : g.length ≤ 12 ∧ n = 3 ∧ (∀ i, i < 3 → (L i).length ≤ 8) ∧ (∀ x ∈ g, 1 ≤ x ∧ x ≤ 100000) ∧ (∀ i, i < 3 → ∀ x ∈ L i, 0 ≤ x ∧ x ≤ 7) ∧ 0 ≤ la ∧ la ≤ 200 := by
  obtain ⟨⟨h1, h2⟩, ⟨rfl, h3⟩, h4, h5⟩ := h
  exact ⟨h1.1, rfl, fun i hi => kok_len (h3 i hi), gok_mem h1, fun i hi => kok_mem (h3 i hi), h4⟩
theorem lsq_mem {l : List Int} {N : Int} (h : ∀ x ∈ l, 0 ≤ x ∧ x ≤ N) (hl : (l.length : Int) ≤ N) : ∀ x ∈ lsq l, 0 ≤ x ∧ x ≤ N := by
  intro x hx
  rcases List.mem_cons.1 hx with rfl | hx
  · omega
  · exact h x hx
theorem pre_mem {g : List Int} {L : Nat → List Int} (hl : g.length ≤ 12) (hg : ∀ x ∈ g, 1 ≤ x ∧ x ≤ 100000) (k : Nat) (hL : ∀ i, i < k → (L i).length ≤ 8) (hm : ∀ i, i < k → ∀ x ∈ L i, 0 ≤ x ∧ x ≤ 7) : ∀ x ∈ pre g L k, 0 ≤ x ∧ x ≤ 100000 := by
  induction k with
  | zero => exact lsq_mem (fun x hx => by have := hg x hx; omega) (by omega)
  | succ k ih =>
    intro x hx
    simp only [pre, List.mem_append] at hx
    rcases hx with hx | hx
    · exact ih (fun i hi => hL i (by omega)) (fun i hi => hm i (by omega)) x hx
    · exact lsq_mem (fun y hy => by have := hm k (by omega) y hy; omega) (by have := hL k (by omega); omega) x hx
theorem flg_bd (fi ol he : Bool) : 0 ≤ flg fi ol he ∧ flg fi ol he ≤ 7 := by cases fi <;> cases ol <;> cases he <;> simp [flg, bi]
theorem mseq_mem {g : List Int} {n : Nat} {L : Nat → List Int} {fi ol he : Bool} {la : Int} (h : MtOk g n L ol he la) : ∀ x ∈ mseq g L fi ol he la, 0 ≤ x ∧ x ≤ 2147483647 := by
  obtain ⟨h1, _, h2, h3, h4, h5⟩ := mtok_g h
  intro x hx
  simp only [mseq, List.mem_append] at hx
  rcases hx with hx | hx
  · have := pre_mem h1 h3 3 h2 h4 x hx; omega
  · have := flg_bd fi ol he
    simp at hx
    omega
theorem mtb_byte (g : List Int) (n : Nat) (L : Nat → List Int) (fi ol he : Bool) (la : Int) : ∀ z ∈ (mtb Classical.propDecidable) g n L fi ol he la, 0 ≤ z ∧ z ≤ 255 := by
  by_cases h : MtOk g n L ol he la
  · rw [mtb_yes h]; exact nums_byte _ (mseq_mem h)
  · rw [mtb_no h]; intro z hz; cases hz
theorem take_snoc' (l : List Int) (j : Nat) (h : j < l.length) : l.take (j + 1) = l.take j ++ [l.getD j 0] := by
  rw [List.take_add_one]; simp [List.getD, h]

theorem kgetD_mem (L : List Int) (i : Nat) (hi : i < L.length) : L.getD i 0 ∈ L := by simp [List.getD, hi]
/-- Bytes that a slice shows, somewhere. -/
theorem kstep_append {P : Program} {w : World} {ops : Array Oper} {o : Oper} {a : Act} {K : Act → World → Prop} {Q : Exit → Act → World → Prop} {E : Prop} (hgd : o.guard = none) (s x : Operand) (t : TypeId)
    (ho : o.op = .call { callee := .builtin .append, args := #[s, x], argTypes := #[t, t] })
    (base : Nat) (e : TypeId) (i : TypeInfo) (z : Value) (bytes : Nat) (ht : P.underlying t = some (.slice e)) (hi : P.info? e = some i) (hz : i.zero = some z)
    (hsize : i.size = 1) (hby : i.bytes = bytes) (hzs : z.cells.size = 1)
    (v : Value) (M : List Int) (hs : a.eval s = v) (hown : w.ownsRow base e 1 v M.length (M.map (.int .u8)))
    (L : List Int) (ad : Addr) (c : Nat) (hx : a.eval x = .slice (some ad) L.length c) (hsrc : ∀ j u, (L.map (Value.int .u8))[j]? = some u → w.cell? (ad.add j) = some u)
    (h63 : M.length + L.length ≤ maxLen) (hbytes : (M.length + L.length) * bytes ≤ 140737488355328) (hbase : base ≤ w.heap.size)
    (h : ∀ v' w', w'.ownsRow base e 1 v' (M ++ L).length ((M ++ L).map (.int .u8)) → w.grownBy w' v.ownBlock → K (a.put o.dst v') w') :
    if Region.wanted o (yielded ops a.tmps) = true then Oper.wp P o a w K Q else E := by
  have hw : Region.wanted o (yielded ops a.tmps) = true := by simp [Region.wanted, hgd]
  rw [if_pos hw]
  refine wp_append_own w s x t ho base e i z 1 bytes ht hi hz hsize hby hzs (by decide) v M.length (M.map (.int .u8)) hs hown ad L.length c (L.map (.int .u8)) hx (by simp) hsrc (gones _ _) h63 hbytes hbase ?_
  intro v' w' h1 h2 _
  exact h v' w' (by simpa using h1) h2
theorem bit_any (b : Bool) (w : World) : Calls Tryz.prog 161 #[.bool b] w fun e w' => e = .returned (.int .i64 (bi b)) ∧ w' = w := by
  cases b with
  | true => exact bit_yes w
  | false => exact bit_no w
end Go.Proofs.YtkndnndildnbpaaGreatDoor

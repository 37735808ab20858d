/- What is one, of the model. -/
import Derived.Test.YtjjdbdkbpmbniabGreatDoorGb

namespace Go.Proofs.YtjjdbdkbpmbniabGreatDoor
open Go.ChangeShapes Go.WideShapes Go.ChangeAt Go.RowKit
set_option linter.unusedVariables false
set_option linter.unusedSimpArgs false

set_option maxHeartbeats 4000000 in
set_option maxRecDepth 100000 in
theorem mtok_spec (go bo : Option Addr) (gc bc : Nat) (g : List Int) (n : Nat) (L : Nat → List Int) (fi ol he : Bool) (la : Int) (w : World) (hd : Bd g n L) (hv : MV w go gc bo bc g n L) :
    Calls Tryz.prog 21 #[.agg #[.slice go g.length gc, .slice bo n bc, .bool fi, .bool ol, .bool he, .int .i64 la]] w fun e w' => Tells w w' e (MtOk g n L ol he la) := by
  obtain ⟨hg, hn, hLn⟩ := hd
  obtain ⟨W, hW⟩ : ∃ W, W = w.alloc (.cells #[.slice go g.length gc, .slice bo n bc, .bool fi, .bool ol, .bool he, .int .i64 la] 34) := ⟨_, rfl⟩
  have hb : Below w.heap.size w W := by rw [hW]; exact (Below.refl _ _).alloc (Nat.le_refl _) _
  have hblk : W.heap[w.heap.size]? = some (.cells #[.slice go g.length gc, .slice bo n bc, .bool fi, .bool ol, .bool he, .int .i64 la] 34 (0, 0)) := by rw [hW]; exact Deep.blk_alloc_new _ _
  have c0 : W.cell? ⟨w.heap.size, 0, none⟩ = some (.slice go g.length gc) := mblk hblk rfl
  have c1 : W.cell? ⟨w.heap.size, 1, none⟩ = some (.slice bo n bc) := mblk hblk rfl
  have c3 : W.cell? ⟨w.heap.size, 3, none⟩ = some (.bool ol) := mblk hblk rfl
  have c4 : W.cell? ⟨w.heap.size, 4, none⟩ = some (.bool he) := mblk hblk rfl
  have c5 : W.cell? ⟨w.heap.size, 5, none⟩ = some (.int .i64 la) := mblk hblk rfl
  have HB : Hid (∀ q, Below w.heap.size w (W.drewN q)) := fun q => Below.drawn hb q
  have hv' := hv.below hb
  have HG : Hid (∀ q, SL .i64 (W.drewN q) go g.length (fun i => g.getD i 0)) := fun q => hv'.2.1
  have HV : Hid (∀ q, BV (W.drewN q) bo n L) := fun q => hv'.2.2
  have HL := hide hLn
  have hgc := hv.1.1
  clear hv hv' hLn hblk hb
  go_enter Tryz.func21, Tryz.ntmps21
  go_wp2
  rw [← hW]
  clear hW
  go_loopw [3] (fun i wr => ∃ k : Nat, k ≤ n ∧ i = .int .i64 k ∧ Hid (∀ j, j < k → KOk (L j)) ∧ ∃ q, wr = W.drewN q) (fun i _ => n - (intOf i).toNat)
  case atStart => exact ⟨0, by omega, rfl, (fun j hj => absurd hj (by omega)), 0, rfl⟩
  case round =>
    obtain ⟨k, hk, rfl, A, q, rfl⟩ := hrel
    by_cases hlt : k < n
    · obtain ⟨b, off, ro, rc, rfl, hc, hrc, hsl⟩ := HV.out q k hlt
      have hcall := hide (marks_spec ro rc (L k) (W.drewN q) (HL.out k hlt) hsl)
      clear hsl hrc
      go_wp2_with fail
      refine hcall.out.mono ?_
      rintro e w1 ⟨h1, q1, rfl⟩
      clear hcall
      rcases h1 with ⟨hok, rfl⟩ | ⟨hok, rfl⟩
      · have HK := hide hok
        clear hok
        go_wp2
        go_roundw
        case rel =>
          refine ⟨k + 1, by omega, by go_num, fun j hj => ?_, _, rfl⟩
          by_cases e : j = k
          · subst e; exact HK.out
          · exact A.out j (by omega)
        case measure => simp [intOf]; omega
      · have HK : Hid (¬ MtOk g n L ol he la) := fun x => hok (x.2.1.2 k hlt)
        clear hok
        go_wp2
        go_ret
        exact Tells.no HK.out (HB.out _)
    · obtain rfl : k = n := by omega
      by_cases h1 : GOk (fun i => g.getD i 0) g.length
      · by_cases h2 : 0 < g.length
        · by_cases h3 : k = 3
          · have d3 : decide ((k : Int) = 3) = true := by simp; omega
            have d2 : decide ((0 : Int) < (g.length : Int)) = true := by simp; omega
            by_cases h4 : 0 ≤ la ∧ la ≤ 200
            · have HA : Hid (¬ (ol = true ∧ he = true) → MtOk g k L ol he la) := fun x => ⟨⟨h1, h2⟩, ⟨h3, A.out⟩, h4, x⟩
              have HN : Hid ((ol = true ∧ he = true) → ¬ MtOk g k L ol he la) := fun x y => y.2.2.2 x
              cases ol with
              | false =>
                go_wp2_with (first
                  | (go_at_call 41; refine (gens_yes _ _ _ _ _ hg hgc (HG.out _) h1).mono ?_; rintro e9 w9 ⟨rfl, q9, hw9⟩; rw [hw9]; clear hw9)
                  | (go_at_call 42; refine (in_yes _ _ _ _ h4.1 h4.2).mono ?_; rintro e9 w9 ⟨rfl, hw9⟩; rw [hw9]; clear hw9)
                  | fail)
                go_ret
                simp only [World.drewN_drewN]
                exact Tells.yes (HA.out (by simp)) (HB.out _)
              | true =>
                cases he with
                | false =>
                  go_wp2_with (first
                    | (go_at_call 41; refine (gens_yes _ _ _ _ _ hg hgc (HG.out _) h1).mono ?_; rintro e9 w9 ⟨rfl, q9, hw9⟩; rw [hw9]; clear hw9)
                    | (go_at_call 42; refine (in_yes _ _ _ _ h4.1 h4.2).mono ?_; rintro e9 w9 ⟨rfl, hw9⟩; rw [hw9]; clear hw9)
                    | fail)
                  go_ret
                  simp only [World.drewN_drewN]
                  exact Tells.yes (HA.out (by simp)) (HB.out _)
                | true =>
                  go_wp2_with (first
                    | (go_at_call 41; refine (gens_yes _ _ _ _ _ hg hgc (HG.out _) h1).mono ?_; rintro e9 w9 ⟨rfl, q9, hw9⟩; rw [hw9]; clear hw9)
                    | (go_at_call 42; refine (in_yes _ _ _ _ h4.1 h4.2).mono ?_; rintro e9 w9 ⟨rfl, hw9⟩; rw [hw9]; clear hw9)
                    | fail)
                  go_ret
                  simp only [World.drewN_drewN]
                  exact Tells.no (HN.out (by simp)) (HB.out _)
            · have h4' : la < 0 ∨ 200 < la := by omega
              have HN : Hid (¬ MtOk g k L ol he la) := fun x => h4 x.2.2.1
              clear h4
              go_wp2_with (first
                | (go_at_call 41; refine (gens_yes _ _ _ _ _ hg hgc (HG.out _) h1).mono ?_; rintro e9 w9 ⟨rfl, q9, hw9⟩; rw [hw9]; clear hw9)
                | (go_at_call 42; refine (in_no _ _ _ _ h4').mono ?_; rintro e9 w9 ⟨rfl, hw9⟩; rw [hw9]; clear hw9)
                | fail)
              go_ret
              simp only [World.drewN_drewN]
              exact Tells.no (HN.out) (HB.out _)
          · have d3 : decide ((k : Int) = 3) = false := by simp; omega
            have d3' : ((k : Int) == 3) = false := by simp; omega
            have d2 : decide ((0 : Int) < (g.length : Int)) = true := by simp; omega
            have HN : Hid (¬ MtOk g k L ol he la) := fun x => h3 x.2.1.1
            go_wp2_with (first
              | (go_at_call 41; refine (gens_yes _ _ _ _ _ hg hgc (HG.out _) h1).mono ?_; rintro e9 w9 ⟨rfl, q9, hw9⟩; rw [hw9]; clear hw9)
              | fail)
            go_ret
            simp only [World.drewN_drewN]
            exact Tells.no (HN.out) (HB.out _)
        · have d2 : decide ((0 : Int) < (g.length : Int)) = false := decide_eq_false (by omega)
          have HN : Hid (¬ MtOk g k L ol he la) := fun x => h2 x.1.2
          go_wp2_with (first
            | (go_at_call 41; refine (gens_yes _ _ _ _ _ hg hgc (HG.out _) h1).mono ?_; rintro e9 w9 ⟨rfl, q9, hw9⟩; rw [hw9]; clear hw9)
            | fail)
          go_ret
          simp only [World.drewN_drewN]
          exact Tells.no (HN.out) (HB.out _)
      · have HN : Hid (¬ MtOk g k L ol he la) := fun x => h1 x.1.1
        go_wp2_with (first
          | (go_at_call 41; refine (gens_no _ _ _ _ _ hg hgc (HG.out _) h1).mono ?_; rintro e9 w9 ⟨rfl, q9, hw9⟩; rw [hw9]; clear hw9)
          | fail)
        go_ret
        simp only [World.drewN_drewN]
        exact Tells.no (HN.out) (HB.out _)
end Go.Proofs.YtjjdbdkbpmbniabGreatDoor

/- What is known, as the laws hand it on. -/
import Derived.Test.YtkeojhnifnkpiabMtR
namespace Go.Proofs.Ytkeojhnifnkpiab
open Go.ChangeShapes Go.WideShapes Go.ChangeAt Go.RowKit
set_option linter.unusedVariables false
set_option linter.unusedSimpArgs false
set_option maxRecDepth 100000

/-- How much is left, or that it is too much. -/
def Sz (tot x : Int) (e : Ending) : Prop := (tot ≤ x ∧ e = .returned (.int .i64 (x - tot))) ∨ e = .returned (.int .i64 (-1))
theorem Sz.yes {tot x y : Int} (h : tot ≤ x) (hy : y = x - tot) : Sz tot x (.returned (.int .i64 y)) := .inl ⟨h, by rw [hy]⟩
theorem Sz.no {tot x : Int} : Sz tot x (.returned (.int .i64 (-1))) := .inr rfl

theorem szis_any (ao : Option Addr) (n cap : Nat) (x : Int) (w : World) (hn : n ≤ 9223372036854775807) (h0 : 0 ≤ x) (h1 : x ≤ 1048576) :
    Calls Try.prog 9 #[.slice ao n cap, .int .i64 x] w fun e w' => Sz n x e ∧ w' = w := by
  by_cases h : (n : Int) ≤ x
  · have hd : ¬ x - (n : Int) < 0 := by omega
    go_enter Try.func9, Try.ntmps9
    go_wp2
    go_ret
    exact ⟨Sz.yes h rfl, rfl⟩
  · have hd : x - (n : Int) < 0 := by omega
    go_enter Try.func9, Try.ntmps9
    go_wp2
    go_ret
    exact ⟨Sz.no, rfl⟩

theorem szss_any (bo : Option Addr) (n bc : Nat) (L : Nat → List Int) (x : Int) (w : World) (hn : n ≤ 9223372036854775807) (hL : ∀ i, i < n → (L i).length ≤ 9223372036854775807) (h0 : 0 ≤ x) (h1 : x ≤ 1048576) (hv : BV w bo n L) :
    Calls Try.prog 10 #[.slice bo n bc, .int .i64 x] w fun e w' => Sz (n + psum L n) x e ∧ w' = w := by
  have HV := hide hv
  have HL := hide hL
  clear hv hL
  by_cases h : (n : Int) ≤ x
  · have hd : ¬ x - (n : Int) < 0 := by omega
    go_enter Try.func10, Try.ntmps10
    go_wp2
    go_loop [1, 5] (fun y i => ∃ k : Nat, k ≤ n ∧ i = .int .i64 k ∧ y = .int .i64 (x - n - psum L k) ∧ (n : Int) + psum L k ≤ x) (fun _ i => n - (intOf i).toNat)
    case atStart => exact ⟨0, by omega, rfl, by simp [psum], by simpa [psum] using h⟩
    case round =>
      obtain ⟨k, hk, rfl, rfl, hle⟩ := hrel
      by_cases hlt : k < n
      · obtain ⟨b, off, ro, rc, rfl, hc, hrc, hsl⟩ := HV.out k hlt
        have E : Hid (psum L (k + 1) = psum L k + (L k).length) := rfl
        have hcall := hide (szis_any ro (L k).length rc (x - n - psum L k) w (HL.out k hlt) (by omega) (by omega))
        clear hsl hrc
        generalize (L k).length = l at *
        generalize psum L k = p at *
        go_wp2_with fail
        refine hcall.out.mono ?_
        rintro e w1 ⟨h2, hw⟩
        rw [hw]
        clear hcall hw
        rcases h2 with ⟨h3, rfl⟩ | rfl
        · have hd2 : ¬ x - (n : Int) - (p : Int) - (l : Int) < 0 := by omega
          go_wp2
          go_round
          case rel => exact ⟨k + 1, by omega, by go_num, by rw [E.out]; congr 1; omega, by rw [E.out]; omega⟩
          case measure => simp [intOf]; omega
        · go_wp2
          go_ret
          exact ⟨Sz.no, rfl⟩
      · obtain rfl : k = n := by omega
        go_wp2
        go_ret
        exact ⟨Sz.yes hle (by omega), rfl⟩
  · have hd : x - (n : Int) < 0 := by omega
    go_enter Try.func10, Try.ntmps10
    go_wp2
    go_ret
    exact ⟨Sz.no, rfl⟩

/-- How much there is of it. -/
theorem szm_any (go bo : Option Addr) (gc bc : Nat) (g : List Int) (n : Nat) (L : Nat → List Int) (fi ol he : Bool) (la x : Int) (w : World) (hg : g.length ≤ 9223372036854775807) (hn : n ≤ 9223372036854775807) (hL : ∀ i, i < n → (L i).length ≤ 9223372036854775807) (h0 : 0 ≤ x) (h1 : x ≤ 1048576) (hv : MV w go gc bo bc g n L) :
    Calls Try.prog 4 #[.agg #[.slice go g.length gc, .slice bo n bc, .bool fi, .bool ol, .bool he, .int .i64 la], .int .i64 x] w fun e w' => Sz (g.length + (n + psum L n)) x e ∧ Below w.heap.size w w' := by
  have hb : Below w.heap.size w (w.alloc (.cells #[.slice go g.length gc, .slice bo n bc, .bool fi, .bool ol, .bool he, .int .i64 la] 25)) := (Below.refl _ _).alloc (Nat.le_refl _) _
  have hcG := hide (szis_any go g.length gc x (w.alloc (.cells #[.slice go g.length gc, .slice bo n bc, .bool fi, .bool ol, .bool he, .int .i64 la] 25)) hg h0 h1)
  have hcB : Hid (∀ y : Int, 0 ≤ y → y ≤ 1048576 → _) := fun y y0 y1 => szss_any bo n bc L y (w.alloc (.cells #[.slice go g.length gc, .slice bo n bc, .bool fi, .bool ol, .bool he, .int .i64 la] 25)) hn hL y0 y1 (hv.2.2.below hb)
  have HB := hide hb
  clear hv hb hL
  generalize psum L n = p at *
  go_enter Try.func4, Try.ntmps4
  go_wp2_with fail
  refine hcG.out.mono ?_
  rintro e w1 ⟨h2, hw⟩
  rw [hw]
  clear hw hcG
  rcases h2 with ⟨h3, rfl⟩ | rfl
  · have hd : ¬ x - (g.length : Int) < 0 := by omega
    go_wp2_with fail
    refine (hcB.out (x - (g.length : Int)) (by omega) (by omega)).mono ?_
    rintro e w1 ⟨h2, hw⟩
    rw [hw]
    clear hw hcB
    rcases h2 with ⟨h4, rfl⟩ | rfl
    · have hd : ¬ x - (g.length : Int) - (n + p) < 0 := by omega
      go_wp2
      go_ret
      exact ⟨Sz.yes (by omega) (by omega), HB.out⟩
    · go_wp2
      go_ret
      exact ⟨Sz.no, HB.out⟩
  · go_wp2
    go_ret
    exact ⟨Sz.no, HB.out⟩
end Go.Proofs.Ytkeojhnifnkpiab

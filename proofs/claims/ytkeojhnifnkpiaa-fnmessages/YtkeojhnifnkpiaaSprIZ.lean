/- Spread of the program. -/
import Derived.Test.YtkeojhnifnkpiaaSqzIZ
import Derived.Test.YtkeojhnifnkpiaaSprSZ
import Derived.Deep.RegionHeld3

namespace Go.Proofs.Ytkeojhnifnkpiaa
open Go.ChangeShapes Go.WideShapes Go.ChangeAt Go.RowKit
set_option linter.unusedVariables false
set_option linter.unusedSimpArgs false
set_option maxRecDepth 100000

/-- What is too long is none. -/
def fin3 (o : Option (List Int)) : Option (List Int) :=
  match o with
  | none => none
  | some out => if 3000 < out.length then none else some out
theorem spread_fin (L : List Int) : spread L = fin3 (spr L []) := rfl
theorem fin_over (R out : List Int) (h : 3000 < out.length) : fin3 (spr R out) = none := by
  induction R, out using spr.induct with
  | case1 out => rw [spr]; exact if_pos h
  | case2 d out hd => rw [spr, if_pos hd]; exact if_pos (by simp; omega)
  | case3 d out hd => rw [spr, if_neg hd]; rfl
  | case4 d e r out hd ih => rw [spr, if_pos hd]; exact ih (by simp; omega)
  | case5 e r out he hd => rw [spr, if_neg hd, if_pos rfl, if_pos he]; rfl
  | case6 e r out he hd ih => rw [spr, if_neg hd, if_pos rfl, if_neg he]; exact ih (by simp; omega)
  | case7 d e r out hd hd0 hr hl => rw [spr, if_neg hd, if_neg hd0, if_pos hr, if_pos hl]; rfl
  | case8 d e r out hd hd0 hr hl ih => rw [spr, if_neg hd, if_neg hd0, if_pos hr, if_neg hl]; exact ih (by rw [rep_len]; omega)
  | case9 d e r out hd hd0 hr => rw [spr, if_neg hd, if_neg hd0, if_neg hr]; rfl

/-- What two bytes tell, behind out. -/
def tell (out : List Int) (d e : Int) : Option (List Int) :=
  if d = 0 then (if e ≠ 0 ∧ e < 128 then none else some (out ++ [e]))
  else if 131 ≤ d ∧ d ≤ 228 ∧ 1 ≤ e ∧ e ≤ out.length then some (rep out e.toNat (d - 128).toNat) else none
theorem fin_pair (d e : Int) (R out : List Int) (hd : ¬ (1 ≤ d ∧ d ≤ 127)) : fin3 (spr (d :: e :: R) out) = match tell out d e with | none => none | some M => fin3 (spr R M) := by
  unfold tell
  rw [spr, if_neg hd]
  by_cases h0 : d = 0
  · rw [if_pos h0, if_pos h0]
    by_cases he : e ≠ 0 ∧ e < 128
    · rw [if_pos he, if_pos he]; rfl
    · rw [if_neg he, if_neg he]
  · rw [if_neg h0, if_neg h0]
    by_cases hr : 131 ≤ d ∧ d ≤ 228 ∧ 1 ≤ e ∧ e ≤ out.length
    · rw [if_pos hr, if_pos hr]
      by_cases hl : 3000 < (rep out e.toNat (d - 128).toNat).length
      · rw [if_pos hl]; exact (fin_over _ _ hl).symm
      · rw [if_neg hl]
    · rw [if_neg hr, if_neg hr]; rfl
theorem tell_len (out M : List Int) (d e : Int) (h : tell out d e = some M) : M.length ≤ out.length + 100 := by
  unfold tell at h
  split at h
  · split at h
    · cases h
    · cases h; simp
  · split at h
    · next hr => cases h; rw [rep_len]; omega
    · cases h

theorem SpOut.none' {w w' : World} {L : List Int} {ro : Option Addr} (e : spread L = none) (hb : Below w.heap.size w w') : SpOut w w' L (.returned (.tuple #[.slice ro 0 0, .bool false])) := by
  unfold SpOut
  rw [e]
  exact ⟨⟨ro, 0, rfl, .inl rfl, Nat.le_refl _⟩, hb⟩
theorem SpOut.some' {w w' : World} {L M : List Int} {v : Value} {r : Nat} (e : spread L = some M) (hr : M.length = r) (ho : w'.ownsRow w.heap.size 5 1 v r (M.map (.int .u8))) (hb : Below w.heap.size w w') : SpOut w w' L (.returned (.tuple #[v, .bool true])) := by
  subst hr
  obtain ⟨ro, rc, rfl, hlc, hO⟩ := Own.of_owns ho
  unfold SpOut
  rw [e]
  exact ⟨⟨ro, rc, rfl, hO, hlc.2.1⟩, hb⟩

theorem tell_run_no (v : Option Addr) (r vc : Nat) (D E : Int) (w : World) (h : ¬ (3 ≤ D ∧ D ≤ 100 ∧ 1 ≤ E ∧ E ≤ r)) :
    Calls Try.prog 144 #[.slice v r vc, .int .i64 D, .int .i64 E] w fun e w' => e = .returned (.tuple #[.slice none 0 0, .bool false]) ∧ w' = w := by
  by_cases h1 : D < 3
  · go_enter Try.func144, Try.ntmps144
    go_wp2
    go_ret2
    exact ⟨rfl, rfl⟩
  · by_cases h2 : 100 < D
    · go_enter Try.func144, Try.ntmps144
      go_wp2
      go_ret2
      exact ⟨rfl, rfl⟩
    · by_cases h3 : E < 1
      · go_enter Try.func144, Try.ntmps144
        go_wp2
        go_ret2
        exact ⟨rfl, rfl⟩
      · have h4 : (r : Int) < E := by omega
        clear h
        go_enter Try.func144, Try.ntmps144
        go_wp2
        go_ret2
        exact ⟨rfl, rfl⟩

theorem tell_run_yes (B : Nat) (w0 : World) (v : Value) (r D E : Nat) (L : List Int) (w : World) (hr : r ≤ 4000) (hL : L.length = r) (h1 : 3 ≤ D) (h2 : D ≤ 100) (h3 : 1 ≤ E) (h4 : E ≤ r)
    (hown : w.ownsRow B 5 1 v r (L.map (.int .u8))) (hbel : Below B w0 w) (hB : B ≤ w0.heap.size) :
    Calls Try.prog 144 #[v, .int .i64 (D : Int), .int .i64 (E : Int)] w fun e w' => ∃ v', e = .returned (.tuple #[v', .bool true]) ∧ w'.ownsRow B 5 1 v' (r + D) ((rep L E D).map (.int .u8)) ∧ Below B w0 w' := by
  obtain ⟨i0, hi, hz0, hz1, hz2⟩ := info_parts Try.info5
  obtain ⟨vo, vc, rfl, hlr, _⟩ := Own.of_owns hown
  have hvc : r ≤ vc := hlr.2.1
  have g1 : ¬ (D : Int) < 3 := by omega
  have g2 : ¬ 100 < (D : Int) := by omega
  have g3 : ¬ (E : Int) < 1 := by omega
  have g4 : ¬ (r : Int) < (E : Int) := by omega
  have hHL := hide hL
  clear hlr hL
  go_enter Try.func144, Try.ntmps144
  go_wp2
  clear g1 g2 g3 g4
  go_loopw [0, 25] (fun v k wi => ∃ (j r' : Nat), j ≤ D ∧ Hid (r' = r + j) ∧ k = .int .i64 j ∧ wi.ownsRow B 5 1 v r' ((rep L E j).map (.int .u8)) ∧ Below B w0 wi) (fun _ k _ => D - (intOf k).toNat)
  case atStart => exact ⟨0, r, by omega, rfl, rfl, hown, hbel⟩
  case round =>
    clear hown hbel hvc
    obtain ⟨j, r', hj, hr', rfl, hown2, hbel2⟩ := hrel
    obtain ⟨vo2, vc2, rfl, hlr, hO⟩ := Own.of_owns hown2
    have hvc2 : r' ≤ vc2 := hlr.2.1
    clear hlr
    have hrr : r' = r + j := hr'.out
    by_cases hjD : j < D
    · obtain ⟨g, rfl, hgB, hgw, hcg, _⟩ := hO.at (i := r' - E) (by omega)
      have t1 : ((r' : Int) - (E : Int)).toNat = r' - E := by omega
      have t2 : (0 : Int) ≤ (r' : Int) - (E : Int) := by omega
      have t3 : (r' : Int) - (E : Int) < (r' : Int) := by omega
      generalize hz : (rep L E j).getD (r' - E) 0 = z at *
      have HZ := hide hz
      have hbd : r' ≤ 4100 := by omega
      clear hz hrr hO
      go_wp2_with (first
        | (at_builtin; refine wpList_append_own _ rfl _ _ 22 rfl B 5 i0 (.int .u8 0) 1 1 Try.underlying22 hi hz0 hz1 hz2 rfl (by decide) _ _ _ rfl (hown2.alloc _) ⟨wr.heap.size, 0, none⟩ 1 1 ([z].map (.int .u8)) rfl rfl (gcells _ _ _) (gones _ _) (glens (by omega)) (by omega) (by have := hbel2.size; simp; omega) ?_; intro v' w3 hown' hgrow hnn))
      have R := hide (gpush (M := [z]) hbel2 (Nat.le_trans hB hbel2.size) hown2 hown' hgrow)
      clear hown' hgrow hnn hown2 hbel2
      go_wp2
      go_roundw
      case rel => exact ⟨j + 1, r' + 1, by omega, (show _ = _ by have := hr'.out; omega), by go_num, by rw [rep, rep_len, hHL.out, ← hr'.out, HZ.out]; exact R.out.1, R.out.2⟩
      case measure => simp [intOf]; omega
    · obtain rfl : j = D := by omega
      have e : r' = r + j := hr'.out
      subst e
      have R := hide (And.intro hown2 hbel2)
      clear hown2 hbel2 hO hrr
      go_wp2
      go_ret2
      exact ⟨_, rfl, R.out.1, R.out.2⟩

theorem tell_pair (B : Nat) (w0 : World) (vo : Option Addr) (vc r : Nat) (d e : Int) (L : List Int) (w : World) (hr : r ≤ 4000) (hL : L.length = r) (hd : 0 ≤ d ∧ d ≤ 255) (he : 0 ≤ e ∧ e ≤ 255)
    (hown : w.ownsRow B 5 1 (.slice vo r vc) r (L.map (.int .u8))) (hbel : Below B w0 w) (hB : B ≤ w0.heap.size) :
    Calls Try.prog 133 #[.slice vo r vc, .int .u8 d, .int .u8 e] w fun o w' => (∃ v', o = .returned (.tuple #[v', .bool (tell L d e).isSome]) ∧ ∀ M, tell L d e = some M → w'.ownsRow B 5 1 v' M.length (M.map (.int .u8))) ∧ Below B w0 w' := by
  obtain ⟨i0, hi, hz0, hz1, hz2⟩ := info_parts Try.info5
  by_cases hd0 : d = 0
  · subst hd0
    by_cases hst : 1 ≤ e ∧ e ≤ 127
    · have ht : tell L 0 e = none := by unfold tell; rw [if_pos rfl, if_pos ⟨by omega, by omega⟩]
      rw [ht]
      clear hL hd he ht
      go_enter Try.func133, Try.ntmps133
      go_wp2_with (first
        | (go_at_call 132; refine (stands_yes _ _ hst).mono ?_; rintro e9 w9 ⟨rfl, hw9⟩; rw [hw9]; clear hw9)
        | (at_builtin; refine wpList_append_own _ rfl _ _ 22 rfl B 5 i0 (.int .u8 0) 1 1 Try.underlying22 hi hz0 hz1 hz2 rfl (by decide) _ _ _ rfl (hown.alloc _) ⟨w.heap.size, 0, none⟩ 1 1 ([e].map (.int .u8)) rfl rfl (gcells _ _ _) (gones _ _) (glens (by omega)) (by omega) (by have := hbel.size; simp; omega) ?_; intro v' w3 hown' hgrow hnn))
      have R := hide (gpush (M := [e]) hbel (Nat.le_trans hB hbel.size) hown hown' hgrow)
      clear hown' hgrow hnn hown hbel
      go_wp2
      go_ret2
      exact ⟨⟨_, rfl, fun M h => by cases h⟩, R.out.2⟩
    · have hno : e = 0 ∨ 127 < e := by omega
      have ht : tell L 0 e = some (L ++ [e]) := by unfold tell; rw [if_pos rfl, if_neg (by omega)]
      rw [ht]
      have HL := hide hL
      clear hL hd he ht hst
      go_enter Try.func133, Try.ntmps133
      go_wp2_with (first
        | (go_at_call 132; refine (stands_no _ _ hno).mono ?_; rintro e9 w9 ⟨rfl, hw9⟩; rw [hw9]; clear hw9)
        | (at_builtin; refine wpList_append_own _ rfl _ _ 22 rfl B 5 i0 (.int .u8 0) 1 1 Try.underlying22 hi hz0 hz1 hz2 rfl (by decide) _ _ _ rfl (hown.alloc _) ⟨w.heap.size, 0, none⟩ 1 1 ([e].map (.int .u8)) rfl rfl (gcells _ _ _) (gones _ _) (glens (by omega)) (by omega) (by have := hbel.size; simp; omega) ?_; intro v' w3 hown' hgrow hnn))
      have R := hide (gpush (M := [e]) hbel (Nat.le_trans hB hbel.size) hown hown' hgrow)
      clear hown' hgrow hnn hown hbel
      go_wp2
      go_ret2
      refine ⟨⟨_, rfl, fun M h => ?_⟩, R.out.2⟩
      cases h
      have e1 : (L ++ [e]).length = r + 1 := by simp [HL.out]
      rw [e1]
      exact R.out.1
  · have hd1 : decide (d = 0) = false := by simpa using hd0
    have hdw : IntKind.i64.wrap d = d := by rw [IntKind.wrap_i64]; omega
    by_cases hrun : 131 ≤ d ∧ d ≤ 228 ∧ 1 ≤ e ∧ e ≤ (r : Int)
    · have ht : tell L d e = some (rep L e.toNat (d - 128).toNat) := by unfold tell; rw [if_neg hd0, if_pos (by rw [hL]; exact hrun)]
      rw [ht]
      obtain ⟨D, hD⟩ : ∃ D : Nat, d = 128 + (D : Int) := ⟨(d - 128).toNat, by omega⟩
      obtain ⟨E, rfl⟩ : ∃ E : Nat, e = (E : Int) := ⟨e.toNat, by omega⟩
      subst hD
      have hcall := hide (tell_run_yes B w0 (.slice vo r vc) r D E L w hr hL (by omega) (by omega) (by omega) (by omega) hown hbel hB)
      have hsub : (128 : Int) + (D : Int) - 128 = (D : Int) := by omega
      have htn : ((128 : Int) + (D : Int) - 128).toNat = D := by omega
      have htn2 : ((E : Int)).toNat = E := by omega
      rw [htn, htn2]
      have HL := hide hL
      clear hL ht hown hbel htn htn2 hd0
      go_enter Try.func133, Try.ntmps133
      go_wp2_with fail
      refine hcall.out.mono ?_
      rintro o w2 ⟨v2, rfl, ho2, hb2⟩
      have R := hide (And.intro ho2 hb2)
      clear ho2 hb2 hcall
      go_wp2
      go_ret2
      refine ⟨⟨_, rfl, fun M h => ?_⟩, R.out.2⟩
      cases h
      rw [rep_len, HL.out]
      exact R.out.1
    · have ht : tell L d e = none := by unfold tell; rw [if_neg hd0, if_neg (by rw [hL]; exact hrun)]
      rw [ht]
      have hcall := hide (tell_run_no vo r vc (d - 128) e w (by omega))
      clear hL ht hrun
      go_enter Try.func133, Try.ntmps133
      go_wp2_with fail
      refine hcall.out.mono ?_
      rintro o w2 ⟨rfl, hw2⟩
      rw [hw2]
      clear hw2 hcall
      go_wp2
      go_ret2
      exact ⟨⟨_, rfl, fun M h => by cases h⟩, hbel⟩
theorem lit59 (a' : Act) (h : a'.tmps.size = 59) (hd : a'.defers = []) : ∃ u : Nat → Value, a' = { tmps := #[u 0, u 1, u 2, u 3, u 4, u 5, u 6, u 7, u 8, u 9, u 10, u 11, u 12, u 13, u 14, u 15, u 16, u 17, u 18, u 19, u 20, u 21, u 22, u 23, u 24, u 25, u 26, u 27, u 28, u 29, u 30, u 31, u 32, u 33, u 34, u 35, u 36, u 37, u 38, u 39, u 40, u 41, u 42, u 43, u 44, u 45, u 46, u 47, u 48, u 49, u 50, u 51, u 52, u 53, u 54, u 55, u 56, u 57, u 58], defers := [] } := by
  refine ⟨fun i => a'.tmps.getD i undef, ?_⟩
  have e := act_lit a' hd
  rw [h] at e
  exact e

/-- What holds at the label. -/
def SpJ (ao : Option Addr) (n cap : Nat) (f : Nat → Int) (w : World) (a' : Act) (wr : World) : Prop :=
  a'.tmps.size = 59 ∧ a'.defers = [] ∧ a'.tmps[0]? = some (.slice ao n cap) ∧
  ∃ (a r : Nat) (L : List Int) (v : Value), a'.tmps[4]? = some v ∧ a'.tmps[5]? = some (.int .i64 (a : Int)) ∧ a ≤ n ∧ r ≤ 3100 ∧ (fin3 (spr ((bl f n).drop a) L) = spread (bl f n) ∧ L.length = r) ∧ wr.ownsRow w.heap.size 5 1 v r (L.map (.int .u8)) ∧ Below w.heap.size w wr

set_option maxRecDepth 100000 in
theorem spread_impl (ao : Option Addr) (n cap : Nat) (f : Nat → Int) (w : World) (hn : n ≤ 1048576) (hs : SL .u8 w ao n f) (hf : ∀ i, i < n → 0 ≤ f i ∧ f i ≤ 255) :
    Calls Try.prog 90 #[.slice ao n cap] w fun e w' => SpOut w w' (bl f n) e := by
  obtain ⟨i0, hi, hz0, hz1, hz2⟩ := info_parts Try.info5
  have HS := hide hs
  have HF := hide hf
  clear hs hf
  go_enter Try.func90, Try.ntmps90
  go_wp2
  refine wp_scope_back 0 (SpJ ao n cap f w) (fun a' _ => n - (intOf (a'.tmps.getD 5 undef)).toNat) rfl ?pass ?first
  case first =>
    intro hp
    have HP := hide hp
    clear hp
    go_wp2
    go_step3
    rename_i hK
    apply hK
    exact HP.out _ _ ⟨rfl, rfl, rfl, 0, 0, [], _, rfl, rfl, by omega, by omega, ⟨rfl, rfl⟩, gnil, Below.refl _ _⟩
  case pass =>
    rintro a' wp0 k0 ⟨hsz, hdf, h0, a0, r0, L0, v0, h4', h5', ha0, hr0, hL0, hown0, hbel0⟩ hk0
    obtain ⟨u, rfl⟩ := lit59 a' hsz hdf
    have e0 : u 0 = _ := Option.some.inj h0
    have e4 : u 4 = _ := Option.some.inj h4'
    have e5 : u 5 = _ := Option.some.inj h5'
    clear hsz hdf h0 h4' h5'
    have HL0 := hide hL0
    clear hL0
    have hk : n - a0 = k0 := by rw [← hk0]; show _ = n - (intOf (u 5)).toNat; rw [e5]; simp [intOf]
    rw [e0, e4, e5]
    clear e0 e4 e5 hk0
    go_wp2
    go_loopw [4, 5, 6, 7] (fun v i _ _ wr => ∃ (a r : Nat) (L : List Int), a0 ≤ a ∧ a ≤ n ∧ r ≤ 3100 ∧ i = .int .i64 a ∧ Hid (fin3 (spr ((bl f n).drop a) L) = spread (bl f n) ∧ L.length = r) ∧ wr.ownsRow w.heap.size 5 1 v r (L.map (.int .u8)) ∧ Below w.heap.size w wr) (fun _ i _ _ _ => n - (intOf i).toNat)
    case atStart => exact ⟨a0, r0, L0, by omega, ha0, hr0, rfl, HL0, hown0, hbel0⟩
    case round =>
      clear hown0 hbel0 HL0 hr0
      obtain ⟨a, r, L, hga, han, hra, rfl, hL, hown, hbel⟩ := hrel
      obtain ⟨vo, vc, rfl, hlr, hO⟩ := Own.of_owns hown
      have hvc : r ≤ vc := hlr.2.1
      clear hlr hO
      by_cases hr3 : 3000 < r
      · have hnone := hide (show spread (bl f n) = none by rw [← hL.out.1]; exact fin_over _ _ (by rw [hL.out.2]; exact hr3))
        have g3 : ¬ (r : Int) ≤ 3000 := by omega
        have g4 : (3000 : Int) < (r : Int) := by omega
        have HB := hide hbel
        clear hown hbel
        by_cases hlt : a < n
        · go_wp2
          simp only [Exit.jump]
          go_ret2
          exact SpOut.none' hnone.out HB.out
        · obtain rfl : a = n := by omega
          go_wp2
          simp only [Exit.jump]
          go_ret2
          exact SpOut.none' hnone.out HB.out
      · have g3 : (r : Int) ≤ 3000 := by omega
        have g4 : ¬ (3000 : Int) < (r : Int) := by omega
        by_cases hlt : a < n
        · obtain ⟨b, off, rfl, hb, hc0⟩ := HS.out a hlt
          have hy := HF.out a hlt
          have hc := (hbel.cell (p := ⟨b, off + a, none⟩) hb).trans hc0
          have hdr := hide (bl_drop f n a hlt)
          clear hc0
          by_cases h1 : 1 ≤ f a ∧ f a ≤ 127
          · generalize hd : f a = d at *
            have HD := hide hd
            clear hd
            go_wp2_with (first
              | (go_at_call 132; refine (stands_yes _ _ h1).mono ?_; rintro e w9 ⟨rfl, hw9⟩; rw [hw9]; clear hw9)
              | (at_builtin; refine wpList_append_own _ rfl _ _ 22 rfl w.heap.size 5 i0 (.int .u8 0) 1 1 Try.underlying22 hi hz0 hz1 hz2 rfl (by decide) _ _ _ rfl (hown.alloc _) ⟨wr.heap.size, 0, none⟩ 1 1 ([d].map (.int .u8)) rfl rfl (gcells _ _ _) (gones _ _) (glens (by omega)) (by omega) (by have := hbel.size; simp; omega) ?_; intro v' w3 hown' hgrow hnn))
            have R := hide (gpush (M := [d]) hbel hbel.size hown hown' hgrow)
            clear hown' hgrow hnn hown hbel
            go_wp2
            go_step3
            have hal : (a : Int) + 1 = ((a + 1 : Nat) : Int) := by omega
            rw [hal]
            refine ⟨rfl, ⟨rfl, rfl, rfl, a + 1, r + 1, L ++ [d], v', rfl, rfl, hlt, by omega, ⟨by rw [← hL.out.1, hdr.out, spr_one _ _ _ h1], by simp [hL.out.2]⟩, R.out.1, R.out.2⟩, ?_⟩
            simp [intOf]
            omega
          · have hno : f a = 0 ∨ 127 < f a := by omega
            by_cases h2 : a + 1 < n
            · obtain ⟨b2, off2, e2, hb2, hc20⟩ := HS.out (a + 1) h2
              simp only [Option.some.injEq, Addr.mk.injEq] at e2
              obtain ⟨rfl, rfl, _⟩ := e2
              have hye := HF.out (a + 1) h2
              have hc2 := (hbel.cell (p := ⟨b, off + (a + 1), none⟩) hb2).trans hc20
              have hdr2 := hide (bl_drop f n (a + 1) h2)
              clear hc20
              generalize hd : f a = d at *
              generalize he : f (a + 1) = e at *
              have hpair := hide (fin_pair d e ((bl f n).drop (a + 1 + 1)) L h1)
              have hlen := hide (fun M (h : tell L d e = some M) => tell_len L M d e h)
              have hcall := hide (fun (W : World) (h1 : W.ownsRow w.heap.size 5 1 (.slice vo r vc) r (L.map (.int .u8))) (h2 : Below w.heap.size w W) => tell_pair w.heap.size w vo vc r d e L W (by omega) hL.out.2 hy hye h1 h2 (Nat.le_refl _))
              clear hd he
              have g5 : ¬ (a : Int) + 1 = (n : Int) := by omega
              have g6 : decide ((a : Int) + 1 = (n : Int)) = false := by simpa using g5
              have HOW := hide (And.intro hown hbel)
              clear hown hbel
              go_wp2_with (first
                | (go_at_call 132; refine (stands_no _ _ hno).mono ?_; rintro e9 w9 ⟨rfl, hw9⟩; rw [hw9]; clear hw9))
              have t1 : ((a : Int) + 1).toNat = a + 1 := by omega
              have t2 : (0 : Int) ≤ (a : Int) + 1 := by omega
              have t3 : (a : Int) + 1 < (n : Int) := by omega
              have t4 : IntKind.i64.wrap ((a : Int) + 1) = (a : Int) + 1 := by rw [IntKind.wrap_i64]; omega
              have hcallD := hide (hcall.out wr.drew HOW.out.1 (Below.drawn HOW.out.2 1))
              have hkeepD : Hid (∀ w7, Below w.heap.size w w7 → w7.cell? ⟨b, off + a, none⟩ = some (.int .u8 d) ∧ w7.cell? ⟨b, off + (a + 1), none⟩ = some (.int .u8 e)) := fun w7 h7 => ⟨((h7.cell (p := ⟨b, off + a, none⟩) hb).trans (HOW.out.2.cell (p := ⟨b, off + a, none⟩) hb).symm).trans hc, ((h7.cell (p := ⟨b, off + (a + 1), none⟩) hb2).trans (HOW.out.2.cell (p := ⟨b, off + (a + 1), none⟩) hb2).symm).trans hc2⟩
              clear hcall HF HS
              go_region_held3 (fun w' => w'.cell? ⟨b, off + a, none⟩ = some (.int .u8 d) ∧ w'.cell? ⟨b, off + (a + 1), none⟩ = some (.int .u8 e)) (first | assumption | exact ⟨hc, hc2⟩ | go_keep) (first
                | (go_at_call 133; refine hcallD.out.mono ?_; rintro o w7 ⟨⟨v7, rfl, ho7⟩, hb7⟩; have hkeep := hkeepD.out w7 hb7; have HO7 := hide ho7; have HB7 := hide hb7; clear ho7 hb7))
              clear hkeep hkeepD hcallD
              have hstep : Hid (spread (bl f n) = match tell L d e with | none => none | some M => fin3 (spr ((bl f n).drop (a + 1 + 1)) M)) := (show _ = _ by rw [← hL.out.1, hdr.out, hdr2.out]; exact hpair.out)
              clear hpair hdr hdr2
              generalize htl : tell L d e = T at *
              clear htl
              cases T with
              | none =>
                go_wp2_with fail
                simp only [Exit.jump]
                go_ret2
                exact SpOut.none' hstep.out HB7.out
              | some M =>
                have hM := hide (HO7.out M rfl)
                have hMl := hlen.out M rfl
                have hLr := hL.out.2
                go_wp2_with fail
                go_roundw
                case rel => exact ⟨a + 2, M.length, M, by omega, by omega, by omega, by go_num, ⟨hstep.out.symm, rfl⟩, hM.out, HB7.out⟩
                case measure => simp [intOf]; omega
            · obtain rfl : n = a + 1 := by omega
              have hbad := hide (show spread (bl f (a + 1)) = none by rw [← hL.out.1, hdr.out, bl_end, spr_bad1 h1]; rfl)
              have HB := hide hbel
              clear hown hbel
              go_wp2_with (first
                | (go_at_call 132; refine (stands_no _ _ hno).mono ?_; rintro e9 w9 ⟨rfl, hw9⟩; rw [hw9]; clear hw9))
              simp only [Exit.jump]
              go_ret2
              exact SpOut.none' hbad.out HB.out
        · obtain rfl : a = n := by omega
          have hend := hide (show spread (bl f a) = some L by rw [← hL.out.1, bl_end]; exact if_neg (by rw [hL.out.2]; exact hr3))
          have HOW := hide (And.intro hown hbel)
          clear hown hbel
          go_wp2
          simp only [Exit.jump]
          go_ret2
          exact SpOut.some' hend.out hL.out.2 HOW.out.1 HOW.out.2
end Go.Proofs.Ytkeojhnifnkpiaa

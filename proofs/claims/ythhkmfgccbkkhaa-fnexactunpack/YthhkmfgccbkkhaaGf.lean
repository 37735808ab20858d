/- Spread of the model. -/
import Derived.Test.YthhkmfgccbkkhaaGe
import Derived.Deep.RegionHeld3

namespace Go.Proofs.Ythhkmfgccbkkhaa
open Go.ChangeShapes Go.WideShapes Go.ChangeAt Go.RowKit
set_option linter.unusedVariables false
set_option linter.unusedSimpArgs false
set_option maxRecDepth 100000

theorem bl_drop (f : Nat → Int) (n a : Nat) (h : a < n) : (bl f n).drop a = f a :: (bl f n).drop (a + 1) := by
  rw [List.drop_eq_getElem_cons (by rw [bl_len]; exact h)]
  simp [bl]
theorem bl_end (f : Nat → Int) (n : Nat) : (bl f n).drop n = [] := List.drop_of_length_le (by rw [bl_len]; omega)

/-- What Spread hands back. -/
def SpOut (w w' : World) (L : List Int) (e : Ending) : Prop :=
  (∃ ro rc, e = .returned (.tuple #[.slice ro ((spread L).getD []).length rc, .bool (spread L).isSome]) ∧ Own w' w.heap.size 5 ro ((spread L).getD []).length (fun i => .int .u8 (((spread L).getD []).getD i 0)) ∧ ((spread L).getD []).length ≤ rc) ∧ Below w.heap.size w w'

theorem SpOut.no {w w' : World} {L : List Int} {ro : Option Addr} (h : spr L [] = none) (hb : Below w.heap.size w w') : SpOut w w' L (.returned (.tuple #[.slice ro 0 0, .bool false])) := by
  have e : spread L = none := by unfold spread; rw [h]
  unfold SpOut
  rw [e]
  exact ⟨⟨ro, 0, rfl, .inl rfl, Nat.le_refl _⟩, hb⟩
theorem SpOut.long {w w' : World} {L M : List Int} {ro : Option Addr} (h : spr L [] = some M) (hM : 3000 < M.length) (hb : Below w.heap.size w w') : SpOut w w' L (.returned (.tuple #[.slice ro 0 0, .bool false])) := by
  have e : spread L = none := by unfold spread; rw [h]; exact if_pos hM
  unfold SpOut
  rw [e]
  exact ⟨⟨ro, 0, rfl, .inl rfl, Nat.le_refl _⟩, hb⟩
theorem SpOut.yes {w w' : World} {L M : List Int} {v : Value} {r : Nat} (h : spr L [] = some M) (hr : M.length = r) (hM : r ≤ 3000) (ho : w'.ownsRow w.heap.size 5 1 v r (M.map (.int .u8))) (hb : Below w.heap.size w w') : SpOut w w' L (.returned (.tuple #[v, .bool true])) := by
  have e : spread L = some M := by unfold spread; rw [h]; exact if_neg (by omega)
  subst hr
  obtain ⟨ro, rc, rfl, hlc, hO⟩ := Own.of_owns ho
  unfold SpOut
  rw [e]
  exact ⟨⟨ro, rc, rfl, hO, hlc.2.1⟩, hb⟩

theorem spr_bad1 {d : Int} {out : List Int} (h : ¬ (1 ≤ d ∧ d ≤ 127)) : spr [d] out = none := by rw [spr, if_neg h]
theorem spr_zero {d e : Int} {r out : List Int} (hd : d = 0) (h : e = 0 ∨ 128 ≤ e) : spr (d :: e :: r) out = spr r (out ++ [e]) := by
  rw [spr, if_neg (by omega), if_pos hd, if_neg (by omega)]
theorem spr_bad0 {d e : Int} {r out : List Int} (hd : d = 0) (h : e ≠ 0 ∧ e < 128) : spr (d :: e :: r) out = none := by
  rw [spr, if_neg (by omega), if_pos hd, if_pos h]
theorem spr_badrun {d e : Int} {r out : List Int} (hd : d ≠ 0) (h1 : ¬ (1 ≤ d ∧ d ≤ 127)) (h : ¬ (131 ≤ d ∧ d ≤ 228 ∧ 1 ≤ e ∧ e ≤ out.length)) : spr (d :: e :: r) out = none := by
  rw [spr, if_neg h1, if_neg hd, if_neg h]
theorem spr_run {d e : Int} {r out : List Int} (h : 131 ≤ d ∧ d ≤ 228 ∧ 1 ≤ e ∧ e ≤ out.length) : spr (d :: e :: r) out = if 3000 < (rep out e.toNat (d - 128).toNat).length then none else spr r (rep out e.toNat (d - 128).toNat) := by
  rw [spr, if_neg (by omega), if_neg (by omega), if_pos h]

theorem gempty2 (w : World) : ((w.alloc (.cells #[] 5)).alloc (.cells #[] 5)).ownsRow w.heap.size 5 1 (.slice (some ⟨w.heap.size + 1, 0, none⟩) 0 0) 0 (([] : List Int).map (.int .u8)) := by
  have h := gempty (B := w.heap.size) (w := w.alloc (.cells #[] 5)) (t := 5) (ik := .u8) (by simp)
  have e : (w.alloc (.cells #[] 5)).heap.size = w.heap.size + 1 := by simp
  rw [e] at h
  exact h

set_option maxHeartbeats 4000000 in
set_option maxRecDepth 100000 in
theorem spread_spec (ao : Option Addr) (n cap : Nat) (f : Nat → Int) (w : World) (hn : n ≤ 1048576) (hs : SL .u8 w ao n f) (hf : ∀ i, i < n → 0 ≤ f i ∧ f i ≤ 255) :
    Calls Try.prog 61 #[.slice ao n cap] w fun e w' => SpOut w w' (bl f n) e := by
  obtain ⟨i0, hi, hz0, hz1, hz2⟩ := info_parts Try.info5
  have HS := hide hs
  have HF := hide hf
  clear hs hf
  go_enter Try.func61, Try.ntmps61
  go_wp2
  go_loopw [5, 6, 7, 8, 9] (fun v i _ _ _ wr => ∃ (a r : Nat) (L : List Int), a ≤ n ∧ r ≤ 3000 + a ∧ i = .int .i64 a ∧ Hid (spr ((bl f n).drop a) L = spr (bl f n) [] ∧ L.length = r) ∧ wr.ownsRow w.heap.size 5 1 v r (L.map (.int .u8)) ∧ Below w.heap.size w wr) (fun _ i _ _ _ _ => n - (intOf i).toNat)
  case atStart => exact ⟨0, 0, [], by omega, by omega, rfl, ⟨rfl, rfl⟩, gempty2 w, ((Below.refl _ _).alloc (Nat.le_refl _) _).alloc (by simp) _⟩
  case round =>
    obtain ⟨a, r, L, han, hra, rfl, hL, hown, hbel⟩ := hrel
    obtain ⟨vo, vc, rfl, hlr, hO⟩ := Own.of_owns hown
    have hvc : r ≤ vc := hlr.2.1
    clear hlr
    by_cases hlt : a < n
    · obtain ⟨b, off, rfl, hb, hc0⟩ := HS.out a hlt
      have hy := HF.out a hlt
      have hc := (hbel.cell (p := ⟨b, off + a, none⟩) hb).trans hc0
      have hdr := hide (bl_drop f n a hlt)
      clear hc0
      by_cases h1 : 1 ≤ f a ∧ f a ≤ 127
      · generalize hd : f a = d at *
        have HD := hide hd
        clear hd
        go_wp2_with (first
          | (go_at_call 70; refine (in_yes _ _ _ _ h1.1 h1.2).mono ?_; rintro e w9 ⟨rfl, hw9⟩; rw [hw9]; clear hw9)
          | (at_builtin; refine wpList_append_own _ rfl _ _ 22 rfl w.heap.size 5 i0 (.int .u8 0) 1 1 Try.underlying22 hi hz0 hz1 hz2 rfl (by decide) _ _ _ rfl (hown.alloc _) ⟨wr.heap.size, 0, none⟩ 1 1 ([d].map (.int .u8)) rfl rfl (gcells _ _ _) (gones _ _) (glens (by omega)) (by omega) (by have := hbel.size; simp; omega) ?_; intro v' w3 hown' hgrow hnn))
        have R := hide (gpush (M := [d]) hbel hbel.size hown hown' hgrow)
        clear hown' hgrow hnn hown hbel
        go_wp2
        go_roundw
        case rel => exact ⟨a + 1, r + 1, L ++ [d], by omega, by omega, by go_num, ⟨by rw [← hL.out.1, hdr.out, spr_one _ _ _ h1], by simp [hL.out.2]⟩, R.out.1, R.out.2⟩
        case measure => simp [intOf]; omega
      · have hno : f a < 1 ∨ 127 < f a := by omega
        by_cases h2 : a + 1 < n
        · obtain ⟨b2, off2, e2, hb2, hc20⟩ := HS.out (a + 1) h2
          simp only [Option.some.injEq, Addr.mk.injEq] at e2
          obtain ⟨rfl, rfl, _⟩ := e2
          have hye := HF.out (a + 1) h2
          have hc2 := (hbel.cell (p := ⟨b, off + (a + 1), none⟩) hb2).trans hc20
          have hdr2 := hide (bl_drop f n (a + 1) h2)
          clear hc20
          generalize hd : f a = d at *
          generalize he : f (a + 1) = e at *
          have HD : Hid (f a = d ∧ f (a + 1) = e) := ⟨hd, he⟩
          have hwe : IntKind.u8.wrap e = e := by rw [IntKind.wrap_u8]; omega
          clear hd he
          by_cases hd0 : d = 0
          · by_cases he0 : e = 0 ∨ 128 ≤ e
            · have hs1 := hide (spr_zero (r := (bl f n).drop (a + 1 + 1)) (out := L) hd0 he0)
              subst hd0
              rcases he0 with he0 | he0
              · subst he0
                go_wp2_with (first
                  | (go_at_call 70; refine (in_no _ _ _ _ hno).mono ?_; rintro e9 w9 ⟨rfl, hw9⟩; rw [hw9]; clear hw9)
                  | (at_builtin; refine wpList_append_own _ rfl _ _ 22 rfl w.heap.size 5 i0 (.int .u8 0) 1 1 Try.underlying22 hi hz0 hz1 hz2 rfl (by decide) _ _ _ rfl (hown.alloc _) ⟨wr.heap.size, 0, none⟩ 1 1 ([(0 : Int)].map (.int .u8)) rfl rfl (gcells _ _ _) (gones _ _) (glens (by omega)) (by omega) (by have := hbel.size; simp; omega) ?_; intro v' w3 hown' hgrow hnn))
                have R := hide (gpush (M := [(0 : Int)]) hbel hbel.size hown hown' hgrow)
                clear hown' hgrow hnn hown hbel hO
                go_wp2
                go_roundw
                case rel => exact ⟨a + 2, r + 1, L ++ [(0 : Int)], by omega, by omega, by go_num, ⟨by rw [← hL.out.1, hdr.out, hdr2.out]; exact hs1.out.symm, by simp [hL.out.2]⟩, R.out.1, R.out.2⟩
                case measure => simp [intOf]; omega
              · have he1 : decide (e = 0) = false := by simp; omega
                have he2 : decide (e < 128) = false := by simp; omega
                go_wp2_with (first
                  | (go_at_call 70; refine (in_no _ _ _ _ hno).mono ?_; rintro e9 w9 ⟨rfl, hw9⟩; rw [hw9]; clear hw9)
                  | (at_builtin; refine wpList_append_own _ rfl _ _ 22 rfl w.heap.size 5 i0 (.int .u8 0) 1 1 Try.underlying22 hi hz0 hz1 hz2 rfl (by decide) _ _ _ rfl (hown.alloc _) ⟨wr.heap.size, 0, none⟩ 1 1 ([e].map (.int .u8)) rfl rfl (gcells _ _ _) (gones _ _) (glens (by omega)) (by omega) (by have := hbel.size; simp; omega) ?_; intro v' w3 hown' hgrow hnn))
                have R := hide (gpush (M := [e]) hbel hbel.size hown hown' hgrow)
                clear hown' hgrow hnn hown hbel hO
                go_wp2
                go_roundw
                case rel => exact ⟨a + 2, r + 1, L ++ [e], by omega, by omega, by go_num, ⟨by rw [← hL.out.1, hdr.out, hdr2.out]; exact hs1.out.symm, by simp [hL.out.2]⟩, R.out.1, R.out.2⟩
                case measure => simp [intOf]; omega
            · have hs1 := hide (spr_bad0 (e := e) (r := (bl f n).drop (a + 1 + 1)) (out := L) hd0 (by omega))
              have he1 : decide (e = 0) = false := by simp; omega
              have he2 : decide (e < 128) = true := by simp; omega
              subst hd0
              go_wp2_with (first
                | (go_at_call 70; refine (in_no _ _ _ _ hno).mono ?_; rintro e9 w9 ⟨rfl, hw9⟩; rw [hw9]; clear hw9))
              go_ret2
              exact SpOut.no (by rw [← hL.out.1, hdr.out, hdr2.out]; exact hs1.out) hbel
          · by_cases hrun : 131 ≤ d ∧ d ≤ 228 ∧ 1 ≤ e ∧ e ≤ (r : Int)
            · have hs1 := hide (spr_run (r := (bl f n).drop (a + 1 + 1)) (out := L) (show 131 ≤ d ∧ d ≤ 228 ∧ 1 ≤ e ∧ e ≤ (L.length : Int) by rw [hL.out.2]; exact hrun))
              have hd1 : decide (d = 0) = false := by simpa using hd0
              obtain ⟨hr1, hr2, hr3, hr4⟩ := hrun
              obtain ⟨D, hD⟩ : ∃ D : Nat, d = 128 + (D : Int) := ⟨(d - 128).toNat, by omega⟩
              obtain ⟨E, rfl⟩ : ∃ E : Nat, e = (E : Int) := ⟨e.toNat, by omega⟩
              subst hD
              have hEr : E ≤ r := by omega
              have hE1 : 1 ≤ E := by omega
              have hHL := hide hL.out.2
              have hsub : (128 : Int) + (D : Int) - 128 = (D : Int) := by omega
              clear hO
              go_wp2_with fail
              refine (in_no _ _ _ _ hno).mono ?_
              rintro e9 w9 ⟨rfl, hw9⟩
              rw [hw9]
              clear hw9
              go_wp2_with fail
              refine (in_yes _ _ _ _ hr1 hr2).mono ?_
              rintro e9 w9 ⟨rfl, hw9⟩
              rw [hw9]
              clear hw9
              go_wp2_with fail
              refine (in_yes _ _ _ _ hr3 hr4).mono ?_
              rintro e9 w9 ⟨rfl, hw9⟩
              rw [hw9]
              clear hw9
              go_wp2
              go_loopw [5, 9] (fun v k wi => ∃ (j r' : Nat), j ≤ D ∧ Hid (r' = r + j) ∧ k = .int .i64 j ∧ wi.ownsRow w.heap.size 5 1 v r' ((rep L E j).map (.int .u8)) ∧ Below w.heap.size w wi) (fun _ k _ => D - (intOf k).toNat)
              case atStart => exact ⟨0, r, by omega, rfl, rfl, hown, hbel⟩
              case round =>
                obtain ⟨j, r', hj, hr', rfl, hown2, hbel2⟩ := hrel
                obtain ⟨vo2, vc2, rfl, hlr, hO⟩ := Own.of_owns hown2
                have hvc2 : r' ≤ vc2 := hlr.2.1
                clear hlr
                have hrr : r' = r + j := hr'.out
                by_cases hjD : j < D
                · obtain ⟨g, rfl, hgB, hgw, hcg, _⟩ := hO.at (i := r' - E) (by omega)
                  have t1 : ((r' : Int) - (E : Int)).toNat = r' - E := by omega
                  have t2 : (0 : Int) ≤ (r' : Int) - (E : Int) := by omega
                  have t3 : (r' : Int) - (E : Int) < (r' : Int) := by omega
                  generalize hz : (rep L E j).getD (r' - E) 0 = z at *
                  have HZ := hide hz
                  have hbd : r' ≤ 3000 + a + 100 := by omega
                  clear hz hrr hO
                  go_wp2_with (first
                    | (at_builtin; refine wpList_append_own _ rfl _ _ 22 rfl w.heap.size 5 i0 (.int .u8 0) 1 1 Try.underlying22 hi hz0 hz1 hz2 rfl (by decide) _ _ _ rfl (hown2.alloc _) ⟨wr.heap.size, 0, none⟩ 1 1 ([z].map (.int .u8)) rfl rfl (gcells _ _ _) (gones _ _) (glens (by omega)) (by omega) (by have := hbel2.size; simp; omega) ?_; intro v' w3 hown' hgrow hnn))
                  have R := hide (gpush (M := [z]) hbel2 hbel2.size hown2 hown' hgrow)
                  clear hown' hgrow hnn hown2 hbel2
                  go_wp2
                  go_roundw
                  case rel => exact ⟨j + 1, r' + 1, by omega, (show _ = _ by have := hr'.out; omega), by go_num, by rw [rep, rep_len, hL.out.2, ← hr'.out, HZ.out]; exact R.out.1, R.out.2⟩
                  case measure => simp [intOf]; omega
                · obtain rfl : j = D := by omega
                  have hrl : Hid ((rep L E j).length = r') := (show _ = _ by rw [rep_len, hL.out.2]; exact hr'.out.symm)
                  have hs2 : Hid (spr (bl f n) [] = if 3000 < r' then none else spr ((bl f n).drop (a + 1 + 1)) (rep L E j)) := (show _ = _ by
                    rw [← hL.out.1, hdr.out, hdr2.out]
                    have h := hs1.out
                    rw [show (128 + (j : Int) - 128).toNat = j by omega, show (E : Int).toNat = E by omega, hrl.out] at h
                    exact h)
                  clear hO hrr
                  by_cases h3 : 3000 < r'
                  · go_wp2
                    go_ret2
                    exact SpOut.no (by rw [hs2.out, if_pos h3]) hbel2
                  · go_wp2
                    go_roundw
                    case rel => exact ⟨a + 2, r', rep L E j, by omega, by omega, by go_num, ⟨by rw [hs2.out, if_neg h3], hrl.out⟩, hown2, hbel2⟩
                    case measure => simp [intOf]; omega
            · have hs1 := hide (spr_badrun (e := e) (r := (bl f n).drop (a + 1 + 1)) (out := L) hd0 h1 (by rw [hL.out.2]; exact hrun))
              have hd1 : decide (d = 0) = false := by simpa using hd0
              by_cases hdr3 : 131 ≤ d ∧ d ≤ 228
              · have hne : e < 1 ∨ (r : Int) < e := by omega
                go_wp2_with fail
                refine (in_no _ _ _ _ hno).mono ?_
                rintro e9 w9 ⟨rfl, hw9⟩
                rw [hw9]
                clear hw9
                go_wp2_with fail
                refine (in_yes _ _ _ _ hdr3.1 hdr3.2).mono ?_
                rintro e9 w9 ⟨rfl, hw9⟩
                rw [hw9]
                clear hw9
                go_wp2_with fail
                refine (in_no _ _ _ _ hne).mono ?_
                rintro e9 w9 ⟨rfl, hw9⟩
                rw [hw9]
                clear hw9
                go_wp2
                go_ret2
                exact SpOut.no (by rw [← hL.out.1, hdr.out, hdr2.out]; exact hs1.out) hbel
              · have hne : d < 131 ∨ 228 < d := by omega
                go_wp2_with fail
                refine (in_no _ _ _ _ hno).mono ?_
                rintro e9 w9 ⟨rfl, hw9⟩
                rw [hw9]
                clear hw9
                go_wp2_with fail
                refine (in_no _ _ _ _ hne).mono ?_
                rintro e9 w9 ⟨rfl, hw9⟩
                rw [hw9]
                clear hw9
                go_wp2
                go_ret2
                exact SpOut.no (by rw [← hL.out.1, hdr.out, hdr2.out]; exact hs1.out) hbel
        · obtain rfl : n = a + 1 := by omega
          have hbad := hide (spr_bad1 (out := L) h1)
          go_wp2_with (go_at_call 70; refine (in_no _ _ _ _ hno).mono ?_; rintro e w9 ⟨rfl, hw9⟩; rw [hw9]; clear hw9)
          go_ret2
          exact SpOut.no (by rw [← hL.out.1, hdr.out, bl_end]; exact hbad.out) hbel
    · obtain rfl : a = n := by omega
      have hend := hide (bl_end f a)
      by_cases h3 : 3000 < r
      · go_wp2
        go_ret2
        exact SpOut.long (M := L) (by rw [← hL.out.1, hend.out]; rfl) (by have := hL.out.2; omega) hbel
      · go_wp2
        go_ret2
        exact SpOut.yes (M := L) (by rw [← hL.out.1, hend.out]; rfl) hL.out.2 (by omega) hown hbel
end Go.Proofs.Ythhkmfgccbkkhaa

/- Spread of the program. -/
namespace Go.Proofs.Ythhkmfgccbkkhaa
open Go.ChangeShapes Go.WideShapes Go.ChangeAt Go.RowKit
set_option linter.unusedVariables false
set_option linter.unusedSimpArgs false
set_option maxRecDepth 100000

/-- What is too long is none. -/
def fin3 (o : Option (List Int)) : Option (List Int) :=
  match o with
  | none => none
  | some out => if 3000 < out.length then none else some out
theorem spread_fin (L : List Int) : spread L = fin3 (spr L []) := rfl
theorem fin_over (R out : List Int) (h : 3000 < out.length) : fin3 (spr R out) = none := by
  induction R, out using spr.induct with
  | case1 out => rw [spr]; exact if_pos h
  | case2 d out hd => rw [spr, if_pos hd]; exact if_pos (by simp; omega)
  | case3 d out hd => rw [spr, if_neg hd]; rfl
  | case4 d e r out hd ih => rw [spr, if_pos hd]; exact ih (by simp; omega)
  | case5 e r out he hd => rw [spr, if_neg hd, if_pos rfl, if_pos he]; rfl
  | case6 e r out he hd ih => rw [spr, if_neg hd, if_pos rfl, if_neg he]; exact ih (by simp; omega)
  | case7 d e r out hd hd0 hr hl => rw [spr, if_neg hd, if_neg hd0, if_pos hr, if_pos hl]; rfl
  | case8 d e r out hd hd0 hr hl ih => rw [spr, if_neg hd, if_neg hd0, if_pos hr, if_neg hl]; exact ih (by rw [rep_len]; omega)
  | case9 d e r out hd hd0 hr => rw [spr, if_neg hd, if_neg hd0, if_neg hr]; rfl

/-- What two bytes tell, behind out. -/
def tell (out : List Int) (d e : Int) : Option (List Int) :=
  if d = 0 then (if e ≠ 0 ∧ e < 128 then none else some (out ++ [e]))
  else if 131 ≤ d ∧ d ≤ 228 ∧ 1 ≤ e ∧ e ≤ out.length then some (rep out e.toNat (d - 128).toNat) else none
theorem fin_pair (d e : Int) (R out : List Int) (hd : ¬ (1 ≤ d ∧ d ≤ 127)) : fin3 (spr (d :: e :: R) out) = match tell out d e with | none => none | some M => fin3 (spr R M) := by
  unfold tell
  rw [spr, if_neg hd]
  by_cases h0 : d = 0
  · rw [if_pos h0, if_pos h0]
    by_cases he : e ≠ 0 ∧ e < 128
    · rw [if_pos he, if_pos he]; rfl
    · rw [if_neg he, if_neg he]
  · rw [if_neg h0, if_neg h0]
    by_cases hr : 131 ≤ d ∧ d ≤ 228 ∧ 1 ≤ e ∧ e ≤ out.length
    · rw [if_pos hr, if_pos hr]
      by_cases hl : 3000 < (rep out e.toNat (d - 128).toNat).length
      · rw [if_pos hl]; exact (fin_over _ _ hl).symm
      · rw [if_neg hl]
    · rw [if_neg hr, if_neg hr]; rfl
theorem tell_len (out M : List Int) (d e : Int) (h : tell out d e = some M) : M.length ≤ out.length + 100 := by
  unfold tell at h
  split at h
  · split at h
    · cases h
    · cases h; simp
  · split at h
    · next hr => cases h; rw [rep_len]; omega
    · cases h

theorem SpOut.none' {w w' : World} {L : List Int} {ro : Option Addr} (e : spread L = none) (hb : Below w.heap.size w w') : SpOut w w' L (.returned (.tuple #[.slice ro 0 0, .bool false])) := by
  unfold SpOut
  rw [e]
  exact ⟨⟨ro, 0, rfl, .inl rfl, Nat.le_refl _⟩, hb⟩
theorem SpOut.some' {w w' : World} {L M : List Int} {v : Value} {r : Nat} (e : spread L = some M) (hr : M.length = r) (ho : w'.ownsRow w.heap.size 5 1 v r (M.map (.int .u8))) (hb : Below w.heap.size w w') : SpOut w w' L (.returned (.tuple #[v, .bool true])) := by
  subst hr
  obtain ⟨ro, rc, rfl, hlc, hO⟩ := Own.of_owns ho
  unfold SpOut
  rw [e]
  exact ⟨⟨ro, rc, rfl, hO, hlc.2.1⟩, hb⟩

theorem tell_run_no (v : Option Addr) (r vc : Nat) (D E : Int) (w : World) (h : ¬ (3 ≤ D ∧ D ≤ 100 ∧ 1 ≤ E ∧ E ≤ r)) :
    Calls Try.prog 102 #[.slice v r vc, .int .i64 D, .int .i64 E] w fun e w' => e = .returned (.tuple #[.slice none 0 0, .bool false]) ∧ w' = w := by
  by_cases h1 : D < 3
  · go_enter Try.func102, Try.ntmps102
    go_wp2
    go_ret2
    exact ⟨rfl, rfl⟩
  · by_cases h2 : 100 < D
    · go_enter Try.func102, Try.ntmps102
      go_wp2
      go_ret2
      exact ⟨rfl, rfl⟩
    · by_cases h3 : E < 1
      · go_enter Try.func102, Try.ntmps102
        go_wp2
        go_ret2
        exact ⟨rfl, rfl⟩
      · have h4 : (r : Int) < E := by omega
        clear h
        go_enter Try.func102, Try.ntmps102
        go_wp2
        go_ret2
        exact ⟨rfl, rfl⟩

theorem tell_run_yes (B : Nat) (w0 : World) (v : Value) (r D E : Nat) (L : List Int) (w : World) (hr : r ≤ 4000) (hL : L.length = r) (h1 : 3 ≤ D) (h2 : D ≤ 100) (h3 : 1 ≤ E) (h4 : E ≤ r)
    (hown : w.ownsRow B 5 1 v r (L.map (.int .u8))) (hbel : Below B w0 w) (hB : B ≤ w0.heap.size) :
    Calls Try.prog 102 #[v, .int .i64 (D : Int), .int .i64 (E : Int)] w fun e w' => ∃ v', e = .returned (.tuple #[v', .bool true]) ∧ w'.ownsRow B 5 1 v' (r + D) ((rep L E D).map (.int .u8)) ∧ Below B w0 w' := by
  obtain ⟨i0, hi, hz0, hz1, hz2⟩ := info_parts Try.info5
  obtain ⟨vo, vc, rfl, hlr, _⟩ := Own.of_owns hown
  have hvc : r ≤ vc := hlr.2.1
  have g1 : ¬ (D : Int) < 3 := by omega
  have g2 : ¬ 100 < (D : Int) := by omega
  have g3 : ¬ (E : Int) < 1 := by omega
  have g4 : ¬ (r : Int) < (E : Int) := by omega
  have hHL := hide hL
  clear hlr hL
  go_enter Try.func102, Try.ntmps102
  go_wp2
  clear g1 g2 g3 g4
  go_loopw [0, 25] (fun v k wi => ∃ (j r' : Nat), j ≤ D ∧ Hid (r' = r + j) ∧ k = .int .i64 j ∧ wi.ownsRow B 5 1 v r' ((rep L E j).map (.int .u8)) ∧ Below B w0 wi) (fun _ k _ => D - (intOf k).toNat)
  case atStart => exact ⟨0, r, by omega, rfl, rfl, hown, hbel⟩
  case round =>
    clear hown hbel hvc
    obtain ⟨j, r', hj, hr', rfl, hown2, hbel2⟩ := hrel
    obtain ⟨vo2, vc2, rfl, hlr, hO⟩ := Own.of_owns hown2
    have hvc2 : r' ≤ vc2 := hlr.2.1
    clear hlr
    have hrr : r' = r + j := hr'.out
    by_cases hjD : j < D
    · obtain ⟨g, rfl, hgB, hgw, hcg, _⟩ := hO.at (i := r' - E) (by omega)
      have t1 : ((r' : Int) - (E : Int)).toNat = r' - E := by omega
      have t2 : (0 : Int) ≤ (r' : Int) - (E : Int) := by omega
      have t3 : (r' : Int) - (E : Int) < (r' : Int) := by omega
      generalize hz : (rep L E j).getD (r' - E) 0 = z at *
      have HZ := hide hz
      have hbd : r' ≤ 4100 := by omega
      clear hz hrr hO
      go_wp2_with (first
        | (at_builtin; refine wpList_append_own _ rfl _ _ 22 rfl B 5 i0 (.int .u8 0) 1 1 Try.underlying22 hi hz0 hz1 hz2 rfl (by decide) _ _ _ rfl (hown2.alloc _) ⟨wr.heap.size, 0, none⟩ 1 1 ([z].map (.int .u8)) rfl rfl (gcells _ _ _) (gones _ _) (glens (by omega)) (by omega) (by have := hbel2.size; simp; omega) ?_; intro v' w3 hown' hgrow hnn))
      have R := hide (gpush (M := [z]) hbel2 (Nat.le_trans hB hbel2.size) hown2 hown' hgrow)
      clear hown' hgrow hnn hown2 hbel2
      go_wp2
      go_roundw
      case rel => exact ⟨j + 1, r' + 1, by omega, (show _ = _ by have := hr'.out; omega), by go_num, by rw [rep, rep_len, hHL.out, ← hr'.out, HZ.out]; exact R.out.1, R.out.2⟩
      case measure => simp [intOf]; omega
    · obtain rfl : j = D := by omega
      have e : r' = r + j := hr'.out
      subst e
      have R := hide (And.intro hown2 hbel2)
      clear hown2 hbel2 hO hrr
      go_wp2
      go_ret2
      exact ⟨_, rfl, R.out.1, R.out.2⟩

theorem tell_pair (B : Nat) (w0 : World) (vo : Option Addr) (vc r : Nat) (d e : Int) (L : List Int) (w : World) (hr : r ≤ 4000) (hL : L.length = r) (hd : 0 ≤ d ∧ d ≤ 255) (he : 0 ≤ e ∧ e ≤ 255)
    (hown : w.ownsRow B 5 1 (.slice vo r vc) r (L.map (.int .u8))) (hbel : Below B w0 w) (hB : B ≤ w0.heap.size) :
    Calls Try.prog 93 #[.slice vo r vc, .int .u8 d, .int .u8 e] w fun o w' => (∃ v', o = .returned (.tuple #[v', .bool (tell L d e).isSome]) ∧ ∀ M, tell L d e = some M → w'.ownsRow B 5 1 v' M.length (M.map (.int .u8))) ∧ Below B w0 w' := by
  obtain ⟨i0, hi, hz0, hz1, hz2⟩ := info_parts Try.info5
  by_cases hd0 : d = 0
  · subst hd0
    by_cases hst : 1 ≤ e ∧ e ≤ 127
    · have ht : tell L 0 e = none := by unfold tell; rw [if_pos rfl, if_pos ⟨by omega, by omega⟩]
      rw [ht]
      clear hL hd he ht
      go_enter Try.func93, Try.ntmps93
      go_wp2_with (first
        | (go_at_call 92; refine (stands_yes _ _ hst).mono ?_; rintro e9 w9 ⟨rfl, hw9⟩; rw [hw9]; clear hw9)
        | (at_builtin; refine wpList_append_own _ rfl _ _ 22 rfl B 5 i0 (.int .u8 0) 1 1 Try.underlying22 hi hz0 hz1 hz2 rfl (by decide) _ _ _ rfl (hown.alloc _) ⟨w.heap.size, 0, none⟩ 1 1 ([e].map (.int .u8)) rfl rfl (gcells _ _ _) (gones _ _) (glens (by omega)) (by omega) (by have := hbel.size; simp; omega) ?_; intro v' w3 hown' hgrow hnn))
      have R := hide (gpush (M := [e]) hbel (Nat.le_trans hB hbel.size) hown hown' hgrow)
      clear hown' hgrow hnn hown hbel
      go_wp2
      go_ret2
      exact ⟨⟨_, rfl, fun M h => by cases h⟩, R.out.2⟩
    · have hno : e = 0 ∨ 127 < e := by omega
      have ht : tell L 0 e = some (L ++ [e]) := by unfold tell; rw [if_pos rfl, if_neg (by omega)]
      rw [ht]
      have HL := hide hL
      clear hL hd he ht hst
      go_enter Try.func93, Try.ntmps93
      go_wp2_with (first
        | (go_at_call 92; refine (stands_no _ _ hno).mono ?_; rintro e9 w9 ⟨rfl, hw9⟩; rw [hw9]; clear hw9)
        | (at_builtin; refine wpList_append_own _ rfl _ _ 22 rfl B 5 i0 (.int .u8 0) 1 1 Try.underlying22 hi hz0 hz1 hz2 rfl (by decide) _ _ _ rfl (hown.alloc _) ⟨w.heap.size, 0, none⟩ 1 1 ([e].map (.int .u8)) rfl rfl (gcells _ _ _) (gones _ _) (glens (by omega)) (by omega) (by have := hbel.size; simp; omega) ?_; intro v' w3 hown' hgrow hnn))
      have R := hide (gpush (M := [e]) hbel (Nat.le_trans hB hbel.size) hown hown' hgrow)
      clear hown' hgrow hnn hown hbel
      go_wp2
      go_ret2
      refine ⟨⟨_, rfl, fun M h => ?_⟩, R.out.2⟩
      cases h
      have e1 : (L ++ [e]).length = r + 1 := by simp [HL.out]
      rw [e1]
      exact R.out.1
  · have hd1 : decide (d = 0) = false := by simpa using hd0
    have hdw : IntKind.i64.wrap d = d := by rw [IntKind.wrap_i64]; omega
    by_cases hrun : 131 ≤ d ∧ d ≤ 228 ∧ 1 ≤ e ∧ e ≤ (r : Int)
    · have ht : tell L d e = some (rep L e.toNat (d - 128).toNat) := by unfold tell; rw [if_neg hd0, if_pos (by rw [hL]; exact hrun)]
      rw [ht]
      obtain ⟨D, hD⟩ : ∃ D : Nat, d = 128 + (D : Int) := ⟨(d - 128).toNat, by omega⟩
      obtain ⟨E, rfl⟩ : ∃ E : Nat, e = (E : Int) := ⟨e.toNat, by omega⟩
      subst hD
      have hcall := hide (tell_run_yes B w0 (.slice vo r vc) r D E L w hr hL (by omega) (by omega) (by omega) (by omega) hown hbel hB)
      have hsub : (128 : Int) + (D : Int) - 128 = (D : Int) := by omega
      have htn : ((128 : Int) + (D : Int) - 128).toNat = D := by omega
      have htn2 : ((E : Int)).toNat = E := by omega
      rw [htn, htn2]
      have HL := hide hL
      clear hL ht hown hbel htn htn2 hd0
      go_enter Try.func93, Try.ntmps93
      go_wp2_with fail
      refine hcall.out.mono ?_
      rintro o w2 ⟨v2, rfl, ho2, hb2⟩
      have R := hide (And.intro ho2 hb2)
      clear ho2 hb2 hcall
      go_wp2
      go_ret2
      refine ⟨⟨_, rfl, fun M h => ?_⟩, R.out.2⟩
      cases h
      rw [rep_len, HL.out]
      exact R.out.1
    · have ht : tell L d e = none := by unfold tell; rw [if_neg hd0, if_neg (by rw [hL]; exact hrun)]
      rw [ht]
      have hcall := hide (tell_run_no vo r vc (d - 128) e w (by omega))
      clear hL ht hrun
      go_enter Try.func93, Try.ntmps93
      go_wp2_with fail
      refine hcall.out.mono ?_
      rintro o w2 ⟨rfl, hw2⟩
      rw [hw2]
      clear hw2 hcall
      go_wp2
      go_ret2
      exact ⟨⟨_, rfl, fun M h => by cases h⟩, hbel⟩
theorem lit59 (a' : Act) (h : a'.tmps.size = 59) (hd : a'.defers = []) : ∃ u : Nat → Value, a' = { tmps := #[u 0, u 1, u 2, u 3, u 4, u 5, u 6, u 7, u 8, u 9, u 10, u 11, u 12, u 13, u 14, u 15, u 16, u 17, u 18, u 19, u 20, u 21, u 22, u 23, u 24, u 25, u 26, u 27, u 28, u 29, u 30, u 31, u 32, u 33, u 34, u 35, u 36, u 37, u 38, u 39, u 40, u 41, u 42, u 43, u 44, u 45, u 46, u 47, u 48, u 49, u 50, u 51, u 52, u 53, u 54, u 55, u 56, u 57, u 58], defers := [] } := by
  refine ⟨fun i => a'.tmps.getD i undef, ?_⟩
  have e := act_lit a' hd
  rw [h] at e
  exact e

/-- What holds at the label. -/
def SpJ (ao : Option Addr) (n cap : Nat) (f : Nat → Int) (w : World) (a' : Act) (wr : World) : Prop :=
  a'.tmps.size = 59 ∧ a'.defers = [] ∧ a'.tmps[0]? = some (.slice ao n cap) ∧
  ∃ (a r : Nat) (L : List Int) (v : Value), a'.tmps[4]? = some v ∧ a'.tmps[5]? = some (.int .i64 (a : Int)) ∧ a ≤ n ∧ r ≤ 3100 ∧ (fin3 (spr ((bl f n).drop a) L) = spread (bl f n) ∧ L.length = r) ∧ wr.ownsRow w.heap.size 5 1 v r (L.map (.int .u8)) ∧ Below w.heap.size w wr

set_option maxRecDepth 100000 in
theorem spread_impl (ao : Option Addr) (n cap : Nat) (f : Nat → Int) (w : World) (hn : n ≤ 1048576) (hs : SL .u8 w ao n f) (hf : ∀ i, i < n → 0 ≤ f i ∧ f i ≤ 255) :
    Calls Try.prog 58 #[.slice ao n cap] w fun e w' => SpOut w w' (bl f n) e := by
  obtain ⟨i0, hi, hz0, hz1, hz2⟩ := info_parts Try.info5
  have HS := hide hs
  have HF := hide hf
  clear hs hf
  go_enter Try.func58, Try.ntmps58
  go_wp2
  refine wp_scope_back 0 (SpJ ao n cap f w) (fun a' _ => n - (intOf (a'.tmps.getD 5 undef)).toNat) rfl ?pass ?first
  case first =>
    intro hp
    have HP := hide hp
    clear hp
    go_wp2
    go_step3
    rename_i hK
    apply hK
    exact HP.out _ _ ⟨rfl, rfl, rfl, 0, 0, [], _, rfl, rfl, by omega, by omega, ⟨rfl, rfl⟩, gnil, Below.refl _ _⟩
  case pass =>
    rintro a' wp0 k0 ⟨hsz, hdf, h0, a0, r0, L0, v0, h4', h5', ha0, hr0, hL0, hown0, hbel0⟩ hk0
    obtain ⟨u, rfl⟩ := lit59 a' hsz hdf
    have e0 : u 0 = _ := Option.some.inj h0
    have e4 : u 4 = _ := Option.some.inj h4'
    have e5 : u 5 = _ := Option.some.inj h5'
    clear hsz hdf h0 h4' h5'
    have HL0 := hide hL0
    clear hL0
    have hk : n - a0 = k0 := by rw [← hk0]; show _ = n - (intOf (u 5)).toNat; rw [e5]; simp [intOf]
    rw [e0, e4, e5]
    clear e0 e4 e5 hk0
    go_wp2
    go_loopw [4, 5, 6, 7] (fun v i _ _ wr => ∃ (a r : Nat) (L : List Int), a0 ≤ a ∧ a ≤ n ∧ r ≤ 3100 ∧ i = .int .i64 a ∧ Hid (fin3 (spr ((bl f n).drop a) L) = spread (bl f n) ∧ L.length = r) ∧ wr.ownsRow w.heap.size 5 1 v r (L.map (.int .u8)) ∧ Below w.heap.size w wr) (fun _ i _ _ _ => n - (intOf i).toNat)
    case atStart => exact ⟨a0, r0, L0, by omega, ha0, hr0, rfl, HL0, hown0, hbel0⟩
    case round =>
      clear hown0 hbel0 HL0 hr0
      obtain ⟨a, r, L, hga, han, hra, rfl, hL, hown, hbel⟩ := hrel
      obtain ⟨vo, vc, rfl, hlr, hO⟩ := Own.of_owns hown
      have hvc : r ≤ vc := hlr.2.1
      clear hlr hO
      by_cases hr3 : 3000 < r
      · have hnone := hide (show spread (bl f n) = none by rw [← hL.out.1]; exact fin_over _ _ (by rw [hL.out.2]; exact hr3))
        have g3 : ¬ (r : Int) ≤ 3000 := by omega
        have g4 : (3000 : Int) < (r : Int) := by omega
        have HB := hide hbel
        clear hown hbel
        by_cases hlt : a < n
        · go_wp2
          simp only [Exit.jump]
          go_ret2
          exact SpOut.none' hnone.out HB.out
        · obtain rfl : a = n := by omega
          go_wp2
          simp only [Exit.jump]
          go_ret2
          exact SpOut.none' hnone.out HB.out
      · have g3 : (r : Int) ≤ 3000 := by omega
        have g4 : ¬ (3000 : Int) < (r : Int) := by omega
        by_cases hlt : a < n
        · obtain ⟨b, off, rfl, hb, hc0⟩ := HS.out a hlt
          have hy := HF.out a hlt
          have hc := (hbel.cell (p := ⟨b, off + a, none⟩) hb).trans hc0
          have hdr := hide (bl_drop f n a hlt)
          clear hc0
          by_cases h1 : 1 ≤ f a ∧ f a ≤ 127
          · generalize hd : f a = d at *
            have HD := hide hd
            clear hd
            go_wp2_with (first
              | (go_at_call 92; refine (stands_yes _ _ h1).mono ?_; rintro e w9 ⟨rfl, hw9⟩; rw [hw9]; clear hw9)
              | (at_builtin; refine wpList_append_own _ rfl _ _ 22 rfl w.heap.size 5 i0 (.int .u8 0) 1 1 Try.underlying22 hi hz0 hz1 hz2 rfl (by decide) _ _ _ rfl (hown.alloc _) ⟨wr.heap.size, 0, none⟩ 1 1 ([d].map (.int .u8)) rfl rfl (gcells _ _ _) (gones _ _) (glens (by omega)) (by omega) (by have := hbel.size; simp; omega) ?_; intro v' w3 hown' hgrow hnn))
            have R := hide (gpush (M := [d]) hbel hbel.size hown hown' hgrow)
            clear hown' hgrow hnn hown hbel
            go_wp2
            go_step3
            have hal : (a : Int) + 1 = ((a + 1 : Nat) : Int) := by omega
            rw [hal]
            refine ⟨rfl, ⟨rfl, rfl, rfl, a + 1, r + 1, L ++ [d], v', rfl, rfl, hlt, by omega, ⟨by rw [← hL.out.1, hdr.out, spr_one _ _ _ h1], by simp [hL.out.2]⟩, R.out.1, R.out.2⟩, ?_⟩
            simp [intOf]
            omega
          · have hno : f a = 0 ∨ 127 < f a := by omega
            by_cases h2 : a + 1 < n
            · obtain ⟨b2, off2, e2, hb2, hc20⟩ := HS.out (a + 1) h2
              simp only [Option.some.injEq, Addr.mk.injEq] at e2
              obtain ⟨rfl, rfl, _⟩ := e2
              have hye := HF.out (a + 1) h2
              have hc2 := (hbel.cell (p := ⟨b, off + (a + 1), none⟩) hb2).trans hc20
              have hdr2 := hide (bl_drop f n (a + 1) h2)
              clear hc20
              generalize hd : f a = d at *
              generalize he : f (a + 1) = e at *
              have hpair := hide (fin_pair d e ((bl f n).drop (a + 1 + 1)) L h1)
              have hlen := hide (fun M (h : tell L d e = some M) => tell_len L M d e h)
              have hcall := hide (fun (W : World) (h1 : W.ownsRow w.heap.size 5 1 (.slice vo r vc) r (L.map (.int .u8))) (h2 : Below w.heap.size w W) => tell_pair w.heap.size w vo vc r d e L W (by omega) hL.out.2 hy hye h1 h2 (Nat.le_refl _))
              clear hd he
              have g5 : ¬ (a : Int) + 1 = (n : Int) := by omega
              have g6 : decide ((a : Int) + 1 = (n : Int)) = false := by simpa using g5
              have HOW := hide (And.intro hown hbel)
              clear hown hbel
              go_wp2_with (first
                | (go_at_call 92; refine (stands_no _ _ hno).mono ?_; rintro e9 w9 ⟨rfl, hw9⟩; rw [hw9]; clear hw9))
              have t1 : ((a : Int) + 1).toNat = a + 1 := by omega
              have t2 : (0 : Int) ≤ (a : Int) + 1 := by omega
              have t3 : (a : Int) + 1 < (n : Int) := by omega
              have t4 : IntKind.i64.wrap ((a : Int) + 1) = (a : Int) + 1 := by rw [IntKind.wrap_i64]; omega
              have hcallD := hide (hcall.out wr.drew HOW.out.1 (Below.drawn HOW.out.2 1))
              have hkeepD : Hid (∀ w7, Below w.heap.size w w7 → w7.cell? ⟨b, off + a, none⟩ = some (.int .u8 d) ∧ w7.cell? ⟨b, off + (a + 1), none⟩ = some (.int .u8 e)) := fun w7 h7 => ⟨((h7.cell (p := ⟨b, off + a, none⟩) hb).trans (HOW.out.2.cell (p := ⟨b, off + a, none⟩) hb).symm).trans hc, ((h7.cell (p := ⟨b, off + (a + 1), none⟩) hb2).trans (HOW.out.2.cell (p := ⟨b, off + (a + 1), none⟩) hb2).symm).trans hc2⟩
              clear hcall HF HS
              go_region_held3 (fun w' => w'.cell? ⟨b, off + a, none⟩ = some (.int .u8 d) ∧ w'.cell? ⟨b, off + (a + 1), none⟩ = some (.int .u8 e)) (first | assumption | exact ⟨hc, hc2⟩ | go_keep) (first
                | (go_at_call 93; refine hcallD.out.mono ?_; rintro o w7 ⟨⟨v7, rfl, ho7⟩, hb7⟩; have hkeep := hkeepD.out w7 hb7; have HO7 := hide ho7; have HB7 := hide hb7; clear ho7 hb7))
              clear hkeep hkeepD hcallD
              have hstep : Hid (spread (bl f n) = match tell L d e with | none => none | some M => fin3 (spr ((bl f n).drop (a + 1 + 1)) M)) := (show _ = _ by rw [← hL.out.1, hdr.out, hdr2.out]; exact hpair.out)
              clear hpair hdr hdr2
              generalize htl : tell L d e = T at *
              clear htl
              cases T with
              | none =>
                go_wp2_with fail
                simp only [Exit.jump]
                go_ret2
                exact SpOut.none' hstep.out HB7.out
              | some M =>
                have hM := hide (HO7.out M rfl)
                have hMl := hlen.out M rfl
                have hLr := hL.out.2
                go_wp2_with fail
                go_roundw
                case rel => exact ⟨a + 2, M.length, M, by omega, by omega, by omega, by go_num, ⟨hstep.out.symm, rfl⟩, hM.out, HB7.out⟩
                case measure => simp [intOf]; omega
            · obtain rfl : n = a + 1 := by omega
              have hbad := hide (show spread (bl f (a + 1)) = none by rw [← hL.out.1, hdr.out, bl_end, spr_bad1 h1]; rfl)
              have HB := hide hbel
              clear hown hbel
              go_wp2_with (first
                | (go_at_call 92; refine (stands_no _ _ hno).mono ?_; rintro e9 w9 ⟨rfl, hw9⟩; rw [hw9]; clear hw9))
              simp only [Exit.jump]
              go_ret2
              exact SpOut.none' hbad.out HB.out
        · obtain rfl : a = n := by omega
          have hend := hide (show spread (bl f a) = some L by rw [← hL.out.1, bl_end]; exact if_neg (by rw [hL.out.2]; exact hr3))
          have HOW := hide (And.intro hown hbel)
          clear hown hbel
          go_wp2
          simp only [Exit.jump]
          go_ret2
          exact SpOut.some' hend.out hL.out.2 HOW.out.1 HOW.out.2
end Go.Proofs.Ythhkmfgccbkkhaa

/- What spreads is bytes. -/
namespace Go.Proofs.Ythhkmfgccbkkhaa
open Go.ChangeShapes Go.WideShapes Go.ChangeAt Go.RowKit
set_option linter.unusedVariables false
set_option linter.unusedSimpArgs false
set_option maxRecDepth 100000

def Byts (L : List Int) : Prop := ∀ z ∈ L, 0 ≤ z ∧ z ≤ 255

theorem rep_byte {out : List Int} {e : Nat} (h : Byts out) (k : Nat) : Byts (rep out e k) := by
  induction k with
  | zero => exact h
  | succ k ih =>
    intro z hz
    rw [rep] at hz
    rcases List.mem_append.1 hz with hz | hz
    · exact ih z hz
    · have hz' : z = (rep out e k).getD ((rep out e k).length - e) 0 := by simpa using hz
      rw [hz', List.getD_eq_getElem?_getD]
      cases hg : (rep out e k)[(rep out e k).length - e]? with
      | none => simp
      | some y => exact ih y (List.mem_of_getElem? hg)

theorem spr_byte (L out : List Int) (hL : Byts L) (ho : Byts out) : ∀ o, spr L out = some o → Byts o := by
  have app : ∀ {out : List Int} {d : Int}, Byts out → 0 ≤ d ∧ d ≤ 255 → Byts (out ++ [d]) := fun h hd z hz => by
    rcases List.mem_append.1 hz with hz | hz
    · exact h z hz
    · rw [List.mem_singleton] at hz
      subst hz; exact hd
  induction L, out using spr.induct with
  | case1 out => intro o h; simp [spr] at h; subst h; exact ho
  | case2 d out h => intro o hh; rw [spr, if_pos h] at hh; cases hh; exact app ho (hL d (by simp))
  | case3 d out h => intro o hh; rw [spr, if_neg h] at hh; cases hh
  | case4 d e r out h ih => intro o hh; rw [spr, if_pos h] at hh; exact ih (fun z hz => hL z (by simp at hz ⊢; rcases hz with hz | hz <;> simp [hz])) (app ho (hL d (by simp))) o hh
  | case5 e r out h h1 => intro o hh; rw [spr, if_neg h1, if_pos rfl, if_pos h] at hh; cases hh
  | case6 e r out h h1 ih => intro o hh; rw [spr, if_neg h1, if_pos rfl, if_neg h] at hh; exact ih (fun z hz => hL z (by simp [hz])) (app ho (hL e (by simp))) o hh
  | case7 d e r out h1 h2 h h3 => intro o hh; rw [spr, if_neg h1, if_neg h2, if_pos h, if_pos h3] at hh; cases hh
  | case8 d e r out h1 h2 h h3 ih => intro o hh; rw [spr, if_neg h1, if_neg h2, if_pos h, if_neg h3] at hh; exact ih (fun z hz => hL z (by simp [hz])) (rep_byte ho _) o hh
  | case9 d e r out h1 h2 h => intro o hh; rw [spr, if_neg h1, if_neg h2, if_neg h] at hh; cases hh

theorem spread_byte {L : List Int} (hL : Byts L) : Byts ((spread L).getD []) := by
  unfold spread
  cases h : spr L [] with
  | none => intro z hz; simp at hz
  | some o =>
    have hb := spr_byte L [] hL (fun z hz => by cases hz) o h
    show Byts ((if 3000 < o.length then none else some o : Option (List Int)).getD [])
    split
    · intro z hz; simp at hz
    · exact hb

theorem spread_bytes {f : Nat → Int} {n : Nat} {F : List Int} (hf : ∀ i, i < n → 0 ≤ f i ∧ f i ≤ 255) (h : spread (bl f n) = some F) : ∀ z ∈ F, 0 ≤ z ∧ z ≤ 255 := by
  have := spread_byte (L := bl f n) (fun z hz => by
    simp only [bl, List.mem_map, List.mem_range] at hz
    obtain ⟨i, hi, rfl⟩ := hz
    exact hf i hi)
  rw [h] at this
  exact this
end Go.Proofs.Ythhkmfgccbkkhaa

/- Messages read one behind the other: plain words. -/
namespace Go.Proofs.Ythhkmfgccbkkhaa
open Go.ChangeShapes Go.WideShapes Go.ChangeAt Go.RowKit
set_option linter.unusedVariables false
set_option linter.unusedSimpArgs false
set_option maxRecDepth 100000

/-- The message m begins at p. -/
def BgM (n : Nat) (f : Nat → Int) (p : Int) (m : Mg) : Prop := Begins n f p m.k m.c m.v m.h m.g
theorem bgm_one {n : Nat} {f : Nat → Int} {p : Int} {m m' : Mg} (h : BgM n f p m) (h' : BgM n f p m') : m = m' := by
  obtain ⟨e1, e2, e3, e4, e5⟩ := begins_one h h'
  cases m; cases m'
  simp_all
theorem bgm_len {n : Nat} {f : Nat → Int} {p : Nat} {m : Mg} (h : BgM n f (p : Int) m) : 0 < (mby m).length ∧ p + (mby m).length ≤ n := by
  refine ⟨mb_pos h.2.1, ?_⟩
  have := h.2.2.1
  rw [show ((p : Int)).toNat = p by omega] at this
  exact this
/-- The first j of M lie one behind the other from 0 on. -/
def Prs (n : Nat) (f : Nat → Int) (M : Nat → Mg) (j : Nat) : Prop := ∀ i, i < j → BgM n f ((frs M i).length : Nat) (M i)
theorem frs_congr {M M' : Nat → Mg} {j : Nat} (h : ∀ i, i < j → M i = M' i) : frs M j = frs M' j := by
  induction j with
  | zero => rfl
  | succ j ih => simp only [frs]; rw [ih (fun i hi => h i (by omega)), h j (by omega)]
theorem Prs.congr {n : Nat} {f : Nat → Int} {M M' : Nat → Mg} {j : Nat} (h : Prs n f M j) (e : ∀ i, i < j → M i = M' i) : Prs n f M' j := fun i hi => by
  rw [← e i hi, ← frs_congr (j := i) (fun t ht => e t (by omega))]
  exact h i hi
/-- M with m at j. -/
def setM (M : Nat → Mg) (j : Nat) (m : Mg) (i : Nat) : Mg := if i = j then m else M i
theorem setM_at (M : Nat → Mg) (j : Nat) (m : Mg) : setM M j m j = m := by simp [setM]
theorem setM_lt (M : Nat → Mg) (j : Nat) (m : Mg) : ∀ i, i < j → M i = setM M j m i := fun i hi => by simp [setM, show ¬ i = j by omega]
theorem frs_set (M : Nat → Mg) (j : Nat) (m : Mg) : frs (setM M j m) (j + 1) = frs M j ++ mby m := by
  simp only [frs]
  rw [setM_at, ← frs_congr (setM_lt M j m)]
theorem Prs.step {n : Nat} {f : Nat → Int} {M : Nat → Mg} {j : Nat} {m : Mg} (h : Prs n f M j) (hb : BgM n f ((frs M j).length : Nat) m) : Prs n f (setM M j m) (j + 1) := fun i hi => by
  by_cases e : i = j
  · subst e
    rw [setM_at, ← frs_congr (setM_lt M i m)]
    exact hb
  · exact (h.congr (setM_lt M j m)) i (by omega)
theorem Prs.le {n : Nat} {f : Nat → Int} {M : Nat → Mg} {j : Nat} (h : Prs n f M j) : j ≤ (frs M j).length ∧ (frs M j).length ≤ n := by
  induction j with
  | zero => exact ⟨Nat.le_refl _, Nat.zero_le _⟩
  | succ j ih =>
    obtain ⟨h1, h2⟩ := ih (fun i hi => h i (by omega))
    obtain ⟨g1, g2⟩ := bgm_len (h j (by omega))
    simp only [frs, List.length_append]
    omega
theorem prs_one {n : Nat} {f : Nat → Int} {M M' : Nat → Mg} {j k : Nat} (h : Prs n f M j) (h' : Prs n f M' k) (hj : j ≤ k) : ∀ i, i < j → M i = M' i := by
  intro i
  induction i using Nat.strongRecOn with
  | _ i ih =>
    intro hi
    have e : frs M i = frs M' i := frs_congr fun t ht => ih t ht (by omega)
    have h2 := h' i (by omega)
    rw [← e] at h2
    exact bgm_one (h i hi) h2
/-- All of it is messages. -/
def All (n : Nat) (f : Nat → Int) (M : Nat → Mg) (k : Nat) : Prop := Prs n f M k ∧ (frs M k).length = n
theorem all_one {n : Nat} {f : Nat → Int} {M M' : Nat → Mg} {k k' : Nat} (h : All n f M k) (h' : All n f M' k') : k = k' ∧ ∀ i, i < k → M i = M' i := by
  have key : ∀ {M M' : Nat → Mg} {k k' : Nat}, All n f M k → All n f M' k' → k ≤ k' → k = k' := by
    intro M M' k k' h h' hle
    by_cases e : k = k'
    · exact e
    · have e1 := frs_congr (prs_one h.1 h'.1 hle)
      obtain ⟨g1, g2⟩ := bgm_len (h'.1 k (by omega))
      rw [← e1, h.2] at g2
      omega
  have ek : k = k' := by
    rcases Nat.le_total k k' with h1 | h1
    · exact key h h' h1
    · exact (key h' h h1).symm
  subst ek
  exact ⟨rfl, prs_one h.1 h'.1 (Nat.le_refl _)⟩
/-- Where none begins behind the first j of them, and there is more, it is not all messages. -/
theorem all_no {n : Nat} {f : Nat → Int} {M : Nat → Mg} {j : Nat} (h : Prs n f M j) (hl : (frs M j).length < n) (hno : ¬ ∃ m, BgM n f ((frs M j).length : Nat) m) : ¬ ∃ M' k, All n f M' k := by
  rintro ⟨M', k, hA⟩
  by_cases hjk : j < k
  · have e := frs_congr (prs_one h hA.1 (by omega))
    exact hno ⟨M' j, by rw [e]; exact hA.1 j hjk⟩
  · have hk : k ≤ j := by omega
    have e := frs_congr (prs_one hA.1 h hk)
    have h1 := hA.2
    rw [e] at h1
    by_cases e2 : k = j
    · subst e2; omega
    · obtain ⟨g1, g2⟩ := bgm_len (h k (by omega))
      omega
/-- The bytes that are all messages are the messages' bytes. -/
theorem Prs.at {n : Nat} {f : Nat → Int} {M : Nat → Mg} {j : Nat} (h : Prs n f M j) : ∀ t, t < (frs M j).length → (frs M j).getD t 0 = f t := by
  induction j with
  | zero => intro t ht; simp [frs] at ht
  | succ j ih =>
    intro t ht
    have h0 : Prs n f M j := fun i hi => h i (by omega)
    simp only [frs, List.length_append] at ht ⊢
    by_cases hlt : t < (frs M j).length
    · rw [← ih h0 t hlt]
      simp [List.getD, List.getElem?_append_left hlt]
    · have hb := (h j (by omega)).2.2.2 (t - (frs M j).length) (by
        show t - (frs M j).length < (mby (M j)).length
        omega)
      rw [show (((frs M j).length : Nat) : Int).toNat + (t - (frs M j).length) = t by omega] at hb
      rw [hb]
      simp only [List.getD]
      rw [List.getElem?_append_right (by omega)]
      rfl
theorem All.eq {n : Nat} {f : Nat → Int} {M : Nat → Mg} {k : Nat} (h : All n f M k) : frs M k = (List.range n).map f := by
  refine List.ext_getElem? fun t => ?_
  by_cases ht : t < n
  · have := h.1.at t (by rw [h.2]; exact ht)
    rw [List.getElem?_eq_getElem (by rw [h.2]; exact ht)]
    simp only [List.getD] at this
    rw [List.getElem?_eq_getElem (by rw [h.2]; exact ht)] at this
    simp only [Option.getD_some] at this
    simp [ht, this]
  · rw [List.getElem?_eq_none (by rw [h.2]; omega), List.getElem?_eq_none (by simp; omega)]

/-- L is the messages packed: the k of M. -/
def Upk (L : List Int) (M : Nat → Mg) (k : Nat) : Prop := ∃ F, spread L = some F ∧ All F.length (fun i => F.getD i 0) M k ∧ pck M k = L
theorem upk_one {L : List Int} {M M' : Nat → Mg} {k k' : Nat} (h : Upk L M k) (h' : Upk L M' k') : k = k' ∧ ∀ i, i < k → M i = M' i := by
  obtain ⟨F, h1, h2, _⟩ := h
  obtain ⟨F', g1, g2, _⟩ := h'
  rw [h1] at g1
  cases g1
  exact all_one h2 g2
theorem spread_le {L F : List Int} (h : spread L = some F) : F.length ≤ 3000 := by
  unfold spread at h
  split at h
  · cases h
  · split at h
    · cases h
    · cases h; omega
end Go.Proofs.Ythhkmfgccbkkhaa

/- A list of messages that is built by append. -/
namespace Go.Proofs.Ythhkmfgccbkkhaa
open Go.ChangeShapes Go.WideShapes Go.ChangeAt Go.RowKit
set_option linter.unusedVariables false
set_option linter.unusedSimpArgs false
set_option maxRecDepth 100000

def mcell (m : Mg) (r : Option Addr × Nat) : List Value := [.int .i64 m.k, .int .i64 m.c, .int .i64 m.v, .int .i64 m.h, .slice r.1 m.g.length r.2]
def mcells (M : Nat → Mg) (R : Nat → Option Addr × Nat) : Nat → List Value
  | 0 => []
  | j + 1 => mcells M R j ++ mcell (M j) (R j)
theorem mcells_len (M : Nat → Mg) (R : Nat → Option Addr × Nat) (j : Nat) : (mcells M R j).length = j * 5 := by
  induction j with
  | zero => rfl
  | succ j ih => simp [mcells, mcell, ih]; omega
theorem mcells_at (M : Nat → Mg) (R : Nat → Option Addr × Nat) (n i t : Nat) (hi : i < n) (ht : t < 5) : (mcells M R n)[i * 5 + t]? = (mcell (M i) (R i))[t]? := by
  induction n with
  | zero => omega
  | succ n ih =>
    have hl := mcells_len M R n
    simp only [mcells]
    by_cases e : i = n
    · subst e
      rw [List.getElem?_append_right (by omega), hl, Nat.add_sub_cancel_left]
    · rw [List.getElem?_append_left (by omega)]
      exact ih (by omega)
theorem mcells_congr {M M' : Nat → Mg} {R R' : Nat → Option Addr × Nat} {n : Nat} (h : ∀ i, i < n → M i = M' i ∧ R i = R' i) : mcells M R n = mcells M' R' n := by
  induction n with
  | zero => rfl
  | succ n ih => simp only [mcells]; rw [ih (fun i hi => h i (by omega)), (h n (by omega)).1, (h n (by omega)).2]

/-- The numbers of each of them lie in a row of its own, away from the list. -/
def UG (w : World) (B : Nat) (blk : Option Nat) (n : Nat) (M : Nat → Mg) (R : Nat → Option Addr × Nat) : Prop :=
  ∀ i, i < n → ((M i).g.length ≤ (R i).2 ∧ Own w B 3 (R i).1 (M i).g.length (fun j => .int .i64 ((M i).g.getD j 0))) ∧
    ∀ γ, (R i).1 = some ⟨γ, 0, none⟩ → 0 < (M i).g.length → (γ < w.heap.size ∧ blk ≠ some γ) ∧ ∀ j, j < n → j ≠ i → 0 < (M j).g.length → (R j).1 ≠ some ⟨γ, 0, none⟩
def UL (w : World) (B : Nat) (v : Value) (n : Nat) (M : Nat → Mg) (R : Nat → Option Addr × Nat) : Prop :=
  w.ownsRow B 26 5 v n (mcells M R n) ∧ UG w B v.ownBlock n M R
theorem UL.nil {w : World} {B : Nat} {M : Nat → Mg} {R : Nat → Option Addr × Nat} : UL w B (.slice none 0 0) 0 M R := ⟨⟨rfl, .inl ⟨rfl, rfl⟩⟩, fun i hi => absurd hi (Nat.not_lt_zero _)⟩
theorem UL.empty {w : World} {B : Nat} {M : Nat → Mg} {R : Nat → Option Addr × Nat} (hB : B ≤ w.heap.size) : UL (w.alloc (.cells #[] 26)) B (.slice (some ⟨w.heap.size, 0, none⟩) 0 0) 0 M R :=
  ⟨⟨rfl, .inr ⟨_, _, #[], rfl, hB, Deep.blk_alloc_new _ _, by simp, by simp, by simp, by simp [mcells]⟩⟩, fun i hi => absurd hi (Nat.not_lt_zero _)⟩
theorem UL.below {w w' : World} {B n : Nat} {v : Value} {M : Nat → Mg} {R : Nat → Option Addr × Nat} (h : UL w B v n M R) (hb : Below w.heap.size w w') : UL w' B v n M R :=
  ⟨gbelow h.1 hb, fun i hi => ⟨⟨(h.2 i hi).1.1, (h.2 i hi).1.2.below hb⟩, fun γ e hp => ⟨⟨Nat.lt_of_lt_of_le ((h.2 i hi).2 γ e hp).1.1 hb.size, ((h.2 i hi).2 γ e hp).1.2⟩, ((h.2 i hi).2 γ e hp).2⟩⟩⟩
theorem UL.mono {w : World} {B B' n : Nat} {v : Value} {M : Nat → Mg} {R : Nat → Option Addr × Nat} (h : UL w B v n M R) (hB : B' ≤ B) : UL w B' v n M R := by
  refine ⟨gmono h.1 hB, fun i hi => ⟨⟨(h.2 i hi).1.1, ?_⟩, (h.2 i hi).2⟩⟩
  rcases (h.2 i hi).1.2 with h0 | ⟨γ, e, hg, r⟩
  · exact .inl h0
  · exact .inr ⟨γ, e, Nat.le_trans hB hg, r⟩
/-- R with r at j. -/
def setR (R : Nat → Option Addr × Nat) (j : Nat) (r : Option Addr × Nat) (i : Nat) : Option Addr × Nat := if i = j then r else R i

/-- Behind an append of one message: w1 is the world ahead of it, H what was there ahead of the message's own numbers. -/
theorem UL.push {w1 w2 : World} {B H n cap g : Nat} {v : Value} {M : Nat → Mg} {R : Nat → Option Addr × Nat} {m : Mg} {r : Option Addr × Nat} (h : UL w1 B v n M R) (hH : ∀ k, v.ownBlock = some k → k < H) (hHs : ∀ i, i < n → ∀ γ, (R i).1 = some ⟨γ, 0, none⟩ → 0 < (M i).g.length → γ < H) (hBH : B ≤ H)
    (hr : m.g.length ≤ r.2) (ho : Own w1 H 3 r.1 m.g.length (fun j => .int .i64 (m.g.getD j 0)))
    (hown : w2.ownsRow B 26 5 (.slice (some ⟨g, 0, none⟩) (n + 1) cap) (n + 1) (mcells M R n ++ mcell m r)) (hg : w1.grownBy w2 v.ownBlock) (hat : v.ownBlock = some g ∨ g = w1.heap.size) :
    UL w2 B (.slice (some ⟨g, 0, none⟩) (n + 1) cap) (n + 1) (setM M n m) (setR R n r) := by
  have keepO : ∀ {ao : Option Addr} {l B' : Nat} {F : Nat → Value}, Own w1 B' 3 ao l F → (∀ γ, ao = some ⟨γ, 0, none⟩ → 0 < l → v.ownBlock ≠ some γ) → Own w2 B' 3 ao l F := by
    intro ao l B' F ho hne
    rcases ho with h0 | ⟨γ, e, hB, cs, hcs, hl, hF⟩
    · exact .inl h0
    · by_cases h0 : l = 0
      · exact .inl h0
      · exact .inr ⟨γ, e, hB, cs, (hg.block γ (Array.getElem?_eq_some_iff.1 hcs).1 (fun e2 => hne γ e (by omega) e2.symm)).trans hcs, hl, hF⟩
  have hnew : ∀ γ, r.1 = some ⟨γ, 0, none⟩ → 0 < m.g.length → H ≤ γ ∧ γ < w1.heap.size := fun γ e hp => by
    obtain ⟨γ', e', hB', hlt, _⟩ := ho.at hp
    rw [e] at e'
    cases e'
    exact ⟨hB', hlt⟩
  have hnv : ∀ γ, r.1 = some ⟨γ, 0, none⟩ → 0 < m.g.length → v.ownBlock ≠ some γ := fun γ e hp e2 => by
    have := hnew γ e hp
    have := hH γ e2
    omega
  refine ⟨?_, fun i hi => ?_⟩
  · have e : mcells (setM M n m) (setR R n r) (n + 1) = mcells M R n ++ mcell m r := by
      simp only [mcells]
      rw [← mcells_congr (M := M) (R := R) (fun i hi => ⟨setM_lt M n m i hi, by simp [setR, show ¬ i = n by omega]⟩)]
      simp [setM, setR]
    rw [e]
    exact hown
  · by_cases e : i = n
    · subst e
      simp only [setM_at, setR, if_true]
      refine ⟨⟨hr, (show Own w2 B 3 r.1 _ _ from ?_)⟩, fun γ e2 hp => ⟨⟨Nat.lt_of_lt_of_le (hnew γ e2 hp).2 hg.size, fun e3 => ?_⟩, fun j hj hne hpj e3 => ?_⟩⟩
      · rcases keepO ho hnv with h0 | ⟨γ, e, hB', rr⟩
        · exact .inl h0
        · exact .inr ⟨γ, e, by omega, rr⟩
      · simp only [Value.ownBlock, Option.some.injEq] at e3
        rcases hat with h1 | h1
        · exact hnv γ e2 hp (by rw [h1, e3])
        · have := (hnew γ e2 hp).2; omega
      · rw [if_neg hne] at e3
        have := hHs j (by omega) γ e3 (by rw [setM_lt M i m j (by omega)]; exact hpj)
        have := (hnew γ e2 hp).1
        omega
    · have hin : i < n := by omega
      have hMi : setM M n m i = M i := (setM_lt M n m i hin).symm
      have hRi : setR R n r i = R i := by simp [setR, e]
      rw [hMi, hRi]
      obtain ⟨⟨h1, h2⟩, h3⟩ := h.2 i hin
      refine ⟨⟨h1, keepO h2 (fun γ e2 hp => (h3 γ e2 hp).1.2)⟩, fun γ e2 hp => ⟨⟨Nat.lt_of_lt_of_le (h3 γ e2 hp).1.1 hg.size, fun e3 => ?_⟩, fun j hj hne hpj => ?_⟩⟩
      · simp only [Value.ownBlock, Option.some.injEq] at e3
        rcases hat with h4 | h4
        · exact (h3 γ e2 hp).1.2 (by rw [h4, e3])
        · have := (h3 γ e2 hp).1.1; omega
      · by_cases ej : j = n
        · subst ej
          simp only [setR, if_true]
          intro e4
          rw [setM_at] at hpj
          have := (hnew γ e4 hpj).1
          have := hHs i hin γ e2 hp
          omega
        · rw [show setR R n r j = R j by simp [setR, ej]]
          exact (h3 γ e2 hp).2 j (by omega) hne (by rw [setM_lt M n m j (by omega)]; exact hpj)

theorem UL.form {w : World} {B n : Nat} {v : Value} {M : Nat → Mg} {R : Nat → Option Addr × Nat} (h : UL w B v n M R) : ∃ ao cap, v = .slice ao n cap ∧ n ≤ cap ∧ (n = 0 ∨ ∃ g c, ao = some ⟨g, 0, none⟩ ∧ OM w B w.heap.size g n M c R) := by
  rcases h.1.2 with ⟨e, h0⟩ | ⟨g, cap, cur, e, hB, hc, hn, hm, hs, ht⟩
  · subst h0; exact ⟨none, 0, e, Nat.le_refl _, .inl rfl⟩
  · refine ⟨_, cap, e, hn, .inr ⟨g, cur, rfl, ⟨hB, (Array.getElem?_eq_some_iff.1 hc).1, Nat.le_refl _⟩, hc, by rw [hs]; exact Nat.mul_le_mul_right 5 hn, fun i hi => ?_⟩⟩
    have hat : ∀ t, t < 5 → cur[i * 5 + t]? = (mcell (M i) (R i))[t]? := fun t ht5 => by
      rw [← mcells_at M R n i t hi ht5, ← ht, List.getElem?_take, if_pos (by omega), Array.getElem?_toList]
    obtain ⟨⟨h1, h2⟩, h3⟩ := h.2 i hi
    refine ⟨⟨hat 0 (by omega), hat 1 (by omega), hat 2 (by omega), hat 3 (by omega), hat 4 (by omega)⟩, h1, h2, fun γ e2 hp => ⟨⟨(h3 γ e2 hp).1.1, fun e3 => (h3 γ e2 hp).1.2 (by rw [e, e3]; rfl)⟩, (h3 γ e2 hp).2⟩⟩
theorem UL.msl {w : World} {B n : Nat} {v : Value} {M : Nat → Mg} {R : Nat → Option Addr × Nat} {ao : Option Addr} {cap : Nat} (h : UL w B v n M R) (e : v = .slice ao n cap) : MSL w ao n M := by
  obtain ⟨ao', cap', e', _, h0 | ⟨g, c, e2, ho⟩⟩ := h.form
  · subst h0; exact fun i hi => absurd hi (Nat.not_lt_zero _)
  · rw [e] at e'; cases e'
    rw [e2]
    exact ho.msl
end Go.Proofs.Ythhkmfgccbkkhaa

/- Unpack of the program. -/
namespace Go.Proofs.Ythhkmfgccbkkhaa
open Go.ChangeShapes Go.WideShapes Go.ChangeAt Go.RowKit
set_option linter.unusedVariables false
set_option linter.unusedSimpArgs false
set_option maxRecDepth 100000

def v4own (v : Value) (H : Nat) : Prop := ∀ k, v.ownBlock = some k → k < H
/-- What readMsgs hands back. -/
def RsOut (w w' : World) (n : Nat) (f : Nat → Int) (e : Ending) : Prop :=
  ((∃ M k v R, All n f M k ∧ e = .returned (.tuple #[v, .bool true]) ∧ UL w' w.heap.size v k M R) ∨ ((¬ ∃ M k, All n f M k) ∧ e = .returned (.tuple #[.slice none 0 0, .bool false]))) ∧ Below w.heap.size w w'

set_option maxHeartbeats 1000000 in
theorem readmsgs_impl (ao : Option Addr) (n cap : Nat) (f : Nat → Int) (w : World) (hn : n ≤ 3000) (hcap : n ≤ cap) (hs : SL .u8 w ao n f) (hf : ∀ i, i < n → 0 ≤ f i ∧ f i ≤ 255) :
    Calls Try.prog 59 #[.slice ao n cap] w fun e w' => RsOut w w' n f e := by
  obtain ⟨i0, hi, hz0, hz1, hz2⟩ := info_parts Try.info26
  have HS := hide hs
  have HF := hide hf
  clear hs hf
  go_enter Try.func59, Try.ntmps59
  go_wp2
  go_loopw [4, 5, 6, 7, 8] (fun v y _ _ _ wr => ∃ (j l : Nat) (M : Nat → Mg) (R : Nat → Option Addr × Nat), y = .int .i64 l ∧ Hid (l = (frs M j).length) ∧ Hid (Prs n f M j) ∧ Hid (UL wr w.heap.size v j M R ∧ Below w.heap.size w wr)) (fun _ y _ _ _ _ => n - (intOf y).toNat)
  case atStart => exact ⟨0, 0, fun _ => mg0, fun _ => (none, 0), rfl, rfl, fun i hi => absurd hi (Nat.not_lt_zero _), UL.nil, Below.refl _ _⟩
  case round =>
    obtain ⟨j, l, M, R, rfl, HL, HP, HI⟩ := hrel
    have hle := HP.out.le
    rw [← HL.out] at hle
    by_cases hlt : l < n
    · have hcall := hide (msgof_impl ao n cap (l : Int) f wr (by omega) hcap (by omega) (by omega) (HS.out.below HI.out.2) HF.out)
      go_wp2_with fail
      refine hcall.out.mono ?_
      rintro e w3 ⟨h3, b3⟩
      have HI3 := hide (And.intro (HI.out.1.below b3) (HI.out.2.trans (b3.mono HI.out.2.size)))
      rcases h3 with ⟨k, c, v, d, G, ro, rc, hB, rfl, hrc, hO⟩ | ⟨hno, rfl⟩
      · have HB : Hid (BgM n f (l : Int) ⟨k, c, v, d, G⟩) := hB
        have hln := bgm_len HB.out
        have hbl : Hid (v4own u4 wr.heap.size) := fun k hk => (World.ownsRow.lt HI.out.1.1 k hk).2
        have hbg : Hid (∀ i, i < j → ∀ γ, (R i).1 = some ⟨γ, 0, none⟩ → 0 < (M i).g.length → γ < wr.heap.size) := fun i hi γ e hp => (HI.out.1.2 i hi).2 γ e hp |>.1.1
        have hB3 : Hid (w.heap.size ≤ wr.heap.size ∧ wr.heap.size ≤ w3.heap.size) := ⟨HI.out.2.size, b3.size⟩
        have HO := hide hO
        have hmb : Hid (mb k c v d (fun i => G.getD i 0) G.length = mby ⟨k, c, v, d, G⟩) := rfl
        rw [hmb.out]
        generalize hml : (mby ⟨k, c, v, d, G⟩).length = ml at *
        have HML := hide hml
        clear hml hB hO hcall b3 HI hmb
        obtain ⟨W, hW⟩ : ∃ W, W = (w3.alloc (.cells #[.int .i64 k, .int .i64 c, .int .i64 v, .int .i64 d, .slice ro G.length rc] 26)).alloc (.cells #[.int .i64 k, .int .i64 c, .int .i64 v, .int .i64 d, .slice ro G.length rc] 26) := ⟨_, rfl⟩
        have bW : Below w3.heap.size w3 W := by rw [hW]; exact ((Below.refl _ _).alloc (Nat.le_refl _) _).alloc (by simp) _
        have HW : Hid (UL W w.heap.size u4 j M R ∧ Below w.heap.size w W ∧ Own W wr.heap.size 3 ro G.length (fun i => .int .i64 (G.getD i 0)) ∧ wr.heap.size ≤ W.heap.size) := ⟨HI3.out.1.below bW, HI3.out.2.trans (bW.mono HI3.out.2.size), HO.out.below bW, Nat.le_trans hB3.out.2 bW.size⟩
        have HN : Hid (∀ t u, (mcell ⟨k, c, v, d, G⟩ (ro, rc))[t]? = some u → W.cell? ((⟨w3.heap.size + 1, 0, none⟩ : Addr).add t) = some u) := fun t u ht => by
          rw [hW]
          have := gcells (w3.alloc (.cells #[.int .i64 k, .int .i64 c, .int .i64 v, .int .i64 d, .slice ro G.length rc] 26)) (mcell ⟨k, c, v, d, G⟩ (ro, rc)) 26 t u ht
          rw [show (w3.alloc (.cells #[.int .i64 k, .int .i64 c, .int .i64 v, .int .i64 d, .slice ro G.length rc] 26)).heap.size = w3.heap.size + 1 by simp] at this
          exact this
        have h1c : ∀ u ∈ mcell ⟨k, c, v, d, G⟩ (ro, rc), u.oneCell' = true := by
          intro u hu
          simp only [mcell, List.mem_cons, List.not_mem_nil, or_false] at hu
          rcases hu with rfl | rfl | rfl | rfl | rfl <;> rfl
        have hjb : j ≤ 3000 := by omega
        clear bW HI3 HO
        go_wp2_with (first
          | (at_builtin; rw [← hW]; refine wpList_append_lies _ rfl _ _ 33 rfl w.heap.size 26 i0 (.agg #[.int .i64 0, .int .i64 0, .int .i64 0, .int .i64 0, .slice none 0 0]) 5 56 Try.underlying33 hi hz0 hz1 hz2 rfl (by decide) _ _ _ rfl HW.out.1.1 ⟨w3.heap.size + 1, 0, none⟩ 1 1 (mcell ⟨k, c, v, d, G⟩ (ro, rc)) rfl rfl HN.out h1c (by decide) (by unfold maxLen; omega) (by omega) HW.out.2.1.size _ rfl ?_; intro g4 c4 w4 hown4 hgrow4 hat4 hlt4))
        have R4 := hide (HW.out.1.push (H := wr.heap.size) (m := ⟨k, c, v, d, G⟩) (r := (ro, rc)) hbl.out hbg.out hB3.out.1 hrc HW.out.2.2.1 hown4 hgrow4 hat4)
        have B4 : Hid (Below w.heap.size w w4) := HW.out.2.1.grown hgrow4 HW.out.2.1.size (fun k hk => (World.ownsRow.lt HW.out.1.1 k hk).1)
        clear hown4 hgrow4 hat4
        go_wp2
        go_roundw
        case rel =>
          refine ⟨j + 1, l + ml, setM M j ⟨k, c, v, d, G⟩, setR R j (ro, rc), by go_num, ?_, HP.out.step (by rw [← HL.out]; exact HB.out), R4.out, B4.out⟩
          show _ = _
          rw [frs_set, List.length_append, HL.out, HML.out]
        case measure => simp [intOf]; omega
      · have HN : Hid (¬ ∃ M k, All n f M k) := all_no HP.out (by rw [← HL.out]; exact hlt) (fun ⟨m, hm⟩ => hno ⟨m.k, m.c, m.v, m.h, m.g, by rw [HL.out]; exact hm⟩)
        clear hno hcall b3 HI
        go_wp2
        go_ret2
        exact ⟨.inr ⟨HN.out, rfl⟩, (HI3.out.2.alloc HI3.out.2.size _)⟩
    · obtain rfl : l = n := by omega
      go_wp2
      go_ret2
      exact ⟨.inl ⟨M, j, _, R, ⟨HP.out, HL.out.symm⟩, rfl, HI.out.1⟩, HI.out.2⟩

/-- What Unpack hands back. -/
def UpOut (w w' : World) (L : List Int) (e : Ending) : Prop :=
  ((∃ M k ao cap R, Upk L M k ∧ e = .returned (.tuple #[.slice ao k cap, .bool true]) ∧ UL w' w.heap.size (.slice ao k cap) k M R) ∨
   ((¬ ∃ M k, Upk L M k) ∧ ∃ ao cap, e = .returned (.tuple #[.slice ao 0 cap, .bool false]))) ∧ Below w.heap.size w w'
theorem all_gens {n : Nat} {f : Nat → Int} {M : Nat → Mg} {k : Nat} (h : Prs n f M k) : ∀ i, i < k → (M i).g.length ≤ 12 := fun i hi => (mok_bd (h i hi).2.1).1

theorem pck_byte (M : Nat → Mg) (k : Nat) : ∀ z ∈ pck M k, 0 ≤ z ∧ z ≤ 255 := by
  intro z hz
  unfold pck squeeze at hz
  split at hz
  · cases hz
  · exact sqz_byte _ _ _ _ (fun i hi => frs_byte M k _ (getD_mem _ i hi)) z hz

set_option maxHeartbeats 1000000 in
theorem unpack_impl (ao : Option Addr) (n cap : Nat) (f : Nat → Int) (w : World) (hn : n ≤ 1048576) (hs : SL .u8 w ao n f) (hf : ∀ i, i < n → 0 ≤ f i ∧ f i ≤ 255) :
    Calls Try.prog 19 #[.slice ao n cap] w fun e w' => UpOut w w' (bl f n) e := by
  have HS := hide hs
  have HF := hide hf
  have hsp := hide (spread_impl ao n cap f w hn hs hf)
  clear hs hf
  cases hsL : spread (bl f n) with
  | none =>
    have HN : Hid (¬ ∃ M k, Upk (bl f n) M k) := fun ⟨M, k, F, e, _⟩ => by rw [hsL] at e; cases e
    go_enter Try.func19, Try.ntmps19
    go_wp2_with fail
    refine hsp.out.mono ?_
    rintro e w1 ⟨⟨ro, rc, rfl, _⟩, b1⟩
    simp only [hsL, Option.getD_none, Option.isSome_none, List.length_nil]
    have B1 := hide b1
    clear b1 hsp hsL
    go_wp2
    go_ret2
    exact ⟨.inr ⟨HN.out, _, _, rfl⟩, B1.out⟩
  | some F =>
    have hF := spread_le hsL
    have hFb : Hid (∀ z ∈ F, 0 ≤ z ∧ z ≤ 255) := spread_bytes HF.out hsL
    go_enter Try.func19, Try.ntmps19
    go_wp2_with fail
    refine hsp.out.mono ?_
    rintro e w1 ⟨⟨ro, rc, rfl, ho1, hrc0⟩, b1⟩
    simp only [hsL, Option.getD_some, Option.isSome_some] at ho1 hrc0 ⊢
    have H1 : Hid (SL .u8 w1 ro F.length (fun i => F.getD i 0) ∧ Below w.heap.size w w1) := ⟨ho1.sl, b1⟩
    have hFf : Hid (∀ i, i < F.length → 0 ≤ F.getD i 0 ∧ F.getD i 0 ≤ 255) := fun i hi => hFb.out _ (getD_mem _ i hi)
    have hrc : F.length ≤ rc := hrc0
    have hcall := hide (readmsgs_impl ro F.length rc (fun i => F.getD i 0) w1 hF hrc H1.out.1 hFf.out)
    have HSL := hide hsL
    clear ho1 b1 hsp hsL
    go_wp2_with fail
    refine hcall.out.mono ?_
    rintro e w2 ⟨h2, b2⟩
    have B2 := hide (H1.out.2.trans (b2.mono H1.out.2.size))
    have hsz1 : Hid (w.heap.size ≤ w1.heap.size) := H1.out.2.size
    clear hcall b2
    rcases h2 with ⟨M, k, v, R, hA, rfl, hU⟩ | ⟨hno, rfl⟩
    · obtain ⟨ao2, c2, rfl, hkc, _⟩ := hU.form
      have HU := hide hU
      have HAl := hide hA
      have hk3 : k ≤ 3000 := by have := hA.1.le; have := hA.2; omega
      have hpk := hide (pack_impl ao2 k c2 M w2 (by omega) (fun i hi => by have := all_gens hA.1 i hi; omega) (hU.msl rfl))
      clear hU hA
      go_wp2_with fail
      refine hpk.out.mono ?_
      rintro e w3 ⟨v3, rfl, ho3, b3⟩
      obtain ⟨ao3, c3, rfl⟩ := (Src.of_owns ho3).form
      have hSL3 := (Src.of_owns ho3).slu
      have HU3 := hide (HU.out.below b3)
      have B3 := hide (B2.out.trans (b3.mono B2.out.size))
      obtain ⟨r, hr⟩ := tellsB (pck M k = bl f n)
      have hlen : (bl f n).length = n := bl_len f n
      have heq := bequal_any ao3 ao c3 cap (pck M k) (bl f n) w3 (pck_byte M k) (fun z hz => by
        simp only [bl, List.mem_map, List.mem_range] at hz
        obtain ⟨i, hi, rfl⟩ := hz
        exact HF.out i hi) hSL3 (by
        rw [hlen]
        intro i hi
        obtain ⟨b, off, e, hl, hc⟩ := (HS.out.below B3.out) i hi
        exact ⟨b, off, e, hl, by rw [hc]; simp [bl, List.getD, hi]⟩) r hr
      rw [hlen] at heq
      have HEQ := hide heq
      have HR := hide hr
      clear ho3 b3 hSL3 hpk heq hr hlen
      cases r with
      | true =>
        go_wp2_with fail
        refine HEQ.out.mono ?_
        rintro e w4 ⟨rfl, hw⟩
        rw [hw]
        clear hw HEQ
        go_wp2
        go_ret2
        exact ⟨.inl ⟨M, k, ao2, c2, R, ⟨F, HSL.out, HAl.out, HR.out.1 rfl⟩, rfl, HU3.out.mono hsz1.out⟩, B3.out⟩
      | false =>
        go_wp2_with fail
        refine HEQ.out.mono ?_
        rintro e w4 ⟨rfl, hw⟩
        rw [hw]
        clear hw HEQ
        go_wp2
        go_ret2
        refine ⟨.inr ⟨?_, _, _, rfl⟩, B3.out⟩
        rintro ⟨M', k', F', e1, e2, e3⟩
        rw [HSL.out] at e1
        cases e1
        obtain ⟨rfl, e4⟩ := all_one HAl.out e2
        have : pck M k = bl f n := by rw [← e3]; unfold pck; rw [frs_congr e4]
        exact absurd (HR.out.2 this) (by simp)
    · have HN : Hid (¬ ∃ M k, Upk (bl f n) M k) := fun ⟨M, k, F', e1, e2, _⟩ => by
        rw [HSL.out] at e1
        cases e1
        exact hno ⟨M, k, e2⟩
      clear hno
      go_wp2
      go_ret2
      exact ⟨.inr ⟨HN.out, _, _, rfl⟩, B2.out⟩
end Go.Proofs.Ythhkmfgccbkkhaa

/- Unpack of the model. -/
namespace Go.Proofs.Ythhkmfgccbkkhaa
open Go.ChangeShapes Go.WideShapes Go.ChangeAt Go.RowKit
set_option linter.unusedVariables false
set_option linter.unusedSimpArgs false
set_option maxRecDepth 100000

/-- v lies at a, or from b on. -/
def farv (v : Value) (a b : Nat) : Prop := ∀ k, v.ownBlock = some k → k = a ∨ b ≤ k
def okn : Value → Nat
  | .bool true => 1
  | _ => 0

set_option maxHeartbeats 1000000 in
theorem unpack_spec (ao : Option Addr) (n cap : Nat) (f : Nat → Int) (w : World) (hn : n ≤ 1048576) (hs : SL .u8 w ao n f) (hf : ∀ i, i < n → 0 ≤ f i ∧ f i ≤ 255) :
    Calls Try.prog 20 #[.slice ao n cap] w fun e w' => UpOut w w' (bl f n) e := by
  obtain ⟨i0, hi, hz0, hz1, hz2⟩ := info_parts Try.info26
  have HS := hide hs
  have HF := hide hf
  have ba : Below w.heap.size w (w.alloc (.cells #[] 26)) := (Below.refl _ _).alloc (Nat.le_refl _) _
  have hsp := hide (spread_spec ao n cap f (w.alloc (.cells #[] 26)) hn (hs.below ba) hf)
  have BA := hide ba
  clear hs hf ba
  cases hsL : spread (bl f n) with
  | none =>
    have HN : Hid (¬ ∃ M k, Upk (bl f n) M k) := fun ⟨M, k, F, e, _⟩ => by rw [hsL] at e; cases e
    go_enter Try.func20, Try.ntmps20
    go_wp2_with fail
    refine hsp.out.mono ?_
    rintro e w1 ⟨⟨ro, rc, rfl, _, _⟩, b1⟩
    simp only [hsL, Option.getD_none, Option.isSome_none, List.length_nil]
    have B1 := hide (BA.out.trans (b1.mono BA.out.size))
    clear b1 hsp hsL
    go_wp2
    refine wp_loop_rounds 1 ?_
    rw [rounds_succ]
    go_wp2
    refine wp_region_held_drew (S := fun _ => True) (by kernel_rfl) trivial (fun _ => ?_)
    refine wpAnyH_take (i := 0) (oi := { dst := some 37, op := Op.move (Operand.tmp 6), type := 4, pos := "l04_msg.go:99", after := #[], guard := none }) (v := ?_) rfl (by kernel_rfl) (by kernel_rfl) (by kernel_rfl) (fun _ _ _ h => h) (Or.inl ⟨by rfl, ?_⟩) trivial ?_
    rotate_left 1
    · (intro wq _; go_simp; try with_reducible rfl)
    try simp only [Act.put, List.setIfInBounds_toArray, List.set_cons_zero, List.set_cons_succ]
    refine wpAnyH_take (i := 1) (oi := { dst := some 38, op := Op.unOp UnOp.not 4 (Operand.tmp 37), type := 4, pos := "l04_msg.go:99", after := #[{ on := 0, ground := Ground.data }], guard := none }) (v := ?_) rfl (by kernel_rfl) (by kernel_rfl) (by kernel_rfl) (fun _ _ _ h => h) (Or.inl ⟨by rfl, ?_⟩) trivial ?_
    rotate_left 1
    · (intro wq _; go_simp; try with_reducible rfl)
    try simp only [Act.put, List.setIfInBounds_toArray, List.set_cons_zero, List.set_cons_succ]
    refine wpAnyH_take (i := 2) (oi := { dst := some 39, op := Op.move (Operand.tmp 38), type := 4, pos := "l04_msg.go:99", after := #[{ on := 1, ground := Ground.data }], guard := none }) (v := ?_) rfl (by kernel_rfl) (by kernel_rfl) (by kernel_rfl) (fun _ _ _ h => h) (Or.inl ⟨by rfl, ?_⟩) trivial ?_
    rotate_left 1
    · (intro wq _; go_simp; try with_reducible rfl)
    try simp only [Act.put, List.setIfInBounds_toArray, List.set_cons_zero, List.set_cons_succ]
    refine wpAnyH_take (i := 3) (oi := { dst := some 40, op := Op.move (Operand.tmp 4), type := 33, pos := "l04_msg.go:99", after := #[{ on := 2, ground := Ground.guard }], guard := some (2, false) }) (v := undef) rfl (by kernel_rfl) (by kernel_rfl) (by kernel_rfl) (fun _ _ _ h => h) (Or.inr ⟨by rfl, rfl⟩) trivial ?_
    try simp only [Act.put, List.setIfInBounds_toArray, List.set_cons_zero, List.set_cons_succ]
    refine wpAnyH_take (i := 4) (oi := { dst := some 41, op := Op.call { callee := Callee.value (Operand.func 24), args := #[Operand.tmp 40], argTypes := #[33] }, type := 22, pos := "l04_msg.go:99", after := #[{ on := 3, ground := Ground.data }, { on := 2, ground := Ground.chain }, { on := 2, ground := Ground.guard }], guard := some (2, false) }) (v := undef) rfl (by kernel_rfl) (by kernel_rfl) (by kernel_rfl) (fun _ _ _ h => h) (Or.inr ⟨by rfl, rfl⟩) trivial ?_
    try simp only [Act.put, List.setIfInBounds_toArray, List.set_cons_zero, List.set_cons_succ]
    refine wpAnyH_take (i := 5) (oi := { dst := some 42, op := Op.convert 22 9 (Operand.tmp 41), type := 9, pos := "l04_msg.go:99", after := #[{ on := 4, ground := Ground.data }, { on := 2, ground := Ground.guard }], guard := some (2, false) }) (v := undef) rfl (by kernel_rfl) (by kernel_rfl) (by kernel_rfl) (fun _ _ _ h => h) (Or.inr ⟨by rfl, rfl⟩) trivial ?_
    try simp only [Act.put, List.setIfInBounds_toArray, List.set_cons_zero, List.set_cons_succ]
    refine wpAnyH_take (i := 6) (oi := { dst := some 43, op := Op.move (Operand.tmp 0), type := 22, pos := "l04_msg.go:99", after := #[{ on := 2, ground := Ground.guard }], guard := some (2, false) }) (v := undef) rfl (by kernel_rfl) (by kernel_rfl) (by kernel_rfl) (fun _ _ _ h => h) (Or.inr ⟨by rfl, rfl⟩) trivial ?_
    try simp only [Act.put, List.setIfInBounds_toArray, List.set_cons_zero, List.set_cons_succ]
    refine wpAnyH_take (i := 7) (oi := { dst := some 44, op := Op.convert 22 9 (Operand.tmp 43), type := 9, pos := "l04_msg.go:99", after := #[{ on := 6, ground := Ground.data }, { on := 2, ground := Ground.guard }], guard := some (2, false) }) (v := undef) rfl (by kernel_rfl) (by kernel_rfl) (by kernel_rfl) (fun _ _ _ h => h) (Or.inr ⟨by rfl, rfl⟩) trivial ?_
    try simp only [Act.put, List.setIfInBounds_toArray, List.set_cons_zero, List.set_cons_succ]
    refine wpAnyH_take (i := 8) (oi := { dst := some 45, op := Op.binOp BinOp.neq 9 (Operand.tmp 42) (Operand.tmp 44) 9, type := 4, pos := "l04_msg.go:99", after := #[{ on := 5, ground := Ground.data }, { on := 7, ground := Ground.data }, { on := 2, ground := Ground.guard }], guard := some (2, false) }) (v := undef) rfl (by kernel_rfl) (by kernel_rfl) (by kernel_rfl) (fun _ _ _ h => h) (Or.inr ⟨by rfl, rfl⟩) trivial ?_
    try simp only [Act.put, List.setIfInBounds_toArray, List.set_cons_zero, List.set_cons_succ]
    refine wpAnyH_take (i := 9) (oi := { dst := some 46, op := Op.pick (Operand.tmp 39) (Operand.const (Value.bool true)) (Operand.tmp 45), type := 4, pos := "l04_msg.go:99", after := #[{ on := 2, ground := Ground.data }, { on := 8, ground := Ground.data }], guard := none }) (v := ?_) rfl (by kernel_rfl) (by kernel_rfl) (by kernel_rfl) (fun _ _ _ h => h) (Or.inl ⟨by rfl, ?_⟩) trivial ?_
    rotate_left 1
    · (intro wq _; go_simp; try with_reducible rfl)
    try simp only [Act.put, List.setIfInBounds_toArray, List.set_cons_zero, List.set_cons_succ]
    refine wpAnyH_done (by kernel_rfl) ?_ _
    go_wp2
    go_ret2
    exact ⟨.inr ⟨HN.out, _, _, rfl⟩, (Below.drawn B1.out 1).alloc B1.out.size _⟩
  | some F =>
    have hF := spread_le hsL
    have hFb : Hid (∀ z ∈ F, 0 ≤ z ∧ z ≤ 255) := spread_bytes HF.out hsL
    go_enter Try.func20, Try.ntmps20
    go_wp2_with fail
    refine hsp.out.mono ?_
    rintro e w1 ⟨⟨ro0, rc0, rfl, ho1, hrc0⟩, b1⟩
    simp only [hsL, Option.getD_some, Option.isSome_some] at ho1 hrc0 ⊢
    have H1 : Hid (OwnT w1 (w.heap.size + 1) w1.heap.size 5 ro0 F.length (fun i => .int .u8 (F.getD i 0)) ∧ Below w.heap.size w w1 ∧ UL w1 w.heap.size (.slice (some ⟨w.heap.size, 0, none⟩) 0 0) 0 (fun _ => mg0) (fun _ => (none, 0))) := ⟨by have := OwnT.of ho1; simpa using this, BA.out.trans (b1.mono BA.out.size), (UL.empty (Nat.le_refl _)).below b1⟩
    have hFf : Hid (∀ i, i < F.length → 0 ≤ F.getD i 0 ∧ F.getD i 0 ≤ 255) := fun i hi => hFb.out _ (getD_mem _ i hi)
    have HSL := hide hsL
    clear ho1 b1 hsp hsL
    go_wp2
    go_loopw [4, 6, 7, 8, 9, 10] (fun v okv y _ _ _ wr => (∃ (j l : Nat) (M : Nat → Mg) (R : Nat → Option Addr × Nat), okv = .bool true ∧ y = .int .i64 l ∧ Hid (l = (frs M j).length) ∧ Hid (Prs F.length (fun i => F.getD i 0) M j) ∧ Hid (UL wr w.heap.size v j M R ∧ Below w.heap.size w wr ∧ OwnT wr (w.heap.size + 1) w1.heap.size 5 ro0 F.length (fun i => .int .u8 (F.getD i 0)) ∧ farv v w.heap.size w1.heap.size ∧ w1.heap.size ≤ wr.heap.size)) ∨ (okv = .bool false ∧ Hid (¬ ∃ M k, All F.length (fun i => F.getD i 0) M k) ∧ Hid (Below w.heap.size w wr) ∧ ∃ l : Int, y = .int .i64 l)) (fun _ okv y _ _ _ _ => okn okv * (F.length + 1 - (intOf y).toNat))
    case atStart => exact .inl ⟨0, 0, fun _ => mg0, fun _ => (none, 0), rfl, rfl, rfl, fun i hi => absurd hi (Nat.not_lt_zero _), H1.out.2.2, H1.out.2.1, H1.out.1, fun k hk => .inl (by simpa [Value.ownBlock] using hk.symm), Nat.le_refl _⟩
    case round =>
      rcases hrel with ⟨j, l, M, R, rfl, rfl, HL, HP, HI⟩ | ⟨rfl, HN0, HB0, l, rfl⟩
      · have hle := HP.out.le
        rw [← HL.out] at hle
        have HBw : Hid (Below w.heap.size w wr) := HI.out.2.1
        by_cases hlt : l < F.length
        · have hcall := hide (msgof_spec ro0 F.length rc0 (l : Int) (fun i => F.getD i 0) wr (by omega) hrc0 (by omega) (by omega) HI.out.2.2.1.own.sl hFf.out)
          go_wp2_with fail
          refine hcall.out.mono ?_
          rintro e w3 ⟨h3, b3⟩
          have HI3 : Hid (UL w3 w.heap.size u4 j M R ∧ Below w.heap.size w w3 ∧ OwnT w3 (w.heap.size + 1) w1.heap.size 5 ro0 F.length (fun i => .int .u8 (F.getD i 0)) ∧ farv u4 w.heap.size w1.heap.size ∧ w1.heap.size ≤ w3.heap.size) := ⟨HI.out.1.below b3, HBw.out.trans (b3.mono HBw.out.size), HI.out.2.2.1.below b3 HI.out.2.2.2.2, HI.out.2.2.2.1, Nat.le_trans HI.out.2.2.2.2 b3.size⟩
          rcases h3 with ⟨k, c, v, d, G, ro, rc, hB, rfl, hrc, hO⟩ | ⟨hno, rfl⟩
          · have HB : Hid (BgM F.length (fun i => F.getD i 0) (l : Int) ⟨k, c, v, d, G⟩) := hB
            have hln := bgm_len HB.out
            have hbl : Hid (v4own u4 wr.heap.size) := fun k hk => (World.ownsRow.lt HI.out.1.1 k hk).2
            have hbg : Hid (∀ i, i < j → ∀ γ, (R i).1 = some ⟨γ, 0, none⟩ → 0 < (M i).g.length → γ < wr.heap.size) := fun i hi γ e hp => (HI.out.1.2 i hi).2 γ e hp |>.1.1
            have hB3 : Hid (w.heap.size ≤ wr.heap.size ∧ wr.heap.size ≤ w3.heap.size) := ⟨HBw.out.size, b3.size⟩
            have HO := hide hO
            have hmb : Hid (mb k c v d (fun i => G.getD i 0) G.length = mby ⟨k, c, v, d, G⟩) := rfl
            rw [hmb.out]
            generalize hml : (mby ⟨k, c, v, d, G⟩).length = ml at *
            have HML := hide hml
            clear hml hB hO hcall b3 HI hmb HBw
            obtain ⟨W, hW⟩ : ∃ W, W = (w3.alloc (.cells #[.int .i64 k, .int .i64 c, .int .i64 v, .int .i64 d, .slice ro G.length rc] 26)).alloc (.cells #[.int .i64 k, .int .i64 c, .int .i64 v, .int .i64 d, .slice ro G.length rc] 26) := ⟨_, rfl⟩
            have bW : Below w3.heap.size w3 W := by rw [hW]; exact ((Below.refl _ _).alloc (Nat.le_refl _) _).alloc (by simp) _
            have HW : Hid (UL W w.heap.size u4 j M R ∧ Below w.heap.size w W ∧ Own W wr.heap.size 3 ro G.length (fun i => .int .i64 (G.getD i 0)) ∧ OwnT W (w.heap.size + 1) w1.heap.size 5 ro0 F.length (fun i => .int .u8 (F.getD i 0)) ∧ farv u4 w.heap.size w1.heap.size ∧ w1.heap.size ≤ W.heap.size) := ⟨HI3.out.1.below bW, HI3.out.2.1.trans (bW.mono HI3.out.2.1.size), HO.out.below bW, HI3.out.2.2.1.below bW HI3.out.2.2.2.2, HI3.out.2.2.2.1, Nat.le_trans HI3.out.2.2.2.2 bW.size⟩
            have HN : Hid (∀ t u, (mcell ⟨k, c, v, d, G⟩ (ro, rc))[t]? = some u → W.cell? ((⟨w3.heap.size + 1, 0, none⟩ : Addr).add t) = some u) := fun t u ht => by
              rw [hW]
              have := gcells (w3.alloc (.cells #[.int .i64 k, .int .i64 c, .int .i64 v, .int .i64 d, .slice ro G.length rc] 26)) (mcell ⟨k, c, v, d, G⟩ (ro, rc)) 26 t u ht
              rw [show (w3.alloc (.cells #[.int .i64 k, .int .i64 c, .int .i64 v, .int .i64 d, .slice ro G.length rc] 26)).heap.size = w3.heap.size + 1 by simp] at this
              exact this
            have h1c : ∀ u ∈ mcell ⟨k, c, v, d, G⟩ (ro, rc), u.oneCell' = true := by
              intro u hu
              simp only [mcell, List.mem_cons, List.not_mem_nil, or_false] at hu
              rcases hu with rfl | rfl | rfl | rfl | rfl <;> rfl
            have hjb : j ≤ 3000 := by omega
            clear bW HI3 HO
            go_wp2_with (first
              | (at_builtin; rw [← hW]; refine wpList_append_lies _ rfl _ _ 33 rfl w.heap.size 26 i0 (.agg #[.int .i64 0, .int .i64 0, .int .i64 0, .int .i64 0, .slice none 0 0]) 5 56 Try.underlying33 hi hz0 hz1 hz2 rfl (by decide) _ _ _ rfl HW.out.1.1 ⟨w3.heap.size + 1, 0, none⟩ 1 1 (mcell ⟨k, c, v, d, G⟩ (ro, rc)) rfl rfl HN.out h1c (by decide) (by unfold maxLen; omega) (by omega) HW.out.2.1.size _ rfl ?_; intro g4 c4 w4 hown4 hgrow4 hat4 hlt4))
            have R4 := hide (HW.out.1.push (H := wr.heap.size) (m := ⟨k, c, v, d, G⟩) (r := (ro, rc)) hbl.out hbg.out hB3.out.1 hrc HW.out.2.2.1 hown4 hgrow4 hat4)
            have B4 : Hid (Below w.heap.size w w4 ∧ OwnT w4 (w.heap.size + 1) w1.heap.size 5 ro0 F.length (fun i => .int .u8 (F.getD i 0)) ∧ farv (.slice (some ⟨g4, 0, none⟩) (j + 1) c4) w.heap.size w1.heap.size ∧ w1.heap.size ≤ w4.heap.size) := by
              refine ⟨HW.out.2.1.grown hgrow4 HW.out.2.1.size (fun k hk => (World.ownsRow.lt HW.out.1.1 k hk).1), HW.out.2.2.2.1.kept (fun t h1 h2 => hgrow4.block t (by have := HW.out.2.2.2.2.2; omega) (fun e => ?_)), fun t ht => ?_, Nat.le_trans HW.out.2.2.2.2.2 hgrow4.size⟩
              · rcases HW.out.2.2.2.2.1 t e.symm with h | h <;> omega
              · simp only [Value.ownBlock, Option.some.injEq] at ht
                subst ht
                rcases hat4 with h | h
                · exact HW.out.2.2.2.2.1 _ h
                · exact .inr (by have := HW.out.2.2.2.2.2; omega)
            clear hown4 hgrow4 hat4
            go_wp2
            go_roundw
            case rel =>
              refine .inl ⟨j + 1, l + ml, setM M j ⟨k, c, v, d, G⟩, setR R j (ro, rc), rfl, by go_num, ?_, HP.out.step (by rw [← HL.out]; exact HB.out), R4.out, B4.out⟩
              show _ = _
              rw [frs_set, List.length_append, HL.out, HML.out]
            case measure => simp [intOf, okn]; omega
          · have HN : Hid (¬ ∃ M k, All F.length (fun i => F.getD i 0) M k) := all_no HP.out (by rw [← HL.out]; exact hlt) (fun ⟨m, hm⟩ => hno ⟨m.k, m.c, m.v, m.h, m.g, by rw [HL.out]; exact hm⟩)
            have hB3 : Hid (w.heap.size ≤ w3.heap.size) := HI3.out.2.1.size
            obtain ⟨W, hW⟩ : ∃ W, W = (w3.alloc (.cells #[.int .i64 0, .int .i64 0, .int .i64 0, .int .i64 0, .slice none 0 0] 26)).alloc (.cells #[.int .i64 0, .int .i64 0, .int .i64 0, .int .i64 0, .slice none 0 0] 26) := ⟨_, rfl⟩
            have bW : Below w3.heap.size w3 W := by rw [hW]; exact ((Below.refl _ _).alloc (Nat.le_refl _) _).alloc (by simp) _
            have HW : Hid (UL W w.heap.size u4 j M R ∧ Below w.heap.size w W) := ⟨HI3.out.1.below bW, HI3.out.2.1.trans (bW.mono HI3.out.2.1.size)⟩
            have HN2 : Hid (∀ t u, (mcell mg0 (none, 0))[t]? = some u → W.cell? ((⟨w3.heap.size + 1, 0, none⟩ : Addr).add t) = some u) := fun t u ht => by
              rw [hW]
              have := gcells (w3.alloc (.cells #[.int .i64 0, .int .i64 0, .int .i64 0, .int .i64 0, .slice none 0 0] 26)) (mcell mg0 (none, 0)) 26 t u ht
              rw [show (w3.alloc (.cells #[.int .i64 0, .int .i64 0, .int .i64 0, .int .i64 0, .slice none 0 0] 26)).heap.size = w3.heap.size + 1 by simp] at this
              exact this
            have h1c : ∀ u ∈ mcell mg0 (none, 0), u.oneCell' = true := by
              intro u hu
              simp only [mcell, List.mem_cons, List.not_mem_nil, or_false] at hu
              rcases hu with rfl | rfl | rfl | rfl | rfl <;> rfl
            have hjb : j ≤ 3000 := by omega
            clear hno hcall b3 HI bW HI3 HBw
            go_wp2_with (first
              | (at_builtin; rw [← hW]; refine wpList_append_lies _ rfl _ _ 33 rfl w.heap.size 26 i0 (.agg #[.int .i64 0, .int .i64 0, .int .i64 0, .int .i64 0, .slice none 0 0]) 5 56 Try.underlying33 hi hz0 hz1 hz2 rfl (by decide) _ _ _ rfl HW.out.1.1 ⟨w3.heap.size + 1, 0, none⟩ 1 1 (mcell mg0 (none, 0)) rfl rfl HN2.out h1c (by decide) (by unfold maxLen; omega) (by omega) HW.out.2.size _ rfl ?_; intro g4 c4 w4 hown4 hgrow4 hat4 hlt4))
            have B4 : Hid (Below w.heap.size w w4) := HW.out.2.grown hgrow4 HW.out.2.size (fun k hk => (World.ownsRow.lt HW.out.1.1 k hk).1)
            clear hown4 hgrow4 hat4
            go_wp2
            go_roundw
            case rel => exact .inr ⟨rfl, HN.out, B4.out, 0, rfl⟩
            case measure => simp [intOf, okn]; omega
        · obtain rfl : l = F.length := by omega
          obtain ⟨ao2, c2, rfl, hkc, _⟩ := HI.out.1.form
          have HAl : Hid (All F.length (fun i => F.getD i 0) M j) := ⟨HP.out, HL.out.symm⟩
          have hk3 : j ≤ 3000 := by have := HP.out.le; omega
          have hlen : (bl f n).length = n := bl_len f n
          obtain ⟨tB, htB⟩ : ∃ tB, tB = bstr (bl f n) := ⟨_, rfl⟩
          obtain ⟨sP, hsP⟩ : ∃ sP, sP = bstr (pck M j) := ⟨_, rfl⟩
          have hbB : ∀ z ∈ bl f n, 0 ≤ z ∧ z ≤ 255 := fun z hz => by
            simp only [bl, List.mem_map, List.mem_range] at hz
            obtain ⟨i, hi, rfl⟩ := hz
            exact HF.out i hi
          have hcvB : Hid (∀ W, Below w.heap.size w W → (convert 22 9 (.slice ao n cap)).run Try.prog W = .ok (.string tB) W) := fun W hW => by
            have := conv_str (L := bl f n) (ao := ao) (cap := cap) (w := W) (by
              rw [hlen]
              intro i hi
              obtain ⟨b, off, e, hl, hc⟩ := (HS.out.below hW) i hi
              exact ⟨b, off, e, hl, by rw [hc]; simp [bl, List.getD, hi]⟩) hbB
            rw [hlen, ← htB] at this
            exact this
          have hpk : Hid (∀ W, (MSL W ao2 j M ∧ Below w.heap.size w W) → Calls Try.prog 24 #[.slice ao2 j c2] W fun e w' => ∃ ao3 c3, e = .returned (.slice ao3 (pck M j).length c3) ∧ (convert 22 9 (.slice ao3 (pck M j).length c3)).run Try.prog w' = .ok (.string sP) w' ∧ (convert 22 9 (.slice ao n cap)).run Try.prog w' = .ok (.string tB) w' ∧ Below W.heap.size W w') := fun W hW => (pack_spec ao2 j c2 M W (by omega) (fun i hi => by have := all_gens HP.out i hi; omega) hW.1).mono fun e w' => by
            rintro ⟨v, rfl, ho, hb⟩
            obtain ⟨ao3, c3, rfl⟩ := (Src.of_owns ho).form
            exact ⟨ao3, c3, rfl, by rw [hsP]; exact conv_str (Src.of_owns ho).slu (pck_byte M j), hcvB.out w' (hW.2.trans (hb.mono hW.2.size)), hb⟩
          have hcvB0 : Hid ((convert 22 9 (.slice ao n cap)).run Try.prog wr.drew = .ok (.string tB) wr.drew) := hcvB.out _ (Below.drawn HI.out.2.1 1)
          have HWD : Hid (MSL wr.drew ao2 j M ∧ Below w.heap.size w wr.drew) := ⟨(HI.out.1.below (Below.drawn (Below.refl _ _) 1)).msl rfl, Below.drawn HI.out.2.1 1⟩
          have HBD : Hid (Below w.heap.size w wr.drew) := Below.drawn HI.out.2.1 1
          have HUD : Hid (UL wr.drew w.heap.size (.slice ao2 j c2) j M R) := HI.out.1.below (Below.drawn (Below.refl _ _) 1)
          by_cases hpe : pck M j = bl f n
          · obtain rfl : tB = sP := by rw [hsP, htB, hpe]
            have HPE := hide hpe
            clear hcvB htB hsP hbB hlen hpe HI
            go_wp2
            refine wp_region_held_drew (S := (fun w' => (convert 22 9 (.slice ao n cap)).run Try.prog w' = .ok (.string tB) w')) (by kernel_rfl) ?_ (fun hHeld => ?_)
            · exact hcvB0.out
            refine wpAnyH_take (i := 0) (oi := { dst := some 37, op := Op.move (Operand.tmp 6), type := 4, pos := "l04_msg.go:99", after := #[], guard := none }) (v := ?_) rfl (by kernel_rfl) (by kernel_rfl) (by kernel_rfl) (fun _ _ _ h => h) (Or.inl ⟨by rfl, ?_⟩) (by assumption) ?_
            rotate_left 1
            · (intro wq hSw; (try dsimp only at hSw); go_simp; try with_reducible rfl)
            try simp only [Act.put, List.setIfInBounds_toArray, List.set_cons_zero, List.set_cons_succ]
            refine wpAnyH_take (i := 1) (oi := { dst := some 38, op := Op.unOp UnOp.not 4 (Operand.tmp 37), type := 4, pos := "l04_msg.go:99", after := #[{ on := 0, ground := Ground.data }], guard := none }) (v := ?_) rfl (by kernel_rfl) (by kernel_rfl) (by kernel_rfl) (fun _ _ _ h => h) (Or.inl ⟨by rfl, ?_⟩) (by assumption) ?_
            rotate_left 1
            · (intro wq hSw; (try dsimp only at hSw); go_simp; try with_reducible rfl)
            try simp only [Act.put, List.setIfInBounds_toArray, List.set_cons_zero, List.set_cons_succ]
            refine wpAnyH_take (i := 2) (oi := { dst := some 39, op := Op.move (Operand.tmp 38), type := 4, pos := "l04_msg.go:99", after := #[{ on := 1, ground := Ground.data }], guard := none }) (v := ?_) rfl (by kernel_rfl) (by kernel_rfl) (by kernel_rfl) (fun _ _ _ h => h) (Or.inl ⟨by rfl, ?_⟩) (by assumption) ?_
            rotate_left 1
            · (intro wq hSw; (try dsimp only at hSw); go_simp; try with_reducible rfl)
            try simp only [Act.put, List.setIfInBounds_toArray, List.set_cons_zero, List.set_cons_succ]
            refine wpAnyH_take (i := 3) (oi := { dst := some 40, op := Op.move (Operand.tmp 4), type := 33, pos := "l04_msg.go:99", after := #[{ on := 2, ground := Ground.guard }], guard := some (2, false) }) (v := ?_) rfl (by kernel_rfl) (by kernel_rfl) (by kernel_rfl) (fun _ _ _ h => h) (Or.inl ⟨by rfl, ?_⟩) (by assumption) ?_
            rotate_left 1
            · (intro wq hSw; (try dsimp only at hSw); go_simp; try with_reducible rfl)
            try simp only [Act.put, List.setIfInBounds_toArray, List.set_cons_zero, List.set_cons_succ]
            refine wpAnyH_take (i := 6) (oi := { dst := some 43, op := Op.move (Operand.tmp 0), type := 22, pos := "l04_msg.go:99", after := #[{ on := 2, ground := Ground.guard }], guard := some (2, false) }) (v := ?_) rfl (by kernel_rfl) (by kernel_rfl) (by kernel_rfl) (fun _ _ _ h => h) (Or.inl ⟨by rfl, ?_⟩) (by assumption) ?_
            rotate_left 1
            · (intro wq hSw; (try dsimp only at hSw); go_simp; try with_reducible rfl)
            try simp only [Act.put, List.setIfInBounds_toArray, List.set_cons_zero, List.set_cons_succ]
            refine wpAnyH_take (i := 7) (oi := { dst := some 44, op := Op.convert 22 9 (Operand.tmp 43), type := 9, pos := "l04_msg.go:99", after := #[{ on := 6, ground := Ground.data }, { on := 2, ground := Ground.guard }], guard := some (2, false) }) (v := ?_) rfl (by kernel_rfl) (by kernel_rfl) (by kernel_rfl) (fun _ _ _ h => h) (Or.inl ⟨by rfl, ?_⟩) (by assumption) ?_
            rotate_left 1
            · (intro wq hSw; (try dsimp only at hSw); go_simp; try with_reducible rfl)
            try simp only [Act.put, List.setIfInBounds_toArray, List.set_cons_zero, List.set_cons_succ]
            refine wpAnyH_ready (rs := [4]) (by kernel_rfl) (by simp) ?_
            refine AllReadyH.cons (o := { dst := some 41, op := Op.call { callee := Callee.value (Operand.func 24), args := #[Operand.tmp 40], argTypes := #[33] }, type := 22, pos := "l04_msg.go:99", after := #[{ on := 3, ground := Ground.data }, { on := 2, ground := Ground.chain }, { on := 2, ground := Ground.guard }], guard := some (2, false) }) rfl (fun K hK => ?_) AllReadyH.nil
            go_simp
            refine (hpk.out _ HWD.out).mono ?_
            rintro e w3 ⟨ao3, c3, rfl, hc3, hcB, b3⟩
            have H3 := hide (And.intro (HUD.out.below b3) (HBD.out.trans (b3.mono HBD.out.size)))
            clear b3
            go_wp2_with fail
            refine hK.out _ _ ?_ (fun hHeld => ?_)
            · exact hcB
            clear hK K
            try simp only [Act.put, List.setIfInBounds_toArray, List.set_cons_zero, List.set_cons_succ]
            refine wpAnyH_ready (rs := [5]) (by kernel_rfl) (by simp) ?_
            refine AllReadyH.cons (o := { dst := some 42, op := Op.convert 22 9 (Operand.tmp 41), type := 9, pos := "l04_msg.go:99", after := #[{ on := 4, ground := Ground.data }, { on := 2, ground := Ground.guard }], guard := some (2, false) }) rfl (fun K hK => ?_) AllReadyH.nil
            go_simp
            refine hK.out _ _ ?_ (fun hHeld => ?_)
            · exact hcB
            clear hK K
            try simp only [Act.put, List.setIfInBounds_toArray, List.set_cons_zero, List.set_cons_succ]
            refine wpAnyH_take (i := 8) (oi := { dst := some 45, op := Op.binOp BinOp.neq 9 (Operand.tmp 42) (Operand.tmp 44) 9, type := 4, pos := "l04_msg.go:99", after := #[{ on := 5, ground := Ground.data }, { on := 7, ground := Ground.data }, { on := 2, ground := Ground.guard }], guard := some (2, false) }) (v := ?_) rfl (by kernel_rfl) (by kernel_rfl) (by kernel_rfl) (fun _ _ _ h => h) (Or.inl ⟨by rfl, ?_⟩) (by assumption) ?_
            rotate_left 1
            · (intro wq hSw; (try dsimp only at hSw); go_simp; try with_reducible rfl)
            try simp only [Act.put, List.setIfInBounds_toArray, List.set_cons_zero, List.set_cons_succ]
            refine wpAnyH_take (i := 9) (oi := { dst := some 46, op := Op.pick (Operand.tmp 39) (Operand.const (Value.bool true)) (Operand.tmp 45), type := 4, pos := "l04_msg.go:99", after := #[{ on := 2, ground := Ground.data }, { on := 8, ground := Ground.data }], guard := none }) (v := ?_) rfl (by kernel_rfl) (by kernel_rfl) (by kernel_rfl) (fun _ _ _ h => h) (Or.inl ⟨by rfl, ?_⟩) (by assumption) ?_
            rotate_left 1
            · (intro wq hSw; (try dsimp only at hSw); go_simp; try with_reducible rfl)
            try simp only [Act.put, List.setIfInBounds_toArray, List.set_cons_zero, List.set_cons_succ]
            refine wpAnyH_done (by kernel_rfl) ?_ _
            go_wp2
            go_ret2
            exact ⟨.inl ⟨M, j, ao2, c2, R, ⟨F, HSL.out, HAl.out, HPE.out⟩, rfl, H3.out.1⟩, H3.out.2⟩
          · have hne : ¬ sP = tB := fun e => hpe (bstr_inj (pck_byte M j) hbB (by rw [← hsP, ← htB, e]))
            have h1 : (sP.toList == tB.toList) = false := by
              rw [beq_eq_false_iff_ne]
              intro e
              exact hne (by rw [ByteArray.toList_eq, ByteArray.toList_eq] at e; exact WideShapes.bytes_inj e)
            have HPE := hide hpe
            clear hcvB htB hsP hbB hlen hpe HI
            go_wp2
            refine wp_region_held_drew (S := (fun w' => (convert 22 9 (.slice ao n cap)).run Try.prog w' = .ok (.string tB) w')) (by kernel_rfl) ?_ (fun hHeld => ?_)
            · exact hcvB0.out
            refine wpAnyH_take (i := 0) (oi := { dst := some 37, op := Op.move (Operand.tmp 6), type := 4, pos := "l04_msg.go:99", after := #[], guard := none }) (v := ?_) rfl (by kernel_rfl) (by kernel_rfl) (by kernel_rfl) (fun _ _ _ h => h) (Or.inl ⟨by rfl, ?_⟩) (by assumption) ?_
            rotate_left 1
            · (intro wq hSw; (try dsimp only at hSw); go_simp; try with_reducible rfl)
            try simp only [Act.put, List.setIfInBounds_toArray, List.set_cons_zero, List.set_cons_succ]
            refine wpAnyH_take (i := 1) (oi := { dst := some 38, op := Op.unOp UnOp.not 4 (Operand.tmp 37), type := 4, pos := "l04_msg.go:99", after := #[{ on := 0, ground := Ground.data }], guard := none }) (v := ?_) rfl (by kernel_rfl) (by kernel_rfl) (by kernel_rfl) (fun _ _ _ h => h) (Or.inl ⟨by rfl, ?_⟩) (by assumption) ?_
            rotate_left 1
            · (intro wq hSw; (try dsimp only at hSw); go_simp; try with_reducible rfl)
            try simp only [Act.put, List.setIfInBounds_toArray, List.set_cons_zero, List.set_cons_succ]
            refine wpAnyH_take (i := 2) (oi := { dst := some 39, op := Op.move (Operand.tmp 38), type := 4, pos := "l04_msg.go:99", after := #[{ on := 1, ground := Ground.data }], guard := none }) (v := ?_) rfl (by kernel_rfl) (by kernel_rfl) (by kernel_rfl) (fun _ _ _ h => h) (Or.inl ⟨by rfl, ?_⟩) (by assumption) ?_
            rotate_left 1
            · (intro wq hSw; (try dsimp only at hSw); go_simp; try with_reducible rfl)
            try simp only [Act.put, List.setIfInBounds_toArray, List.set_cons_zero, List.set_cons_succ]
            refine wpAnyH_take (i := 3) (oi := { dst := some 40, op := Op.move (Operand.tmp 4), type := 33, pos := "l04_msg.go:99", after := #[{ on := 2, ground := Ground.guard }], guard := some (2, false) }) (v := ?_) rfl (by kernel_rfl) (by kernel_rfl) (by kernel_rfl) (fun _ _ _ h => h) (Or.inl ⟨by rfl, ?_⟩) (by assumption) ?_
            rotate_left 1
            · (intro wq hSw; (try dsimp only at hSw); go_simp; try with_reducible rfl)
            try simp only [Act.put, List.setIfInBounds_toArray, List.set_cons_zero, List.set_cons_succ]
            refine wpAnyH_take (i := 6) (oi := { dst := some 43, op := Op.move (Operand.tmp 0), type := 22, pos := "l04_msg.go:99", after := #[{ on := 2, ground := Ground.guard }], guard := some (2, false) }) (v := ?_) rfl (by kernel_rfl) (by kernel_rfl) (by kernel_rfl) (fun _ _ _ h => h) (Or.inl ⟨by rfl, ?_⟩) (by assumption) ?_
            rotate_left 1
            · (intro wq hSw; (try dsimp only at hSw); go_simp; try with_reducible rfl)
            try simp only [Act.put, List.setIfInBounds_toArray, List.set_cons_zero, List.set_cons_succ]
            refine wpAnyH_take (i := 7) (oi := { dst := some 44, op := Op.convert 22 9 (Operand.tmp 43), type := 9, pos := "l04_msg.go:99", after := #[{ on := 6, ground := Ground.data }, { on := 2, ground := Ground.guard }], guard := some (2, false) }) (v := ?_) rfl (by kernel_rfl) (by kernel_rfl) (by kernel_rfl) (fun _ _ _ h => h) (Or.inl ⟨by rfl, ?_⟩) (by assumption) ?_
            rotate_left 1
            · (intro wq hSw; (try dsimp only at hSw); go_simp; try with_reducible rfl)
            try simp only [Act.put, List.setIfInBounds_toArray, List.set_cons_zero, List.set_cons_succ]
            refine wpAnyH_ready (rs := [4]) (by kernel_rfl) (by simp) ?_
            refine AllReadyH.cons (o := { dst := some 41, op := Op.call { callee := Callee.value (Operand.func 24), args := #[Operand.tmp 40], argTypes := #[33] }, type := 22, pos := "l04_msg.go:99", after := #[{ on := 3, ground := Ground.data }, { on := 2, ground := Ground.chain }, { on := 2, ground := Ground.guard }], guard := some (2, false) }) rfl (fun K hK => ?_) AllReadyH.nil
            go_simp
            refine (hpk.out _ HWD.out).mono ?_
            rintro e w3 ⟨ao3, c3, rfl, hc3, hcB, b3⟩
            have H3 := hide (And.intro (HUD.out.below b3) (HBD.out.trans (b3.mono HBD.out.size)))
            clear b3
            go_wp2_with fail
            refine hK.out _ _ ?_ (fun hHeld => ?_)
            · exact hcB
            clear hK K
            try simp only [Act.put, List.setIfInBounds_toArray, List.set_cons_zero, List.set_cons_succ]
            refine wpAnyH_ready (rs := [5]) (by kernel_rfl) (by simp) ?_
            refine AllReadyH.cons (o := { dst := some 42, op := Op.convert 22 9 (Operand.tmp 41), type := 9, pos := "l04_msg.go:99", after := #[{ on := 4, ground := Ground.data }, { on := 2, ground := Ground.guard }], guard := some (2, false) }) rfl (fun K hK => ?_) AllReadyH.nil
            go_simp
            refine hK.out _ _ ?_ (fun hHeld => ?_)
            · exact hcB
            clear hK K
            try simp only [Act.put, List.setIfInBounds_toArray, List.set_cons_zero, List.set_cons_succ]
            refine wpAnyH_take (i := 8) (oi := { dst := some 45, op := Op.binOp BinOp.neq 9 (Operand.tmp 42) (Operand.tmp 44) 9, type := 4, pos := "l04_msg.go:99", after := #[{ on := 5, ground := Ground.data }, { on := 7, ground := Ground.data }, { on := 2, ground := Ground.guard }], guard := some (2, false) }) (v := ?_) rfl (by kernel_rfl) (by kernel_rfl) (by kernel_rfl) (fun _ _ _ h => h) (Or.inl ⟨by rfl, ?_⟩) (by assumption) ?_
            rotate_left 1
            · (intro wq hSw; (try dsimp only at hSw); go_simp; try with_reducible rfl)
            try simp only [Act.put, List.setIfInBounds_toArray, List.set_cons_zero, List.set_cons_succ]
            refine wpAnyH_take (i := 9) (oi := { dst := some 46, op := Op.pick (Operand.tmp 39) (Operand.const (Value.bool true)) (Operand.tmp 45), type := 4, pos := "l04_msg.go:99", after := #[{ on := 2, ground := Ground.data }, { on := 8, ground := Ground.data }], guard := none }) (v := ?_) rfl (by kernel_rfl) (by kernel_rfl) (by kernel_rfl) (fun _ _ _ h => h) (Or.inl ⟨by rfl, ?_⟩) (by assumption) ?_
            rotate_left 1
            · (intro wq hSw; (try dsimp only at hSw); go_simp; try with_reducible rfl)
            try simp only [Act.put, List.setIfInBounds_toArray, List.set_cons_zero, List.set_cons_succ]
            refine wpAnyH_done (by kernel_rfl) ?_ _
            go_wp2
            go_ret2
            refine ⟨.inr ⟨?_, _, _, rfl⟩, H3.out.2.alloc H3.out.2.size _⟩
            rintro ⟨M', k', F', e1, e2, e3⟩
            rw [HSL.out] at e1
            cases e1
            obtain ⟨rfl, e4⟩ := all_one HAl.out e2
            exact HPE.out (by rw [← e3]; unfold pck; rw [frs_congr e4])
      · have HNU : Hid (¬ ∃ M k, Upk (bl f n) M k) := fun ⟨M, k, F', e1, e2, _⟩ => by
          rw [HSL.out] at e1
          cases e1
          exact HN0.out ⟨M, k, e2⟩
        go_wp2
        refine wp_region_held_drew (S := fun _ => True) (by kernel_rfl) trivial (fun _ => ?_)
        refine wpAnyH_take (i := 0) (oi := { dst := some 37, op := Op.move (Operand.tmp 6), type := 4, pos := "l04_msg.go:99", after := #[], guard := none }) (v := ?_) rfl (by kernel_rfl) (by kernel_rfl) (by kernel_rfl) (fun _ _ _ h => h) (Or.inl ⟨by rfl, ?_⟩) trivial ?_
        rotate_left 1
        · (intro wq _; go_simp; try with_reducible rfl)
        try simp only [Act.put, List.setIfInBounds_toArray, List.set_cons_zero, List.set_cons_succ]
        refine wpAnyH_take (i := 1) (oi := { dst := some 38, op := Op.unOp UnOp.not 4 (Operand.tmp 37), type := 4, pos := "l04_msg.go:99", after := #[{ on := 0, ground := Ground.data }], guard := none }) (v := ?_) rfl (by kernel_rfl) (by kernel_rfl) (by kernel_rfl) (fun _ _ _ h => h) (Or.inl ⟨by rfl, ?_⟩) trivial ?_
        rotate_left 1
        · (intro wq _; go_simp; try with_reducible rfl)
        try simp only [Act.put, List.setIfInBounds_toArray, List.set_cons_zero, List.set_cons_succ]
        refine wpAnyH_take (i := 2) (oi := { dst := some 39, op := Op.move (Operand.tmp 38), type := 4, pos := "l04_msg.go:99", after := #[{ on := 1, ground := Ground.data }], guard := none }) (v := ?_) rfl (by kernel_rfl) (by kernel_rfl) (by kernel_rfl) (fun _ _ _ h => h) (Or.inl ⟨by rfl, ?_⟩) trivial ?_
        rotate_left 1
        · (intro wq _; go_simp; try with_reducible rfl)
        try simp only [Act.put, List.setIfInBounds_toArray, List.set_cons_zero, List.set_cons_succ]
        refine wpAnyH_take (i := 3) (oi := { dst := some 40, op := Op.move (Operand.tmp 4), type := 33, pos := "l04_msg.go:99", after := #[{ on := 2, ground := Ground.guard }], guard := some (2, false) }) (v := undef) rfl (by kernel_rfl) (by kernel_rfl) (by kernel_rfl) (fun _ _ _ h => h) (Or.inr ⟨by rfl, rfl⟩) trivial ?_
        try simp only [Act.put, List.setIfInBounds_toArray, List.set_cons_zero, List.set_cons_succ]
        refine wpAnyH_take (i := 4) (oi := { dst := some 41, op := Op.call { callee := Callee.value (Operand.func 24), args := #[Operand.tmp 40], argTypes := #[33] }, type := 22, pos := "l04_msg.go:99", after := #[{ on := 3, ground := Ground.data }, { on := 2, ground := Ground.chain }, { on := 2, ground := Ground.guard }], guard := some (2, false) }) (v := undef) rfl (by kernel_rfl) (by kernel_rfl) (by kernel_rfl) (fun _ _ _ h => h) (Or.inr ⟨by rfl, rfl⟩) trivial ?_
        try simp only [Act.put, List.setIfInBounds_toArray, List.set_cons_zero, List.set_cons_succ]
        refine wpAnyH_take (i := 5) (oi := { dst := some 42, op := Op.convert 22 9 (Operand.tmp 41), type := 9, pos := "l04_msg.go:99", after := #[{ on := 4, ground := Ground.data }, { on := 2, ground := Ground.guard }], guard := some (2, false) }) (v := undef) rfl (by kernel_rfl) (by kernel_rfl) (by kernel_rfl) (fun _ _ _ h => h) (Or.inr ⟨by rfl, rfl⟩) trivial ?_
        try simp only [Act.put, List.setIfInBounds_toArray, List.set_cons_zero, List.set_cons_succ]
        refine wpAnyH_take (i := 6) (oi := { dst := some 43, op := Op.move (Operand.tmp 0), type := 22, pos := "l04_msg.go:99", after := #[{ on := 2, ground := Ground.guard }], guard := some (2, false) }) (v := undef) rfl (by kernel_rfl) (by kernel_rfl) (by kernel_rfl) (fun _ _ _ h => h) (Or.inr ⟨by rfl, rfl⟩) trivial ?_
        try simp only [Act.put, List.setIfInBounds_toArray, List.set_cons_zero, List.set_cons_succ]
        refine wpAnyH_take (i := 7) (oi := { dst := some 44, op := Op.convert 22 9 (Operand.tmp 43), type := 9, pos := "l04_msg.go:99", after := #[{ on := 6, ground := Ground.data }, { on := 2, ground := Ground.guard }], guard := some (2, false) }) (v := undef) rfl (by kernel_rfl) (by kernel_rfl) (by kernel_rfl) (fun _ _ _ h => h) (Or.inr ⟨by rfl, rfl⟩) trivial ?_
        try simp only [Act.put, List.setIfInBounds_toArray, List.set_cons_zero, List.set_cons_succ]
        refine wpAnyH_take (i := 8) (oi := { dst := some 45, op := Op.binOp BinOp.neq 9 (Operand.tmp 42) (Operand.tmp 44) 9, type := 4, pos := "l04_msg.go:99", after := #[{ on := 5, ground := Ground.data }, { on := 7, ground := Ground.data }, { on := 2, ground := Ground.guard }], guard := some (2, false) }) (v := undef) rfl (by kernel_rfl) (by kernel_rfl) (by kernel_rfl) (fun _ _ _ h => h) (Or.inr ⟨by rfl, rfl⟩) trivial ?_
        try simp only [Act.put, List.setIfInBounds_toArray, List.set_cons_zero, List.set_cons_succ]
        refine wpAnyH_take (i := 9) (oi := { dst := some 46, op := Op.pick (Operand.tmp 39) (Operand.const (Value.bool true)) (Operand.tmp 45), type := 4, pos := "l04_msg.go:99", after := #[{ on := 2, ground := Ground.data }, { on := 8, ground := Ground.data }], guard := none }) (v := ?_) rfl (by kernel_rfl) (by kernel_rfl) (by kernel_rfl) (fun _ _ _ h => h) (Or.inl ⟨by rfl, ?_⟩) trivial ?_
        rotate_left 1
        · (intro wq _; go_simp; try with_reducible rfl)
        try simp only [Act.put, List.setIfInBounds_toArray, List.set_cons_zero, List.set_cons_succ]
        refine wpAnyH_done (by kernel_rfl) ?_ _
        go_wp2
        go_ret2
        exact ⟨.inr ⟨HNU.out, _, _, rfl⟩, (Below.drawn HB0.out 1).alloc HB0.out.size _⟩
end Go.Proofs.Ythhkmfgccbkkhaa

/- Lists of messages, also none at all. -/
namespace Go.Proofs.Ythhkmfgccbkkhaa
open Go.ChangeShapes Go.WideShapes Go.ChangeAt Go.RowKit
set_option linter.unusedVariables false
set_option linter.unusedSimpArgs false
set_option maxRecDepth 100000

def OMo (w : World) (B T : Nat) (ao : Option Addr) (n : Nat) (M : Nat → Mg) : Prop := n = 0 ∨ ∃ g c R, ao = some ⟨g, 0, none⟩ ∧ OM w B T g n M c R
theorem OMo.msl {w : World} {B T n : Nat} {ao : Option Addr} {M : Nat → Mg} (h : OMo w B T ao n M) : MSL w ao n M := by
  rcases h with rfl | ⟨g, c, R, rfl, h⟩
  · exact fun i hi => absurd hi (Nat.not_lt_zero _)
  · exact h.msl
theorem OMo.below {w w' : World} {B T X n : Nat} {ao : Option Addr} {M : Nat → Mg} (h : OMo w B T ao n M) (hb : Below X w w') (hT : T ≤ X) : OMo w' B T ao n M := by
  rcases h with h | ⟨g, c, R, e, h⟩
  · exact .inl h
  · exact .inr ⟨g, c, R, e, h.below' hb hT⟩
theorem OMo.drawn {w : World} {B T n : Nat} {ao : Option Addr} {M : Nat → Mg} (h : OMo w B T ao n M) (q : Nat) : OMo (w.drewN q) B T ao n M := by
  rcases h with h | ⟨g, c, R, e, h⟩
  · exact .inl h
  · exact .inr ⟨g, c, R, e, h.kept (fun _ _ _ => rfl) (Nat.le_refl _)⟩
theorem OMo.only {w w' : World} {B T B' T' n : Nat} {ao : Option Addr} {M : Nat → Mg} (h : OMo w B T ao n M) (ho : OnlyBT B' T' w w') (hd : T ≤ B' ∨ T' ≤ B) : OMo w' B T ao n M := by
  rcases h with h | ⟨g, c, R, e, h⟩
  · exact .inl h
  · exact .inr ⟨g, c, R, e, h.kept (fun j h1 h2 => ho.2.2 j (by omega)) (by rw [ho.2.1]; exact Nat.le_refl _)⟩
theorem OM.congr {w : World} {B T g n : Nat} {M M' : Nat → Mg} {c : Array Value} {R : Nat → Option Addr × Nat} (h : OM w B T g n M c R) (e : ∀ i, i < n → M i = M' i) : OM w B T g n M' c R := by
  refine ⟨h.1, h.2.1, h.2.2.1, fun i hi => ?_⟩
  obtain ⟨h1, h2, h3, h4⟩ := h.2.2.2 i hi
  rw [← e i hi]
  exact ⟨h1, h2, h3, fun γ e1 hp => ⟨(h4 γ e1 hp).1, fun j hj hne hpj => (h4 γ e1 hp).2 j hj hne (by rw [e j hj]; exact hpj)⟩⟩
theorem OMo.of {w : World} {B n cap : Nat} {ao : Option Addr} {M M' : Nat → Mg} {R : Nat → Option Addr × Nat} (h : UL w B (.slice ao n cap) n M R) (e : ∀ i, i < n → M i = M' i) : OMo w B w.heap.size ao n M' := by
  obtain ⟨ao', cap', e', _, h0 | ⟨g, c, e2, ho⟩⟩ := h.form
  · exact .inl h0
  · cases e'
    exact .inr ⟨g, c, R, e2, ho.congr e⟩

theorem marks_zero (ao : Option Addr) (cap : Nat) (k0 : Int) (w : World) :
    Calls Try.prog 38 #[.slice ao 0 cap, .int .i64 k0] w fun e w' => e = .returned (.int .i64 k0) ∧ w' = w := by
  go_enter Try.func38, Try.ntmps38
  go_wp2
  refine wp_loop_rounds 1 ?_
  rw [rounds_succ]
  go_wp2
  go_ret
  exact ⟨rfl, rfl⟩
theorem marks_o (ao : Option Addr) (n cap B T : Nat) (k0 : Int) (M : Nat → Mg) (w : World) (h : n + gsum M n ≤ 1048576) (h0 : 0 ≤ k0) (h1 : k0 ≤ 1000) (ho : OMo w B T ao n M) :
    Calls Try.prog 38 #[.slice ao n cap, .int .i64 k0] w fun e w' => e = .returned (.int .i64 (k0 + 4 * n + gsum M n)) ∧ OMo w' B T ao n (mkp M k0 n) ∧ OnlyBT B T w w' := by
  rcases ho with rfl | ⟨g, c, R, rfl, ho⟩
  · refine (marks_zero ao cap k0 w).mono fun e w' => ?_
    rintro ⟨rfl, rfl⟩
    exact ⟨by simp [gsum], .inl rfl, OnlyBT.refl _ _ _⟩
  · refine (marks_any g n cap B T k0 M c R w h h0 h1 ho).mono fun e w' => ?_
    rintro ⟨rfl, ⟨c', h2⟩, h3⟩
    exact ⟨rfl, .inr ⟨g, c', R, rfl, h2⟩, h3⟩
theorem gsum_bd (M : Nat → Mg) (k : Nat) (h : ∀ i, i < k → (M i).g.length ≤ 12) : gsum M k ≤ 12 * k := by
  induction k with
  | zero => simp [gsum]
  | succ k ih => have := ih (fun i hi => h i (by omega)); have := h k (by omega); simp only [gsum]; omega
end Go.Proofs.Ythhkmfgccbkkhaa

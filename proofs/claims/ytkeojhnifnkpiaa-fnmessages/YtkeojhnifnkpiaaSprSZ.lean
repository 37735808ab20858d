/- Spread of the model. -/
import Derived.Test.YtkeojhnifnkpiaaSqzSZ

namespace Go.Proofs.Ytkeojhnifnkpiaa
open Go.ChangeShapes Go.WideShapes Go.ChangeAt Go.RowKit
set_option linter.unusedVariables false
set_option linter.unusedSimpArgs false
set_option maxRecDepth 100000

theorem bl_drop (f : Nat → Int) (n a : Nat) (h : a < n) : (bl f n).drop a = f a :: (bl f n).drop (a + 1) := by
  rw [List.drop_eq_getElem_cons (by rw [bl_len]; exact h)]
  simp [bl]
theorem bl_end (f : Nat → Int) (n : Nat) : (bl f n).drop n = [] := List.drop_of_length_le (by rw [bl_len]; omega)

/-- What Spread hands back. -/
def SpOut (w w' : World) (L : List Int) (e : Ending) : Prop :=
  (∃ ro rc, e = .returned (.tuple #[.slice ro ((spread L).getD []).length rc, .bool (spread L).isSome]) ∧ Own w' w.heap.size 5 ro ((spread L).getD []).length (fun i => .int .u8 (((spread L).getD []).getD i 0)) ∧ ((spread L).getD []).length ≤ rc) ∧ Below w.heap.size w w'

theorem SpOut.no {w w' : World} {L : List Int} {ro : Option Addr} (h : spr L [] = none) (hb : Below w.heap.size w w') : SpOut w w' L (.returned (.tuple #[.slice ro 0 0, .bool false])) := by
  have e : spread L = none := by unfold spread; rw [h]
  unfold SpOut
  rw [e]
  exact ⟨⟨ro, 0, rfl, .inl rfl, Nat.le_refl _⟩, hb⟩
theorem SpOut.long {w w' : World} {L M : List Int} {ro : Option Addr} (h : spr L [] = some M) (hM : 3000 < M.length) (hb : Below w.heap.size w w') : SpOut w w' L (.returned (.tuple #[.slice ro 0 0, .bool false])) := by
  have e : spread L = none := by unfold spread; rw [h]; exact if_pos hM
  unfold SpOut
  rw [e]
  exact ⟨⟨ro, 0, rfl, .inl rfl, Nat.le_refl _⟩, hb⟩
theorem SpOut.yes {w w' : World} {L M : List Int} {v : Value} {r : Nat} (h : spr L [] = some M) (hr : M.length = r) (hM : r ≤ 3000) (ho : w'.ownsRow w.heap.size 5 1 v r (M.map (.int .u8))) (hb : Below w.heap.size w w') : SpOut w w' L (.returned (.tuple #[v, .bool true])) := by
  have e : spread L = some M := by unfold spread; rw [h]; exact if_neg (by omega)
  subst hr
  obtain ⟨ro, rc, rfl, hlc, hO⟩ := Own.of_owns ho
  unfold SpOut
  rw [e]
  exact ⟨⟨ro, rc, rfl, hO, hlc.2.1⟩, hb⟩

theorem spr_bad1 {d : Int} {out : List Int} (h : ¬ (1 ≤ d ∧ d ≤ 127)) : spr [d] out = none := by rw [spr, if_neg h]
theorem spr_zero {d e : Int} {r out : List Int} (hd : d = 0) (h : e = 0 ∨ 128 ≤ e) : spr (d :: e :: r) out = spr r (out ++ [e]) := by
  rw [spr, if_neg (by omega), if_pos hd, if_neg (by omega)]
theorem spr_bad0 {d e : Int} {r out : List Int} (hd : d = 0) (h : e ≠ 0 ∧ e < 128) : spr (d :: e :: r) out = none := by
  rw [spr, if_neg (by omega), if_pos hd, if_pos h]
theorem spr_badrun {d e : Int} {r out : List Int} (hd : d ≠ 0) (h1 : ¬ (1 ≤ d ∧ d ≤ 127)) (h : ¬ (131 ≤ d ∧ d ≤ 228 ∧ 1 ≤ e ∧ e ≤ out.length)) : spr (d :: e :: r) out = none := by
  rw [spr, if_neg h1, if_neg hd, if_neg h]
theorem spr_run {d e : Int} {r out : List Int} (h : 131 ≤ d ∧ d ≤ 228 ∧ 1 ≤ e ∧ e ≤ out.length) : spr (d :: e :: r) out = if 3000 < (rep out e.toNat (d - 128).toNat).length then none else spr r (rep out e.toNat (d - 128).toNat) := by
  rw [spr, if_neg (by omega), if_neg (by omega), if_pos h]

theorem gempty2 (w : World) : ((w.alloc (.cells #[] 5)).alloc (.cells #[] 5)).ownsRow w.heap.size 5 1 (.slice (some ⟨w.heap.size + 1, 0, none⟩) 0 0) 0 (([] : List Int).map (.int .u8)) := by
  have h := gempty (B := w.heap.size) (w := w.alloc (.cells #[] 5)) (t := 5) (ik := .u8) (by simp)
  have e : (w.alloc (.cells #[] 5)).heap.size = w.heap.size + 1 := by simp
  rw [e] at h
  exact h

set_option maxHeartbeats 4000000 in
set_option maxRecDepth 100000 in
theorem spread_spec (ao : Option Addr) (n cap : Nat) (f : Nat → Int) (w : World) (hn : n ≤ 1048576) (hs : SL .u8 w ao n f) (hf : ∀ i, i < n → 0 ≤ f i ∧ f i ≤ 255) :
    Calls Try.prog 92 #[.slice ao n cap] w fun e w' => SpOut w w' (bl f n) e := by
  obtain ⟨i0, hi, hz0, hz1, hz2⟩ := info_parts Try.info5
  have HS := hide hs
  have HF := hide hf
  clear hs hf
  go_enter Try.func92, Try.ntmps92
  go_wp2
  go_loopw [5, 6, 7, 8, 9] (fun v i _ _ _ wr => ∃ (a r : Nat) (L : List Int), a ≤ n ∧ r ≤ 3000 + a ∧ i = .int .i64 a ∧ Hid (spr ((bl f n).drop a) L = spr (bl f n) [] ∧ L.length = r) ∧ wr.ownsRow w.heap.size 5 1 v r (L.map (.int .u8)) ∧ Below w.heap.size w wr) (fun _ i _ _ _ _ => n - (intOf i).toNat)
  case atStart => exact ⟨0, 0, [], by omega, by omega, rfl, ⟨rfl, rfl⟩, gempty2 w, ((Below.refl _ _).alloc (Nat.le_refl _) _).alloc (by simp) _⟩
  case round =>
    obtain ⟨a, r, L, han, hra, rfl, hL, hown, hbel⟩ := hrel
    obtain ⟨vo, vc, rfl, hlr, hO⟩ := Own.of_owns hown
    have hvc : r ≤ vc := hlr.2.1
    clear hlr
    by_cases hlt : a < n
    · obtain ⟨b, off, rfl, hb, hc0⟩ := HS.out a hlt
      have hy := HF.out a hlt
      have hc := (hbel.cell (p := ⟨b, off + a, none⟩) hb).trans hc0
      have hdr := hide (bl_drop f n a hlt)
      clear hc0
      by_cases h1 : 1 ≤ f a ∧ f a ≤ 127
      · generalize hd : f a = d at *
        have HD := hide hd
        clear hd
        go_wp2_with (first
          | (go_at_call 77; refine (in_yes _ _ _ _ h1.1 h1.2).mono ?_; rintro e w9 ⟨rfl, hw9⟩; rw [hw9]; clear hw9)
          | (at_builtin; refine wpList_append_own _ rfl _ _ 22 rfl w.heap.size 5 i0 (.int .u8 0) 1 1 Try.underlying22 hi hz0 hz1 hz2 rfl (by decide) _ _ _ rfl (hown.alloc _) ⟨wr.heap.size, 0, none⟩ 1 1 ([d].map (.int .u8)) rfl rfl (gcells _ _ _) (gones _ _) (glens (by omega)) (by omega) (by have := hbel.size; simp; omega) ?_; intro v' w3 hown' hgrow hnn))
        have R := hide (gpush (M := [d]) hbel hbel.size hown hown' hgrow)
        clear hown' hgrow hnn hown hbel
        go_wp2
        go_roundw
        case rel => exact ⟨a + 1, r + 1, L ++ [d], by omega, by omega, by go_num, ⟨by rw [← hL.out.1, hdr.out, spr_one _ _ _ h1], by simp [hL.out.2]⟩, R.out.1, R.out.2⟩
        case measure => simp [intOf]; omega
      · have hno : f a < 1 ∨ 127 < f a := by omega
        by_cases h2 : a + 1 < n
        · obtain ⟨b2, off2, e2, hb2, hc20⟩ := HS.out (a + 1) h2
          simp only [Option.some.injEq, Addr.mk.injEq] at e2
          obtain ⟨rfl, rfl, _⟩ := e2
          have hye := HF.out (a + 1) h2
          have hc2 := (hbel.cell (p := ⟨b, off + (a + 1), none⟩) hb2).trans hc20
          have hdr2 := hide (bl_drop f n (a + 1) h2)
          clear hc20
          generalize hd : f a = d at *
          generalize he : f (a + 1) = e at *
          have HD : Hid (f a = d ∧ f (a + 1) = e) := ⟨hd, he⟩
          have hwe : IntKind.u8.wrap e = e := by rw [IntKind.wrap_u8]; omega
          clear hd he
          by_cases hd0 : d = 0
          · by_cases he0 : e = 0 ∨ 128 ≤ e
            · have hs1 := hide (spr_zero (r := (bl f n).drop (a + 1 + 1)) (out := L) hd0 he0)
              subst hd0
              rcases he0 with he0 | he0
              · subst he0
                go_wp2_with (first
                  | (go_at_call 77; refine (in_no _ _ _ _ hno).mono ?_; rintro e9 w9 ⟨rfl, hw9⟩; rw [hw9]; clear hw9)
                  | (at_builtin; refine wpList_append_own _ rfl _ _ 22 rfl w.heap.size 5 i0 (.int .u8 0) 1 1 Try.underlying22 hi hz0 hz1 hz2 rfl (by decide) _ _ _ rfl (hown.alloc _) ⟨wr.heap.size, 0, none⟩ 1 1 ([(0 : Int)].map (.int .u8)) rfl rfl (gcells _ _ _) (gones _ _) (glens (by omega)) (by omega) (by have := hbel.size; simp; omega) ?_; intro v' w3 hown' hgrow hnn))
                have R := hide (gpush (M := [(0 : Int)]) hbel hbel.size hown hown' hgrow)
                clear hown' hgrow hnn hown hbel hO
                go_wp2
                go_roundw
                case rel => exact ⟨a + 2, r + 1, L ++ [(0 : Int)], by omega, by omega, by go_num, ⟨by rw [← hL.out.1, hdr.out, hdr2.out]; exact hs1.out.symm, by simp [hL.out.2]⟩, R.out.1, R.out.2⟩
                case measure => simp [intOf]; omega
              · have he1 : decide (e = 0) = false := by simp; omega
                have he2 : decide (e < 128) = false := by simp; omega
                go_wp2_with (first
                  | (go_at_call 77; refine (in_no _ _ _ _ hno).mono ?_; rintro e9 w9 ⟨rfl, hw9⟩; rw [hw9]; clear hw9)
                  | (at_builtin; refine wpList_append_own _ rfl _ _ 22 rfl w.heap.size 5 i0 (.int .u8 0) 1 1 Try.underlying22 hi hz0 hz1 hz2 rfl (by decide) _ _ _ rfl (hown.alloc _) ⟨wr.heap.size, 0, none⟩ 1 1 ([e].map (.int .u8)) rfl rfl (gcells _ _ _) (gones _ _) (glens (by omega)) (by omega) (by have := hbel.size; simp; omega) ?_; intro v' w3 hown' hgrow hnn))
                have R := hide (gpush (M := [e]) hbel hbel.size hown hown' hgrow)
                clear hown' hgrow hnn hown hbel hO
                go_wp2
                go_roundw
                case rel => exact ⟨a + 2, r + 1, L ++ [e], by omega, by omega, by go_num, ⟨by rw [← hL.out.1, hdr.out, hdr2.out]; exact hs1.out.symm, by simp [hL.out.2]⟩, R.out.1, R.out.2⟩
                case measure => simp [intOf]; omega
            · have hs1 := hide (spr_bad0 (e := e) (r := (bl f n).drop (a + 1 + 1)) (out := L) hd0 (by omega))
              have he1 : decide (e = 0) = false := by simp; omega
              have he2 : decide (e < 128) = true := by simp; omega
              subst hd0
              go_wp2_with (first
                | (go_at_call 77; refine (in_no _ _ _ _ hno).mono ?_; rintro e9 w9 ⟨rfl, hw9⟩; rw [hw9]; clear hw9))
              go_ret2
              exact SpOut.no (by rw [← hL.out.1, hdr.out, hdr2.out]; exact hs1.out) hbel
          · by_cases hrun : 131 ≤ d ∧ d ≤ 228 ∧ 1 ≤ e ∧ e ≤ (r : Int)
            · have hs1 := hide (spr_run (r := (bl f n).drop (a + 1 + 1)) (out := L) (show 131 ≤ d ∧ d ≤ 228 ∧ 1 ≤ e ∧ e ≤ (L.length : Int) by rw [hL.out.2]; exact hrun))
              have hd1 : decide (d = 0) = false := by simpa using hd0
              obtain ⟨hr1, hr2, hr3, hr4⟩ := hrun
              obtain ⟨D, hD⟩ : ∃ D : Nat, d = 128 + (D : Int) := ⟨(d - 128).toNat, by omega⟩
              obtain ⟨E, rfl⟩ : ∃ E : Nat, e = (E : Int) := ⟨e.toNat, by omega⟩
              subst hD
              have hEr : E ≤ r := by omega
              have hE1 : 1 ≤ E := by omega
              have hHL := hide hL.out.2
              have hsub : (128 : Int) + (D : Int) - 128 = (D : Int) := by omega
              clear hO
              go_wp2_with fail
              refine (in_no _ _ _ _ hno).mono ?_
              rintro e9 w9 ⟨rfl, hw9⟩
              rw [hw9]
              clear hw9
              go_wp2_with fail
              refine (in_yes _ _ _ _ hr1 hr2).mono ?_
              rintro e9 w9 ⟨rfl, hw9⟩
              rw [hw9]
              clear hw9
              go_wp2_with fail
              refine (in_yes _ _ _ _ hr3 hr4).mono ?_
              rintro e9 w9 ⟨rfl, hw9⟩
              rw [hw9]
              clear hw9
              go_wp2
              go_loopw [5, 9] (fun v k wi => ∃ (j r' : Nat), j ≤ D ∧ Hid (r' = r + j) ∧ k = .int .i64 j ∧ wi.ownsRow w.heap.size 5 1 v r' ((rep L E j).map (.int .u8)) ∧ Below w.heap.size w wi) (fun _ k _ => D - (intOf k).toNat)
              case atStart => exact ⟨0, r, by omega, rfl, rfl, hown, hbel⟩
              case round =>
                obtain ⟨j, r', hj, hr', rfl, hown2, hbel2⟩ := hrel
                obtain ⟨vo2, vc2, rfl, hlr, hO⟩ := Own.of_owns hown2
                have hvc2 : r' ≤ vc2 := hlr.2.1
                clear hlr
                have hrr : r' = r + j := hr'.out
                by_cases hjD : j < D
                · obtain ⟨g, rfl, hgB, hgw, hcg, _⟩ := hO.at (i := r' - E) (by omega)
                  have t1 : ((r' : Int) - (E : Int)).toNat = r' - E := by omega
                  have t2 : (0 : Int) ≤ (r' : Int) - (E : Int) := by omega
                  have t3 : (r' : Int) - (E : Int) < (r' : Int) := by omega
                  generalize hz : (rep L E j).getD (r' - E) 0 = z at *
                  have HZ := hide hz
                  have hbd : r' ≤ 3000 + a + 100 := by omega
                  clear hz hrr hO
                  go_wp2_with (first
                    | (at_builtin; refine wpList_append_own _ rfl _ _ 22 rfl w.heap.size 5 i0 (.int .u8 0) 1 1 Try.underlying22 hi hz0 hz1 hz2 rfl (by decide) _ _ _ rfl (hown2.alloc _) ⟨wr.heap.size, 0, none⟩ 1 1 ([z].map (.int .u8)) rfl rfl (gcells _ _ _) (gones _ _) (glens (by omega)) (by omega) (by have := hbel2.size; simp; omega) ?_; intro v' w3 hown' hgrow hnn))
                  have R := hide (gpush (M := [z]) hbel2 hbel2.size hown2 hown' hgrow)
                  clear hown' hgrow hnn hown2 hbel2
                  go_wp2
                  go_roundw
                  case rel => exact ⟨j + 1, r' + 1, by omega, (show _ = _ by have := hr'.out; omega), by go_num, by rw [rep, rep_len, hL.out.2, ← hr'.out, HZ.out]; exact R.out.1, R.out.2⟩
                  case measure => simp [intOf]; omega
                · obtain rfl : j = D := by omega
                  have hrl : Hid ((rep L E j).length = r') := (show _ = _ by rw [rep_len, hL.out.2]; exact hr'.out.symm)
                  have hs2 : Hid (spr (bl f n) [] = if 3000 < r' then none else spr ((bl f n).drop (a + 1 + 1)) (rep L E j)) := (show _ = _ by
                    rw [← hL.out.1, hdr.out, hdr2.out]
                    have h := hs1.out
                    rw [show (128 + (j : Int) - 128).toNat = j by omega, show (E : Int).toNat = E by omega, hrl.out] at h
                    exact h)
                  clear hO hrr
                  by_cases h3 : 3000 < r'
                  · go_wp2
                    go_ret2
                    exact SpOut.no (by rw [hs2.out, if_pos h3]) hbel2
                  · go_wp2
                    go_roundw
                    case rel => exact ⟨a + 2, r', rep L E j, by omega, by omega, by go_num, ⟨by rw [hs2.out, if_neg h3], hrl.out⟩, hown2, hbel2⟩
                    case measure => simp [intOf]; omega
            · have hs1 := hide (spr_badrun (e := e) (r := (bl f n).drop (a + 1 + 1)) (out := L) hd0 h1 (by rw [hL.out.2]; exact hrun))
              have hd1 : decide (d = 0) = false := by simpa using hd0
              by_cases hdr3 : 131 ≤ d ∧ d ≤ 228
              · have hne : e < 1 ∨ (r : Int) < e := by omega
                go_wp2_with fail
                refine (in_no _ _ _ _ hno).mono ?_
                rintro e9 w9 ⟨rfl, hw9⟩
                rw [hw9]
                clear hw9
                go_wp2_with fail
                refine (in_yes _ _ _ _ hdr3.1 hdr3.2).mono ?_
                rintro e9 w9 ⟨rfl, hw9⟩
                rw [hw9]
                clear hw9
                go_wp2_with fail
                refine (in_no _ _ _ _ hne).mono ?_
                rintro e9 w9 ⟨rfl, hw9⟩
                rw [hw9]
                clear hw9
                go_wp2
                go_ret2
                exact SpOut.no (by rw [← hL.out.1, hdr.out, hdr2.out]; exact hs1.out) hbel
              · have hne : d < 131 ∨ 228 < d := by omega
                go_wp2_with fail
                refine (in_no _ _ _ _ hno).mono ?_
                rintro e9 w9 ⟨rfl, hw9⟩
                rw [hw9]
                clear hw9
                go_wp2_with fail
                refine (in_no _ _ _ _ hne).mono ?_
                rintro e9 w9 ⟨rfl, hw9⟩
                rw [hw9]
                clear hw9
                go_wp2
                go_ret2
                exact SpOut.no (by rw [← hL.out.1, hdr.out, hdr2.out]; exact hs1.out) hbel
        · obtain rfl : n = a + 1 := by omega
          have hbad := hide (spr_bad1 (out := L) h1)
          go_wp2_with (go_at_call 77; refine (in_no _ _ _ _ hno).mono ?_; rintro e w9 ⟨rfl, hw9⟩; rw [hw9]; clear hw9)
          go_ret2
          exact SpOut.no (by rw [← hL.out.1, hdr.out, bl_end]; exact hbad.out) hbel
    · obtain rfl : a = n := by omega
      have hend := hide (bl_end f a)
      by_cases h3 : 3000 < r
      · go_wp2
        go_ret2
        exact SpOut.long (M := L) (by rw [← hL.out.1, hend.out]; rfl) (by have := hL.out.2; omega) hbel
      · go_wp2
        go_ret2
        exact SpOut.yes (M := L) (by rw [← hL.out.1, hend.out]; rfl) hL.out.2 (by omega) hown hbel
end Go.Proofs.Ytkeojhnifnkpiaa

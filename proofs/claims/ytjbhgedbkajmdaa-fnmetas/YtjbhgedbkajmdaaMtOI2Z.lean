/- All numbers of bytes, and lists cut off them, of the program. -/
import Derived.Test.YtjbhgedbkajmdaaMtOIZ

namespace Go.Proofs.Ytjbhgedbkajmdaa
open Go.ChangeShapes Go.WideShapes Go.ChangeAt Go.RowKit
set_option linter.unusedVariables false
set_option linter.unusedSimpArgs false
set_option maxRecDepth 100000

def AnOut (w w' : World) (n : Nat) (f : Nat → Int) (e : Ending) : Prop :=
  ((∃ (c : Nat) (ro : Option Addr) (rc : Nat), sts n f (some 0) c = some (n : Int) ∧ e = .returned (.tuple #[.slice ro (rdl n f 0 c).length rc, .bool true]) ∧ Own w' w.heap.size 3 ro (rdl n f 0 c).length (fun j => .int .i64 ((rdl n f 0 c).getD j 0)) ∧ (rdl n f 0 c).length ≤ rc ∧ rc ≤ 9223372036854775807 ∧ c ≤ n) ∨
   ((¬ ∃ c, sts n f (some 0) c = some (n : Int)) ∧ e = .returned (.tuple #[.slice none 0 0, .bool false]))) ∧ Below w.heap.size w w'

set_option maxHeartbeats 600000 in
theorem allnums_impl (ao : Option Addr) (n cap : Nat) (f : Nat → Int) (w : World) (hn : n ≤ 1048576) (hs : SL .u8 w ao n f) (hf : ∀ i, i < n → 0 ≤ f i ∧ f i ≤ 255) :
    Calls Try.prog 46 #[.slice ao n cap] w fun e w' => AnOut w w' n f e := by
  obtain ⟨i0, hi, hz0, hz1, hz2⟩ := info_parts Try.info3
  have HS := hide hs
  have HF := hide hf
  clear hs hf
  go_enter Try.func46, Try.ntmps46
  go_wp2
  go_loopw [4, 5, 6, 7, 8] (fun v a _ _ _ wr => ∃ (c p : Nat), p ≤ n ∧ a = .int .i64 p ∧ Hid (sts n f (some 0) c = some (p : Int) ∧ wr.ownsRow w.heap.size 3 1 v (rdl n f 0 c).length ((rdl n f 0 c).map (.int .i64)) ∧ Below w.heap.size w wr)) (fun _ a _ _ _ _ => n - (intOf a).toNat)
  case atStart => exact ⟨0, 0, by omega, rfl, rfl, gnil, Below.refl _ _⟩
  case round =>
    obtain ⟨c, p, hp, rfl, HI⟩ := hrel
    have hcp : c ≤ p := by have := (ksts_pos c HI.out.1).1; omega
    by_cases hlt : p < n
    · have hget := hide (geti_any ao n cap (p : Int) f wr hn (by omega) (by omega) (HS.out.below HI.out.2.2) HF.out)
      cases hr : rdI n f (p : Int) with
      | none =>
        have HN : Hid (¬ ∃ c', sts n f (some 0) c' = some (n : Int)) := fun ⟨c', h'⟩ => by
          by_cases hle : c' ≤ c
          · obtain ⟨d, rfl⟩ : ∃ d, c = c' + d := ⟨c - c', by omega⟩
            have h1 := HI.out.1
            rw [← kts_add, h'] at h1
            have := (ksts_pos d h1).1
            omega
          · have h1 : sts n f (some 0) (c + 1) = none := by
              show nx n f (sts n f (some 0) c) = none
              rw [HI.out.1]
              simp only [nx, hr, Option.map_none]
            rw [kts_le n f (some 0) (c + 1) c' h1 (by omega)] at h'
            cases h'
        rw [hr] at hget
        unfold gres at hget
        have HB := hide HI.out.2.2
        clear hr HI
        go_wp2_with fail
        refine hget.out.mono ?_
        rintro e w1 ⟨rfl, hw⟩
        rw [hw]
        clear hw hget
        go_wp2
        refine bodyPost_ret (v := .tuple #[.slice none 0 0, .bool false]) (by simp [results, Try.results46, go_sem]) rfl ?_
        exact ⟨.inr ⟨HN.out, rfl⟩, HB.out⟩
      | some xy =>
        obtain ⟨x, y⟩ := xy
        have hy := rdI_pos hr
        obtain ⟨q, rfl⟩ := Int.eq_ofNat_of_zero_le (show 0 ≤ y by omega)
        have HNX : Hid (sts n f (some 0) (c + 1) = some (q : Int) ∧ rdl n f 0 (c + 1) = rdl n f 0 c ++ [x]) := by
          constructor
          · show nx n f (sts n f (some 0) c) = _
            rw [HI.out.1]
            simp only [nx, hr, Option.map_some]
          · rw [rdl_succ, HI.out.1]
            simp only [rdv, hr, Option.map_some, Option.getD_some]
        rw [hr] at hget
        unfold gres at hget
        have hrl := rdl_len n f 0 c
        have hsz := HI.out.2.2.size
        have HI' : Hid (wr.ownsRow w.heap.size 3 1 u4 (rdl n f 0 c).length ((rdl n f 0 c).map (.int .i64)) ∧ Below w.heap.size w wr) := HI.out.2
        generalize rdl n f 0 c = M at *
        clear hr HI
        have HA2 : Hid ((wr.alloc (.cells #[.int .i64 x] 3)).ownsRow w.heap.size 3 1 u4 M.length (M.map (.int .i64))) := HI'.out.1.alloc _
        have HSR : Hid (Src .i64 (wr.alloc (.cells #[.int .i64 x] 3)) (.slice (some ⟨wr.heap.size, 0, none⟩) 1 1) [x]) := .inr ⟨⟨wr.heap.size, 0, none⟩, 1, rfl, gcells wr [.int .i64 x] 3⟩
        have hsz2 : w.heap.size ≤ (wr.alloc (.cells #[.int .i64 x] 3)).heap.size := by simp; omega
        go_wp2_with fail
        refine hget.out.mono ?_
        rintro e w1 ⟨rfl, hw⟩
        rw [hw]
        clear hw hget
        go_wp2_with (first
          | (at_builtin; refine wpList_append_src rfl _ _ 24 rfl w.heap.size 3 i0 (.int .i64 0) 8 Try.underlying24 hi hz0 hz1 hz2 rfl .i64 _ M rfl HA2.out _ [x] rfl HSR.out (glens (by simp; omega)) (by simp; omega) hsz2 ?_; intro v' w4 hown' hgrow))
        have R := hide (And.intro hown' (ggrown (HI'.out.2.alloc HI'.out.2.size (.cells #[.int .i64 x] 3)) hsz2 HA2.out hgrow))
        clear hown' hgrow HA2 HSR HI'
        go_wp2
        go_roundw
        case rel => exact ⟨c + 1, q, by omega, rfl, HNX.out.1, by rw [HNX.out.2]; exact R.out⟩
        case measure => simp [intOf]; omega
    · obtain rfl : p = n := by omega
      obtain ⟨ro, rc, e4, ⟨_, h5, h6⟩, h7⟩ := Own.of_owns HI.out.2.1
      subst e4
      have HE : Hid (AnOut w wr p f (.returned (.tuple #[.slice ro (rdl p f 0 c).length rc, .bool true]))) := ⟨.inl ⟨c, ro, rc, HI.out.1, rfl, h7, h5, by unfold maxLen at h6; omega, hcp⟩, HI.out.2.2⟩
      clear h5 h6 h7 HI
      go_wp2
      exact bodyPost_ret (v := .tuple #[.slice ro (rdl p f 0 c).length rc, .bool true]) (by simp [results, Try.results46, go_sem]) rfl HE.out

def catl (L : Nat → List Int) : Nat → List Int
  | 0 => []
  | k + 1 => catl L k ++ lsq (L k)
theorem catl_inj {L L' : Nat → List Int} : ∀ {k : Nat} {r r' : List Int}, catl L k ++ r = catl L' k ++ r' → (∀ i, i < k → L i = L' i) ∧ r = r'
  | 0, _, _, h => ⟨fun i hi => absurd hi (by omega), h⟩
  | k + 1, _, _, h => by
    simp only [catl, List.append_assoc] at h
    obtain ⟨h1, h2⟩ := catl_inj h
    obtain ⟨h3, h4⟩ := lsq_inj h2
    refine ⟨fun i hi => ?_, h4⟩
    by_cases e : i = k
    · subst e; exact h3
    · exact h1 i (by omega)
theorem catl_congr {L L' : Nat → List Int} : ∀ {k : Nat}, (∀ i, i < k → L i = L' i) → catl L k = catl L' k
  | 0, _ => rfl
  | k + 1, h => by simp only [catl]; rw [catl_congr (fun i hi => h i (by omega)), h k (by omega)]
theorem catl_cut (L : Nat → List Int) (k : Nat) (r : List Int) (hk : k < 3) : ∃ s, catl L 3 ++ r = catl L k ++ (lsq (L k) ++ s) := by
  obtain rfl | rfl | rfl : k = 0 ∨ k = 1 ∨ k = 2 := by omega
  · exact ⟨lsq (L 1) ++ (lsq (L 2) ++ r), by simp [catl]⟩
  · exact ⟨lsq (L 2) ++ r, by simp [catl]⟩
  · exact ⟨r, by simp [catl]⟩
def CbOut (w w' : World) (N : List Int) (e : Ending) : Prop :=
  ((∃ (L : Nat → List Int) (r : List Int) (bo so : Option Addr) (sc : Nat), N = catl L 3 ++ r ∧ e = .returned (.tuple #[.slice bo 3 3, .slice so r.length sc, .bool true]) ∧ (∃ R, OR w' w.heap.size w'.heap.size 3 L R ∧ SR w' w.heap.size w'.heap.size bo 3 L R) ∧ SL .i64 w' so r.length (fun j => r.getD j 0) ∧ r.length ≤ sc) ∨
   ((¬ ∃ L r, N = catl L 3 ++ r) ∧ e = .returned (.tuple #[.slice none 0 0, .slice none 0 0, .bool false]))) ∧ Below w.heap.size w w'

theorem kow {w : World} {ao : Option Addr} {n : Nat} {f : Nat → Int} (h : SL .i64 w ao n f) : n = 0 ∨ ∀ b o, ao = some ⟨b, o, none⟩ → b < w.heap.size := by
  rcases Nat.eq_zero_or_pos n with h0 | h0
  · exact .inl h0
  · refine .inr fun b off e => ?_
    obtain ⟨b', off', e', hlt, _⟩ := h 0 h0
    rw [e] at e'
    cases e'
    exact hlt
set_option maxHeartbeats 1000000 in
theorem cutbits_impl (ao : Option Addr) (c : Nat) (N : List Int) (w : World) (hN : N.length ≤ 1048576) (hc : N.length ≤ c) (hc2 : c ≤ 9223372036854775807) (hs : SL .i64 w ao N.length (fun j => N.getD j 0)) (hm : ∀ x ∈ N, 0 ≤ x ∧ x ≤ 2147483647) :
    Calls Try.prog 86 #[.slice ao N.length c] w fun e w' => CbOut w w' N e := by
  have hmk := run_make_row' (P := Try.prog) 25 24 (.slice none 0 0) 24 Try.underlying25 Try.infoSl rfl .i64 .i64 3 (by omega) (by omega)
  rw [show ((3 : Nat) : Int) = 3 from rfl] at hmk
  have HS := hide hs
  have HM := hide hm
  clear hs hm
  go_enter Try.func86, Try.ntmps86
  go_wp2
  go_loopw [0, 6, 7, 8, 9, 13] (fun nv _ _ _ _ i wr => ∃ (k : Nat) (L : Nat → List Int) (R : Nat → Option Addr × Nat) (r : List Int) (so : Option Addr) (sc : Nat), k ≤ 3 ∧ i = .int .i64 k ∧ nv = .slice so r.length sc ∧ Hid (N = catl L k ++ r ∧ (r.length ≤ sc ∧ sc ≤ 9223372036854775807 ∧ (r.length = 0 ∨ ∀ b o, so = some ⟨b, o, none⟩ → b < w.heap.size)) ∧ SL .i64 wr so r.length (fun j => r.getD j 0) ∧ wr.rowIs w.heap.size 24 3 (fun j => if j < k then .slice (R j).1 (L j).length (R j).2 else .slice none 0 0) ∧ OR wr (w.heap.size + 1) wr.heap.size k L R ∧ Below w.heap.size w wr)) (fun _ _ _ _ _ i _ => 3 - (intOf i).toNat)
  case atStart => exact ⟨0, fun _ => [], fun _ => (none, 0), N, ao, c, by omega, rfl, rfl, rfl, ⟨hc, hc2, kow HS.out⟩, HS.out.below (bal1 _ _), (World.rowIs_made _ _ _ _).congr (by intro i _; simp), OR.nil, (Below.refl _ _).alloc (Nat.le_refl _) _⟩
  case round =>
    obtain ⟨k, L, R, r, so, sc, hk, rfl, rfl, HI⟩ := hrel
    clear hmk
    by_cases hlt : k < 3
    · have hki : (k : Int) < 3 := by omega
      have hrl : r.length ≤ 1048576 := by have h1 := congrArg List.length HI.out.1; rw [List.length_append] at h1; omega
      have hcall := hide (cut_impl so sc r wr hrl HI.out.2.1.1 HI.out.2.1.2.1 HI.out.2.2.1 (fun x hx => HM.out x (by rw [HI.out.1]; simp [hx])))
      have hgl : w.heap.size < wr.heap.size := HI.out.2.2.2.1.lt
      go_wp2_with fail
      refine hcall.out.mono ?_
      rintro e w1 ⟨h1, b1⟩
      clear hcall
      rcases h1 with ⟨l, s, ro, so', rc, sc', he, rfl, hO, hrc, hSL, hs1, hs2, hsb⟩ | ⟨hno, rfl⟩
      · have hlo : ∀ b o, so' = some ⟨b, o, none⟩ → b < w.heap.size := fun b o e => by
          obtain ⟨o', e'⟩ := hsb b o e
          rcases HI.out.2.1.2.2 with h0 | h0
          · rw [he, List.length_append, lsq_len] at h0; omega
          · exact h0 b o' e'
        have r1 := row_below HI.out.2.2.2.1 b1 hgl
        have hf := r1.frozen k
        have hcl := r1.cell hlt
        have HN : Hid (N = catl (setl L k l) (k + 1) ++ s ∧ (s.length ≤ sc' ∧ sc' ≤ 9223372036854775807 ∧ (s.length = 0 ∨ ∀ b o, so' = some ⟨b, o, none⟩ → b < w.heap.size)) ∧ SL .i64 (w1.setCell ⟨w.heap.size, k, none⟩ (.slice ro l.length rc)) so' s.length (fun j => s.getD j 0) ∧ (w1.setCell ⟨w.heap.size, k, none⟩ (.slice ro l.length rc)).rowIs w.heap.size 24 3 (fun j => if j < k + 1 then .slice (setr R k (ro, rc) j).1 (setl L k l j).length (setr R k (ro, rc) j).2 else .slice none 0 0) ∧ OR (w1.setCell ⟨w.heap.size, k, none⟩ (.slice ro l.length rc)) (w.heap.size + 1) (w1.setCell ⟨w.heap.size, k, none⟩ (.slice ro l.length rc)).heap.size (k + 1) (setl L k l) (setr R k (ro, rc)) ∧ Below w.heap.size w (w1.setCell ⟨w.heap.size, k, none⟩ (.slice ro l.length rc))) := by
          refine ⟨?_, ⟨hs1, hs2, .inr hlo⟩, ?_, ?_, ?_, (HI.out.2.2.2.2.2.trans (b1.mono HI.out.2.2.2.2.2.size)).setCell (p := ⟨w.heap.size, k, none⟩) (Nat.le_refl _) _⟩
          · rw [HI.out.1, he]
            simp only [catl, setl_at, List.append_assoc]
            rw [catl_congr (L' := setl L k l) (fun i hi => by rw [setl_ne _ _ _ (by omega)])]
          · intro j hj
            obtain ⟨b, o, e, hlt', hcc⟩ := hSL j hj
            have hb := hlo b o e
            refine ⟨b, o, e, by simp [World.setCell]; exact hlt', ?_⟩
            have hfa : (w1.setCell ⟨w.heap.size, k, none⟩ (.slice ro l.length rc)).heap[b]? = w1.heap[b]? := hfar (by omega) _
            rw [← hcc]
            simp only [World.cell?, hfa]
          · refine (r1.set k _).congr fun j hj => ?_
            by_cases e : j = k
            · subst e; rw [if_pos rfl, if_pos (by omega), setr_at, setl_at]
            · rw [if_neg e, setr_ne _ _ _ e, setl_ne _ _ _ e]
              by_cases e2 : j < k
              · rw [if_pos e2, if_pos (by omega)]
              · rw [if_neg e2, if_neg (by omega)]
          · have o1 : OR (w1.setCell ⟨w.heap.size, k, none⟩ (.slice ro l.length rc)) (w.heap.size + 1) wr.heap.size k (setl L k l) R := (HI.out.2.2.2.2.1.kept (fun j h1 h2 => (hfar (by omega) _).trans (b1.block j h2))).congr fun i hi => by rw [setl_ne _ _ _ (by omega)]
            refine o1.push (by omega) (by simp [World.setCell]; exact b1.size) (by rw [setl_at]; exact hrc) ?_
            rw [setl_at]
            have o2 := (Rt.of hO).kept (w' := w1.setCell ⟨w.heap.size, k, none⟩ (.slice ro l.length rc)) (fun j h1 _ => hfar (by omega) _)
            have hs : (w1.setCell ⟨w.heap.size, k, none⟩ (.slice ro l.length rc)).heap.size = w1.heap.size := by simp [World.setCell]
            rw [hs]
            exact o2
        clear r1 hO hSL b1 HI he hrc hlo hsb
        go_wp2
        go_roundw
        case rel => exact ⟨k + 1, _, _, s, so', sc', by omega, by go_num, rfl, HN.out⟩
        case measure => simp [intOf]; omega
      · have HN : Hid (¬ ∃ L r, N = catl L 3 ++ r) := fun ⟨L', r', e'⟩ => by
          obtain ⟨s, es⟩ := catl_cut L' k r' hlt
          rw [HI.out.1, es] at e'
          exact hno ⟨_, _, (catl_inj e').2⟩
        have HB := hide (HI.out.2.2.2.2.2.trans (b1.mono HI.out.2.2.2.2.2.size))
        clear hno b1 HI
        go_wp2
        refine bodyPost_ret (v := .tuple #[.slice none 0 0, .slice none 0 0, .bool false]) (by simp [results, Try.results86, go_sem]) rfl ?_
        exact ⟨.inr ⟨HN.out, rfl⟩, HB.out⟩
    · obtain rfl : k = 3 := by omega
      have hkf : ¬ ((3 : Nat) : Int) < 3 := by omega
      have HE : Hid (CbOut w wr N (.returned (.tuple #[.slice (some ⟨w.heap.size, 0, none⟩) 3 3, .slice so r.length sc, .bool true]))) := by
        refine ⟨.inl ⟨L, r, _, so, sc, HI.out.1, rfl, ⟨R, HI.out.2.2.2.2.1.wide (by omega) (Nat.le_refl _), ?_⟩, HI.out.2.2.1, HI.out.2.1.1⟩, HI.out.2.2.2.2.2⟩
        obtain ⟨cc, hcc, hs, hF⟩ := HI.out.2.2.2.1
        exact .inr ⟨w.heap.size, cc, rfl, ⟨Nat.le_refl _, (Array.getElem?_eq_some_iff.1 hcc).1⟩, hcc, by omega, fun i hi => by rw [hF i hi]; exact congrArg some (if_pos hi)⟩
      clear HI
      go_wp2
      exact bodyPost_ret (v := .tuple #[.slice (some ⟨w.heap.size, 0, none⟩) 3 3, .slice so r.length sc, .bool true]) (by simp [results, Try.results86, go_sem]) rfl HE.out
end Go.Proofs.Ytjbhgedbkajmdaa

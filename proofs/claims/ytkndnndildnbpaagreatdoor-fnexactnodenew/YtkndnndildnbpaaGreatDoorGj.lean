/- MsgOf of the program: numbers read, bytes held against each other. -/
import Derived.Test.YtkndnndildnbpaaGreatDoorGp
import Derived.Test.YtkndnndildnbpaaGreatDoorMofSZ
import Derived.Test.YtkndnndildnbpaaGreatDoorGf
import Derived.Test.YtkndnndildnbpaaGreatDoorGi
import Derived.Deep.AppendSrc
import Derived.Deep.RegionHeld3

namespace Go.Proofs.YtkndnndildnbpaaGreatDoor
open Go.ChangeShapes Go.WideShapes Go.ChangeAt Go.RowKit
set_option linter.unusedVariables false
set_option linter.unusedSimpArgs false

theorem geti_any (ao : Option Addr) (n cap : Nat) (p : Int) (f : Nat → Int) (w : World) (hn : n ≤ 1048576) (hp0 : -9223372036854775808 ≤ p) (hp : p ≤ 9223372036854775807) (hs : SL .u8 w ao n f) (hf : ∀ i, i < n → 0 ≤ f i ∧ f i ≤ 255) :
    Calls Tryz.prog 272 #[.slice ao n cap, .int .i64 p] w fun e w' => e = .returned (gres (rdI n f p)) ∧ w' = w := by
  by_cases h : p < 0
  · have e : rdI n f p = none := by unfold rdI; rw [if_pos h]
    rw [e]
    exact get_impl_of ao n cap p none w (read_neg ao n cap p w h hp0)
  · obtain ⟨a, rfl⟩ := Int.eq_ofNat_of_zero_le (Int.not_lt.1 h)
    have e : rdI n f (a : Int) = gr n f a 5 0 := by unfold rdI; rw [if_neg h]; simp
    rw [e]
    exact get_impl_of ao n cap a _ w (read_any ao n cap a f w hn hp hs hf)

/-- The numbers that are read from p on. -/
def rdl (n : Nat) (f : Nat → Int) (p : Int) (c : Nat) : List Int := (List.range c).map (fun j => rdv n f (sts n f (some p) j))
theorem rdl_succ (n : Nat) (f : Nat → Int) (p : Int) (c : Nat) : rdl n f p (c + 1) = rdl n f p c ++ [rdv n f (sts n f (some p) c)] := by simp [rdl, List.range_succ]
theorem rdl_len (n : Nat) (f : Nat → Int) (p : Int) (c : Nat) : (rdl n f p c).length = c := by simp [rdl]
set_option maxRecDepth 100000 in
theorem bequal_any (ao bo : Option Addr) (ca cb : Nat) (L M : List Int) (w : World) (hL : ∀ z ∈ L, 0 ≤ z ∧ z ≤ 255) (hM : ∀ z ∈ M, 0 ≤ z ∧ z ≤ 255) (hA : SL .u8 w ao L.length (fun i => L.getD i 0)) (hB : SL .u8 w bo M.length (fun i => M.getD i 0)) (b : Bool) (hb : TellsB b (L = M)) :
    Calls Tryz.prog 259 #[.slice ao L.length ca, .slice bo M.length cb] w fun e w' => e = .returned (.bool b) ∧ w' = w := by
  have hcv1 : (convert 26 9 (.slice ao L.length ca)).run Tryz.prog w = .ok (.string (bstr L)) w := conv_str hA hL
  have hcv2 : (convert 26 9 (.slice bo M.length cb)).run Tryz.prog w = .ok (.string (bstr M)) w := conv_str hB hM
  have HT : Hid (TellsB b (bstr L = bstr M)) := ⟨fun h => by rw [hb.1 h], fun h => hb.2 (bstr_inj hL hM h)⟩
  clear hb hL hM hA hB
  generalize bstr L = sL at *
  generalize bstr M = sM at *
  by_cases h : sL = sM
  · obtain rfl : b = true := HT.out.2 h
    subst h
    clear HT
    go_enter Tryz.func259, Tryz.ntmps259
    go_wp2
    go_ret
    exact ⟨by simp, rfl⟩
  · obtain rfl : b = false := by
      cases b with
      | false => rfl
      | true => exact absurd (HT.out.1 rfl) h
    clear HT
    have h1 : (sL.toList == sM.toList) = false := by
      rw [beq_eq_false_iff_ne]
      intro e
      exact h (by rw [ByteArray.toList_eq, ByteArray.toList_eq] at e; exact WideShapes.bytes_inj e)
    go_enter Tryz.func259, Tryz.ntmps259
    go_wp2
    go_ret
    exact ⟨by simp [h1, h], rfl⟩
theorem kstep_run {P : Program} {w : World} {ops : Array Oper} {o : Oper} {a : Act} {K : Act → World → Prop} {Q : Exit → Act → World → Prop} {E : Prop} (hgd : o.guard = none) (s x : Operand) (t tn : TypeId)
    (ho : o.op = .call { callee := .builtin .append, args := #[s, x], argTypes := #[t, tn] }) (vs vx : Value) (hs : a.eval s = vs) (hx : a.eval x = vx)
    (v' : Value) (w' : World) (hr : (Builtin.append_ #[t, tn] o.type #[vs, vx]).run P w = .ok v' w') (h : K (a.put o.dst v') w') :
    if Region.wanted o (yielded ops a.tmps) = true then Oper.wp P o a w K Q else E := by
  have hw : Region.wanted o (yielded ops a.tmps) = true := by simp [Region.wanted, hgd]
  rw [if_pos hw]
  exact Lib.wp_append_run w s x t tn ho vs vx hs hx v' w' hr h

/-- What is cut off, and what is left. -/
def CutOut (w w' : World) (ao : Option Addr) (N : List Int) (e : Ending) : Prop :=
  ((∃ (l r : List Int) (ro so : Option Addr) (rc sc : Nat), N = lsq l ++ r ∧ e = .returned (.tuple #[.slice ro l.length rc, .slice so r.length sc, .bool true]) ∧ Own w' w.heap.size 3 ro l.length (fun j => .int .i64 (l.getD j 0)) ∧ l.length ≤ rc ∧ SL .i64 w' so r.length (fun j => r.getD j 0) ∧ r.length ≤ sc ∧ sc ≤ 9223372036854775807 ∧ ∀ b o, so = some ⟨b, o, none⟩ → ∃ o', ao = some ⟨b, o', none⟩) ∨
   ((¬ ∃ l r, N = lsq l ++ r) ∧ e = .returned (.tuple #[.slice none 0 0, .slice none 0 0, .bool false]))) ∧ Below w.heap.size w w'

set_option maxHeartbeats 1000000 in
theorem cut_impl (ao : Option Addr) (c : Nat) (N : List Int) (w : World) (hN : N.length ≤ 1048576) (hc : N.length ≤ c) (hc2 : c ≤ 9223372036854775807) (hs : SL .i64 w ao N.length (fun j => N.getD j 0)) (hm : ∀ x ∈ N, 0 ≤ x ∧ x ≤ 2147483647) :
    Calls Tryz.prog 273 #[.slice ao N.length c] w fun e w' => CutOut w w' ao N e := by
  obtain ⟨i0, hi, hz0, hz1, hz2⟩ := info_parts Tryz.info3
  cases N with
  | nil =>
    have HN : Hid (¬ ∃ l r, ([] : List Int) = lsq l ++ r) := fun ⟨l, r, e⟩ => by simp [lsq] at e
    clear hs hm
    go_enter Tryz.func273, Tryz.ntmps273
    go_wp2
    refine bodyPost_ret (v := .tuple #[.slice none 0 0, .slice none 0 0, .bool false]) (by simp [results, Tryz.results273, go_sem]) rfl ?_
    exact ⟨.inr ⟨HN.out, rfl⟩, Below.refl _ _⟩
  | cons x N =>
    obtain ⟨b, off, rfl, hb, hc0⟩ := hs 0 (by simp)
    rw [Nat.add_zero] at hc0
    have hx0 : w.cell? ⟨b, off, none⟩ = some (.int .i64 x) := hc0
    have hx := hm x (by simp)
    have hl : (x :: N).length = N.length + 1 := rfl
    by_cases hge : (N.length : Int) < x
    · have HN : Hid (¬ ∃ l r, x :: N = lsq l ++ r) := fun ⟨l, r, e⟩ => by
        simp only [lsq, List.cons_append, List.cons.injEq] at e
        have := congrArg List.length e.2
        rw [List.length_append] at this
        omega
      rw [hl]
      have hd : decide (((N.length + 1 : Nat) : Int) ≤ x) = true := decide_eq_true (by omega)
      have hd0 : ((N.length + 1 : Nat) : Int) ≤ x := by omega
      generalize hL : N.length + 1 = m at *
      have hpos : ¬ (m : Int) = 0 := by omega
      have hpos2 : ((m : Int) == 0) = false := by simpa using hpos
      have hpos3 : (0 : Int) < (m : Int) := by omega
      clear hs hm hL hl hge
      go_enter Tryz.func273, Tryz.ntmps273
      go_wp2
      refine bodyPost_ret (v := .tuple #[.slice none 0 0, .slice none 0 0, .bool false]) (by simp [results, Tryz.results273, go_sem]) rfl ?_
      exact ⟨.inr ⟨HN.out, rfl⟩, Below.refl _ _⟩
    · obtain ⟨k, rfl⟩ := Int.eq_ofNat_of_zero_le hx.1
      have hkN : k ≤ N.length := by omega
      rw [hl]
      have hd : decide (((N.length + 1 : Nat) : Int) ≤ (k : Int)) = false := decide_eq_false (by omega)
      have hd0 : ¬ ((N.length + 1 : Nat) : Int) ≤ (k : Int) := by omega
      generalize hL : N.length + 1 = m at *
      have hpos : ¬ (m : Int) = 0 := by omega
      have hpos2 : ((m : Int) == 0) = false := by simpa using hpos
      have hpos3 : (0 : Int) < (m : Int) := by omega
      have hc1 : (1 : Int) ≤ (c : Int) := by omega
      have hm1 : (1 : Int) ≤ (m : Int) := by omega
      have hk0 : (0 : Int) ≤ (k : Int) := by omega
      have hke : (1 : Int) + (k : Int) ≤ (m : Int) := by omega
      have hke2 : (1 : Int) + (k : Int) ≤ (c : Int) := by omega
      have hk1 : (1 : Int) ≤ (1 : Int) + (k : Int) := by omega
      have hk2 : (0 : Int) ≤ (1 : Int) + (k : Int) := by omega
      have hwr : IntKind.i64.wrap (1 + (k : Int)) = 1 + (k : Int) := by rw [IntKind.wrap_i64]; omega
      have ht : (1 + (k : Int)).toNat = k + 1 := by omega
      have hmk : m - (k + 1) = (N.drop k).length := by simp; omega
      have HSR : Hid (∀ w', Below w.heap.size w w' → SL .i64 w' (if c = k + 1 then some ⟨b, off, none⟩ else some ⟨b, off + (k + 1), none⟩) (N.drop k).length (fun j => (N.drop k).getD j 0)) := fun w' hb' j hj => by
        have hjl : k + j < N.length := by simp at hj; omega
        obtain ⟨b', off', e, hlt, hcc⟩ := (hs.below hb') (k + j + 1) (by simp; omega)
        simp only [Option.some.injEq, Addr.mk.injEq] at e
        obtain ⟨rfl, rfl, _⟩ := e
        rw [if_neg (by simp at hj; omega)]
        refine ⟨b, off + (k + 1), rfl, hlt, ?_⟩
        rw [show off + (k + 1) + j = off + (k + j + 1) by omega, hcc]
        simp [List.getD, hjl]
      have HLL : Hid (((k : Nat) : Int) :: N = lsq (N.take k) ++ N.drop k) := by
        show _ = _
        have : (N.take k).length = k := by simp; omega
        simp only [lsq, this, List.cons_append, List.take_append_drop]
      have hlk : (N.take k).length = k := by simp; omega
      have HSB : Hid (∀ b1 o, (if c = k + 1 then (some ⟨b, off, none⟩ : Option Addr) else some ⟨b, off + (k + 1), none⟩) = some ⟨b1, o, none⟩ → ∃ o', (some ⟨b, off, none⟩ : Option Addr) = some ⟨b1, o', none⟩) := fun b1 o e => by
        split at e
        · cases e; exact ⟨_, rfl⟩
        · cases e; exact ⟨_, rfl⟩
      have HDC : Hid ((N.drop k).length ≤ c - (k + 1) ∧ c - (k + 1) ≤ 9223372036854775807) := ⟨by omega, by omega⟩
      obtain ⟨ro, rc, W1, hrz, HO⟩ : ∃ (ro : Option Addr) (rc : Nat) (W1 : World), (∀ (ty : TypeId), (Builtin.append_ #[22, 22] ty #[.slice (some ⟨b, off, none⟩) 0 0, .slice (if c = 1 then some ⟨b, off, none⟩ else some ⟨b, off + 1, none⟩) k (c - 1)]).run Tryz.prog w.drew = .ok (.slice ro k rc) W1) ∧ Hid (Own W1 w.heap.size 3 ro k (fun j => .int .i64 ((N.take k).getD j 0)) ∧ k ≤ rc ∧ Below w.heap.size w W1) := by
        rcases Nat.eq_zero_or_pos k with hk00 | hkp
        · subst hk00
          refine ⟨some ⟨b, off, none⟩, 0, w.drew, fun ty => ?_, .inl rfl, Nat.le_refl _, Below.drawn (Below.refl _ _) 1⟩
          have h := fun (ad : Addr) => run_append_room_src (P := Tryz.prog) (w := w.drew) 22 22 ty 3 i0 Tryz.underlying22 hi b off 0 0 (.slice (some ad) 0 (c - 1)) 0 [] (Go.Src.ofSlice w.drew Tryz.underlying22 ad 0 (c - 1) [] (by simp) (by simp) (by simp)) (by omega) (by simp) (by simp)
          split
          · exact h _
          · exact h _
        · have hne : ¬ c = 1 := by omega
          have hcl : ∀ j u, ((N.take k).map (Value.int .i64))[j]? = some u → w.drew.cell? ((⟨b, off + 1, none⟩ : Addr).add j) = some u := fun j u hu => by
            have hj : j < k := by
              by_cases hj : j < k
              · exact hj
              · rw [List.getElem?_eq_none (by simp; omega)] at hu; cases hu
            have hjl : j < N.length := by omega
            obtain ⟨b', off', e, hlt, hcc⟩ := hs (j + 1) (by simp; omega)
            simp only [Option.some.injEq, Addr.mk.injEq] at e
            obtain ⟨rfl, rfl, _⟩ := e
            rw [Addr.add_lit]
            show w.cell? _ = _
            rw [show off + 1 + j = off + (j + 1) by omega, hcc, ← hu]
            simp [List.getD, hjl, hj]
          have hg := fun ty => run_append_grow_src (P := Tryz.prog) (w := w.drew) 22 22 ty 3 i0 (.int .i64 0) Tryz.underlying22 hi hz0 (some ⟨b, off, none⟩) 0 0 [] (run_firstCells_some _ _ 0 ⟨b, off, none⟩ 0 0 [] (by simp) (by simp)) (.slice (some ⟨b, off + 1, none⟩) k (c - 1)) k ((N.take k).map (.int .i64)) (Go.Src.ofSlice w.drew Tryz.underlying22 ⟨b, off + 1, none⟩ k (c - 1) ((N.take k).map (.int .i64)) (by rw [hz1]; simp; omega) hcl (gones _ _)) (by omega) (by omega) (by rw [Nat.zero_add, nextslicecap_zero hkp, hz2]; omega)
          rw [Nat.zero_add] at hg
          have hGn : k ≤ grownCap w.drew k 0 3 := grownCap_ge w.drew _ _ _
          generalize grownCap w.drew k 0 3 = Gc at *
          refine ⟨_, _, _, fun ty => by rw [if_neg hne]; exact hg ty, ?_, hGn, ?_⟩
          · refine .inr ⟨w.heap.size, rfl, Nat.le_refl _, _, Deep.blk_alloc_new _ _, ?_, fun j hj => ?_⟩
            · simp; omega
            · have hjN : j < N.length := by omega
              rw [Array.getElem?_append_left (by simp; omega)]
              simp [List.getD, hj, hjN]
          · exact ((Below.drawn (Below.drawn (Below.refl _ w) 1) 1).alloc (Nat.le_refl _) _)
      have HLK := hide hlk
      have HMK := hide hmk
      have HB1 := hide HO.out.2.2
      clear hs hm hL hl hge hlk hmk
      go_enter Tryz.func273, Tryz.ntmps273
      go_wp2
      go_region_held3 (fun _ => True) (trivial) ((refine kstep_run (by rfl) _ _ _ _ (by rfl) _ _ (by rfl) (by rfl) _ _ (hrz _) ?_))
      generalize (if c = k + 1 then (some ⟨b, off, none⟩ : Option Addr) else some ⟨b, off + (k + 1), none⟩) = so at *
      generalize (if c = 1 then (some ⟨b, off, none⟩ : Option Addr) else some ⟨b, off + 1, none⟩) = so1 at *
      go_wp2
      refine bodyPost_ret (v := .tuple #[.slice ro k rc, .slice so (m - (k + 1)) (c - (k + 1)), .bool true]) (by simp [results, Tryz.results273, go_sem]) rfl ?_
      refine ⟨.inl ⟨N.take k, N.drop k, ro, _, rc, c - (k + 1), HLL.out, ?_, ?_, ?_, HSR.out W1 HB1.out, HDC.out.1, HDC.out.2, HSB.out⟩, HB1.out⟩
      · rw [HLK.out, ← HMK.out]
      · rw [HLK.out]; exact HO.out.1
      · rw [HLK.out]; exact HO.out.2.1
def AnOut (w w' : World) (n : Nat) (f : Nat → Int) (e : Ending) : Prop :=
  ((∃ (c : Nat) (ro : Option Addr) (rc : Nat), sts n f (some 0) c = some (n : Int) ∧ e = .returned (.tuple #[.slice ro (rdl n f 0 c).length rc, .bool true]) ∧ Own w' w.heap.size 3 ro (rdl n f 0 c).length (fun j => .int .i64 ((rdl n f 0 c).getD j 0)) ∧ (rdl n f 0 c).length ≤ rc ∧ rc ≤ 9223372036854775807 ∧ c ≤ n) ∨
   ((¬ ∃ c, sts n f (some 0) c = some (n : Int)) ∧ e = .returned (.tuple #[.slice none 0 0, .bool false]))) ∧ Below w.heap.size w w'

set_option maxHeartbeats 600000 in
theorem allnums_impl (ao : Option Addr) (n cap : Nat) (f : Nat → Int) (w : World) (hn : n ≤ 1048576) (hs : SL .u8 w ao n f) (hf : ∀ i, i < n → 0 ≤ f i ∧ f i ≤ 255) :
    Calls Tryz.prog 266 #[.slice ao n cap] w fun e w' => AnOut w w' n f e := by
  obtain ⟨i0, hi, hz0, hz1, hz2⟩ := info_parts Tryz.info3
  have HS := hide hs
  have HF := hide hf
  clear hs hf
  go_enter Tryz.func266, Tryz.ntmps266
  go_wp2
  go_loopw [4, 5, 6, 7, 8] (fun v a _ _ _ wr => ∃ (c p : Nat), p ≤ n ∧ a = .int .i64 p ∧ Hid (sts n f (some 0) c = some (p : Int) ∧ wr.ownsRow w.heap.size 3 1 v (rdl n f 0 c).length ((rdl n f 0 c).map (.int .i64)) ∧ Below w.heap.size w wr)) (fun _ a _ _ _ _ => n - (intOf a).toNat)
  case atStart => exact ⟨0, 0, by omega, rfl, rfl, gnil, Below.refl _ _⟩
  case round =>
    obtain ⟨c, p, hp, rfl, HI⟩ := hrel
    have hcp : c ≤ p := by have := (ksts_pos c HI.out.1).1; omega
    by_cases hlt : p < n
    · have hget := hide (geti_any ao n cap (p : Int) f wr hn (by omega) (by omega) (HS.out.below HI.out.2.2) HF.out)
      cases hr : rdI n f (p : Int) with
      | none =>
        have HN : Hid (¬ ∃ c', sts n f (some 0) c' = some (n : Int)) := fun ⟨c', h'⟩ => by
          by_cases hle : c' ≤ c
          · obtain ⟨d, rfl⟩ : ∃ d, c = c' + d := ⟨c - c', by omega⟩
            have h1 := HI.out.1
            rw [← kts_add, h'] at h1
            have := (ksts_pos d h1).1
            omega
          · have h1 : sts n f (some 0) (c + 1) = none := by
              show nx n f (sts n f (some 0) c) = none
              rw [HI.out.1]
              simp only [nx, hr, Option.map_none]
            rw [kts_le n f (some 0) (c + 1) c' h1 (by omega)] at h'
            cases h'
        rw [hr] at hget
        unfold gres at hget
        have HB := hide HI.out.2.2
        clear hr HI
        go_wp2_with fail
        refine hget.out.mono ?_
        rintro e w1 ⟨rfl, hw⟩
        rw [hw]
        clear hw hget
        go_wp2
        refine bodyPost_ret (v := .tuple #[.slice none 0 0, .bool false]) (by simp [results, Tryz.results266, go_sem]) rfl ?_
        exact ⟨.inr ⟨HN.out, rfl⟩, HB.out⟩
      | some xy =>
        obtain ⟨x, y⟩ := xy
        have hy := rdI_pos hr
        obtain ⟨q, rfl⟩ := Int.eq_ofNat_of_zero_le (show 0 ≤ y by omega)
        have HNX : Hid (sts n f (some 0) (c + 1) = some (q : Int) ∧ rdl n f 0 (c + 1) = rdl n f 0 c ++ [x]) := by
          constructor
          · show nx n f (sts n f (some 0) c) = _
            rw [HI.out.1]
            simp only [nx, hr, Option.map_some]
          · rw [rdl_succ, HI.out.1]
            simp only [rdv, hr, Option.map_some, Option.getD_some]
        rw [hr] at hget
        unfold gres at hget
        have hrl := rdl_len n f 0 c
        have hsz := HI.out.2.2.size
        have HI' : Hid (wr.ownsRow w.heap.size 3 1 u4 (rdl n f 0 c).length ((rdl n f 0 c).map (.int .i64)) ∧ Below w.heap.size w wr) := HI.out.2
        generalize rdl n f 0 c = M at *
        clear hr HI
        have HA2 : Hid ((wr.alloc (.cells #[.int .i64 x] 3)).ownsRow w.heap.size 3 1 u4 M.length (M.map (.int .i64))) := HI'.out.1.alloc _
        have HSR : Hid (Src .i64 (wr.alloc (.cells #[.int .i64 x] 3)) (.slice (some ⟨wr.heap.size, 0, none⟩) 1 1) [x]) := .inr ⟨⟨wr.heap.size, 0, none⟩, 1, rfl, gcells wr [.int .i64 x] 3⟩
        have hsz2 : w.heap.size ≤ (wr.alloc (.cells #[.int .i64 x] 3)).heap.size := by simp; omega
        go_wp2_with fail
        refine hget.out.mono ?_
        rintro e w1 ⟨rfl, hw⟩
        rw [hw]
        clear hw hget
        go_wp2_with (first
          | (at_builtin; refine wpList_append_src rfl _ _ 22 rfl w.heap.size 3 i0 (.int .i64 0) 8 Tryz.underlying22 hi hz0 hz1 hz2 rfl .i64 _ M rfl HA2.out _ [x] rfl HSR.out (glens (by simp; omega)) (by simp; omega) hsz2 ?_; intro v' w4 hown' hgrow))
        have R := hide (And.intro hown' (ggrown (HI'.out.2.alloc HI'.out.2.size (.cells #[.int .i64 x] 3)) hsz2 HA2.out hgrow))
        clear hown' hgrow HA2 HSR HI'
        go_wp2
        go_roundw
        case rel => exact ⟨c + 1, q, by omega, rfl, HNX.out.1, by rw [HNX.out.2]; exact R.out⟩
        case measure => simp [intOf]; omega
    · obtain rfl : p = n := by omega
      obtain ⟨ro, rc, e4, ⟨_, h5, h6⟩, h7⟩ := Own.of_owns HI.out.2.1
      subst e4
      have HE : Hid (AnOut w wr p f (.returned (.tuple #[.slice ro (rdl p f 0 c).length rc, .bool true]))) := ⟨.inl ⟨c, ro, rc, HI.out.1, rfl, h7, h5, by unfold maxLen at h6; omega, hcp⟩, HI.out.2.2⟩
      clear h5 h6 h7 HI
      go_wp2
      exact bodyPost_ret (v := .tuple #[.slice ro (rdl p f 0 c).length rc, .bool true]) (by simp [results, Tryz.results266, go_sem]) rfl HE.out

def catl (L : Nat → List Int) : Nat → List Int
  | 0 => []
  | k + 1 => catl L k ++ lsq (L k)
theorem catl_inj {L L' : Nat → List Int} : ∀ {k : Nat} {r r' : List Int}, catl L k ++ r = catl L' k ++ r' → (∀ i, i < k → L i = L' i) ∧ r = r'
  | 0, _, _, h => ⟨fun i hi => absurd hi (by omega), h⟩
  | k + 1, _, _, h => by
    simp only [catl, List.append_assoc] at h
    obtain ⟨h1, h2⟩ := catl_inj h
    obtain ⟨h3, h4⟩ := lsq_inj h2
    refine ⟨fun i hi => ?_, h4⟩
    by_cases e : i = k
    · subst e; exact h3
    · exact h1 i (by omega)
theorem catl_congr {L L' : Nat → List Int} : ∀ {k : Nat}, (∀ i, i < k → L i = L' i) → catl L k = catl L' k
  | 0, _ => rfl
  | k + 1, h => by simp only [catl]; rw [catl_congr (fun i hi => h i (by omega)), h k (by omega)]
theorem catl_cut (L : Nat → List Int) (k : Nat) (r : List Int) (hk : k < 3) : ∃ s, catl L 3 ++ r = catl L k ++ (lsq (L k) ++ s) := by
  obtain rfl | rfl | rfl : k = 0 ∨ k = 1 ∨ k = 2 := by omega
  · exact ⟨lsq (L 1) ++ (lsq (L 2) ++ r), by simp [catl]⟩
  · exact ⟨lsq (L 2) ++ r, by simp [catl]⟩
  · exact ⟨r, by simp [catl]⟩
def CbOut (w w' : World) (N : List Int) (e : Ending) : Prop :=
  ((∃ (L : Nat → List Int) (r : List Int) (bo so : Option Addr) (sc : Nat), N = catl L 3 ++ r ∧ e = .returned (.tuple #[.slice bo 3 3, .slice so r.length sc, .bool true]) ∧ (∃ R, OR w' w.heap.size w'.heap.size 3 L R ∧ SR w' w.heap.size w'.heap.size bo 3 L R) ∧ SL .i64 w' so r.length (fun j => r.getD j 0) ∧ r.length ≤ sc) ∨
   ((¬ ∃ L r, N = catl L 3 ++ r) ∧ e = .returned (.tuple #[.slice none 0 0, .slice none 0 0, .bool false]))) ∧ Below w.heap.size w w'

theorem kow {w : World} {ao : Option Addr} {n : Nat} {f : Nat → Int} (h : SL .i64 w ao n f) : n = 0 ∨ ∀ b o, ao = some ⟨b, o, none⟩ → b < w.heap.size := by
  rcases Nat.eq_zero_or_pos n with h0 | h0
  · exact .inl h0
  · refine .inr fun b off e => ?_
    obtain ⟨b', off', e', hlt, _⟩ := h 0 h0
    rw [e] at e'
    cases e'
    exact hlt
set_option maxHeartbeats 1000000 in
theorem cutbits_impl (ao : Option Addr) (c : Nat) (N : List Int) (w : World) (hN : N.length ≤ 1048576) (hc : N.length ≤ c) (hc2 : c ≤ 9223372036854775807) (hs : SL .i64 w ao N.length (fun j => N.getD j 0)) (hm : ∀ x ∈ N, 0 ≤ x ∧ x ≤ 2147483647) :
    Calls Tryz.prog 274 #[.slice ao N.length c] w fun e w' => CbOut w w' N e := by
  have hmk := run_make_row' (P := Tryz.prog) 23 22 (.slice none 0 0) 24 Tryz.underlying23 Tryz.infoSl rfl .i64 .i64 3 (by omega) (by omega)
  rw [show ((3 : Nat) : Int) = 3 from rfl] at hmk
  have HS := hide hs
  have HM := hide hm
  clear hs hm
  go_enter Tryz.func274, Tryz.ntmps274
  go_wp2
  go_loopw [0, 6, 7, 8, 9, 13] (fun nv _ _ _ _ i wr => ∃ (k : Nat) (L : Nat → List Int) (R : Nat → Option Addr × Nat) (r : List Int) (so : Option Addr) (sc : Nat), k ≤ 3 ∧ i = .int .i64 k ∧ nv = .slice so r.length sc ∧ Hid (N = catl L k ++ r ∧ (r.length ≤ sc ∧ sc ≤ 9223372036854775807 ∧ (r.length = 0 ∨ ∀ b o, so = some ⟨b, o, none⟩ → b < w.heap.size)) ∧ SL .i64 wr so r.length (fun j => r.getD j 0) ∧ wr.rowIs w.heap.size 22 3 (fun j => if j < k then .slice (R j).1 (L j).length (R j).2 else .slice none 0 0) ∧ OR wr (w.heap.size + 1) wr.heap.size k L R ∧ Below w.heap.size w wr)) (fun _ _ _ _ _ i _ => 3 - (intOf i).toNat)
  case atStart => exact ⟨0, fun _ => [], fun _ => (none, 0), N, ao, c, by omega, rfl, rfl, rfl, ⟨hc, hc2, kow HS.out⟩, HS.out.below (bal1 _ _), (World.rowIs_made _ _ _ _).congr (by intro i _; simp), OR.nil, (Below.refl _ _).alloc (Nat.le_refl _) _⟩
  case round =>
    obtain ⟨k, L, R, r, so, sc, hk, rfl, rfl, HI⟩ := hrel
    clear hmk
    by_cases hlt : k < 3
    · have hki : (k : Int) < 3 := by omega
      have hrl : r.length ≤ 1048576 := by have h1 := congrArg List.length HI.out.1; rw [List.length_append] at h1; omega
      have hcall := hide (cut_impl so sc r wr hrl HI.out.2.1.1 HI.out.2.1.2.1 HI.out.2.2.1 (fun x hx => HM.out x (by rw [HI.out.1]; simp [hx])))
      have hgl : w.heap.size < wr.heap.size := HI.out.2.2.2.1.lt
      go_wp2_with fail
      refine hcall.out.mono ?_
      rintro e w1 ⟨h1, b1⟩
      clear hcall
      rcases h1 with ⟨l, s, ro, so', rc, sc', he, rfl, hO, hrc, hSL, hs1, hs2, hsb⟩ | ⟨hno, rfl⟩
      · have hlo : ∀ b o, so' = some ⟨b, o, none⟩ → b < w.heap.size := fun b o e => by
          obtain ⟨o', e'⟩ := hsb b o e
          rcases HI.out.2.1.2.2 with h0 | h0
          · rw [he, List.length_append, lsq_len] at h0; omega
          · exact h0 b o' e'
        have r1 := row_below HI.out.2.2.2.1 b1 hgl
        have hf := r1.frozen k
        have hcl := r1.cell hlt
        have HN : Hid (N = catl (setl L k l) (k + 1) ++ s ∧ (s.length ≤ sc' ∧ sc' ≤ 9223372036854775807 ∧ (s.length = 0 ∨ ∀ b o, so' = some ⟨b, o, none⟩ → b < w.heap.size)) ∧ SL .i64 (w1.setCell ⟨w.heap.size, k, none⟩ (.slice ro l.length rc)) so' s.length (fun j => s.getD j 0) ∧ (w1.setCell ⟨w.heap.size, k, none⟩ (.slice ro l.length rc)).rowIs w.heap.size 22 3 (fun j => if j < k + 1 then .slice (setr R k (ro, rc) j).1 (setl L k l j).length (setr R k (ro, rc) j).2 else .slice none 0 0) ∧ OR (w1.setCell ⟨w.heap.size, k, none⟩ (.slice ro l.length rc)) (w.heap.size + 1) (w1.setCell ⟨w.heap.size, k, none⟩ (.slice ro l.length rc)).heap.size (k + 1) (setl L k l) (setr R k (ro, rc)) ∧ Below w.heap.size w (w1.setCell ⟨w.heap.size, k, none⟩ (.slice ro l.length rc))) := by
          refine ⟨?_, ⟨hs1, hs2, .inr hlo⟩, ?_, ?_, ?_, (HI.out.2.2.2.2.2.trans (b1.mono HI.out.2.2.2.2.2.size)).setCell (p := ⟨w.heap.size, k, none⟩) (Nat.le_refl _) _⟩
          · rw [HI.out.1, he]
            simp only [catl, setl_at, List.append_assoc]
            rw [catl_congr (L' := setl L k l) (fun i hi => by rw [setl_ne _ _ _ (by omega)])]
          · intro j hj
            obtain ⟨b, o, e, hlt', hcc⟩ := hSL j hj
            have hb := hlo b o e
            refine ⟨b, o, e, by simp [World.setCell]; exact hlt', ?_⟩
            have hfa : (w1.setCell ⟨w.heap.size, k, none⟩ (.slice ro l.length rc)).heap[b]? = w1.heap[b]? := hfar (by omega) _
            rw [← hcc]
            simp only [World.cell?, hfa]
          · refine (r1.set k _).congr fun j hj => ?_
            by_cases e : j = k
            · subst e; rw [if_pos rfl, if_pos (by omega), setr_at, setl_at]
            · rw [if_neg e, setr_ne _ _ _ e, setl_ne _ _ _ e]
              by_cases e2 : j < k
              · rw [if_pos e2, if_pos (by omega)]
              · rw [if_neg e2, if_neg (by omega)]
          · have o1 : OR (w1.setCell ⟨w.heap.size, k, none⟩ (.slice ro l.length rc)) (w.heap.size + 1) wr.heap.size k (setl L k l) R := (HI.out.2.2.2.2.1.kept (fun j h1 h2 => (hfar (by omega) _).trans (b1.block j h2))).congr fun i hi => by rw [setl_ne _ _ _ (by omega)]
            refine o1.push (by omega) (by simp [World.setCell]; exact b1.size) (by rw [setl_at]; exact hrc) ?_
            rw [setl_at]
            have o2 := (Rt.of hO).kept (w' := w1.setCell ⟨w.heap.size, k, none⟩ (.slice ro l.length rc)) (fun j h1 _ => hfar (by omega) _)
            have hs : (w1.setCell ⟨w.heap.size, k, none⟩ (.slice ro l.length rc)).heap.size = w1.heap.size := by simp [World.setCell]
            rw [hs]
            exact o2
        clear r1 hO hSL b1 HI he hrc hlo hsb
        go_wp2
        go_roundw
        case rel => exact ⟨k + 1, _, _, s, so', sc', by omega, by go_num, rfl, HN.out⟩
        case measure => simp [intOf]; omega
      · have HN : Hid (¬ ∃ L r, N = catl L 3 ++ r) := fun ⟨L', r', e'⟩ => by
          obtain ⟨s, es⟩ := catl_cut L' k r' hlt
          rw [HI.out.1, es] at e'
          exact hno ⟨_, _, (catl_inj e').2⟩
        have HB := hide (HI.out.2.2.2.2.2.trans (b1.mono HI.out.2.2.2.2.2.size))
        clear hno b1 HI
        go_wp2
        refine bodyPost_ret (v := .tuple #[.slice none 0 0, .slice none 0 0, .bool false]) (by simp [results, Tryz.results274, go_sem]) rfl ?_
        exact ⟨.inr ⟨HN.out, rfl⟩, HB.out⟩
    · obtain rfl : k = 3 := by omega
      have hkf : ¬ ((3 : Nat) : Int) < 3 := by omega
      have HE : Hid (CbOut w wr N (.returned (.tuple #[.slice (some ⟨w.heap.size, 0, none⟩) 3 3, .slice so r.length sc, .bool true]))) := by
        refine ⟨.inl ⟨L, r, _, so, sc, HI.out.1, rfl, ⟨R, HI.out.2.2.2.2.1.wide (by omega) (Nat.le_refl _), ?_⟩, HI.out.2.2.1, HI.out.2.1.1⟩, HI.out.2.2.2.2.2⟩
        obtain ⟨cc, hcc, hs, hF⟩ := HI.out.2.2.2.1
        exact .inr ⟨w.heap.size, cc, rfl, ⟨Nat.le_refl _, (Array.getElem?_eq_some_iff.1 hcc).1⟩, hcc, by omega, fun i hi => by rw [hF i hi]; exact congrArg some (if_pos hi)⟩
      clear HI
      go_wp2
      exact bodyPost_ret (v := .tuple #[.slice (some ⟨w.heap.size, 0, none⟩) 3 3, .slice so r.length sc, .bool true]) (by simp [results, Tryz.results274, go_sem]) rfl HE.out
def RmO (w w' : World) (N : List Int) (e : Ending) : Prop :=
  ((∃ (g : List Int) (L : Nat → List Int) (x y : Int) (go bo : Option Addr) (gc : Nat), N = lsq g ++ (catl L 3 ++ [x, y]) ∧ e = .returned (.tuple #[.agg #[.slice go g.length gc, .slice bo 3 3, .bool (bits .and .i64 x 1 != 0), .bool (bits .and .i64 x 2 != 0), .bool (bits .and .i64 x 4 != 0), .int .i64 y], .bool true]) ∧ OKm w' w.heap.size w'.heap.size go gc bo 3 g 3 L) ∨
   ((¬ ∃ g L x y, N = lsq g ++ (catl L 3 ++ [x, y])) ∧ e = .returned (.tuple #[.agg #[.slice none 0 0, .slice none 0 0, .bool false, .bool false, .bool false, .int .i64 0], .bool false]))) ∧ Below w.heap.size w w'

set_option maxHeartbeats 1000000 in
theorem rm_impl (ao : Option Addr) (c : Nat) (N : List Int) (w : World) (hN : N.length ≤ 1048576) (hc : N.length ≤ c) (hc2 : c ≤ 9223372036854775807) (hs : SL .i64 w ao N.length (fun j => N.getD j 0)) (hm : ∀ x ∈ N, 0 ≤ x ∧ x ≤ 2147483647) :
    Calls Tryz.prog 267 #[.slice ao N.length c] w fun e w' => RmO w w' N e := by
  obtain ⟨W, hW⟩ : ∃ W, W = w.alloc (.cells #[.slice none 0 0, .slice none 0 0, .bool false, .bool false, .bool false, .int .i64 0] 25) := ⟨_, rfl⟩
  have hB : Below w.heap.size w W := by rw [hW]; exact bal1 _ _
  have hK : KB W w.heap.size 25 none 0 0 none 0 0 false false false 0 := by rw [hW]; exact KB.new w _ _ _ _ _ _ _ _ _ _ _
  have hcall := hide (cut_impl ao c N W hN hc hc2 (hs.below hB) hm)
  have HB := hide hB
  have HK := hide hK
  have HM := hide hm
  clear hs hm hB hK
  go_enter Tryz.func267, Tryz.ntmps267
  go_wp2_with fail
  rw [← hW]
  clear hW
  refine hcall.out.mono ?_
  rintro e w1 ⟨h1, b1⟩
  have HB1 := hide (HB.out.trans (b1.mono HB.out.size))
  have HK1 := hide (HK.out.b b1)
  have hWl : w.heap.size < W.heap.size := HK.out.lt
  have hz1 := b1.size
  clear hcall
  rcases h1 with ⟨g, r, go, so, gc, sc, he, rfl, hO, hrc, hSL, hs1, hs2, _⟩ | ⟨hno, rfl⟩
  case inr =>
    have HN : Hid (¬ ∃ g L x y, N = lsq g ++ (catl L 3 ++ [x, y])) := fun ⟨g, L, x, y, e⟩ => hno ⟨_, _, e⟩
    obtain ⟨r0, r1, r2, r3, r4, r5⟩ := HK1.out.cells
    have rz := HK1.out.froz
    clear hno b1 HB HK
    go_wp2
    refine bodyPost_ret (v := .tuple #[.agg #[.slice none 0 0, .slice none 0 0, .bool false, .bool false, .bool false, .int .i64 0], .bool false]) (by simp [results, Tryz.results267, go_sem, r0, r1, r2, r3, r4, r5]) rfl ?_
    refine ⟨.inr ⟨HN.out, rfl⟩, ?_⟩
    iterate 6 (refine Below.setCell ?_ (by show w.heap.size ≤ w.heap.size; omega) _)
    exact HB1.out
  have hrl : r.length ≤ 1048576 := by have h1 := congrArg List.length he; rw [List.length_append] at h1; omega
  have hcall := hide (cutbits_impl so sc r w1 hrl hs1 hs2 hSL (fun x hx => HM.out x (by rw [he]; simp [hx])))
  have HO := hide (Rt.of hO)
  have HE := hide he
  clear hO hSL b1 he hs1 hs2
  go_wp2_with fail
  refine hcall.out.mono ?_
  rintro e w2 ⟨h1, b2⟩
  have HB2 := hide (HB1.out.trans (b2.mono HB1.out.size))
  have HK2 := hide (HK1.out.b b2)
  have HO2 := hide (HO.out.kept (fun j _ h => b2.block j h))
  have hz2 := b2.size
  obtain ⟨r0, r1, r2, r3, r4, r5⟩ := HK2.out.cells
  have rz := HK2.out.froz
  clear hcall b2 HO HB1 HK1
  rcases h1 with ⟨L, t, bo, so2, sc2, he2, rfl, hR, hSL2, hs3⟩ | ⟨hno, rfl⟩
  case inr =>
    have HN : Hid (¬ ∃ g L x y, N = lsq g ++ (catl L 3 ++ [x, y])) := fun ⟨g', L', x, y, e⟩ => by
      rw [HE.out] at e
      exact hno ⟨_, _, (lsq_inj e).2⟩
    clear hno
    go_wp2
    refine bodyPost_ret (v := .tuple #[.agg #[.slice none 0 0, .slice none 0 0, .bool false, .bool false, .bool false, .int .i64 0], .bool false]) (by simp [results, Tryz.results267, go_sem, r0, r1, r2, r3, r4, r5]) rfl ?_
    refine ⟨.inr ⟨HN.out, rfl⟩, ?_⟩
    iterate 6 (refine Below.setCell ?_ (by show w.heap.size ≤ w.heap.size; omega) _)
    exact HB2.out
  have HE2 := hide he2
  have HR := hide hR
  have HS2 := hide hSL2
  clear he2 hR hSL2
  by_cases ht : t.length = 2
  case neg =>
    have HN : Hid (¬ ∃ g L x y, N = lsq g ++ (catl L 3 ++ [x, y])) := fun ⟨g', L', x, y, e⟩ => by
      rw [HE.out] at e
      have e2 := (lsq_inj e).2
      rw [HE2.out] at e2
      rw [(catl_inj e2).2] at ht
      exact ht rfl
    have d1 : ¬ (t.length : Int) = 2 := by omega
    have d2 : ((t.length : Int) == 2) = false := by simpa using d1
    have d3 : decide ((t.length : Int) = 2) = false := decide_eq_false d1
    clear ht
    go_wp2
    refine bodyPost_ret (v := .tuple #[.agg #[.slice none 0 0, .slice none 0 0, .bool false, .bool false, .bool false, .int .i64 0], .bool false]) (by simp [results, Tryz.results267, go_sem, r0, r1, r2, r3, r4, r5]) rfl ?_
    refine ⟨.inr ⟨HN.out, rfl⟩, ?_⟩
    iterate 6 (refine Below.setCell ?_ (by show w.heap.size ≤ w.heap.size; omega) _)
    exact HB2.out
  match t, ht with
  | [x, y], _ =>
    obtain ⟨b, off, e0, hb, hc0⟩ := HS2.out 0 (by simp)
    obtain ⟨b', off', e1, hb', hc1⟩ := HS2.out 1 (by simp)
    subst e0
    cases e1
    have k0 : w2.cell? ⟨b, off, none⟩ = some (.int .i64 x) := by rw [Nat.add_zero] at hc0; exact hc0
    have k1 : w2.cell? ⟨b, off + 1, none⟩ = some (.int .i64 y) := hc1
    have hx : 0 ≤ x ∧ x ≤ 2147483647 := HM.out x (by rw [HE.out, HE2.out]; simp)
    have HF : Hid (∀ F : World, F.heap.size = w2.heap.size → (∀ j, w.heap.size + 1 ≤ j → F.heap[j]? = w2.heap[j]?) → OKm F w.heap.size F.heap.size go gc bo 3 g 3 L) := fun F hsz hk => by
      obtain ⟨R, hOR, hSR⟩ := HR.out
      rw [hsz]
      refine ⟨⟨by omega, by omega⟩, Nat.le_refl _, R, ?_, (hSR.kept (fun j h1 _ => hk j (by omega))).wide (by omega) (Nat.le_refl _)⟩
      exact ((OR.cons (r := (go, gc)) (B := W.heap.size) hOR hz1 hz2 hrc HO2.out).kept (fun j h1 _ => hk j (by omega))).wide (by omega) (Nat.le_refl _)
    have HNE : Hid (N = lsq g ++ (catl L 3 ++ [x, y])) := (show _ = _ by rw [HE.out, HE2.out])
    clear hc0 hc1 HR HS2 HO2 HE HE2
    go_wp2
    go_quiet (fail)
    go_wp2
    refine bodyPost_ret (v := .tuple #[.agg #[.slice go g.length gc, .slice bo 3 3, .bool (bits .and .i64 x 1 != 0), .bool (bits .and .i64 x 2 != 0), .bool (bits .and .i64 x 4 != 0), .int .i64 y], .bool true]) (by simp [results, Tryz.results267, go_sem, r0, r1, r2, r3, r4, r5]) rfl ?_
    refine ⟨.inl ⟨g, L, x, y, go, bo, gc, HNE.out, rfl, ?_⟩, ?_⟩
    · refine HF.out _ (by simp [World.setCell, World.drewN]) ?_
      intro j hj
      simp only [World.setCell, Array.getElem?_modify]
      repeat rw [if_neg (by omega)]
      rfl
    · iterate 6 (refine Below.setCell ?_ (by show w.heap.size ≤ w.heap.size; omega) _)
      exact Below.drawn HB2.out _
end Go.Proofs.YtkndnndildnbpaaGreatDoor

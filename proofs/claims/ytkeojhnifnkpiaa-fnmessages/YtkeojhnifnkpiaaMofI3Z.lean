/- MsgOf of the program. -/
import Derived.Test.YtkeojhnifnkpiaaMofI2Z
import Derived.Test.YtkeojhnifnkpiaaMofLZ

namespace Go.Proofs.Ytkeojhnifnkpiaa
open Go.ChangeShapes Go.WideShapes Go.ChangeAt Go.RowKit
set_option linter.unusedVariables false
set_option linter.unusedSimpArgs false

theorem reads_one {n : Nat} {f : Nat → Int} {p k c v d k' c' v' d' : Int} {G G' : List Int} (h : Reads n f p k c v d G) (h' : Reads n f p k' c' v' d' G') : k = k' ∧ c = c' ∧ v = v' ∧ d = d' ∧ G = G' := by
  obtain ⟨e1, q, r, e2, e3, e4⟩ := h
  obtain ⟨g1, q', r', g2, g3, g4⟩ := h'
  rw [e1] at g1
  simp only [List.cons.injEq, and_true] at g1
  obtain ⟨f1, f2, f3, f4, f5⟩ := g1
  rw [e2] at g2
  cases g2
  refine ⟨f1, f2, f3, f4, ?_⟩
  rw [← e4, ← g4, show G.length = G'.length by omega]
theorem sts_add (n : Nat) (f : Nat → Int) (st : Option Int) (a b : Nat) : sts n f (sts n f st a) b = sts n f st (a + b) := by
  induction b with
  | zero => rfl
  | succ b ih => rw [sts, ih]; rfl
theorem begins_reads {n : Nat} {f : Nat → Int} {p k c v d : Int} {G : List Int} (h : Begins n f p k c v d G) : ∃ x q, rdI n f p = some (x, q) ∧ Reads n f q k c v d G ∧ G.length ≤ 12 := by
  have h12 := (mok_bd h.2.1).1
  obtain ⟨⟨q, hq, _⟩, hs, e1, e2, e3, e4, e5, e6⟩ := begins_read h
  obtain ⟨x, hx⟩ : ∃ x, rdI n f p = some (x, q) := by
    have hq' : nx n f (some p) = some q := hq
    simp only [nx] at hq'
    cases hr : rdI n f p with
    | none => rw [hr] at hq'; cases hq'
    | some xy => rw [hr] at hq'; simp at hq'; exact ⟨xy.1, by rw [← hq']⟩
  have hsh : ∀ j, sts n f (some q) j = sts n f (some p) (1 + j) := fun j => by rw [← hq, sts_add]
  refine ⟨x, q, hx, ⟨?_, ?_⟩, h12⟩
  · simp only [rdl, List.range_succ, List.range_zero, List.map_append, List.map_nil, List.map_cons, List.nil_append, List.cons_append, hsh]
    rw [e1, e2, e3, e4, e5]
  · have h5 := hs 6 (by omega)
    have hG := hs (6 + G.length) (by omega)
    obtain ⟨q5, hq5⟩ := Option.isSome_iff_exists.1 h5
    obtain ⟨r, hr⟩ := Option.isSome_iff_exists.1 hG
    have hq5' : sts n f (some q) 5 = some q5 := by rw [hsh]; exact hq5
    have hsh2 : ∀ j, sts n f (some q5) j = sts n f (some p) (6 + j) := fun j => by rw [← hq5, sts_add]
    refine ⟨q5, r, hq5', by rw [hsh2]; exact hr, ?_⟩
    refine List.ext_getElem? fun j => ?_
    by_cases hj : j < G.length
    · have := e6 j hj
      simp [rdl, hj, hsh2, this, List.getD]
    · rw [List.getElem?_eq_none (by rw [rdl_len]; omega), List.getElem?_eq_none (by omega)]

theorem mb_pos {k c v h : Int} {f : Nat → Int} {n : Nat} (hok : MOk k c v h f n) : 0 < (mb k c v h f n).length := by
  unfold mb
  rw [if_pos hok]
  have h4 : (s4 (asum (mbody k c v h f n))).length = 4 := rfl
  unfold framed
  rw [List.length_append]
  omega
theorem mbi_byte {k c v h : Int} {f : Nat → Int} {n : Nat} (hok : MOk k c v h f n) : ∀ z ∈ mb k c v h f n, 0 ≤ z ∧ z ≤ 255 := by
  obtain ⟨hn12, hfb, hkb, hcb, hvb, hhb⟩ := mok_bd hok
  have hbl := mbody_len (k := k) (c := c) (v := v) (h := h) (f := f) hn12
  unfold mb
  rw [if_pos hok]
  intro z hz
  simp only [framed, List.mem_append] at hz
  rcases hz with (hz | hz) | hz
  · exact pb_byte _ (by omega) (by omega) z hz
  · refine nums_byte ([k, c, v, h, (n : Int)] ++ (List.range n).map f) ?_ z hz
    intro x hx
    simp at hx
    rcases hx with rfl | rfl | rfl | rfl | rfl | ⟨j, hj, rfl⟩
    · exact hkb
    · exact hcb
    · exact hvb
    · exact hhb
    · omega
    · exact hfb j hj
  · simp only [s4, List.mem_cons, List.not_mem_nil, or_false] at hz
    rcases hz with rfl | rfl | rfl | rfl <;> omega

set_option maxHeartbeats 1000000 in
set_option maxRecDepth 100000 in
theorem msgof_impl (ao : Option Addr) (n cap : Nat) (p : Int) (f : Nat → Int) (w : World) (hn : n ≤ 1048576) (hcap : n ≤ cap) (hp0 : -9223372036854775808 ≤ p) (hp : p ≤ 9223372036854775807) (hs : SL .u8 w ao n f) (hf : ∀ i, i < n → 0 ≤ f i ∧ f i ≤ 255) :
    Calls Try.prog 28 #[.slice ao n cap, .int .i64 p] w fun e w' => MsgOut w w' n f p e := by
  have HS := hide hs
  have HF := hide hf
  clear hs hf
  have hcall : Hid (∀ o, Calls Try.prog 85 #[.slice ao n cap, .int .i64 p] (w.alloc o) fun e w' => e = .returned (gres (rdI n f p)) ∧ w' = w.alloc o) := fun o => geti_any ao n cap p f _ hn hp0 hp (HS.out.below ((Below.refl _ _).alloc (Nat.le_refl _) o)) HF.out
  cases hr : rdI n f p with
  | none =>
    have HN : Hid (¬ ∃ k c v d G, Begins n f p k c v d G) := fun ⟨k, c, v, d, G, h⟩ => by
      obtain ⟨x, q, e, _⟩ := begins_reads h
      rw [hr] at e; cases e
    rw [hr] at hcall
    unfold gres at hcall
    clear hr
    go_enter Try.func28, Try.ntmps28
    go_wp2_with fail
    refine (hcall.out _).mono ?_
    rintro e w1 ⟨rfl, hw⟩
    have M1 := MB.new w 40 0 0 0 0 none 0 0
    rw [← hw] at M1
    have B1 : Hid (Below w.heap.size w w1) := by rw [hw]; exact (Below.refl _ _).alloc (Nat.le_refl _) _
    have z0 : ∀ i, w1.frozen? ⟨w.heap.size, i, none⟩ = false := fun i => by simp [World.frozen?, show w1.heap[w.heap.size]? = _ from M1]
    obtain ⟨r0, r1, r2, r3, r4⟩ := M1.cells
    clear M1 hcall hw
    go_wp2_with fail
    refine bodyPost_ret (v := .tuple #[.agg #[.int .i64 0, .int .i64 0, .int .i64 0, .int .i64 0, .slice none 0 0], .int .i64 0, .bool false]) (by simp [results, Try.results28, go_sem, r0, r1, r2, r3, r4]) rfl ?_
    exact ⟨.inr ⟨HN.out, rfl⟩, below_put5 B1.out _ _ _ _ _⟩
  | some xy =>
    obtain ⟨x, q⟩ := xy
    have hxq := rdI_pos hr
    rw [hr] at hcall
    unfold gres at hcall
    have hrm : Hid (∀ W, SL .u8 W ao n f → Calls Try.prog 86 #[.slice ao n cap, .int .i64 q] W fun e w' => RmOut W w' n f q e) := fun W hW => readmsg_impl ao n cap q f W hn (by omega) (by omega) hW HF.out
    have HRd : Hid (∀ k c v d G, Begins n f p k c v d G → Reads n f q k c v d G ∧ G.length ≤ 12) := fun k c v d G h => by
      obtain ⟨x', q', e, h1, h2⟩ := begins_reads h
      rw [hr] at e; cases e
      exact ⟨h1, h2⟩
    clear hr
    go_enter Try.func28, Try.ntmps28
    go_wp2_with fail
    refine (hcall.out _).mono ?_
    rintro e w1 ⟨rfl, hw⟩
    have M1 := MB.new w 40 0 0 0 0 none 0 0
    rw [← hw] at M1
    have B1 : Hid (Below w.heap.size w w1) := by rw [hw]; exact (Below.refl _ _).alloc (Nat.le_refl _) _
    have HM1 := hide M1
    have hcl := hide (hrm.out w1 (HS.out.below B1.out))
    clear M1 hcall hw hrm
    go_wp2_with fail
    refine hcl.out.mono ?_
    rintro e w2 ⟨h2, b2⟩
    have M2 := hide (HM1.out.below b2 HM1.out.lt)
    have hs12 : w.heap.size < w1.heap.size ∧ w1.heap.size ≤ w2.heap.size := ⟨HM1.out.lt, b2.size⟩
    have B2 := hide (B1.out.trans (b2.mono B1.out.size))
    clear hcl HM1 b2
    rcases h2 with ⟨k, c, v, d, G, ro, rc, hRd, h12, rfl, hrc, hO⟩ | ⟨hNo, k, c, v, d, rfl⟩
    · have HR := hide hRd
      have HO := hide hO
      have hsl : Hid (∀ o, SL .i64 (w2.alloc o) ro G.length (fun i => G.getD i 0)) := fun o => (hO.below ((Below.refl _ _).alloc (Nat.le_refl _) o)).sl
      have hmbc : Hid (∀ o, Calls Try.prog 26 #[.agg #[.int .i64 k, .int .i64 c, .int .i64 v, .int .i64 d, .slice ro G.length rc]] (w2.alloc o) fun e w' => ∃ x, e = .returned x ∧ w'.ownsRow (w2.alloc o).heap.size 5 1 x (mb k c v d (fun i => G.getD i 0) G.length).length ((mb k c v d (fun i => G.getD i 0) G.length).map (.int .u8)) ∧ Below (w2.alloc o).heap.size (w2.alloc o) w') := fun o => msgbytes_impl ro G.length rc (fun i => G.getD i 0) k c v d _ (by omega) hrc (hsl.out o)
      clear hRd hO hsl
      by_cases hok : MOk k c v d (fun i => G.getD i 0) G.length
      · have hLp : Hid (∀ z ∈ mb k c v d (fun i => G.getD i 0) G.length, 0 ≤ z ∧ z ≤ 255) := mbi_byte hok
        have hL0 : 0 < (mb k c v d (fun i => G.getD i 0) G.length).length := mb_pos hok
        have hLm := mb_len k c v d (fun i => G.getD i 0) G.length
        have HBg : Hid (∀ a : Nat, p = (a : Int) → Has n f a (mb k c v d (fun i => G.getD i 0) G.length) → Begins n f p k c v d G) := fun a e h => ⟨by omega, hok, by rw [e]; exact h⟩
        have HBn : Hid (∀ k' c' v' d' G', Begins n f p k' c' v' d' G' → ∃ a : Nat, p = (a : Int) ∧ Has n f a (mb k c v d (fun i => G.getD i 0) G.length)) := fun k' c' v' d' G' h => by
          obtain ⟨rfl, rfl, rfl, rfl, rfl⟩ := reads_one HR.out (HRd.out _ _ _ _ _ h).1
          exact ⟨p.toNat, by have := h.1; omega, h.2.2⟩
        have HE : Hid (mb k c v d (fun i => G.getD i 0) G.length = mb k c v d (fun i => G.getD i 0) G.length) := rfl
        generalize hLL : mb k c v d (fun i => G.getD i 0) G.length = L at *
        have HLL := hide hLL
        obtain ⟨a, rfl⟩ := Int.eq_ofNat_of_zero_le hxq.1
        have han : a < n := by omega
        obtain ⟨b, off, rfl, hb, hc0⟩ := HS.out a han
        have hd3 : ¬ L = [] := fun e => by rw [e] at hL0; simp at hL0
        have hd1 : decide ((L.length : Int) = 0) = false := by simp [hd3]
        have hd2 : ((L.length : Int) == 0) = false := by simp [hd3]
        have hd4 : (L.length == 0) = false := by simp [hd3]
        obtain ⟨r, hr⟩ := tellsB (L.length ≤ n - a ∧ ∀ i, i < L.length → f (a + i) = L.getD i 0)
        have HT : Hid (TellsB r (Has n f a L)) := ⟨fun e => ⟨by have := (hr.1 e).1; omega, (hr.1 e).2⟩, fun e => hr.2 ⟨by have := e.1; omega, e.2⟩⟩
        have HR' := hide hr
        have h1 : (0 : Int) ≤ (a : Int) := by omega
        have h2 : (a : Int) ≤ (n : Int) := by omega
        have h3 : a ≤ n := by omega
        have h4 : (a : Int) ≤ (cap : Int) := by omega
        have h5 : a ≤ cap := by omega
        have h6 : ¬ cap = a := by omega
        have h7 : IntKind.i64.wrap ((a : Int) + (L.length : Int)) = (a : Int) + (L.length : Int) := by rw [IntKind.wrap_i64]; omega
        clear hLL hr hc0 hok
        go_wp2_with fail
        refine (hmbc.out _).mono ?_
        rintro e w3 ⟨x3, rfl, o3, b3⟩
        obtain ⟨a3, c3, rfl⟩ := (Src.of_owns o3).form
        have X2 := MB.new w2 40 k c v d ro G.length rc
        have bX : Below w2.heap.size w2 (w2.alloc (.cells #[.int .i64 k, .int .i64 c, .int .i64 v, .int .i64 d, .slice ro G.length rc] 40)) := (Below.refl _ _).alloc (Nat.le_refl _) _
        have b23 := bX.trans (b3.mono bX.size)
        have HX3 := hide (X2.below b3 X2.lt)
        have M3 := hide (M2.out.below b23 M2.out.lt)
        have B3 := hide (B2.out.trans (b23.mono B2.out.size))
        have HO3 := hide (HO.out.below b23)
        have hSL3 := (Src.of_owns o3).slu
        have hpre := hide (hasprefix_any b (off + a) (n - a) (cap - a) a3 c3 (fun i => f (a + i)) L w3 (by omega) (by omega) (fun i hi => by
          obtain ⟨b', off', e, hlt, hc⟩ := (HS.out.below B3.out) (a + i) (by omega)
          simp only [Option.some.injEq, Addr.mk.injEq, and_true] at e
          obtain ⟨rfl, rfl⟩ := e
          exact ⟨b, off + a, rfl, hlt, by rw [Nat.add_assoc]; exact hc⟩) (fun i hi => HF.out (a + i) (by omega)) hSL3 hLp.out r HR'.out)
        have hlt12 : Hid (w.heap.size < w1.heap.size ∧ w1.heap.size ≤ w2.heap.size ∧ w2.heap.size < w3.heap.size) := ⟨hs12.1, hs12.2, HX3.out.lt⟩
        clear hmbc o3 b3 X2 bX b23 HO M2 B2 hSL3 HR'
        cases r with
        | true =>
          go_wp2_with fail
          refine hpre.out.mono ?_
          rintro e w4 ⟨rfl, hw⟩
          rw [hw]
          clear hw hpre
          have z0 : ∀ i, w3.frozen? ⟨w.heap.size, i, none⟩ = false := fun i => by simp [World.frozen?, show w3.heap[w.heap.size]? = _ from M3.out]
          obtain ⟨r0, r1, r2, r3, r4⟩ := M3.out.cells
          obtain ⟨y0, y1, y2, y3, y4⟩ := HX3.out.cells
          go_wp2_with fail
          refine bodyPost_ret (v := .tuple #[.agg #[.int .i64 k, .int .i64 c, .int .i64 v, .int .i64 d, .slice ro G.length rc], .int .i64 ((a : Int) + (L.length : Int)), .bool true]) (by simp [results, Try.results28, go_sem, r0, r1, r2, r3, r4]) rfl ?_
          refine ⟨.inl ⟨k, c, v, d, G, ro, rc, HBg.out a rfl (HT.out.1 rfl), by rw [HLL.out], hrc, ?_⟩, below_put5 B3.out _ _ _ _ _⟩
          exact own_put5 HO3.out hlt12.out.1 (Nat.le_of_lt hlt12.out.1) _ _ _ _ _
        | false =>
          go_wp2_with fail
          refine hpre.out.mono ?_
          rintro e w4 ⟨rfl, hw⟩
          rw [hw]
          clear hw hpre
          have z0 : ∀ i, w3.frozen? ⟨w.heap.size, i, none⟩ = false := fun i => by simp [World.frozen?, show w3.heap[w.heap.size]? = _ from M3.out]
          obtain ⟨r0, r1, r2, r3, r4⟩ := M3.out.cells
          go_wp2_with fail
          refine bodyPost_ret (v := .tuple #[.agg #[.int .i64 0, .int .i64 0, .int .i64 0, .int .i64 0, .slice none 0 0], .int .i64 0, .bool false]) (by simp [results, Try.results28, go_sem, r0, r1, r2, r3, r4]) rfl ?_
          refine ⟨.inr ⟨?_, rfl⟩, below_put5 B3.out _ _ _ _ _⟩
          rintro ⟨k', c', v', d', G', hB⟩
          obtain ⟨a', e, hh⟩ := HBn.out _ _ _ _ _ hB
          obtain rfl : a = a' := by omega
          exact absurd (HT.out.2 hh) (by simp)
      · have hmb0 : mb k c v d (fun i => G.getD i 0) G.length = [] := by unfold mb; rw [if_neg hok]
        have HN : Hid (¬ ∃ k c v d G, Begins n f p k c v d G) := fun ⟨k', c', v', d', G', h⟩ => by
          obtain ⟨rfl, rfl, rfl, rfl, rfl⟩ := reads_one HR.out (HRd.out _ _ _ _ _ h).1
          exact hok h.2.1
        rw [hmb0] at hmbc
        clear hmb0 hok
        go_wp2_with fail
        refine (hmbc.out _).mono ?_
        rintro e w3 ⟨x3, rfl, o3, b3⟩
        obtain ⟨a3, c3, rfl⟩ := (Src.of_owns o3).form
        have bX : Below w2.heap.size w2 (w2.alloc (.cells #[.int .i64 k, .int .i64 c, .int .i64 v, .int .i64 d, .slice ro G.length rc] 40)) := (Below.refl _ _).alloc (Nat.le_refl _) _
        have b23 := bX.trans (b3.mono bX.size)
        have M3 := M2.out.below b23 M2.out.lt
        have B3 := hide (B2.out.trans (b23.mono B2.out.size))
        have z0 : ∀ i, w3.frozen? ⟨w.heap.size, i, none⟩ = false := fun i => by simp [World.frozen?, show w3.heap[w.heap.size]? = _ from M3]
        obtain ⟨r0, r1, r2, r3, r4⟩ := M3.cells
        simp only [List.length_nil]
        clear hmbc o3 b3 bX b23 HO M2 B2 M3
        go_wp2_with fail
        refine bodyPost_ret (v := .tuple #[.agg #[.int .i64 0, .int .i64 0, .int .i64 0, .int .i64 0, .slice none 0 0], .int .i64 0, .bool false]) (by simp [results, Try.results28, go_sem, r0, r1, r2, r3, r4]) rfl ?_
        exact ⟨.inr ⟨HN.out, rfl⟩, below_put5 B3.out _ _ _ _ _⟩
    · have HN : Hid (¬ ∃ k c v d G, Begins n f p k c v d G) := fun ⟨k', c', v', d', G', h⟩ => hNo ⟨k', c', v', d', G', HRd.out _ _ _ _ _ h⟩
      have hmbc : Hid (∀ o, Calls Try.prog 26 #[.agg #[.int .i64 k, .int .i64 c, .int .i64 v, .int .i64 d, .slice none 0 0]] (w2.alloc o) fun e w' => ∃ x, e = .returned x ∧ w'.ownsRow (w2.alloc o).heap.size 5 1 x (mb k c v d (fun _ => 0) 0).length ((mb k c v d (fun _ => 0) 0).map (.int .u8)) ∧ Below (w2.alloc o).heap.size (w2.alloc o) w') := fun o => msgbytes_impl none 0 0 (fun _ => 0) k c v d _ (by omega) (by omega) (fun i hi => absurd hi (Nat.not_lt_zero _))
      clear hNo
      go_wp2_with fail
      refine (hmbc.out _).mono ?_
      rintro e w3 ⟨x3, rfl, o3, b3⟩
      have bX : Below w2.heap.size w2 (w2.alloc (.cells #[.int .i64 k, .int .i64 c, .int .i64 v, .int .i64 d, .slice none 0 0] 40)) := (Below.refl _ _).alloc (Nat.le_refl _) _
      have b23 := bX.trans (b3.mono bX.size)
      have M3 := M2.out.below b23 M2.out.lt
      have B3 := hide (B2.out.trans (b23.mono B2.out.size))
      have z0 : ∀ i, w3.frozen? ⟨w.heap.size, i, none⟩ = false := fun i => by simp [World.frozen?, show w3.heap[w.heap.size]? = _ from M3]
      obtain ⟨r0, r1, r2, r3, r4⟩ := M3.cells
      clear hmbc o3 b3 bX b23 M2 B2 M3
      go_wp2_with fail
      refine bodyPost_ret (v := .tuple #[.agg #[.int .i64 0, .int .i64 0, .int .i64 0, .int .i64 0, .slice none 0 0], .int .i64 0, .bool false]) (by simp [results, Try.results28, go_sem, r0, r1, r2, r3, r4]) rfl ?_
      exact ⟨.inr ⟨HN.out, rfl⟩, below_put5 B3.out _ _ _ _ _⟩
end Go.Proofs.Ytkeojhnifnkpiaa

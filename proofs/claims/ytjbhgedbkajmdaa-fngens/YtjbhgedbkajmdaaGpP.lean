/- GenPush of the program. -/
import Derived.Test.YtjbhgedbkajmdaaGpI
import Derived.Test.YtjbhgedbkajmdaaCatI
import Derived.Lib.MinMax
import Derived.Lib.SliceRun
namespace Go.Proofs.Ytjbhgedbkajmdaa
open Go.ChangeShapes Go.WideShapes Go.ChangeAt Go.RowKit Go.Maps
set_option maxRecDepth 100000

theorem iclone_any (v : Value) (L : List Int) (w : World) (hL : L.length ≤ 2097152) (hs : Src .i64 w v L) :
    Calls Try.prog 70 #[v] w fun e w' => ∃ v', e = .returned v' ∧ w'.ownsRow w.heap.size 3 1 v' L.length (L.map (.int .i64)) ∧ Below w.heap.size w w' := by
  obtain ⟨i0, hi, hz0, hz1, hz2⟩ := info_parts Try.info3
  rcases hs with ⟨rfl, rfl⟩ | ⟨ad, c, rfl, hc⟩
  · have hnil : ∀ w, (binOp .eql 24 (.slice none 0 0) (.slice none 0 0)).run Try.prog w = .ok (.bool true) w := fun w => Lib.run_eql_slice_nil w 24 3 none 0 0 0 0 Try.underlying24
    go_enter Try.func70, Try.ntmps70
    go_wp2
    go_ret
    exact ⟨_, rfl, gnil, Below.refl _ _⟩
  · have hnil : ∀ w, (binOp .eql 24 (.slice (some ad) L.length c) (.slice none 0 0)).run Try.prog w = .ok (.bool false) w := fun w => Lib.run_eql_slice_nil w 24 3 (some ad) L.length c 0 0 Try.underlying24
    have HB := hide ((Below.refl w.heap.size w).alloc (Nat.le_refl _) (.cells #[] 3))
    have HS : Hid (Src .i64 (w.alloc (.cells #[] 3)) (.slice (some ad) L.length c) L) := Src.below (.inr ⟨ad, c, rfl, hc⟩) HB.out
    clear hc
    go_enter Try.func70, Try.ntmps70
    go_wp2_with (first
      | (at_builtin; refine wpList_append_src rfl _ _ 24 rfl w.heap.size 3 i0 (.int .i64 0) 8 Try.underlying24 hi hz0 hz1 hz2 rfl .i64 _ [] rfl (gempty (Nat.le_refl _)) _ L rfl HS.out (by unfold maxLen; simp; omega) (by simp; omega) HB.out.size ?_; intro v3 w3 ho3 hg3))
    go_ret
    exact ⟨_, rfl, by simpa using ho3, ggrown HB.out HB.out.size (gempty (ik := .i64) (t := 3) (Nat.le_refl _)) hg3⟩

theorem irow_owns {w : World} {B G n : Nat} {L : List Int} {F : Nat → Int} (h : w.rowIs G 3 n (fun j => .int .i64 (F j))) (hB : B ≤ G) (hn : n ≤ 1048576) (hL : L.length = n) (hF : ∀ i, i < n → F i = L.getD i 0) : w.ownsRow B 3 1 (.slice (some ⟨G, 0, none⟩) n n) L.length (L.map (.int .i64)) := by
  obtain ⟨c, hc, hs, hc2⟩ := h
  refine ⟨by simp, .inr ⟨G, n, c, by rw [hL], hB, hc, by omega, by unfold maxLen; omega, by omega, ?_⟩⟩
  refine List.ext_getElem? fun i => ?_
  by_cases hi : i < n
  · rw [List.getElem?_take, if_pos (by omega)]
    have := hc2 i hi
    simp only [hF i hi] at this
    simpa [List.getD, show i < L.length by omega] using this
  · rw [List.getElem?_eq_none (by simp; omega), List.getElem?_eq_none (by simp; omega)]

theorem wf_list {x : Int} {L : List Int} (hx : (Lit.int .i64 x).wf = true) (hw : ∀ y ∈ L, (Lit.int .i64 y).wf = true) : ∀ i, i < (x :: L).length → (Lit.int .i64 ((x :: L).getD i 0)).wf = true := by
  intro i hi
  have : (x :: L).getD i 0 ∈ x :: L := by
    rw [List.getD_eq_getElem?_getD, List.getElem?_eq_getElem hi]; simp
  rcases List.mem_cons.1 this with e | e
  · rw [e]; exact hx
  · exact hw _ e

theorem psh_get (x : Int) (L : List Int) (i : Nat) (h : i < 12) : (psh x L).getD i 0 = (x :: L).getD i 0 := by
  unfold psh
  rw [List.getD_eq_getElem?_getD, List.getD_eq_getElem?_getD, List.getElem?_take, if_pos h]

set_option maxHeartbeats 1000000 in
theorem genpush_impl (D : (p : Prop) → Decidable p) (v : Value) (L : List Int) (x : Int) (w : World) (hL : L.length ≤ 1048576) (hs : Src .i64 w v L) (hx : (Lit.int .i64 x).wf = true) (hw : ∀ y ∈ L, (Lit.int .i64 y).wf = true) :
    Calls Try.prog 24 #[v, .int .i64 x] w fun e w' => ∃ v', e = .returned v' ∧ w'.ownsRow w.heap.size 3 1 v' (gpl D x L).length ((gpl D x L).map (.int .i64)) ∧ Below w.heap.size w w' := by
  generalize hG : gpl D x L = G
  have HG : Hid ((GOk (fun i => (psh x L).getD i 0) (psh x L).length → G = psh x L) ∧ (¬ GOk (fun i => (psh x L).getD i 0) (psh x L).length → G = L)) := ⟨fun h => by rw [← hG, gpl_yes h], fun h => by rw [← hG, gpl_no h]⟩
  clear hG D
  obtain ⟨ao, c, rfl⟩ := hs.form
  obtain ⟨W1, hW1⟩ : ∃ W1, W1 = w.alloc (.cells #[.int .i64 x] 3) := ⟨_, rfl⟩
  obtain ⟨W2, hW2⟩ : ∃ W2, W2 = W1.alloc (.cells #[.slice (some ⟨w.heap.size, 0, none⟩) 1 1, .slice ao L.length c] 24) := ⟨_, rfl⟩
  have b1 : Below w.heap.size w W1 := by rw [hW1]; exact (Below.refl _ _).alloc (Nat.le_refl _) _
  have s1 : W1.heap.size = w.heap.size + 1 := by rw [hW1]; simp
  have b2 : Below W1.heap.size W1 W2 := by rw [hW2]; exact (Below.refl _ _).alloc (Nat.le_refl _) _
  have s2 : W2.heap.size = w.heap.size + 2 := by rw [hW2]; simp [s1]
  have o1 : W1.ownsRow w.heap.size 3 1 (.slice (some ⟨w.heap.size, 0, none⟩) 1 1) [x].length ([x].map (.int .i64)) := by rw [hW1]; exact ⟨rfl, .inr ⟨_, _, #[.int .i64 x], rfl, Nat.le_refl _, Deep.blk_alloc_new _ _, by simp, by simp [maxLen], by simp, by simp⟩⟩
  have SA := (Src.of_owns o1).below b2
  have SB := (hs.below b1).below b2
  have hvb : W2.heap[w.heap.size + 1]? = some (.cells #[.slice (some ⟨w.heap.size, 0, none⟩) 1 1, .slice ao L.length c] 24 (0, 0)) := by rw [hW2, ← s1]; exact Deep.blk_alloc_new W1 _
  have B2 : Below w.heap.size w W2 := b1.trans (b2.mono b1.size)
  have HC := hide (iconcat_any (w.heap.size + 1) 2 (fun k => if k = 0 then some ⟨w.heap.size, 0, none⟩ else ao) (fun k => if k = 0 then 1 else c) (fun k => if k = 0 then [x] else L) W2 (by omega) (by simp [catk]; omega) (by omega)
    (fun k hk => by
      obtain rfl | rfl : k = 0 ∨ k = 1 := by omega
      · simp [World.cell?, hvb]
      · simp [World.cell?, hvb])
    (fun k hk => by
      obtain rfl | rfl : k = 0 ∨ k = 1 := by omega
      · simpa using SA
      · simpa using SB))
  have HB2 := hide B2
  have HS := hide hs
  have HX := hide hx
  have HW := hide hw
  clear hs hx hw b1 b2 o1 SA SB hvb B2
  go_enter Try.func24, Try.ntmps24
  go_wp2_with fail
  rw [← hW1, ← hW2]
  refine HC.out.mono ?_
  rintro e w1 ⟨v1, rfl, ho1, hb1⟩
  have HB3 := hide (HB2.out.trans (hb1.mono HB2.out.size))
  have hlt1 : w.heap.size ≤ w1.heap.size := HB3.out.size
  have eN : catk (fun k => if k = 0 then [x] else L) 2 = x :: L := by simp [catk]
  rw [eN] at ho1
  have hfw := wf_list HX.out HW.out
  have hpg : Hid (∀ i, i < 12 → (psh x L).getD i 0 = (x :: L).getD i 0) := fun i hi => psh_get x L i hi
  have hpl : Hid ((psh x L).length = min (x :: L).length 12) := psh_len x L
  have hN : (x :: L).length ≤ 1048577 := by simp; omega
  obtain ⟨a1, c1, rfl⟩ := (Src.of_owns ho1).form
  have hsl := (Src.of_owns ho1).slu
  have hP := hide (places_impl a1 (x :: L).length c1 (fun i => (x :: L).getD i 0) w1 (by omega) hsl hfw)
  clear HC HB2 ho1 hb1 eN hfw hsl hW1 hW2 s1 s2 HX HW
  generalize x :: L = N at *
  generalize psh x L = M at *
  clear W1 W2
  generalize hf : (fun i => N.getD i 0) = f at *
  have Hf := hide hf
  clear hf
  go_wp2_with fail
  refine hP.out.mono ?_
  rintro e w2 ⟨Dm, rfl, hm2, hp2, hb2⟩
  have hl2 := hm2.lt
  have hlv : Hid (Calls Try.prog 68 #[.map (some w1.heap.size), .int .i64 12] w2 fun e w' => e = .returned (.tuple #[]) ∧ (∃ D' : DataW Unit, w'.ownsMap Try.prog 3 (plainElem Try.prog 3) w1.heap.size N.length D' ∧ PlIs D' (Plk f (min N.length 12))) ∧ w2.grownBy w' (some w1.heap.size)) := leave_impl w1.heap.size N.length N.length 12 f Dm w2 hm2 hp2
  have HB4 := hide (HB3.out.trans (hb2.mono hlt1))
  clear hP hm2 hp2 hb2 HB3
  go_wp2_with fail
  refine hlv.out.mono ?_
  rintro e w3 ⟨rfl, ⟨D3, hm3, hp3⟩, hg3⟩
  have HB5 := hide (HB4.out.grown hg3 HB4.out.size (fun j hj => by cases hj; exact hlt1))
  have hor := hide (order_impl w1.heap.size N.length (min N.length 12) f D3 w3 hm3 hp3 (by omega))
  have hmin : min (N.length : Int) 12 = ((min N.length 12 : Nat) : Int) := by omega
  have hm12 : min N.length 12 ≤ 12 := by omega
  clear hlv hm3 hp3 hg3 HB4 Dm hl2
  generalize min N.length 12 = m at *
  go_wp2_with fail
  refine hor.out.mono ?_
  rintro e w4 ⟨F, rfl, hr4, hF, hb4⟩
  have HB6 := hide (HB5.out.trans (hb4.mono HB5.out.size))
  have HR := hide hr4
  have HF := hide (gok_laid hF)
  have hgk := hide (gensok_impl (some ⟨w3.heap.size, 0, none⟩) m m F w4 (by omega) (Nat.le_refl _) (SL.row hr4))
  have h35 := HB5.out.size
  clear hor hr4 hF hb4 HB5
  go_wp2_with fail
  refine hgk.out.mono ?_
  rintro e w5 ⟨h5, q, hw5⟩
  have HB7 : Hid (Below w.heap.size w w5) := by rw [hw5]; exact Below.drawn HB6.out q
  have HR5 : Hid (w5.rowIs w3.heap.size 3 m (fun i => .int .i64 (F i))) := by rw [hw5]; exact HR.out
  have hMf : GOk (fun i => M.getD i 0) M.length ↔ GOk f m := by
    rw [hpl.out, ← Hf.out]
    exact gok_congr fun i hi => hpg.out i (by omega)
  clear hw5 hgk HR HB6
  rcases h5 with ⟨hok, rfl⟩ | ⟨hno, rfl⟩
  · have R : Hid (w5.ownsRow w.heap.size 3 1 (.slice (some ⟨w3.heap.size, 0, none⟩) m m) G.length (G.map (.int .i64))) := by
      have hk := HF.out.1.1 hok
      rw [HG.out.1 (hMf.2 hk)]
      exact irow_owns HR5.out h35 (by omega) hpl.out fun i hi => by rw [HF.out.2 hk i hi, ← Hf.out, hpg.out i (by omega)]
    go_wp2
    go_ret
    exact ⟨_, rfl, R.out, HB7.out⟩
  · have hGL : G = L := HG.out.2 fun h => hno (HF.out.1.2 (hMf.1 h))
    have hcl := hide (iclone_any _ L w5 (by omega) (HS.out.below HB7.out))
    go_wp2_with fail
    refine hcl.out.mono ?_
    rintro e w6 ⟨v6, rfl, ho6, hb6⟩
    have R : Hid (w6.ownsRow w.heap.size 3 1 v6 G.length (G.map (.int .i64)) ∧ Below w.heap.size w w6) := ⟨by rw [hGL]; exact gmono ho6 HB7.out.size, HB7.out.trans (hb6.mono HB7.out.size)⟩
    clear ho6 hb6 hcl
    go_wp2
    go_ret
    exact ⟨_, rfl, R.out⟩
end Go.Proofs.Ytjbhgedbkajmdaa

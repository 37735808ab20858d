/- GenPush of the model. -/
import Derived.Test.YtjbhgedbkajmdaaGpL
import Derived.Test.YtjbhgedbkajmdaaCatB
import Derived.Test.YtjbhgedbkajmdaaIntM
namespace Go.Proofs.Ytjbhgedbkajmdaa
open Go.ChangeShapes Go.WideShapes Go.ChangeAt Go.RowKit
set_option linter.unusedVariables false
set_option linter.unusedSimpArgs false
set_option maxRecDepth 100000

theorem src_take {w : World} {ao : Option Addr} {c k c' : Nat} {L : List Int} (h : Src .i64 w (.slice ao L.length c) L) (hk : k ≤ L.length) (hp : 0 < L.length) : Src .i64 w (.slice ao k c') (L.take k) := by
  rcases h with ⟨_, rfl⟩ | ⟨ad, c1, e, hc⟩
  · simp at hp
  · cases e
    refine .inr ⟨ad, c', by simp [Nat.min_eq_left hk], fun j u hu => hc j u ?_⟩
    rw [List.map_take, List.getElem?_take] at hu
    split at hu
    · exact hu
    · cases hu

set_option maxHeartbeats 1000000 in
theorem genpush_x (D : (p : Prop) → Decidable p) (v : Value) (L : List Int) (x : Int) (w : World) (hL : L.length ≤ 1048576) (hs : Src .i64 w v L) :
    Calls Try.prog 29 #[v, .int .i64 x] w fun e w' => ∃ v', e = .returned v' ∧ w'.ownsRow w.heap.size 3 1 v' (gpl D x L).length ((gpl D x L).map (.int .i64)) ∧ Below w.heap.size w w' := by
  generalize hG : gpl D x L = G
  have HG : Hid ((GOk (fun i => (psh x L).getD i 0) (psh x L).length → G = psh x L) ∧ (¬ GOk (fun i => (psh x L).getD i 0) (psh x L).length → G = L)) := ⟨fun h => by rw [← hG, gpl_yes h], fun h => by rw [← hG, gpl_no h]⟩
  clear hG D
  obtain ⟨i0, hi, hz0, hz1, hz2⟩ := info_parts Try.info3
  obtain ⟨ao, c, rfl⟩ := hs.form
  have ba : ∀ o, Below w.heap.size w (w.alloc o) := fun o => (Below.refl _ _).alloc (Nat.le_refl _) o
  have H0 : Hid ((w.alloc (.cells #[.int .i64 x] 3)).ownsRow w.heap.size 3 1 (.slice (some ⟨w.heap.size, 0, none⟩) 1 1) [x].length ([x].map (.int .i64))) := ⟨rfl, .inr ⟨_, _, #[.int .i64 x], rfl, Nat.le_refl _, Deep.blk_alloc_new _ _, by simp, by simp [maxLen], by simp, by simp⟩⟩
  have HS := hide hs
  have HA := hide (hs.below (ba (.cells #[.int .i64 x] 3)))
  have HB : Hid (Below w.heap.size w (w.alloc (.cells #[.int .i64 x] 3))) := ba _
  clear hs ba
  go_enter Try.func29, Try.ntmps29
  go_wp2_with (first
    | (at_builtin; refine wpList_append_src rfl _ _ 24 rfl w.heap.size 3 i0 (.int .i64 0) 8 Try.underlying24 hi hz0 hz1 hz2 rfl .i64 _ [x] rfl H0.out _ L rfl HA.out (by unfold maxLen; simp; omega) (by simp; omega) HB.out.size ?_; intro v1 w1 ho1 hg1; generalize hNN : [x] ++ L = N at ho1; have HNN := hide hNN; clear hNN))
  have B1 := hide (ggrown HB.out HB.out.size H0.out hg1)
  obtain ⟨a1, c1, rfl⟩ := (Src.of_owns ho1).form
  have O1 := hide ho1
  have hsl := hide (Src.of_owns ho1).slu
  have hsc := hide (Src.of_owns ho1)
  have hcc : N.length ≤ c1 := by
    rcases ho1.2 with ⟨e, _⟩ | ⟨g, cp, cur, e, _, _, hn, _⟩
    · injection e with _ h _; omega
    · cases e; exact hn
  have eN : Hid (N = x :: L) := by rw [← HNN.out]; rfl
  have HNl : Hid (N.length = L.length + 1) := by rw [eN.out]; rfl
  have hNl : N.length ≤ 1048577 := by rw [HNl.out]; omega
  have hNp : Hid (0 < N.length) := by rw [HNl.out]; exact Nat.succ_pos _
  have hpsh : Hid (psh x L = N.take 12) := by rw [eN.out]; rfl
  clear ho1 hg1 HNN
  -- what GensOk says of what is left
  have fin : Hid (∀ (M : List Int) (a2 : Option Addr) (c2 : Nat) (w2 : World), M = psh x L → Below w.heap.size w w2 → w2.ownsRow w.heap.size 3 1 (.slice a2 M.length c2) M.length (M.map (.int .i64)) →
      Calls Try.prog 32 #[.slice a2 M.length c2] w2 fun e w3 => ((GOk (fun i => M.getD i 0) M.length ∧ e = .returned (.bool true)) ∨ (¬ GOk (fun i => M.getD i 0) M.length ∧ e = .returned (.bool false))) ∧ Below w.heap.size w w3 ∧ w3.ownsRow w.heap.size 3 1 (.slice a2 M.length c2) M.length (M.map (.int .i64))) := by
    intro M a2 c2 w2 hM hb ho
    have hml : M.length ≤ 12 := by rw [hM, psh_len]; omega
    have hc2 : M.length ≤ c2 := by
      rcases ho.2 with ⟨e, _⟩ | ⟨g, cp, cur, e, _, _, hn, _⟩
      · injection e with _ h _; omega
      · cases e; exact hn
    refine (gens_any a2 M.length c2 (fun i => M.getD i 0) w2 (by omega) hc2 (Src.of_owns ho).slu).mono ?_
    rintro e w3 ⟨h3, q, rfl⟩
    exact ⟨h3, Below.drawn hb q, gdrawn ho q⟩
  by_cases h12 : N.length ≤ 12
  · have hd : ¬ (12 : Int) < (N.length : Int) := by omega
    have hpN : N = psh x L := by rw [hpsh.out, List.take_of_length_le h12]
    have hg := hide (fin.out N a1 c1 w1 hpN B1.out O1.out)
    have HpN := hide hpN
    clear hpN fin hsl hsc
    go_wp2_with fail
    refine hg.out.mono ?_
    rintro e w3 ⟨h3, b3, o3⟩
    have B3 := hide b3
    have O3 := hide o3
    clear b3 o3 hg B1 O1
    rcases h3 with ⟨hok, rfl⟩ | ⟨hno, rfl⟩
    · have R : Hid (w3.ownsRow w.heap.size 3 1 (.slice a1 N.length c1) G.length (G.map (.int .i64))) := by
        rw [HG.out.1 (by rw [← HpN.out]; exact hok), ← HpN.out]; exact O3.out
      go_wp2
      go_ret
      exact ⟨_, rfl, R.out, B3.out⟩
    · have hGL : Hid (G = L) := HG.out.2 (by rw [← HpN.out]; exact hno)
      have HB4 := hide (B3.out.alloc B3.out.size (.cells #[] 3))
      have HA4 := hide (HS.out.below HB4.out)
      go_wp2_with (first
        | (at_builtin; refine wpList_append_src rfl _ _ 24 rfl w.heap.size 3 i0 (.int .i64 0) 8 Try.underlying24 hi hz0 hz1 hz2 rfl .i64 _ [] rfl (gempty B3.out.size) _ L rfl HA4.out (by unfold maxLen; simp; omega) (by simp; omega) HB4.out.size ?_; intro v5 w5 ho5 hg5; have R := hide (And.intro ho5 (ggrown HB4.out HB4.out.size (gempty (ik := .i64) (t := 3) B3.out.size) hg5)); clear ho5 hg5))
      go_ret
      exact ⟨_, rfl, by rw [hGL.out]; simpa using R.out.1, R.out.2⟩
  · have hd : (12 : Int) < (N.length : Int) := by omega
    have hd2 : (12 : Int) ≤ (c1 : Int) := by omega
    have HB2 := hide (B1.out.alloc B1.out.size (.cells #[] 3))
    have S2 : Hid (Src .i64 (w1.alloc (.cells #[] 3)) (.slice a1 12 c1) (N.take 12)) := (src_take hsc.out (by omega) hNp.out).below ((Below.refl _ _).alloc (Nat.le_refl _) _)
    obtain ⟨b, off, rfl, _, _⟩ := hsl.out 0 hNp.out
    clear hsl
    have hkn : (12 : Int) ≤ (N.length : Int) := by omega
    go_wp2_with (first
      | (at_builtin; refine wpList_append_src rfl _ _ 24 rfl w.heap.size 3 i0 (.int .i64 0) 8 Try.underlying24 hi hz0 hz1 hz2 rfl .i64 _ [] rfl (gempty B1.out.size) _ (N.take 12) rfl S2.out (by unfold maxLen; simp; omega) (by simp; omega) HB2.out.size ?_; intro v5 w5 ho5 hg5; generalize hM : [] ++ N.take 12 = M at ho5; have HM : Hid (M = psh x L) := hM.symm.trans hpsh.out.symm; clear hM; have B5 := hide (ggrown HB2.out HB2.out.size (gempty (ik := .i64) (t := 3) B1.out.size) hg5); clear hg5))
    obtain ⟨a2, c2, rfl⟩ := (Src.of_owns ho5).form
    have hg := hide (fin.out M a2 c2 w5 HM.out B5.out ho5)
    clear ho5 B5 O1 B1 fin
    go_wp2_with fail
    refine hg.out.mono ?_
    rintro e w3 ⟨h3, b3, o3⟩
    have B3 := hide b3
    have O3 := hide o3
    clear b3 o3 hg
    rcases h3 with ⟨hok, rfl⟩ | ⟨hno, rfl⟩
    · have R : Hid (w3.ownsRow w.heap.size 3 1 (.slice a2 M.length c2) G.length (G.map (.int .i64))) := by
        rw [HG.out.1 (by rw [← HM.out]; exact hok), ← HM.out]; exact O3.out
      go_wp2
      go_ret
      exact ⟨_, rfl, R.out, B3.out⟩
    · have hGL : Hid (G = L) := HG.out.2 (by rw [← HM.out]; exact hno)
      have HB4 := hide (B3.out.alloc B3.out.size (.cells #[] 3))
      have HA4 := hide (HS.out.below HB4.out)
      go_wp2_with (first
        | (at_builtin; refine wpList_append_src rfl _ _ 24 rfl w.heap.size 3 i0 (.int .i64 0) 8 Try.underlying24 hi hz0 hz1 hz2 rfl .i64 _ [] rfl (gempty B3.out.size) _ L rfl HA4.out (by unfold maxLen; simp; omega) (by simp; omega) HB4.out.size ?_; intro v5 w5 ho5 hg5; have R := hide (And.intro ho5 (ggrown HB4.out HB4.out.size (gempty (ik := .i64) (t := 3) B3.out.size) hg5)); clear ho5 hg5))
      go_ret
      exact ⟨_, rfl, by rw [hGL.out]; simpa using R.out.1, R.out.2⟩
end Go.Proofs.Ytjbhgedbkajmdaa

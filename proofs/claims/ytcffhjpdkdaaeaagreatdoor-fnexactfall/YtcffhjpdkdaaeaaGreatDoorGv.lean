/- Fall: what a node that fell holds, how its rows are written anew. -/
import Derived.Test.YtcffhjpdkdaaeaaGreatDoorGu
import Derived.Test.YtcffhjpdkdaaeaaGreatDoorGy
import Derived.Lib.SliceRun

namespace Go.Proofs.YtcffhjpdkdaaeaaGreatDoor
open Go.ChangeShapes Go.WideShapes Go.ChangeAt Go.RowKit
set_option linter.unusedVariables false
set_option linter.unusedSimpArgs false
set_option maxRecDepth 100000

/-- A node that does not run. -/
def dwn (d : Nd) : Nd := { d with up := false, pr := false, co := [false, false, false], m := 3, S := fun _ => [], cp := [false, false, false], wt := [] }
/-- What Fall answers. -/
def fln (D : (p : Prop) → Decidable p) (d : Nd) : Nd := @ite Nd (NOk d) (D _) (dwn d) d
theorem fln_yes {d : Nd} (h : NOk d) : fln Classical.propDecidable d = dwn d := by unfold fln; exact if_pos h
theorem fln_no {d : Nd} (h : ¬ NOk d) : fln Classical.propDecidable d = d := by unfold fln; exact if_neg h
theorem ntot_fln (d : Nd) : ntot (fln Classical.propDecidable d) ≤ ntot d := by
  by_cases h : NOk d
  · rw [fln_yes h]
    obtain ⟨e1, e2, e3, _⟩ := h.2.2.2.1
    simp only [ntot, dwn, List.length_cons, List.length_nil]
    have hz : psum (fun _ => ([] : List Int)) 3 = 0 := rfl
    rw [hz, e1, e2, e3]
    omega
  · rw [fln_no h]; exact Int.le_refl _
theorem dwn_eq {d : Nd} (h : d.m = 3) : dwn d = { d with up := false, pr := false, co := [false, false, false], S := fun _ => [], cp := [false, false, false], wt := [] } := by
  obtain ⟨id, up, pr, im, g, n, L, fi, ol, he, la, A, C, co, m, S, cp, wt⟩ := d
  obtain rfl : m = 3 := h
  rfl

/-- A row whose cells are set to one value, all of them. -/
theorem wr_fill {w : World} {B T : Nat} {r : Rw} {z : Value} (h : RwOk w B T r) (hn : r.vs ≠ []) :
    ∃ γ, r.ao = some ⟨γ, 0, none⟩ ∧ (B ≤ γ ∧ γ < T) ∧ (∀ j, j < r.vs.length → (w.cell? ⟨γ, 0 + j, none⟩).isSome = true) ∧ (∀ j, j < r.vs.length → w.frozen? ⟨γ, 0 + j, none⟩ = false) ∧
      Only γ w (w.setCells γ 0 (List.replicate r.vs.length z)) ∧ Wr w (w.setCells γ 0 (List.replicate r.vs.length z)) B T r { r with vs := List.replicate r.vs.length z } := by
  rcases h.2 with h0 | ⟨g, e, hg, c, hc, hs, hf⟩
  · exact absurd h0 hn
  · have ho : Only g w (w.setCells g 0 (List.replicate r.vs.length z)) := ⟨below_sets (Below.refl _ _) (Nat.le_refl _) _, (size_sets _).1, fun j hj => oth_sets hj _⟩
    refine ⟨g, e, hg, fun j hj => ?_, fun j _ => fblk hc _, ho, .inr ⟨g, e, hn, ho, hg, rfl, ?_⟩⟩
    · rw [Nat.zero_add, mblk hc (Array.getElem?_eq_getElem (by omega))]; rfl
    · refine ⟨by simpa using h.1, .inr ⟨g, e, hg, _, blk_sets _ hc, by rw [wrt_size]; simpa using hs, fun i hi => ?_⟩⟩
      have hi' : i < r.vs.length := by simpa using hi
      rw [wrt_get _ _ _ (by simpa using hs), if_pos ⟨Nat.zero_le _, by simpa using hi'⟩]
      rfl
theorem none_row {w : World} {B T : Nat} : RwOk w B T ⟨3, none, 0, ir []⟩ := ⟨Nat.zero_le _, .inl rfl⟩
theorem apt_nil {r s : Rw} (h : r.vs = []) : Apt r s := fun h1 _ _ => h1 h
theorem ap_nil {xs ys : List Rw} (h : ∀ r ∈ xs, r.vs = []) : Ap xs ys := fun r hr _ _ => apt_nil (h r hr)
theorem pw_nil : ∀ xs : List Rw, (∀ r ∈ xs, r.vs = []) → xs.Pairwise Apt
  | [], _ => .nil
  | r :: xs, h => List.pairwise_cons.2 ⟨fun _ _ => apt_nil (h r (by simp)), pw_nil xs (fun s hs => h s (List.mem_cons_of_mem _ hs))⟩
/-- A line of empty rows. -/
def noneQ : Nat → Option Addr × Nat := fun _ => (none, 0)
theorem inner_none {w : World} {B T n : Nat} : ∀ r ∈ inner noneQ n (fun _ => []), RwOk w B T r := fun r hr => by
  obtain ⟨i, _, rfl⟩ := List.mem_map.1 hr
  exact none_row
theorem inner_vs {n : Nat} : ∀ r ∈ inner noneQ n (fun _ => []), r.vs = [] := fun r hr => by
  obtain ⟨i, _, rfl⟩ := List.mem_map.1 hr
  rfl
theorem outer_none (n : Nat) : outer noneQ n (fun _ => []) = List.replicate n (.slice none 0 0) := by
  simp [outer, noneQ, List.map_const']
theorem ON.clr_co {w : World} {B T : Nat} {b : Na} {d : Nd} (h : ON w B T b d) (hl : d.co.length = 3) :
    ∃ γ, b.co = some ⟨γ, 0, none⟩ ∧ (B ≤ γ ∧ γ < T) ∧ (∀ j, j < 3 → (w.cell? ⟨γ, 0 + j, none⟩).isSome = true) ∧ (∀ j, j < 3 → w.frozen? ⟨γ, 0 + j, none⟩ = false) ∧
      Only γ w (w.setCells γ 0 (List.replicate 3 (.bool false))) ∧ ON (w.setCells γ 0 (List.replicate 3 (.bool false))) B T b { d with co := [false, false, false] } := by
  obtain ⟨⟨h1, h2⟩, h3, h4, R, Q, h5⟩ := h
  have h6 : RS w B T ((⟨3, b.im, b.imc, ir d.im⟩ :: (mrows b.go b.gc b.bo b.bc R d.g d.n d.L ++ [⟨5, b.aA, b.cA, yr d.A⟩, ⟨5, b.aB, b.cB, yr d.C⟩])) ++ ⟨4, b.co, b.coc, br d.co⟩ :: (srows b.so b.sc Q d.m d.S ++ [⟨4, b.cp, b.cpc, br d.cp⟩, ⟨3, b.wt, b.wtc, ir d.wt⟩])) := by
    simpa [nrows] using h5
  have e3 : (Rw.mk 4 b.co b.coc (br d.co)).vs.length = 3 := (br_len _).trans hl
  obtain ⟨γ, e, hg, hc, hf, ho, hw⟩ := wr_fill (z := .bool false) h6.right.head (fun e0 => by rw [e0] at e3; cases e3)
  rw [e3] at hc hf hw ho
  refine ⟨γ, e, hg, hc, hf, ho, ⟨h1, by rw [ho.2.1]; exact h2⟩, h3, h4, R, Q, ?_⟩
  have h7 := h6.wr hw
  simpa [nrows, br] using h7
theorem ON.clr_cp {w : World} {B T : Nat} {b : Na} {d : Nd} (h : ON w B T b d) (hl : d.cp.length = 3) :
    ∃ γ, b.cp = some ⟨γ, 0, none⟩ ∧ (B ≤ γ ∧ γ < T) ∧ (∀ j, j < 3 → (w.cell? ⟨γ, 0 + j, none⟩).isSome = true) ∧ (∀ j, j < 3 → w.frozen? ⟨γ, 0 + j, none⟩ = false) ∧
      Only γ w (w.setCells γ 0 (List.replicate 3 (.bool false))) ∧ ON (w.setCells γ 0 (List.replicate 3 (.bool false))) B T b { d with cp := [false, false, false] } := by
  obtain ⟨⟨h1, h2⟩, h3, h4, R, Q, h5⟩ := h
  have h6 : RS w B T ((⟨3, b.im, b.imc, ir d.im⟩ :: (mrows b.go b.gc b.bo b.bc R d.g d.n d.L ++ (⟨5, b.aA, b.cA, yr d.A⟩ :: ⟨5, b.aB, b.cB, yr d.C⟩ :: ⟨4, b.co, b.coc, br d.co⟩ :: srows b.so b.sc Q d.m d.S))) ++ ⟨4, b.cp, b.cpc, br d.cp⟩ :: [⟨3, b.wt, b.wtc, ir d.wt⟩]) := by
    simpa [nrows] using h5
  have e3 : (Rw.mk 4 b.cp b.cpc (br d.cp)).vs.length = 3 := (br_len _).trans hl
  obtain ⟨γ, e, hg, hc, hf, ho, hw⟩ := wr_fill (z := .bool false) h6.right.head (fun e0 => by rw [e0] at e3; cases e3)
  rw [e3] at hc hf hw ho
  refine ⟨γ, e, hg, hc, hf, ho, ⟨h1, by rw [ho.2.1]; exact h2⟩, h3, h4, R, Q, ?_⟩
  have h7 := h6.wr hw
  simpa [nrows, br] using h7
theorem ON.clr_S {w : World} {B T : Nat} {b : Na} {d : Nd} (h : ON w B T b d) (hl : d.m = 3) :
    ∃ γ, b.so = some ⟨γ, 0, none⟩ ∧ (B ≤ γ ∧ γ < T) ∧ (∀ j, j < 3 → (w.cell? ⟨γ, 0 + j, none⟩).isSome = true) ∧ (∀ j, j < 3 → w.frozen? ⟨γ, 0 + j, none⟩ = false) ∧
      Only γ w (w.setCells γ 0 (List.replicate 3 (.slice none 0 0))) ∧ ON (w.setCells γ 0 (List.replicate 3 (.slice none 0 0))) B T b { d with S := fun _ => [] } := by
  obtain ⟨⟨h1, h2⟩, h3, h4, R, Q, h5⟩ := h
  have h6 : RS w B T ((⟨3, b.im, b.imc, ir d.im⟩ :: (mrows b.go b.gc b.bo b.bc R d.g d.n d.L ++ (⟨5, b.aA, b.cA, yr d.A⟩ :: ⟨5, b.aB, b.cB, yr d.C⟩ :: ⟨4, b.co, b.coc, br d.co⟩ :: [⟨22, b.so, b.sc, outer Q d.m d.S⟩]))) ++ (inner Q d.m d.S ++ [⟨4, b.cp, b.cpc, br d.cp⟩, ⟨3, b.wt, b.wtc, ir d.wt⟩])) := by
    simpa [nrows, srows] using h5
  have hN : RS w B T (inner noneQ 3 (fun _ => [])) := ⟨inner_none, pw_nil _ inner_vs⟩
  have h7 := h6.swap hN (ap_nil inner_vs) (ap_nil inner_vs)
  have h8 : RS w B T ((⟨3, b.im, b.imc, ir d.im⟩ :: (mrows b.go b.gc b.bo b.bc R d.g d.n d.L ++ (⟨5, b.aA, b.cA, yr d.A⟩ :: ⟨5, b.aB, b.cB, yr d.C⟩ :: [⟨4, b.co, b.coc, br d.co⟩]))) ++ ⟨22, b.so, b.sc, outer Q d.m d.S⟩ :: (inner noneQ 3 (fun _ => []) ++ [⟨4, b.cp, b.cpc, br d.cp⟩, ⟨3, b.wt, b.wtc, ir d.wt⟩])) := by
    simpa using h7
  have e3 : (Rw.mk 22 b.so b.sc (outer Q d.m d.S)).vs.length = 3 := (outer_len _ _ _).trans hl
  obtain ⟨γ, e, hg, hc, hf, ho, hw⟩ := wr_fill (z := .slice none 0 0) h8.right.head (fun e0 => by rw [e0] at e3; cases e3)
  rw [e3] at hc hf hw ho
  refine ⟨γ, e, hg, hc, hf, ho, ⟨h1, by rw [ho.2.1]; exact h2⟩, h3, h4, R, noneQ, ?_⟩
  have h9 : RS (w.setCells γ 0 (List.replicate 3 (.slice none 0 0))) B T ((⟨3, b.im, b.imc, ir d.im⟩ :: (mrows b.go b.gc b.bo b.bc R d.g d.n d.L ++ (⟨5, b.aA, b.cA, yr d.A⟩ :: ⟨5, b.aB, b.cB, yr d.C⟩ :: [⟨4, b.co, b.coc, br d.co⟩]))) ++ ⟨22, b.so, b.sc, outer noneQ 3 (fun _ => [])⟩ :: (inner noneQ 3 (fun _ => []) ++ [⟨4, b.cp, b.cpc, br d.cp⟩, ⟨3, b.wt, b.wtc, ir d.wt⟩])) := by
    rw [outer_none]; exact h8.wr hw
  simpa [nrows, srows, hl] using h9
/-- .. with nothing that waits. -/
theorem ON.wt0 {w : World} {B T : Nat} {b : Na} {d : Nd} (h : ON w B T b d) (up' pr' : Bool) : ON w B T { b with wt := none, wtc := 0 } { d with up := up', pr := pr', wt := [] } := by
  obtain ⟨h1, h3, h4, R, Q, h5⟩ := h
  refine ⟨h1, h3, h4, R, Q, ?_⟩
  have h6 : RS w B T ((⟨3, b.im, b.imc, ir d.im⟩ :: (mrows b.go b.gc b.bo b.bc R d.g d.n d.L ++ (⟨5, b.aA, b.cA, yr d.A⟩ :: ⟨5, b.aB, b.cB, yr d.C⟩ :: ⟨4, b.co, b.coc, br d.co⟩ :: (srows b.so b.sc Q d.m d.S ++ [⟨4, b.cp, b.cpc, br d.cp⟩])))) ++ ([⟨3, b.wt, b.wtc, ir d.wt⟩] ++ [])) := by
    simpa [nrows] using h5
  have hN : RS w B T [⟨3, none, 0, ir []⟩] := RS.one none_row
  have h7 := h6.swap hN (ap_nil (fun r hr => by rw [List.mem_singleton.1 hr]; rfl)) (ap_nil (fun r hr => by rw [List.mem_singleton.1 hr]; rfl))
  simpa [nrows] using h7
/-- A row that was made: one value in all of its cells. -/
theorem made_row {w : World} {g n : Nat} {t : TypeId} {z : Value} {cap : Nat} (h : w.heap[g]? = some (.cells (madeCells #[z] n) t (0, 0))) (hc : n ≤ cap) : RwOk w g (g + 1) ⟨t, some ⟨g, 0, none⟩, cap, List.replicate n z⟩ := by
  refine ⟨by simpa using hc, .inr ⟨g, rfl, ⟨Nat.le_refl _, Nat.lt_succ_self _⟩, _, h, ?_, fun i hi => ?_⟩⟩
  · have := congrArg List.length (toList_madeCells_one z n)
    simp at this ⊢
    omega
  · have hi' : i < n := by simpa using hi
    rw [← Array.getElem?_toList, toList_madeCells_one]
end Go.Proofs.YtcffhjpdkdaaeaaGreatDoor

/- Fall of the program. -/
namespace Go.Proofs.YtcffhjpdkdaaeaaGreatDoor
open Go.ChangeShapes Go.WideShapes Go.ChangeAt Go.RowKit
set_option linter.unusedVariables false
set_option linter.unusedSimpArgs false
set_option maxRecDepth 100000

theorem zero4 (w : World) : (zeroValue 4).run Tryz.prog w = .ok (.bool false) w := by kernel_rfl
theorem zeroSl (w : World) : (zeroValue 22).run Tryz.prog w = .ok (.slice none 0 0) w := by kernel_rfl
theorem FSt.mid {w V V' : World} {X γ : Nat} {a b : Na} {d d' : Nd} (h : FSt w V X a d b d') (ho : Only γ V V') (h1 : w.heap.size + 1 + 1 ≤ γ) (h2 : γ < X) : FSt w V' X a d b d' :=
  ⟨h.1.trans (ho.1.mono (by omega)), h.2.1.far ho (by omega), h.2.2.1.far ho (by omega), h.2.2.2.1.far ho (by omega), h.2.2.2.2⟩

set_option maxHeartbeats 100000000 in
theorem fall_i (a : Na) (d : Nd) (w : World) (hg : ErrT w) (hd : NBd d) (hv : NV w a d) (hn : NNC a) :
    Calls Tryz.prog 23 #[nv a d] w fun e w' => ∃ b, e = .returned (nv b (fln Classical.propDecidable d)) ∧ ON w' w.heap.size w'.heap.size b (fln Classical.propDecidable d) ∧ Below w.heap.size w w' := by
  have HRn : Hid (¬ NOk d → fln Classical.propDecidable d = d) := fln_no
  have HRy : Hid (NOk d → fln Classical.propDecidable d = dwn d) := fln_yes
  generalize fln Classical.propDecidable d = dr at *
  obtain ⟨W, hW⟩ : ∃ W, W = (w.alloc (.cells (nds a d) 31)).alloc (.cells (nds Na.zero Nd.zero) 31) := ⟨_, rfl⟩
  have T0 : Hid (CS w W a d []) := by rw [hW]; exact cs_new w a d
  have HV : Hid (∀ V, Below w.heap.size w V → NV V a d ∧ ErrT V) := fun V hb => ⟨hv.below hb, hg.below hb⟩
  have HD := hide hd
  have HN := hide hn
  clear hd hv hn hg
  unfold nv
  unfold nds Na.zero Nd.zero at hW
  dsimp only [List.length_nil] at hW
  unfold nds
  go_enter Tryz.func23, Tryz.ntmps23
  go_upto_region 1 with fail
  rw [← hW]
  clear hW
  generalize Value.agg #[.int .i64 d.id, .bool d.up, .bool d.pr, .slice a.im d.im.length a.imc, .slice a.go d.g.length a.gc, .slice a.bo d.n a.bc, .bool d.fi, .bool d.ol, .bool d.he, .int .i64 d.la, .slice a.aA d.A.length a.cA, .slice a.aB d.C.length a.cB, .slice a.co d.co.length a.coc, .slice a.so d.m a.sc, .slice a.cp d.cp.length a.cpc, .slice a.wt d.wt.length a.wtc] = vn at *
  go_wp2_with (refine ld_node rfl _ rfl w.heap.size rfl T0.out.2.1 ?_)
  refine (copyn_impl a d W HD.out (HV.out _ T0.out.1).1 HN.out).mono ?_
  rintro e w1 ⟨b, rfl, o1, c1⟩
  obtain ⟨W1, hW1⟩ : ∃ W1, W1 = w1.alloc (.cells (nds b d) 31) := ⟨_, rfl⟩
  have H1 : Hid (FSt w W1 w1.heap.size a d b d ∧ ON W1 (w.heap.size + 1 + 1) w1.heap.size b d) := by
    rw [hW1]
    exact ⟨fs_new T0.out c1, (o1.below (bal1 _ _) (Nat.le_refl _)).wider (by have := T0.out.2.2.2.1; omega) (Nat.le_refl _) (by simp)⟩
  have hlt1 : w.heap.size < w1.heap.size := by have := H1.out.1.2.2.2.2; omega
  clear o1 c1 T0
  unfold nds at hW1
  unfold nv nds
  go_upto_region 2 with fail
  rw [← hW1]
  clear hW1 hlt1
  generalize w1.heap.size = X at *
  generalize Value.agg #[.int .i64 d.id, .bool d.up, .bool d.pr, .slice b.im d.im.length b.imc, .slice b.go d.g.length b.gc, .slice b.bo d.n b.bc, .bool d.fi, .bool d.ol, .bool d.he, .int .i64 d.la, .slice b.aA d.A.length b.cA, .slice b.aB d.C.length b.cB, .slice b.co d.co.length b.coc, .slice b.so d.m b.sc, .slice b.cp d.cp.length b.cpc, .slice b.wt d.wt.length b.wtc] = vb at *
  as_aux_lemma =>
    go_wp2_with (refine ld_node rfl _ rfl w.heap.size rfl H1.out.1.2.1 ?_)
    refine (node_impl a d W1 (HV.out _ H1.out.1.1).2 HD.out (HV.out _ H1.out.1.1).1).mono ?_
    rintro e w2 ⟨h, c2⟩
    have H2 : Hid (FSt w w2 X a d b d ∧ ON w2 (w.heap.size + 1 + 1) X b d ∧ X < w2.heap.size) := ⟨H1.out.1.b c2, H1.out.2.below c2 H1.out.2.1.2, (H1.out.1.b c2).2.2.2.1.lt⟩
    clear c2 H1
    have hX := H2.out.1.2.2.2.2
    rcases h with ⟨hok, rfl⟩ | ⟨hok, rfl⟩
    case inr =>
      have hN : Hid (FSt w w2 X a d b d ∧ ∀ F : World, Only (w.heap.size + 1) w2 F → ON F w.heap.size F.heap.size b d ∧ Below w.heap.size w F) := ⟨H2.out.1, fun F hF => by
        have hs := hF.2.1
        exact ⟨(H2.out.2.1.only hF (.inr (by omega))).wider (by omega) (by have := H2.out.2.2; omega) (Nat.le_refl _), H2.out.1.1.trans (hF.1.mono (by omega))⟩⟩
      have HE : Hid (dr = d) := HRn.out hok
      clear HRn HRy H2 hok
      go_wp2_with (first
        | (refine ld_node rfl _ rfl X rfl hN.out.1.2.2.2.1 ?_)
        | (refine st_node rfl _ _ rfl rfl (w.heap.size + 1) b d rfl rfl hN.out.1.2.2.1 (fun F hF1 hF2 => ?_))
        | (refine bodyPost_ret (v := nv b d) (res_node Tryz.results23 rfl hF2) rfl ⟨b, by rw [HE.out]; rfl, by rw [HE.out]; exact hN.out.2 F hF1⟩))
    have HE : Hid (dr = dwn d) := HRy.out hok
    obtain ⟨l1, l2, l3, _⟩ := hok.2.2.2.1
    have HL : Hid (d.co.length = 3 ∧ d.m = 3 ∧ d.cp.length = 3) := ⟨l1, l2, l3⟩
    clear HRn HRy hok l1 l2 l3
    as_aux_lemma =>
      obtain ⟨o0, o1, o2, o3, o4, o5, o6, o7, o8, o9, o10, o11, o12, o13, o14, o15⟩ := H2.out.1.2.2.2.1.cells
      have zX := H2.out.1.2.2.2.1.froz
      clear o0 o3 o4 o5 o6 o7 o8 o9 o10 o11 o12 o13 o14
      obtain ⟨V1, hV1⟩ : ∃ V1, V1 = ((w2.setCell ⟨X, 1, none⟩ (.bool false)).setCell ⟨X, 2, none⟩ (.bool false)).setCell ⟨X, 15, none⟩ (.slice none 0 0) := ⟨_, rfl⟩
      obtain ⟨b1, hb1⟩ : ∃ b1 : Na, b1 = { b with wt := none, wtc := 0 } := ⟨_, rfl⟩
      obtain ⟨d1, hd1⟩ : ∃ d1 : Nd, d1 = { d with up := false, pr := false, wt := [] } := ⟨_, rfl⟩
      have HO1 : Hid (Only X w2 V1) := by rw [hV1]; exact (((Only.refl _ _).setCell _).setCell _).setCell _
      have hNB : NB V1 X 31 b1 d1 := by
        have n0 := H2.out.1.2.2.2.1
        rw [hV1, hb1, hd1]
        have n1 : NB _ X 31 b { d with up := false } := nset (i := 1) (v := .bool false) n0 rfl
        have n2 : NB _ X 31 b { d with up := false, pr := false } := nset (i := 2) (v := .bool false) n1 rfl
        exact nset (i := 15) (v := .slice none 0 0) n2 rfl
      have H3 : Hid (FSt w V1 X a d b1 d1 ∧ ON V1 (w.heap.size + 1 + 1) X b1 d1 ∧ X < V1.heap.size) := ⟨H2.out.1.set HO1.out hNB, by rw [hb1, hd1]; exact (H2.out.2.1.only HO1.out (.inl (Nat.le_refl _))).wt0 false false, by rw [HO1.out.2.1]; exact H2.out.2.2⟩
      have HL1 : Hid (d1.co.length = 3 ∧ d1.m = 3 ∧ d1.cp.length = 3 ∧ nv b1 (dwn d1) = nv b1 d1 ∧ dr = dwn d1 ∧ dwn d1 = { d1 with co := [false, false, false], S := fun _ => [], cp := [false, false, false] }) := by
        obtain ⟨q1, q2, q3⟩ := HL.out
        refine ⟨by rw [hd1]; exact q1, by rw [hd1]; exact q2, by rw [hd1]; exact q3, ?_, by rw [HE.out, hd1]; rfl, ?_⟩
        · rw [hd1]
          simp [nv, nds, dwn, q1, q2, q3]
        · rw [dwn_eq (show d1.m = 3 from by rw [hd1]; exact q2), hd1]
      go_upto_region 5 with fail
      rw [← hV1]
      clear hV1 o1 o2 o15 zX H2 HO1 hNB HE hb1 hd1 HL
      obtain ⟨γ, eγ, hγ, hc, hf, ho, hon⟩ := H3.out.2.1.clr_co HL1.out.1
      obtain ⟨V2, hV⟩ : ∃ V', V' = V1.setCells γ 0 (List.replicate 3 (.bool false)) := ⟨_, rfl⟩
      have hcl : ∀ ty, (Builtin.clear_ #[29] ty #[.slice (some ⟨γ, 0, none⟩) 3 b1.coc]).run Tryz.prog V1 = .ok (.tuple #[]) V2 := fun ty => by
        rw [hV]; exact Lib.run_clear_slice V1 _ _ ty _ Tryz.underlying29 zero4 rfl rfl γ 0 3 _ (by omega) hc hf
      rw [← hV] at ho hon
      have hcell : V1.cell? ⟨X, 12, none⟩ = some (.slice (some ⟨γ, 0, none⟩) 3 b1.coc) := by
        have h := H3.out.1.2.2.2.1.cells.2.2.2.2.2.2.2.2.2.2.2.2.1
        rw [eγ, HL1.out.1] at h
        exact h
      have H4 : Hid (FSt w V2 X a d b1 d1 ∧ ON V2 (w.heap.size + 1 + 1) X b1 { d1 with co := [false, false, false] } ∧ X < V2.heap.size) := ⟨H3.out.1.mid ho (by omega) (by omega), hon, by rw [ho.2.1]; exact H3.out.2.2⟩
      clear hV hc hf ho hon eγ hγ H3
      go_upto_region 6 with (simp only [hcl])
      clear hcl hcell
      obtain ⟨γ, eγ, hγ, hc, hf, ho, hon⟩ := H4.out.2.1.clr_S HL1.out.2.1
      obtain ⟨V3, hV⟩ : ∃ V', V' = V2.setCells γ 0 (List.replicate 3 (.slice none 0 0)) := ⟨_, rfl⟩
      have hcl : ∀ ty, (Builtin.clear_ #[23] ty #[.slice (some ⟨γ, 0, none⟩) 3 b1.sc]).run Tryz.prog V2 = .ok (.tuple #[]) V3 := fun ty => by
        rw [hV]; exact Lib.run_clear_slice V2 _ _ ty _ Tryz.underlying23 zeroSl rfl rfl γ 0 3 _ (by omega) hc hf
      rw [← hV] at ho hon
      have hcell : V2.cell? ⟨X, 13, none⟩ = some (.slice (some ⟨γ, 0, none⟩) 3 b1.sc) := by
        have h := H4.out.1.2.2.2.1.cells.2.2.2.2.2.2.2.2.2.2.2.2.2.1
        rw [eγ, HL1.out.2.1] at h
        exact h
      have H5 : Hid (FSt w V3 X a d b1 d1 ∧ ON V3 (w.heap.size + 1 + 1) X b1 { d1 with co := [false, false, false], S := fun _ => [] } ∧ X < V3.heap.size) := ⟨H4.out.1.mid ho (by omega) (by omega), hon, by rw [ho.2.1]; exact H4.out.2.2⟩
      clear hV hc hf ho hon eγ hγ H4
      go_upto_region 7 with (simp only [hcl])
      clear hcl hcell
      obtain ⟨γ, eγ, hγ, hc, hf, ho, hon⟩ := H5.out.2.1.clr_cp HL1.out.2.2.1
      obtain ⟨V4, hV⟩ : ∃ V', V' = V3.setCells γ 0 (List.replicate 3 (.bool false)) := ⟨_, rfl⟩
      have hcl : ∀ ty, (Builtin.clear_ #[29] ty #[.slice (some ⟨γ, 0, none⟩) 3 b1.cpc]).run Tryz.prog V3 = .ok (.tuple #[]) V4 := fun ty => by
        rw [hV]; exact Lib.run_clear_slice V3 _ _ ty _ Tryz.underlying29 zero4 rfl rfl γ 0 3 _ (by omega) hc hf
      rw [← hV] at ho hon
      have hcell : V3.cell? ⟨X, 14, none⟩ = some (.slice (some ⟨γ, 0, none⟩) 3 b1.cpc) := by
        have h := H5.out.1.2.2.2.1.cells.2.2.2.2.2.2.2.2.2.2.2.2.2.2.1
        rw [eγ, HL1.out.2.2.1] at h
        exact h
      have H6 : Hid (FSt w V4 X a d b1 d1 ∧ ON V4 (w.heap.size + 1 + 1) X b1 { d1 with co := [false, false, false], S := fun _ => [], cp := [false, false, false] } ∧ X < V4.heap.size) := ⟨H5.out.1.mid ho (by omega) (by omega), hon, by rw [ho.2.1]; exact H5.out.2.2⟩
      clear hV hc hf ho hon eγ hγ H5
      go_upto_region 8 with (simp only [hcl])
      clear hcl hcell
      have HM : Hid (FSt w V4 X a d b1 d1 ∧ ∀ F : World, Only (w.heap.size + 1) V4 F → ON F w.heap.size F.heap.size b1 dr ∧ Below w.heap.size w F) := ⟨H6.out.1, fun F hF => by
        have hs := hF.2.1
        refine ⟨?_, H6.out.1.1.trans (hF.1.mono (by omega))⟩
        rw [HL1.out.2.2.2.2.1, HL1.out.2.2.2.2.2]
        have h := (H6.out.2.1.only hF (.inr (by omega))).wider (B' := w.heap.size) (T' := F.heap.size) (by omega) (by have := H6.out.2.2; omega) (Nat.le_refl _)
        exact h⟩
      have HE2 : Hid (nv b1 dr = nv b1 d1) := (show _ = _ from by rw [HL1.out.2.2.2.2.1]; exact HL1.out.2.2.2.1)
      clear H6 HL1
      go_wp2_with (first
        | (refine ld_node rfl _ rfl X rfl HM.out.1.2.2.2.1 ?_)
        | (refine st_node rfl _ _ rfl rfl (w.heap.size + 1) b1 d1 rfl rfl HM.out.1.2.2.1 (fun F hF1 hF2 => ?_))
        | (refine bodyPost_ret (v := nv b1 d1) (res_node Tryz.results23 rfl hF2) rfl ⟨b1, (show Ending.returned (nv b1 d1) = Ending.returned (nv b1 dr) from by rw [HE2.out]), HM.out.2 F hF1⟩))
end Go.Proofs.YtcffhjpdkdaaeaaGreatDoor

/- Fall of the model. -/
namespace Go.Proofs.YtcffhjpdkdaaeaaGreatDoor
open Go.ChangeShapes Go.WideShapes Go.ChangeAt Go.RowKit
set_option linter.unusedVariables false
set_option linter.unusedSimpArgs false
set_option maxRecDepth 100000

theorem CS.up {w V V' : World} {a' a2 : Na} {d d2 : Nd} {rs : List Rw} (h : CS w V a' d rs) (ho : Only w.heap.size V V') (hn : NB V' w.heap.size 31 a2 d2) : CS w V' a2 d2 rs :=
  ⟨h.1.trans ho.1, hn, h.2.2.1.far ho (by omega), by rw [ho.2.1]; exact h.2.2.2.1, by rw [ho.2.1]; exact h.2.2.2.2.kept fun j h1 _ => ho.2.2 j (by omega)⟩
/-- The rows that l8Down makes. -/
def dnr (g1 g2 g3 : Nat) : List Rw := (([] ++ [⟨4, some ⟨g1, 0, none⟩, 3, List.replicate 3 (.bool false)⟩]) ++ [⟨4, some ⟨g2, 0, none⟩, 3, List.replicate 3 (.bool false)⟩]) ++ [⟨22, some ⟨g3, 0, none⟩, 3, List.replicate 3 (.slice none 0 0)⟩]
def dna (a : Na) (g1 g2 g3 : Nat) : Na := { a with co := some ⟨g1, 0, none⟩, coc := 3, cp := some ⟨g2, 0, none⟩, cpc := 3, so := some ⟨g3, 0, none⟩, sc := 3, wt := none, wtc := 0 }
theorem rn_down {w w' : World} {B T : Nat} {b : Na} {d : Nd} {g1 g2 g3 : Nat} (h : RN w B T b d) (hT : T ≤ w.heap.size) (hb : Below w.heap.size w w') (hr : RA w' w.heap.size w'.heap.size (dnr g1 g2 g3)) : RN w' B w'.heap.size (dna b g1 g2 g3) (dwn d) := by
  obtain ⟨⟨h1, h2⟩, h3, h4, R, Q, h5⟩ := h
  refine ⟨⟨by have := hb.size; omega, Nat.le_refl _⟩, h3, h4, R, noneQ, fun r hr' => ?_⟩
  have k5 : ∀ r ∈ nrows b R Q d, RwOk w' B w'.heap.size r := fun r hr => ((h5 r hr).kept (fun j _ hj => hb.block j (by omega))).wide (Nat.le_refl _) (by have := hb.size; omega)
  have kr : ∀ r ∈ dnr g1 g2 g3, RwOk w' B w'.heap.size r := fun r h => (hr r h).wide (by omega) (Nat.le_refl _)
  simp only [nrows, srows, dwn, dna, List.mem_cons, List.mem_append, List.not_mem_nil, or_false] at hr' k5
  rcases hr' with e | e | e | e | e | (e | e) | e | e
  · exact k5 r (.inl e)
  · exact k5 r (.inr (.inl e))
  · exact k5 r (.inr (.inr (.inl e)))
  · exact k5 r (.inr (.inr (.inr (.inl e))))
  · rw [e]; exact kr _ (by simp [dnr, br])
  · rw [e]; rw [outer_none]; exact kr _ (by simp [dnr])
  · exact inner_none r e
  · rw [e]; exact kr _ (by simp [dnr, br])
  · rw [e]; exact none_row

set_option maxHeartbeats 100000000 in
theorem down_s (a : Na) (d : Nd) (w : World) :
    Calls Tryz.prog 67 #[nv a d] w fun e w' => ∃ g1 g2 g3, e = .returned (nv (dna a g1 g2 g3) (dwn d)) ∧ RA w' w.heap.size w'.heap.size (dnr g1 g2 g3) ∧ Below w.heap.size w w' := by
  have hmk := run_make_row' (P := Tryz.prog) 29 4 (.bool false) 1 Tryz.underlying29 Tryz.info4 rfl .i64 .i64 3 (by omega) (by omega)
  rw [show ((3 : Nat) : Int) = 3 from rfl] at hmk
  have hms := run_make_row' (P := Tryz.prog) 23 22 (.slice none 0 0) 24 Tryz.underlying23 Tryz.infoSl rfl .i64 .i64 3 (by omega) (by omega)
  rw [show ((3 : Nat) : Int) = 3 from rfl] at hms
  obtain ⟨W, hW⟩ : ∃ W, W = (w.alloc (.cells (nds a d) 31)).alloc (.cells (nds Na.zero Nd.zero) 31) := ⟨_, rfl⟩
  have T0 : Hid (CS w W a d []) := by rw [hW]; exact cs_new w a d
  unfold nv
  unfold nds Na.zero Nd.zero at hW
  dsimp only [List.length_nil] at hW
  unfold nds
  go_enter Tryz.func67, Tryz.ntmps67
  go_upto_region 1 with fail
  rw [← hW]
  clear hW
  obtain ⟨p0, p1, p2, p3, p4, p5, p6, p7, p8, p9, p10, p11, p12, p13, p14, p15⟩ := T0.out.2.1.cells
  have zz := T0.out.2.1.froz
  clear p0 p3 p4 p5 p6 p7 p8 p9 p10 p11 p12 p13 p14 p15
  obtain ⟨V1, hV1⟩ : ∃ V1, V1 = (W.setCell ⟨w.heap.size, 1, none⟩ (.bool false)).setCell ⟨w.heap.size, 2, none⟩ (.bool false) := ⟨_, rfl⟩
  have H1 : Hid (CS w V1 a { d with up := false, pr := false } []) := T0.out.up (by rw [hV1]; exact ((Only.refl _ _).setCell _).setCell _) (by
    rw [hV1]
    have n1 : NB _ w.heap.size 31 a { d with up := false } := nset (i := 1) (v := .bool false) T0.out.2.1 rfl
    exact nset (i := 2) (v := .bool false) n1 rfl)
  clear T0
  go_upto_region 3 with fail
  rw [← hV1]
  clear hV1 p1 p2 zz
  obtain ⟨p0, p1, p2, p3, p4, p5, p6, p7, p8, p9, p10, p11, p12, p13, p14, p15⟩ := H1.out.2.1.cells
  have zz := H1.out.2.1.froz
  have hlt := H1.out.2.1.lt
  clear p0 p1 p2 p3 p4 p5 p6 p7 p8 p9 p10 p11 p13 p14 p15
  obtain ⟨U, hU⟩ : ∃ U, U = V1.setCell ⟨w.heap.size, 12, none⟩ (.slice (some ⟨V1.heap.size, 0, none⟩) 3 3) := ⟨_, rfl⟩
  obtain ⟨V2, hV⟩ : ∃ V', V' = U.alloc (.cells (madeCells #[.bool false] 3) 4) := ⟨_, rfl⟩
  have hUs : U.heap.size = V1.heap.size := by rw [hU]; exact ((Only.refl w.heap.size V1).setCell _).2.1
  have HU : CS w U { a with co := some ⟨V1.heap.size, 0, none⟩, coc := 3 } { d with up := false, pr := false, co := [false, false, false] } ([]) := H1.out.up (by rw [hU]; exact (Only.refl _ _).setCell _) (by rw [hU]; exact nset (i := 12) (v := .slice (some ⟨V1.heap.size, 0, none⟩) 3 3) H1.out.2.1 rfl)
  have H2 : Hid (CS w V2 { a with co := some ⟨V1.heap.size, 0, none⟩, coc := 3 } { d with up := false, pr := false, co := [false, false, false] } ([] ++ [⟨4, some ⟨V1.heap.size, 0, none⟩, 3, List.replicate 3 (.bool false)⟩])) := HU.call (by rw [hV]; exact bal1 _ _) (by
    have h1 : V2.heap.size = U.heap.size + 1 := by rw [hV]; simp
    rw [h1, ← hUs]
    exact RS.one (made_row (by rw [hV]; exact Deep.blk_alloc_new _ _) (Nat.le_refl _)))
  clear HU H1 hUs
  go_upto_region 4 with fail
  rw [← hU, ← hV]
  clear hU hV p12 zz hlt
  generalize V1.heap.size = g1 at *
  obtain ⟨p0, p1, p2, p3, p4, p5, p6, p7, p8, p9, p10, p11, p12, p13, p14, p15⟩ := H2.out.2.1.cells
  have zz := H2.out.2.1.froz
  have hlt := H2.out.2.1.lt
  clear p0 p1 p2 p3 p4 p5 p6 p7 p8 p9 p10 p11 p12 p13 p15
  obtain ⟨U, hU⟩ : ∃ U, U = V2.setCell ⟨w.heap.size, 14, none⟩ (.slice (some ⟨V2.heap.size, 0, none⟩) 3 3) := ⟨_, rfl⟩
  obtain ⟨V3, hV⟩ : ∃ V', V' = U.alloc (.cells (madeCells #[.bool false] 3) 4) := ⟨_, rfl⟩
  have hUs : U.heap.size = V2.heap.size := by rw [hU]; exact ((Only.refl w.heap.size V2).setCell _).2.1
  have HU : CS w U { a with co := some ⟨g1, 0, none⟩, coc := 3, cp := some ⟨V2.heap.size, 0, none⟩, cpc := 3 } { d with up := false, pr := false, co := [false, false, false], cp := [false, false, false] } (([] ++ [⟨4, some ⟨g1, 0, none⟩, 3, List.replicate 3 (.bool false)⟩])) := H2.out.up (by rw [hU]; exact (Only.refl _ _).setCell _) (by rw [hU]; exact nset (i := 14) (v := .slice (some ⟨V2.heap.size, 0, none⟩) 3 3) H2.out.2.1 rfl)
  have H3 : Hid (CS w V3 { a with co := some ⟨g1, 0, none⟩, coc := 3, cp := some ⟨V2.heap.size, 0, none⟩, cpc := 3 } { d with up := false, pr := false, co := [false, false, false], cp := [false, false, false] } (([] ++ [⟨4, some ⟨g1, 0, none⟩, 3, List.replicate 3 (.bool false)⟩]) ++ [⟨4, some ⟨V2.heap.size, 0, none⟩, 3, List.replicate 3 (.bool false)⟩])) := HU.call (by rw [hV]; exact bal1 _ _) (by
    have h1 : V3.heap.size = U.heap.size + 1 := by rw [hV]; simp
    rw [h1, ← hUs]
    exact RS.one (made_row (by rw [hV]; exact Deep.blk_alloc_new _ _) (Nat.le_refl _)))
  clear HU H2 hUs
  go_upto_region 5 with fail
  rw [← hU, ← hV]
  clear hU hV p14 zz hlt
  generalize V2.heap.size = g2 at *
  obtain ⟨p0, p1, p2, p3, p4, p5, p6, p7, p8, p9, p10, p11, p12, p13, p14, p15⟩ := H3.out.2.1.cells
  have zz := H3.out.2.1.froz
  have hlt := H3.out.2.1.lt
  clear p0 p1 p2 p3 p4 p5 p6 p7 p8 p9 p10 p11 p12 p14 p15
  obtain ⟨U, hU⟩ : ∃ U, U = V3.setCell ⟨w.heap.size, 13, none⟩ (.slice (some ⟨V3.heap.size, 0, none⟩) 3 3) := ⟨_, rfl⟩
  obtain ⟨V4, hV⟩ : ∃ V', V' = U.alloc (.cells (madeCells #[.slice none 0 0] 3) 22) := ⟨_, rfl⟩
  have hUs : U.heap.size = V3.heap.size := by rw [hU]; exact ((Only.refl w.heap.size V3).setCell _).2.1
  have HU : CS w U { a with co := some ⟨g1, 0, none⟩, coc := 3, cp := some ⟨g2, 0, none⟩, cpc := 3, so := some ⟨V3.heap.size, 0, none⟩, sc := 3 } { d with up := false, pr := false, co := [false, false, false], cp := [false, false, false], m := 3, S := fun _ => [] } ((([] ++ [⟨4, some ⟨g1, 0, none⟩, 3, List.replicate 3 (.bool false)⟩]) ++ [⟨4, some ⟨g2, 0, none⟩, 3, List.replicate 3 (.bool false)⟩])) := H3.out.up (by rw [hU]; exact (Only.refl _ _).setCell _) (by rw [hU]; exact nset (i := 13) (v := .slice (some ⟨V3.heap.size, 0, none⟩) 3 3) H3.out.2.1 rfl)
  have H4 : Hid (CS w V4 { a with co := some ⟨g1, 0, none⟩, coc := 3, cp := some ⟨g2, 0, none⟩, cpc := 3, so := some ⟨V3.heap.size, 0, none⟩, sc := 3 } { d with up := false, pr := false, co := [false, false, false], cp := [false, false, false], m := 3, S := fun _ => [] } ((([] ++ [⟨4, some ⟨g1, 0, none⟩, 3, List.replicate 3 (.bool false)⟩]) ++ [⟨4, some ⟨g2, 0, none⟩, 3, List.replicate 3 (.bool false)⟩]) ++ [⟨22, some ⟨V3.heap.size, 0, none⟩, 3, List.replicate 3 (.slice none 0 0)⟩])) := HU.call (by rw [hV]; exact bal1 _ _) (by
    have h1 : V4.heap.size = U.heap.size + 1 := by rw [hV]; simp
    rw [h1, ← hUs]
    exact RS.one (made_row (by rw [hV]; exact Deep.blk_alloc_new _ _) (Nat.le_refl _)))
  clear HU H3 hUs
  go_upto_region 6 with fail
  rw [← hU, ← hV]
  clear hU hV p13 zz hlt
  generalize V3.heap.size = g3 at *
  obtain ⟨p0, p1, p2, p3, p4, p5, p6, p7, p8, p9, p10, p11, p12, p13, p14, p15⟩ := H4.out.2.1.cells
  have zz := H4.out.2.1.froz
  clear p0 p1 p2 p3 p4 p5 p6 p7 p8 p9 p10 p11 p12 p13 p14 hmk hms
  obtain ⟨V5, hV⟩ : ∃ V5, V5 = V4.setCell ⟨w.heap.size, 15, none⟩ (.slice none 0 0) := ⟨_, rfl⟩
  have H5 : Hid (CS w V5 (dna a g1 g2 g3) (dwn d) (dnr g1 g2 g3)) := H4.out.up (by rw [hV]; exact (Only.refl _ _).setCell _) (by rw [hV]; exact nset (i := 15) (v := .slice none 0 0) H4.out.2.1 rfl)
  clear H4
  go_upto_region 7 with fail
  rw [← hV]
  clear hV p15 zz
  have HM : Hid (CS w V5 (dna a g1 g2 g3) (dwn d) (dnr g1 g2 g3) ∧ ∀ F : World, Only (w.heap.size + 1) V5 F → RA F w.heap.size F.heap.size (dnr g1 g2 g3) ∧ Below w.heap.size w F) := ⟨H5.out, fun F hF => by
    have hs := hF.2.1
    exact ⟨by rw [hs]; exact (RA.kept (w := V5) H5.out.2.2.2.2.ra (fun j h1 _ => hF.2.2 j (by omega))).wide (by omega) (Nat.le_refl _), H5.out.1.trans (hF.1.mono (by omega))⟩⟩
  clear H5
  obtain ⟨b5, hb5⟩ : ∃ b5, b5 = dna a g1 g2 g3 := ⟨_, rfl⟩
  obtain ⟨d5, hd5⟩ : ∃ d5, d5 = dwn d := ⟨_, rfl⟩
  have HE : Hid (Ending.returned (nv b5 d5) = Ending.returned (nv (dna a g1 g2 g3) (dwn d))) := (show _ = _ from by rw [hb5, hd5])
  rw [← hb5, ← hd5] at HM
  clear hb5 hd5
  go_wp2_with (first
    | (refine ld_node rfl _ rfl w.heap.size rfl HM.out.1.2.1 ?_)
    | (refine st_node rfl _ _ rfl rfl (w.heap.size + 1) b5 d5 rfl rfl HM.out.1.2.2.1 (fun F hF1 hF2 => ?_))
    | (refine bodyPost_ret (v := nv b5 d5) (res_node Tryz.results67 rfl hF2) rfl ⟨g1, g2, g3, HE.out, (HM.out.2 F hF1).1, (HM.out.2 F hF1).2⟩))

set_option maxHeartbeats 100000000 in
theorem fall_s (a : Na) (d : Nd) (w : World) (hd : NBd d) (hv : NV w a d) (hn : NNC a) :
    Calls Tryz.prog 22 #[nv a d] w fun e w' => ∃ b, e = .returned (nv b (fln Classical.propDecidable d)) ∧ RN w' w.heap.size w'.heap.size b (fln Classical.propDecidable d) ∧ Below w.heap.size w w' := by
  have HRn : Hid (¬ NOk d → fln Classical.propDecidable d = d) := fln_no
  have HRy : Hid (NOk d → fln Classical.propDecidable d = dwn d) := fln_yes
  generalize fln Classical.propDecidable d = dr at *
  obtain ⟨W, hW⟩ : ∃ W, W = (w.alloc (.cells (nds a d) 31)).alloc (.cells (nds Na.zero Nd.zero) 31) := ⟨_, rfl⟩
  have T0 : Hid (CS w W a d []) := by rw [hW]; exact cs_new w a d
  have HV : Hid (∀ V, Below w.heap.size w V → NV V a d) := fun V hb => hv.below hb
  have HD := hide hd
  have HN := hide hn
  clear hd hv hn
  unfold nv
  unfold nds Na.zero Nd.zero at hW
  dsimp only [List.length_nil] at hW
  unfold nds
  go_enter Tryz.func22, Tryz.ntmps22
  go_upto_region 1 with fail
  rw [← hW]
  clear hW
  generalize Value.agg #[.int .i64 d.id, .bool d.up, .bool d.pr, .slice a.im d.im.length a.imc, .slice a.go d.g.length a.gc, .slice a.bo d.n a.bc, .bool d.fi, .bool d.ol, .bool d.he, .int .i64 d.la, .slice a.aA d.A.length a.cA, .slice a.aB d.C.length a.cB, .slice a.co d.co.length a.coc, .slice a.so d.m a.sc, .slice a.cp d.cp.length a.cpc, .slice a.wt d.wt.length a.wtc] = vn at *
  go_wp2_with (refine ld_node rfl _ rfl w.heap.size rfl T0.out.2.1 ?_)
  refine (node_spec a d W HD.out (HV.out _ T0.out.1)).mono ?_
  rintro e w1 ⟨h, c1⟩
  have H1 : Hid (CS w w1 a d []) := T0.out.call (ys := []) c1 RS.nil
  clear c1 T0
  rcases h with ⟨hok, rfl⟩ | ⟨hok, rfl⟩
  · have HE : Hid (dr = dwn d) := HRy.out hok
    clear HRn HRy hok
    go_wp2_with (refine ld_node rfl _ rfl w.heap.size rfl H1.out.2.1 ?_)
    refine (copyn_spec a d w1 HD.out (HV.out _ H1.out.1) HN.out).mono ?_
    rintro e w2 ⟨b, rfl, o2, c2⟩
    have H2 : Hid (CS w w2 a d [] ∧ RN w2 w1.heap.size w2.heap.size b d ∧ w.heap.size + 1 < w1.heap.size) := ⟨H1.out.call (ys := []) c2 RS.nil, o2, by have := H1.out.2.2.2.1; omega⟩
    clear o2 c2 H1
    as_aux_lemma =>
      go_wp2_with fail
      refine (down_s b d w2).mono ?_
      rintro e w3 ⟨g1, g2, g3, rfl, r3, c3⟩
      obtain ⟨b3, hb3⟩ : ∃ b3, b3 = dna b g1 g2 g3 := ⟨_, rfl⟩
      have H3 : Hid (CS w w3 a d [] ∧ ∀ F : World, Only (w.heap.size + 1) w3 F → RN F w.heap.size F.heap.size b3 dr ∧ Below w.heap.size w F) := ⟨H2.out.1.call (ys := []) c3 RS.nil, fun F hF => by
        have hs := hF.2.1
        have h := rn_down H2.out.2.1 (Nat.le_refl _) c3 r3
        have hz := H2.out.1.2.2.2.1
        have h1 := H2.out.2.2
        have hcs := c3.size
        refine ⟨?_, (H2.out.1.1.trans (c3.mono H2.out.1.1.size)).trans (hF.1.mono (by omega))⟩
        rw [HE.out, hb3]
        exact (RN.only h hF (.inr (by omega))).wider (by omega) (by omega) (Nat.le_refl _)⟩
      have HE2 : Hid (nv b3 dr = nv b3 (dwn d)) := (show _ = _ from by rw [HE.out])
      rw [← hb3]
      clear hb3 r3 c3 H2
      generalize dwn d = d5 at *
      go_wp2_with (first
        | (refine st_node rfl _ _ rfl rfl (w.heap.size + 1) b3 d5 rfl rfl H3.out.1.2.2.1 (fun F hF1 hF2 => ?_))
        | (refine bodyPost_ret (v := nv b3 d5) (res_node Tryz.results22 rfl hF2) rfl ⟨b3, (show Ending.returned (nv b3 d5) = Ending.returned (nv b3 dr) from by rw [HE2.out]), H3.out.2 F hF1⟩))
  · have HE : Hid (dr = d) := HRn.out hok
    clear HRn HRy hok
    go_wp2_with (refine ld_node rfl _ rfl w.heap.size rfl H1.out.2.1 ?_)
    refine (copyn_spec a d w1 HD.out (HV.out _ H1.out.1) HN.out).mono ?_
    rintro e w2 ⟨b, rfl, o2, c2⟩
    have H2 : Hid (CS w w2 a d [] ∧ ∀ F : World, Only (w.heap.size + 1) w2 F → RN F w.heap.size F.heap.size b dr ∧ Below w.heap.size w F) := ⟨H1.out.call (ys := []) c2 RS.nil, fun F hF => by
      have hs := hF.2.1
      have hz := H1.out.2.2.2.1
      refine ⟨?_, (H1.out.1.trans (c2.mono H1.out.1.size)).trans (hF.1.mono (by omega))⟩
      rw [HE.out]
      exact (o2.only hF (.inr (by omega))).wider (by omega) (by omega) (Nat.le_refl _)⟩
    have HE2 : Hid (nv b dr = nv b d) := (show _ = _ from by rw [HE.out])
    clear o2 c2 H1
    go_wp2_with (first
      | (refine st_node rfl _ _ rfl rfl (w.heap.size + 1) b d rfl rfl H2.out.1.2.2.1 (fun F hF1 hF2 => ?_))
      | (refine bodyPost_ret (v := nv b d) (res_node Tryz.results22 rfl hF2) rfl ⟨b, (show Ending.returned (nv b d) = Ending.returned (nv b dr) from by rw [HE2.out]), H2.out.2 F hF1⟩))
end Go.Proofs.YtcffhjpdkdaaeaaGreatDoor

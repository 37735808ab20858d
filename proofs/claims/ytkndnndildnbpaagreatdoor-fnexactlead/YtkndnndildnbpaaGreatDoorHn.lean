/- Leave, of the program and of its model. -/
import Derived.Test.YtkndnndildnbpaaGreatDoorHz
import Derived.Test.YtkndnndildnbpaaGreatDoorHe
import Derived.Test.YtkndnndildnbpaaGreatDoorHm

namespace Go.Proofs.YtkndnndildnbpaaGreatDoor
open Go.ChangeShapes Go.WideShapes Go.ChangeAt Go.RowKit
set_option linter.unusedVariables false
set_option linter.unusedSimpArgs false
set_option maxRecDepth 100000

/-- A node that left; where it may. -/
def lvn (d : Nd) : Nd := { d with pr := false, wt := [] }
def LvC (d : Nd) : Prop := NOk d ∧ d.pr = true
theorem ntot_lv {d : Nd} {x : Int} (h : ntot d ≤ x) : ntot (pick Classical.propDecidable (LvC d) (lvn d) d) ≤ x := by
  by_cases hp : LvC d
  · rw [pick_yes hp]
    have e : ntot (lvn d) ≤ ntot d := by simp only [ntot, lvn, List.length_nil]; omega
    exact Int.le_trans e h
  · rw [pick_no hp]; exact h
theorem RN.wt0 {w : World} {B T : Nat} {b : Na} {d : Nd} (h : RN w B T b d) (up' pr' : Bool) : RN w B T { b with wt := none, wtc := 0 } { d with up := up', pr := pr', wt := [] } := by
  obtain ⟨h1, h3, h4, R, Q, h5⟩ := h
  refine ⟨h1, h3, h4, R, Q, fun r hr => ?_⟩
  have k5 : ∀ r ∈ nrows b R Q d, RwOk w B T r := h5
  simp only [nrows, List.mem_cons, List.mem_append, List.not_mem_nil, or_false] at hr k5
  rcases hr with e | e | e | e | e | e | e | e
  · exact k5 r (.inl e)
  · exact k5 r (.inr (.inl e))
  · exact k5 r (.inr (.inr (.inl e)))
  · exact k5 r (.inr (.inr (.inr (.inl e))))
  · exact k5 r (.inr (.inr (.inr (.inr (.inl e)))))
  · exact k5 r (.inr (.inr (.inr (.inr (.inr (.inl e))))))
  · exact k5 r (.inr (.inr (.inr (.inr (.inr (.inr (.inl e)))))))
  · rw [e]; exact none_row

set_option maxHeartbeats 100000000 in
theorem leave_i (a : Na) (d : Nd) (w : World) (hg : ErrT w) (hd : NBd d) (hv : NV w a d) (hn : NNC a) :
    Calls Tryz.prog 48 #[nv a d] w fun e w' => ∃ b, e = .returned (.tuple #[nv b (pick Classical.propDecidable (LvC d) (lvn d) d), .bool (dcd Classical.propDecidable (LvC d))]) ∧ ON w' w.heap.size w'.heap.size b (pick Classical.propDecidable (LvC d) (lvn d) d) ∧ Below w.heap.size w w' := by
  obtain ⟨r, hr⟩ : ∃ r, r = (pick Classical.propDecidable (LvC d) (lvn d) d) := ⟨_, rfl⟩
  obtain ⟨q, hq⟩ : ∃ q, q = (dcd Classical.propDecidable (LvC d)) := ⟨_, rfl⟩
  have HRy : Hid (LvC d → r = lvn d ∧ q = true) := fun h => by rw [hr, hq]; exact ⟨pick_yes h, dcd_yes h⟩
  have HRn : Hid (¬ LvC d → r = d ∧ q = false) := fun h => by rw [hr, hq]; exact ⟨pick_no h, dcd_no h⟩
  rw [← hr, ← hq]
  clear hr hq
  obtain ⟨W, hW⟩ : ∃ W, W = (w.alloc (.cells (nds a d) 31)).alloc (.cells (nds Na.zero Nd.zero) 31) := ⟨_, rfl⟩
  have T0 : Hid (CS w W a d []) := by rw [hW]; exact cs_new w a d
  have HV : Hid (∀ V, Below w.heap.size w V → NV V a d ∧ ErrT V) := fun V hb => ⟨hv.below hb, hg.below hb⟩
  have HD := hide hd
  have HN := hide hn
  clear hd hv hn hg
  unfold nv
  unfold nds Na.zero Nd.zero at hW
  dsimp only [List.length_nil] at hW
  unfold nds
  go_enter Tryz.func48, Tryz.ntmps48
  go_upto_region 1 with fail
  rw [← hW]
  clear hW
  generalize Value.agg #[.int .i64 d.id, .bool d.up, .bool d.pr, .slice a.im d.im.length a.imc, .slice a.go d.g.length a.gc, .slice a.bo d.n a.bc, .bool d.fi, .bool d.ol, .bool d.he, .int .i64 d.la, .slice a.aA d.A.length a.cA, .slice a.aB d.C.length a.cB, .slice a.co d.co.length a.coc, .slice a.so d.m a.sc, .slice a.cp d.cp.length a.cpc, .slice a.wt d.wt.length a.wtc] = vn at *
  go_wp2_with (refine ld_node rfl _ rfl w.heap.size rfl T0.out.2.1 ?_)
  refine (copyn_impl a d W HD.out (HV.out _ T0.out.1).1 HN.out).mono ?_
  rintro e w1 ⟨b, rfl, o1, c1⟩
  obtain ⟨W1, hW1⟩ : ∃ W1, W1 = w1.alloc (.cells (nds b d) 31) := ⟨_, rfl⟩
  have H1 : Hid (FSt w W1 w1.heap.size a d b d ∧ ON W1 (w.heap.size + 1 + 1) w1.heap.size b d) := by
    rw [hW1]
    exact ⟨fs_new T0.out c1, (o1.below (bal1 _ _) (Nat.le_refl _)).wider (by have := T0.out.2.2.2.1; omega) (Nat.le_refl _) (by simp)⟩
  have hlt1 : w.heap.size < w1.heap.size := by have := H1.out.1.2.2.2.2; omega
  clear o1 c1 T0
  unfold nds at hW1
  unfold nv nds
  go_upto_region 2 with fail
  rw [← hW1]
  clear hW1 hlt1
  generalize w1.heap.size = X at *
  generalize Value.agg #[.int .i64 d.id, .bool d.up, .bool d.pr, .slice b.im d.im.length b.imc, .slice b.go d.g.length b.gc, .slice b.bo d.n b.bc, .bool d.fi, .bool d.ol, .bool d.he, .int .i64 d.la, .slice b.aA d.A.length b.cA, .slice b.aB d.C.length b.cB, .slice b.co d.co.length b.coc, .slice b.so d.m b.sc, .slice b.cp d.cp.length b.cpc, .slice b.wt d.wt.length b.wtc] = vb at *
  as_aux_lemma =>
    go_wp2_with (refine ld_node rfl _ rfl w.heap.size rfl H1.out.1.2.1 ?_)
    refine (node_impl a d W1 (HV.out _ H1.out.1.1).2 HD.out (HV.out _ H1.out.1.1).1).mono ?_
    rintro e w2 ⟨h, c2⟩
    have H2 : Hid (FSt w w2 X a d b d ∧ ON w2 (w.heap.size + 1 + 1) X b d ∧ X < w2.heap.size) := ⟨H1.out.1.b c2, H1.out.2.below c2 H1.out.2.1.2, (H1.out.1.b c2).2.2.2.1.lt⟩
    clear c2 H1
    have hX := H2.out.1.2.2.2.2
    have HNO : Hid (¬ LvC d → FSt w w2 X a d b d ∧ r = d ∧ q = false ∧ ∀ F : World, Only (w.heap.size + 1) w2 F → ON F w.heap.size F.heap.size b r ∧ Below w.heap.size w F) := fun hno => ⟨H2.out.1, (HRn.out hno).1, (HRn.out hno).2, fun F hF => by
      have hs := hF.2.1
      rw [(HRn.out hno).1]
      exact ⟨(H2.out.2.1.only hF (.inr (by omega))).wider (by omega) (by have := H2.out.2.2; omega) (Nat.le_refl _), H2.out.1.1.trans (hF.1.mono (by omega))⟩⟩
    rcases h with ⟨hok, rfl⟩ | ⟨hok, rfl⟩
    case inr =>
      have HM := hide (HNO.out (fun h => hok h.1))
      clear HNO HRy HRn H2 hok
      go_wp2_with (first
        | (refine ld_node rfl _ rfl X rfl HM.out.1.2.2.2.1 ?_)
        | (refine st_node rfl _ _ rfl rfl (w.heap.size + 1) b d rfl rfl HM.out.1.2.2.1 (fun F hF1 hF2 => ?_)))
      exact bodyPost_ret (v := .tuple #[nv b d, .bool false]) (res_node_b Tryz.results48 rfl rfl hF2) rfl ⟨b, (by rw [HM.out.2.1, HM.out.2.2.1]; rfl), HM.out.2.2.2 F hF1⟩
    by_cases hp : d.pr = true
    case neg =>
      have HM := hide (HNO.out (fun h => hp h.2))
      have hp' : d.pr = false := by simpa using hp
      have p2 : w2.cell? ⟨w.heap.size, 2, none⟩ = some (.bool false) := by
        have h := H2.out.1.2.1.cells.2.2.1
        rw [hp'] at h
        exact h
      clear HNO HRy HRn H2 hok hp hp'
      go_upto_region 3 with fail
      clear p2
      go_wp2_with (first
        | (refine ld_node rfl _ rfl X rfl HM.out.1.2.2.2.1 ?_)
        | (refine st_node rfl _ _ rfl rfl (w.heap.size + 1) b d rfl rfl HM.out.1.2.2.1 (fun F hF1 hF2 => ?_)))
      exact bodyPost_ret (v := .tuple #[nv b d, .bool false]) (res_node_b Tryz.results48 rfl rfl hF2) rfl ⟨b, (by rw [HM.out.2.1, HM.out.2.2.1]; rfl), HM.out.2.2.2 F hF1⟩
    have HE := hide (HRy.out ⟨hok, hp⟩)
    have p2 : w2.cell? ⟨w.heap.size, 2, none⟩ = some (.bool true) := by
      have h := H2.out.1.2.1.cells.2.2.1
      rw [hp] at h
      exact h
    clear HNO HRy HRn hok hp
    obtain ⟨o0, o1, o2, o3, o4, o5, o6, o7, o8, o9, o10, o11, o12, o13, o14, o15⟩ := H2.out.1.2.2.2.1.cells
    have zX := H2.out.1.2.2.2.1.froz
    clear o0 o1 o3 o4 o5 o6 o7 o8 o9 o10 o11 o12 o13 o14
    obtain ⟨V1, hV1⟩ : ∃ V1, V1 = (w2.setCell ⟨X, 2, none⟩ (.bool false)).setCell ⟨X, 15, none⟩ (.slice none 0 0) := ⟨_, rfl⟩
    obtain ⟨b1, hb1⟩ : ∃ b1 : Na, b1 = { b with wt := none, wtc := 0 } := ⟨_, rfl⟩
    obtain ⟨d1, hd1⟩ : ∃ d1 : Nd, d1 = lvn d := ⟨_, rfl⟩
    have HO1 : Hid (Only X w2 V1) := by rw [hV1]; exact ((Only.refl _ _).setCell _).setCell _
    have hNB : NB V1 X 31 b1 d1 := by
      have n0 := H2.out.1.2.2.2.1
      rw [hV1, hb1, hd1]
      have n2 : NB _ X 31 b { d with pr := false } := nset (i := 2) (v := .bool false) n0 rfl
      exact nset (i := 15) (v := .slice none 0 0) n2 rfl
    have H3 : Hid (FSt w V1 X a d b1 d1 ∧ ON V1 (w.heap.size + 1 + 1) X b1 d1 ∧ X < V1.heap.size) := ⟨H2.out.1.set HO1.out hNB, by rw [hb1, hd1]; exact (H2.out.2.1.only HO1.out (.inl (Nat.le_refl _))).wt0 d.up false, by rw [HO1.out.2.1]; exact H2.out.2.2⟩
    rw [← hd1] at HE
    go_upto_region 5 with fail
    rw [← hV1]
    clear hV1 o2 o15 zX H2 HO1 hNB hb1 hd1 p2
    have HM : Hid (FSt w V1 X a d b1 d1 ∧ ∀ F : World, Only (w.heap.size + 1) V1 F → ON F w.heap.size F.heap.size b1 r ∧ Below w.heap.size w F) := ⟨H3.out.1, fun F hF => by
      have hs := hF.2.1
      rw [HE.out.1]
      exact ⟨(H3.out.2.1.only hF (.inr (by omega))).wider (by omega) (by have := H3.out.2.2; omega) (Nat.le_refl _), H3.out.1.1.trans (hF.1.mono (by omega))⟩⟩
    clear H3
    go_wp2_with (first
      | (refine ld_node rfl _ rfl X rfl HM.out.1.2.2.2.1 ?_)
      | (refine st_node rfl _ _ rfl rfl (w.heap.size + 1) b1 d1 rfl rfl HM.out.1.2.2.1 (fun F hF1 hF2 => ?_)))
    exact bodyPost_ret (v := .tuple #[nv b1 d1, .bool true]) (res_node_b Tryz.results48 rfl rfl hF2) rfl ⟨b1, (by rw [HE.out.1, HE.out.2]; rfl), HM.out.2 F hF1⟩

set_option maxHeartbeats 100000000 in
theorem leave_s (a : Na) (d : Nd) (w : World) (hd : NBd d) (hv : NV w a d) (hn : NNC a) :
    Calls Tryz.prog 47 #[nv a d] w fun e w' => ∃ b, e = .returned (.tuple #[nv b (pick Classical.propDecidable (LvC d) (lvn d) d), .bool (dcd Classical.propDecidable (LvC d))]) ∧ RN w' w.heap.size w'.heap.size b (pick Classical.propDecidable (LvC d) (lvn d) d) ∧ Below w.heap.size w w' := by
  obtain ⟨r, hr⟩ : ∃ r, r = (pick Classical.propDecidable (LvC d) (lvn d) d) := ⟨_, rfl⟩
  obtain ⟨q, hq⟩ : ∃ q, q = (dcd Classical.propDecidable (LvC d)) := ⟨_, rfl⟩
  have HRy : Hid (LvC d → r = lvn d ∧ q = true) := fun h => by rw [hr, hq]; exact ⟨pick_yes h, dcd_yes h⟩
  have HRn : Hid (¬ LvC d → r = d ∧ q = false) := fun h => by rw [hr, hq]; exact ⟨pick_no h, dcd_no h⟩
  rw [← hr, ← hq]
  clear hr hq
  obtain ⟨W, hW⟩ : ∃ W, W = (w.alloc (.cells (nds a d) 31)).alloc (.cells (nds Na.zero Nd.zero) 31) := ⟨_, rfl⟩
  have T0 : Hid (CS w W a d []) := by rw [hW]; exact cs_new w a d
  have HV : Hid (∀ V, Below w.heap.size w V → NV V a d) := fun V hb => hv.below hb
  have HD := hide hd
  have HN := hide hn
  clear hd hv hn
  unfold nv
  unfold nds Na.zero Nd.zero at hW
  dsimp only [List.length_nil] at hW
  unfold nds
  go_enter Tryz.func47, Tryz.ntmps47
  go_upto_region 1 with fail
  rw [← hW]
  clear hW
  generalize Value.agg #[.int .i64 d.id, .bool d.up, .bool d.pr, .slice a.im d.im.length a.imc, .slice a.go d.g.length a.gc, .slice a.bo d.n a.bc, .bool d.fi, .bool d.ol, .bool d.he, .int .i64 d.la, .slice a.aA d.A.length a.cA, .slice a.aB d.C.length a.cB, .slice a.co d.co.length a.coc, .slice a.so d.m a.sc, .slice a.cp d.cp.length a.cpc, .slice a.wt d.wt.length a.wtc] = vn at *
  go_wp2_with (refine ld_node rfl _ rfl w.heap.size rfl T0.out.2.1 ?_)
  refine (copyn_spec a d W HD.out (HV.out _ T0.out.1) HN.out).mono ?_
  rintro e w1 ⟨b, rfl, o1, c1⟩
  obtain ⟨W1, hW1⟩ : ∃ W1, W1 = w1.alloc (.cells (nds b d) 31) := ⟨_, rfl⟩
  have H1 : Hid (FSt w W1 w1.heap.size a d b d ∧ RN W1 (w.heap.size + 1 + 1) w1.heap.size b d) := by
    rw [hW1]
    exact ⟨fs_new T0.out c1, (o1.below (bal1 _ _) (Nat.le_refl _)).wider (by have := T0.out.2.2.2.1; omega) (Nat.le_refl _) (by simp)⟩
  have hlt1 : w.heap.size < w1.heap.size := by have := H1.out.1.2.2.2.2; omega
  clear o1 c1 T0
  unfold nds at hW1
  unfold nv nds
  go_upto_region 2 with fail
  rw [← hW1]
  clear hW1 hlt1
  generalize w1.heap.size = X at *
  generalize Value.agg #[.int .i64 d.id, .bool d.up, .bool d.pr, .slice b.im d.im.length b.imc, .slice b.go d.g.length b.gc, .slice b.bo d.n b.bc, .bool d.fi, .bool d.ol, .bool d.he, .int .i64 d.la, .slice b.aA d.A.length b.cA, .slice b.aB d.C.length b.cB, .slice b.co d.co.length b.coc, .slice b.so d.m b.sc, .slice b.cp d.cp.length b.cpc, .slice b.wt d.wt.length b.wtc] = vb at *
  as_aux_lemma =>
    go_wp2_with (refine ld_node rfl _ rfl w.heap.size rfl H1.out.1.2.1 ?_)
    refine (node_spec a d W1 HD.out (HV.out _ H1.out.1.1)).mono ?_
    rintro e w2 ⟨h, c2⟩
    have H2 : Hid (FSt w w2 X a d b d ∧ RN w2 (w.heap.size + 1 + 1) X b d ∧ X < w2.heap.size) := ⟨H1.out.1.b c2, H1.out.2.below c2 H1.out.2.1.2, (H1.out.1.b c2).2.2.2.1.lt⟩
    clear c2 H1
    have hX := H2.out.1.2.2.2.2
    have HNO : Hid (¬ LvC d → FSt w w2 X a d b d ∧ r = d ∧ q = false ∧ ∀ F : World, Only (w.heap.size + 1) w2 F → RN F w.heap.size F.heap.size b r ∧ Below w.heap.size w F) := fun hno => ⟨H2.out.1, (HRn.out hno).1, (HRn.out hno).2, fun F hF => by
      have hs := hF.2.1
      rw [(HRn.out hno).1]
      exact ⟨(H2.out.2.1.only hF (.inr (by omega))).wider (by omega) (by have := H2.out.2.2; omega) (Nat.le_refl _), H2.out.1.1.trans (hF.1.mono (by omega))⟩⟩
    rcases h with ⟨hok, rfl⟩ | ⟨hok, rfl⟩
    case inr =>
      have HM := hide (HNO.out (fun h => hok h.1))
      clear HNO HRy HRn H2 hok
      go_wp2_with (first
        | (refine ld_node rfl _ rfl X rfl HM.out.1.2.2.2.1 ?_)
        | (refine st_node rfl _ _ rfl rfl (w.heap.size + 1) b d rfl rfl HM.out.1.2.2.1 (fun F hF1 hF2 => ?_)))
      exact bodyPost_ret (v := .tuple #[nv b d, .bool false]) (res_node_b Tryz.results47 rfl rfl hF2) rfl ⟨b, (by rw [HM.out.2.1, HM.out.2.2.1]; rfl), HM.out.2.2.2 F hF1⟩
    by_cases hp : d.pr = true
    case neg =>
      have HM := hide (HNO.out (fun h => hp h.2))
      have hp' : d.pr = false := by simpa using hp
      have p2 : w2.cell? ⟨w.heap.size, 2, none⟩ = some (.bool false) := by
        have h := H2.out.1.2.1.cells.2.2.1
        rw [hp'] at h
        exact h
      clear HNO HRy HRn H2 hok hp hp'
      go_upto_region 3 with fail
      clear p2
      go_wp2_with (first
        | (refine ld_node rfl _ rfl X rfl HM.out.1.2.2.2.1 ?_)
        | (refine st_node rfl _ _ rfl rfl (w.heap.size + 1) b d rfl rfl HM.out.1.2.2.1 (fun F hF1 hF2 => ?_)))
      exact bodyPost_ret (v := .tuple #[nv b d, .bool false]) (res_node_b Tryz.results47 rfl rfl hF2) rfl ⟨b, (by rw [HM.out.2.1, HM.out.2.2.1]; rfl), HM.out.2.2.2 F hF1⟩
    have HE := hide (HRy.out ⟨hok, hp⟩)
    have p2 : w2.cell? ⟨w.heap.size, 2, none⟩ = some (.bool true) := by
      have h := H2.out.1.2.1.cells.2.2.1
      rw [hp] at h
      exact h
    clear HNO HRy HRn hok hp
    obtain ⟨o0, o1, o2, o3, o4, o5, o6, o7, o8, o9, o10, o11, o12, o13, o14, o15⟩ := H2.out.1.2.2.2.1.cells
    have zX := H2.out.1.2.2.2.1.froz
    clear o0 o1 o3 o4 o5 o6 o7 o8 o9 o10 o11 o12 o13 o14
    obtain ⟨V1, hV1⟩ : ∃ V1, V1 = (w2.setCell ⟨X, 2, none⟩ (.bool false)).setCell ⟨X, 15, none⟩ (.slice none 0 0) := ⟨_, rfl⟩
    obtain ⟨b1, hb1⟩ : ∃ b1 : Na, b1 = { b with wt := none, wtc := 0 } := ⟨_, rfl⟩
    obtain ⟨d1, hd1⟩ : ∃ d1 : Nd, d1 = lvn d := ⟨_, rfl⟩
    have HO1 : Hid (Only X w2 V1) := by rw [hV1]; exact ((Only.refl _ _).setCell _).setCell _
    have hNB : NB V1 X 31 b1 d1 := by
      have n0 := H2.out.1.2.2.2.1
      rw [hV1, hb1, hd1]
      have n2 : NB _ X 31 b { d with pr := false } := nset (i := 2) (v := .bool false) n0 rfl
      exact nset (i := 15) (v := .slice none 0 0) n2 rfl
    have H3 : Hid (FSt w V1 X a d b1 d1 ∧ RN V1 (w.heap.size + 1 + 1) X b1 d1 ∧ X < V1.heap.size) := ⟨H2.out.1.set HO1.out hNB, by rw [hb1, hd1]; exact (H2.out.2.1.only HO1.out (.inl (Nat.le_refl _))).wt0 d.up false, by rw [HO1.out.2.1]; exact H2.out.2.2⟩
    rw [← hd1] at HE
    go_upto_region 6 with fail
    rw [← hV1]
    clear hV1 o2 o15 zX H2 HO1 hNB hb1 hd1 p2
    have HM : Hid (FSt w V1 X a d b1 d1 ∧ ∀ F : World, Only (w.heap.size + 1) V1 F → RN F w.heap.size F.heap.size b1 r ∧ Below w.heap.size w F) := ⟨H3.out.1, fun F hF => by
      have hs := hF.2.1
      rw [HE.out.1]
      exact ⟨(H3.out.2.1.only hF (.inr (by omega))).wider (by omega) (by have := H3.out.2.2; omega) (Nat.le_refl _), H3.out.1.1.trans (hF.1.mono (by omega))⟩⟩
    clear H3
    go_wp2_with (first
      | (refine ld_node rfl _ rfl X rfl HM.out.1.2.2.2.1 ?_)
      | (refine st_node rfl _ _ rfl rfl (w.heap.size + 1) b1 d1 rfl rfl HM.out.1.2.2.1 (fun F hF1 hF2 => ?_)))
    exact bodyPost_ret (v := .tuple #[nv b1 d1, .bool true]) (res_node_b Tryz.results47 rfl rfl hF2) rfl ⟨b1, (by rw [HE.out.1, HE.out.2]; rfl), HM.out.2 F hF1⟩
/-- A node that leads. -/
def ldn (d : Nd) : Nd := { d with pr := true }
theorem ntot_ld {d1 d2 : Nd} {q1 : Bool} {x : Int} (h : ntot d1 ≤ x) : ntot (pick Classical.propDecidable (MlC d1 d2 q1) (ldn d1) d1) ≤ x := by
  by_cases hp : MlC d1 d2 q1
  · rw [pick_yes hp]; exact h
  · rw [pick_no hp]; exact h
/-- Two nodes came in, the result's block behind them; a copy at block X. -/
def FL0 (w V : World) (a1 a2 : Na) (d1 d2 : Nd) : Prop := Below w.heap.size w V ∧ NB V w.heap.size 31 a1 d1 ∧ NB V (w.heap.size + 1) 31 a2 d2 ∧ NB V (w.heap.size + 1 + 1) 31 Na.zero Nd.zero ∧ w.heap.size + 1 + 1 < V.heap.size
theorem fl0_new (w : World) (a1 a2 : Na) (d1 d2 : Nd) : FL0 w (((w.alloc (.cells (nds a1 d1) 31)).alloc (.cells (nds a2 d2) 31)).alloc (.cells (nds Na.zero Nd.zero) 31)) a1 a2 d1 d2 := by
  obtain ⟨s0, s1, s2, s4⟩ := bal3 w (.cells (nds a1 d1) 31) (.cells (nds a2 d2) 31) (.cells (nds Na.zero Nd.zero) 31)
  exact ⟨((bal1 _ _).alloc (by simp) _).alloc (by simp; omega) _, s0, s1, s2, by rw [s4]; omega⟩
def FL (w V : World) (X : Nat) (a1 a2 : Na) (d1 d2 : Nd) (b : Na) (d' : Nd) : Prop :=
  Below w.heap.size w V ∧ NB V w.heap.size 31 a1 d1 ∧ NB V (w.heap.size + 1) 31 a2 d2 ∧ NB V (w.heap.size + 1 + 1) 31 Na.zero Nd.zero ∧ NB V X 31 b d' ∧ w.heap.size + 1 + 1 < X
theorem FL.b {w V V' : World} {X : Nat} {a1 a2 b : Na} {d1 d2 d' : Nd} (h : FL w V X a1 a2 d1 d2 b d') (hb : Below V.heap.size V V') : FL w V' X a1 a2 d1 d2 b d' :=
  ⟨h.1.trans (hb.mono h.1.size), h.2.1.b hb, h.2.2.1.b hb, h.2.2.2.1.b hb, h.2.2.2.2.1.b hb, h.2.2.2.2.2⟩
theorem FL.set {w V V' : World} {X : Nat} {a1 a2 b b2 : Na} {d1 d2 d' e2 : Nd} (h : FL w V X a1 a2 d1 d2 b d') (ho : Only X V V') (hn : NB V' X 31 b2 e2) : FL w V' X a1 a2 d1 d2 b2 e2 := by
  have hX := h.2.2.2.2.2
  exact ⟨h.1.trans (ho.1.mono (by omega)), h.2.1.far ho (by omega), h.2.2.1.far ho (by omega), h.2.2.2.1.far ho (by omega), hn, hX⟩
theorem fl_new {w W w1 : World} {a1 a2 b : Na} {d1 d2 : Nd} (h : FL0 w W a1 a2 d1 d2) (hb : Below W.heap.size W w1) : FL w (w1.alloc (.cells (nds b d1) 31)) w1.heap.size a1 a2 d1 d2 b d1 := by
  have bx := bal1 w1 (.cells (nds b d1) 31)
  have cc := h.1.trans (hb.mono h.1.size)
  exact ⟨cc.trans (bx.mono cc.size), (h.2.1.b hb).b bx, (h.2.2.1.b hb).b bx, (h.2.2.2.1.b hb).b bx, NB.new _ _ _ _, by have := hb.size; have := h.2.2.2.2; omega⟩

set_option maxHeartbeats 100000000 in
theorem lead_i (a1 a2 : Na) (d1 d2 : Nd) (q1 : Bool) (w : World) (hg : ErrL w) (hd1 : NBd d1) (hd2 : NBd d2) (hv1 : NV w a1 d1) (hv2 : NV w a2 d2) (hn1 : NNC a1) :
    Calls Tryz.prog 46 #[nv a1 d1, nv a2 d2, .bool q1] w fun e w' => ∃ b, e = .returned (.tuple #[nv b (pick Classical.propDecidable (MlC d1 d2 q1) (ldn d1) d1), .bool (dcd Classical.propDecidable (MlC d1 d2 q1))]) ∧ ON w' w.heap.size w'.heap.size b (pick Classical.propDecidable (MlC d1 d2 q1) (ldn d1) d1) ∧ Below w.heap.size w w' := by
  obtain ⟨r, hr⟩ : ∃ r, r = (pick Classical.propDecidable (MlC d1 d2 q1) (ldn d1) d1) := ⟨_, rfl⟩
  obtain ⟨q, hq⟩ : ∃ q, q = (dcd Classical.propDecidable (MlC d1 d2 q1)) := ⟨_, rfl⟩
  have HRy : Hid (MlC d1 d2 q1 → r = ldn d1 ∧ q = true) := fun h => by rw [hr, hq]; exact ⟨pick_yes h, dcd_yes h⟩
  have HRn : Hid (¬ MlC d1 d2 q1 → r = d1 ∧ q = false) := fun h => by rw [hr, hq]; exact ⟨pick_no h, dcd_no h⟩
  rw [← hr, ← hq]
  clear hr hq
  obtain ⟨W, hW⟩ : ∃ W, W = ((w.alloc (.cells (nds a1 d1) 31)).alloc (.cells (nds a2 d2) 31)).alloc (.cells (nds Na.zero Nd.zero) 31) := ⟨_, rfl⟩
  have T0 : Hid (FL0 w W a1 a2 d1 d2) := by rw [hW]; exact fl0_new w a1 a2 d1 d2
  have HV : Hid (∀ V, Below w.heap.size w V → NV V a1 d1 ∧ NV V a2 d2 ∧ ErrL V) := fun V hb => ⟨hv1.below hb, hv2.below hb, hg.below hb⟩
  have HD : Hid (NBd d1 ∧ NBd d2) := ⟨hd1, hd2⟩
  have HN := hide hn1
  clear hd1 hd2 hv1 hv2 hn1 hg
  unfold nv
  unfold nds Na.zero Nd.zero at hW
  dsimp only [List.length_nil] at hW
  unfold nds
  go_enter Tryz.func46, Tryz.ntmps46
  go_upto_region 1 with fail
  rw [← hW]
  clear hW
  generalize Value.agg #[.int .i64 d1.id, .bool d1.up, .bool d1.pr, .slice a1.im d1.im.length a1.imc, .slice a1.go d1.g.length a1.gc, .slice a1.bo d1.n a1.bc, .bool d1.fi, .bool d1.ol, .bool d1.he, .int .i64 d1.la, .slice a1.aA d1.A.length a1.cA, .slice a1.aB d1.C.length a1.cB, .slice a1.co d1.co.length a1.coc, .slice a1.so d1.m a1.sc, .slice a1.cp d1.cp.length a1.cpc, .slice a1.wt d1.wt.length a1.wtc] = vn1 at *
  generalize Value.agg #[.int .i64 d2.id, .bool d2.up, .bool d2.pr, .slice a2.im d2.im.length a2.imc, .slice a2.go d2.g.length a2.gc, .slice a2.bo d2.n a2.bc, .bool d2.fi, .bool d2.ol, .bool d2.he, .int .i64 d2.la, .slice a2.aA d2.A.length a2.cA, .slice a2.aB d2.C.length a2.cB, .slice a2.co d2.co.length a2.coc, .slice a2.so d2.m a2.sc, .slice a2.cp d2.cp.length a2.cpc, .slice a2.wt d2.wt.length a2.wtc] = vn2 at *
  go_wp2_with (refine ld_node rfl _ rfl w.heap.size rfl T0.out.2.1 ?_)
  refine (copyn_impl a1 d1 W HD.out.1 (HV.out _ T0.out.1).1 HN.out).mono ?_
  rintro e w1 ⟨b, rfl, o1, c1⟩
  obtain ⟨W1, hW1⟩ : ∃ W1, W1 = w1.alloc (.cells (nds b d1) 31) := ⟨_, rfl⟩
  have H1 : Hid (FL w W1 w1.heap.size a1 a2 d1 d2 b d1 ∧ ON W1 (w.heap.size + 1 + 1 + 1) w1.heap.size b d1) := by
    rw [hW1]
    exact ⟨fl_new T0.out c1, (o1.below (bal1 _ _) (Nat.le_refl _)).wider (by have := T0.out.2.2.2.2; omega) (Nat.le_refl _) (by simp)⟩
  have hlt1 : w.heap.size < w1.heap.size := by have := H1.out.1.2.2.2.2.2; omega
  clear o1 c1 T0
  unfold nds at hW1
  unfold nv nds
  go_upto_region 2 with fail
  rw [← hW1]
  clear hW1 hlt1
  generalize w1.heap.size = X at *
  generalize Value.agg #[.int .i64 d1.id, .bool d1.up, .bool d1.pr, .slice b.im d1.im.length b.imc, .slice b.go d1.g.length b.gc, .slice b.bo d1.n b.bc, .bool d1.fi, .bool d1.ol, .bool d1.he, .int .i64 d1.la, .slice b.aA d1.A.length b.cA, .slice b.aB d1.C.length b.cB, .slice b.co d1.co.length b.coc, .slice b.so d1.m b.sc, .slice b.cp d1.cp.length b.cpc, .slice b.wt d1.wt.length b.wtc] = vb at *
  as_aux_lemma =>
    go_wp2_with (first | (refine ld_node rfl _ rfl w.heap.size rfl H1.out.1.2.1 ?_) | (refine ld_node rfl _ rfl (w.heap.size + 1) rfl H1.out.1.2.2.1 ?_))
    refine (maylead_i a1 a2 d1 d2 q1 W1 (HV.out _ H1.out.1.1).2.2 HD.out.1 HD.out.2 (HV.out _ H1.out.1.1).1 (HV.out _ H1.out.1.1).2.1).mono ?_
    rintro e w2 ⟨h, c2⟩
    have H2 : Hid (FL w w2 X a1 a2 d1 d2 b d1 ∧ ON w2 (w.heap.size + 1 + 1 + 1) X b d1 ∧ X < w2.heap.size) := ⟨H1.out.1.b c2, H1.out.2.below c2 H1.out.2.1.2, (H1.out.1.b c2).2.2.2.2.1.lt⟩
    clear c2 H1
    have hX := H2.out.1.2.2.2.2.2
    rcases h with ⟨hok, rfl⟩ | ⟨hok, rfl⟩
    case inr =>
      have HM : Hid (FL w w2 X a1 a2 d1 d2 b d1 ∧ r = d1 ∧ q = false ∧ ∀ F : World, Only (w.heap.size + 1 + 1) w2 F → ON F w.heap.size F.heap.size b r ∧ Below w.heap.size w F) := ⟨H2.out.1, (HRn.out hok).1, (HRn.out hok).2, fun F hF => by
        have hs := hF.2.1
        rw [(HRn.out hok).1]
        exact ⟨(H2.out.2.1.only hF (.inr (by omega))).wider (by omega) (by have := H2.out.2.2; omega) (Nat.le_refl _), H2.out.1.1.trans (hF.1.mono (by omega))⟩⟩
      clear HRy HRn H2 hok
      go_wp2_with (first
        | (refine ld_node rfl _ rfl X rfl HM.out.1.2.2.2.2.1 ?_)
        | (refine st_node rfl _ _ rfl rfl (w.heap.size + 1 + 1) b d1 rfl rfl HM.out.1.2.2.2.1 (fun F hF1 hF2 => ?_)))
      exact bodyPost_ret (v := .tuple #[nv b d1, .bool false]) (res_node_b Tryz.results46 rfl rfl hF2) rfl ⟨b, (by rw [HM.out.2.1, HM.out.2.2.1]; rfl), HM.out.2.2.2 F hF1⟩
    have HE := hide (HRy.out hok)
    clear HRy HRn hok
    obtain ⟨o0, o1, o2, o3, o4, o5, o6, o7, o8, o9, o10, o11, o12, o13, o14, o15⟩ := H2.out.1.2.2.2.2.1.cells
    have zX := H2.out.1.2.2.2.2.1.froz
    clear o0 o1 o3 o4 o5 o6 o7 o8 o9 o10 o11 o12 o13 o14 o15
    obtain ⟨V1, hV1⟩ : ∃ V1, V1 = w2.setCell ⟨X, 2, none⟩ (.bool true) := ⟨_, rfl⟩
    obtain ⟨dn, hdn⟩ : ∃ dn : Nd, dn = ldn d1 := ⟨_, rfl⟩
    have HO1 : Hid (Only X w2 V1) := by rw [hV1]; exact (Only.refl _ _).setCell _
    have hNB : NB V1 X 31 b dn := by
      have n0 := H2.out.1.2.2.2.2.1
      rw [hV1, hdn]
      exact nset (i := 2) (v := .bool true) n0 rfl
    have H3 : Hid (FL w V1 X a1 a2 d1 d2 b dn ∧ ON V1 (w.heap.size + 1 + 1 + 1) X b dn ∧ X < V1.heap.size) := ⟨H2.out.1.set HO1.out hNB, by rw [hdn]; exact (H2.out.2.1.only HO1.out (.inl (Nat.le_refl _))), by rw [HO1.out.2.1]; exact H2.out.2.2⟩
    rw [← hdn] at HE
    go_upto_region 5 with fail
    rw [← hV1]
    clear hV1 o2 zX H2 HO1 hNB hdn
    have HM : Hid (FL w V1 X a1 a2 d1 d2 b dn ∧ ∀ F : World, Only (w.heap.size + 1 + 1) V1 F → ON F w.heap.size F.heap.size b r ∧ Below w.heap.size w F) := ⟨H3.out.1, fun F hF => by
      have hs := hF.2.1
      rw [HE.out.1]
      exact ⟨(H3.out.2.1.only hF (.inr (by omega))).wider (by omega) (by have := H3.out.2.2; omega) (Nat.le_refl _), H3.out.1.1.trans (hF.1.mono (by omega))⟩⟩
    clear H3
    go_wp2_with (first
      | (refine ld_node rfl _ rfl X rfl HM.out.1.2.2.2.2.1 ?_)
      | (refine st_node rfl _ _ rfl rfl (w.heap.size + 1 + 1) b dn rfl rfl HM.out.1.2.2.2.1 (fun F hF1 hF2 => ?_)))
    exact bodyPost_ret (v := .tuple #[nv b dn, .bool true]) (res_node_b Tryz.results46 rfl rfl hF2) rfl ⟨b, (by rw [HE.out.1, HE.out.2]; rfl), HM.out.2 F hF1⟩

set_option maxHeartbeats 100000000 in
theorem lead_s (a1 a2 : Na) (d1 d2 : Nd) (q1 : Bool) (w : World) (hd1 : NBd d1) (hd2 : NBd d2) (hv1 : NV w a1 d1) (hv2 : NV w a2 d2) (hn1 : NNC a1) :
    Calls Tryz.prog 45 #[nv a1 d1, nv a2 d2, .bool q1] w fun e w' => ∃ b, e = .returned (.tuple #[nv b (pick Classical.propDecidable (MlC d1 d2 q1) (ldn d1) d1), .bool (dcd Classical.propDecidable (MlC d1 d2 q1))]) ∧ RN w' w.heap.size w'.heap.size b (pick Classical.propDecidable (MlC d1 d2 q1) (ldn d1) d1) ∧ Below w.heap.size w w' := by
  obtain ⟨r, hr⟩ : ∃ r, r = (pick Classical.propDecidable (MlC d1 d2 q1) (ldn d1) d1) := ⟨_, rfl⟩
  obtain ⟨q, hq⟩ : ∃ q, q = (dcd Classical.propDecidable (MlC d1 d2 q1)) := ⟨_, rfl⟩
  have HRy : Hid (MlC d1 d2 q1 → r = ldn d1 ∧ q = true) := fun h => by rw [hr, hq]; exact ⟨pick_yes h, dcd_yes h⟩
  have HRn : Hid (¬ MlC d1 d2 q1 → r = d1 ∧ q = false) := fun h => by rw [hr, hq]; exact ⟨pick_no h, dcd_no h⟩
  rw [← hr, ← hq]
  clear hr hq
  obtain ⟨W, hW⟩ : ∃ W, W = ((w.alloc (.cells (nds a1 d1) 31)).alloc (.cells (nds a2 d2) 31)).alloc (.cells (nds Na.zero Nd.zero) 31) := ⟨_, rfl⟩
  have T0 : Hid (FL0 w W a1 a2 d1 d2) := by rw [hW]; exact fl0_new w a1 a2 d1 d2
  have HV : Hid (∀ V, Below w.heap.size w V → NV V a1 d1 ∧ NV V a2 d2) := fun V hb => ⟨hv1.below hb, hv2.below hb⟩
  have HD : Hid (NBd d1 ∧ NBd d2) := ⟨hd1, hd2⟩
  have HN := hide hn1
  clear hd1 hd2 hv1 hv2 hn1
  unfold nv
  unfold nds Na.zero Nd.zero at hW
  dsimp only [List.length_nil] at hW
  unfold nds
  go_enter Tryz.func45, Tryz.ntmps45
  go_upto_region 1 with fail
  rw [← hW]
  clear hW
  generalize Value.agg #[.int .i64 d1.id, .bool d1.up, .bool d1.pr, .slice a1.im d1.im.length a1.imc, .slice a1.go d1.g.length a1.gc, .slice a1.bo d1.n a1.bc, .bool d1.fi, .bool d1.ol, .bool d1.he, .int .i64 d1.la, .slice a1.aA d1.A.length a1.cA, .slice a1.aB d1.C.length a1.cB, .slice a1.co d1.co.length a1.coc, .slice a1.so d1.m a1.sc, .slice a1.cp d1.cp.length a1.cpc, .slice a1.wt d1.wt.length a1.wtc] = vn1 at *
  generalize Value.agg #[.int .i64 d2.id, .bool d2.up, .bool d2.pr, .slice a2.im d2.im.length a2.imc, .slice a2.go d2.g.length a2.gc, .slice a2.bo d2.n a2.bc, .bool d2.fi, .bool d2.ol, .bool d2.he, .int .i64 d2.la, .slice a2.aA d2.A.length a2.cA, .slice a2.aB d2.C.length a2.cB, .slice a2.co d2.co.length a2.coc, .slice a2.so d2.m a2.sc, .slice a2.cp d2.cp.length a2.cpc, .slice a2.wt d2.wt.length a2.wtc] = vn2 at *
  go_wp2_with (refine ld_node rfl _ rfl w.heap.size rfl T0.out.2.1 ?_)
  refine (copyn_spec a1 d1 W HD.out.1 (HV.out _ T0.out.1).1 HN.out).mono ?_
  rintro e w1 ⟨b, rfl, o1, c1⟩
  obtain ⟨W1, hW1⟩ : ∃ W1, W1 = w1.alloc (.cells (nds b d1) 31) := ⟨_, rfl⟩
  have H1 : Hid (FL w W1 w1.heap.size a1 a2 d1 d2 b d1 ∧ RN W1 (w.heap.size + 1 + 1 + 1) w1.heap.size b d1) := by
    rw [hW1]
    exact ⟨fl_new T0.out c1, (o1.below (bal1 _ _) (Nat.le_refl _)).wider (by have := T0.out.2.2.2.2; omega) (Nat.le_refl _) (by simp)⟩
  have hlt1 : w.heap.size < w1.heap.size := by have := H1.out.1.2.2.2.2.2; omega
  clear o1 c1 T0
  unfold nds at hW1
  unfold nv nds
  go_upto_region 2 with fail
  rw [← hW1]
  clear hW1 hlt1
  generalize w1.heap.size = X at *
  generalize Value.agg #[.int .i64 d1.id, .bool d1.up, .bool d1.pr, .slice b.im d1.im.length b.imc, .slice b.go d1.g.length b.gc, .slice b.bo d1.n b.bc, .bool d1.fi, .bool d1.ol, .bool d1.he, .int .i64 d1.la, .slice b.aA d1.A.length b.cA, .slice b.aB d1.C.length b.cB, .slice b.co d1.co.length b.coc, .slice b.so d1.m b.sc, .slice b.cp d1.cp.length b.cpc, .slice b.wt d1.wt.length b.wtc] = vb at *
  as_aux_lemma =>
    go_wp2_with (first | (refine ld_node rfl _ rfl w.heap.size rfl H1.out.1.2.1 ?_) | (refine ld_node rfl _ rfl (w.heap.size + 1) rfl H1.out.1.2.2.1 ?_))
    refine (maylead_s a1 a2 d1 d2 q1 W1 HD.out.1 HD.out.2 (HV.out _ H1.out.1.1).1 (HV.out _ H1.out.1.1).2).mono ?_
    rintro e w2 ⟨h, c2⟩
    have H2 : Hid (FL w w2 X a1 a2 d1 d2 b d1 ∧ RN w2 (w.heap.size + 1 + 1 + 1) X b d1 ∧ X < w2.heap.size) := ⟨H1.out.1.b c2, H1.out.2.below c2 H1.out.2.1.2, (H1.out.1.b c2).2.2.2.2.1.lt⟩
    clear c2 H1
    have hX := H2.out.1.2.2.2.2.2
    rcases h with ⟨hok, rfl⟩ | ⟨hok, rfl⟩
    case inr =>
      have HM : Hid (FL w w2 X a1 a2 d1 d2 b d1 ∧ r = d1 ∧ q = false ∧ ∀ F : World, Only (w.heap.size + 1 + 1) w2 F → RN F w.heap.size F.heap.size b r ∧ Below w.heap.size w F) := ⟨H2.out.1, (HRn.out hok).1, (HRn.out hok).2, fun F hF => by
        have hs := hF.2.1
        rw [(HRn.out hok).1]
        exact ⟨(H2.out.2.1.only hF (.inr (by omega))).wider (by omega) (by have := H2.out.2.2; omega) (Nat.le_refl _), H2.out.1.1.trans (hF.1.mono (by omega))⟩⟩
      clear HRy HRn H2 hok
      go_wp2_with (first
        | (refine ld_node rfl _ rfl X rfl HM.out.1.2.2.2.2.1 ?_)
        | (refine st_node rfl _ _ rfl rfl (w.heap.size + 1 + 1) b d1 rfl rfl HM.out.1.2.2.2.1 (fun F hF1 hF2 => ?_)))
      exact bodyPost_ret (v := .tuple #[nv b d1, .bool false]) (res_node_b Tryz.results45 rfl rfl hF2) rfl ⟨b, (by rw [HM.out.2.1, HM.out.2.2.1]; rfl), HM.out.2.2.2 F hF1⟩
    have HE := hide (HRy.out hok)
    clear HRy HRn hok
    obtain ⟨o0, o1, o2, o3, o4, o5, o6, o7, o8, o9, o10, o11, o12, o13, o14, o15⟩ := H2.out.1.2.2.2.2.1.cells
    have zX := H2.out.1.2.2.2.2.1.froz
    clear o0 o1 o3 o4 o5 o6 o7 o8 o9 o10 o11 o12 o13 o14 o15
    obtain ⟨V1, hV1⟩ : ∃ V1, V1 = w2.setCell ⟨X, 2, none⟩ (.bool true) := ⟨_, rfl⟩
    obtain ⟨dn, hdn⟩ : ∃ dn : Nd, dn = ldn d1 := ⟨_, rfl⟩
    have HO1 : Hid (Only X w2 V1) := by rw [hV1]; exact (Only.refl _ _).setCell _
    have hNB : NB V1 X 31 b dn := by
      have n0 := H2.out.1.2.2.2.2.1
      rw [hV1, hdn]
      exact nset (i := 2) (v := .bool true) n0 rfl
    have H3 : Hid (FL w V1 X a1 a2 d1 d2 b dn ∧ RN V1 (w.heap.size + 1 + 1 + 1) X b dn ∧ X < V1.heap.size) := ⟨H2.out.1.set HO1.out hNB, by rw [hdn]; exact (H2.out.2.1.only HO1.out (.inl (Nat.le_refl _))), by rw [HO1.out.2.1]; exact H2.out.2.2⟩
    rw [← hdn] at HE
    go_upto_region 5 with fail
    rw [← hV1]
    clear hV1 o2 zX H2 HO1 hNB hdn
    have HM : Hid (FL w V1 X a1 a2 d1 d2 b dn ∧ ∀ F : World, Only (w.heap.size + 1 + 1) V1 F → RN F w.heap.size F.heap.size b r ∧ Below w.heap.size w F) := ⟨H3.out.1, fun F hF => by
      have hs := hF.2.1
      rw [HE.out.1]
      exact ⟨(H3.out.2.1.only hF (.inr (by omega))).wider (by omega) (by have := H3.out.2.2; omega) (Nat.le_refl _), H3.out.1.1.trans (hF.1.mono (by omega))⟩⟩
    clear H3
    go_wp2_with (first
      | (refine ld_node rfl _ rfl X rfl HM.out.1.2.2.2.2.1 ?_)
      | (refine st_node rfl _ _ rfl rfl (w.heap.size + 1 + 1) b dn rfl rfl HM.out.1.2.2.2.1 (fun F hF1 hF2 => ?_)))
    exact bodyPost_ret (v := .tuple #[nv b dn, .bool true]) (res_node_b Tryz.results45 rfl rfl hF2) rfl ⟨b, (by rw [HE.out.1, HE.out.2]; rfl), HM.out.2 F hF1⟩
end Go.Proofs.YtkndnndildnbpaaGreatDoor

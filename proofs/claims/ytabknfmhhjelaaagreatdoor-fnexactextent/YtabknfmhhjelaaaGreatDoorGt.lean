/- Extent of both. -/
import Derived.Test.YtabknfmhhjelaaaGreatDoorGs
import Derived.Test.YtabknfmhhjelaaaGreatDoorNdNZ
import Derived.Test.YtabknfmhhjelaaaGreatDoorNdOZ

namespace Go.Proofs.YtabknfmhhjelaaaGreatDoor
open Go.ChangeShapes Go.WideShapes Go.ChangeAt Go.RowKit
set_option linter.unusedVariables false
set_option linter.unusedSimpArgs false
set_option maxRecDepth 100000

/-- What Extent answers. -/
def exl (D : (p : Prop) → Decidable p) (d1 d2 : Nd) : List Int := @ite (List Int) (NOk d1 ∧ NOk d2) (D _) (uni (d1.L d2.id.toNat) (d2.L d1.id.toNat)) []
theorem exl_yes {d1 d2 : Nd} (h : NOk d1 ∧ NOk d2) : exl Classical.propDecidable d1 d2 = uni (d1.L d2.id.toNat) (d2.L d1.id.toNat) := by unfold exl; exact if_pos h
theorem exl_no {d1 d2 : Nd} (h : ¬ (NOk d1 ∧ NOk d2)) : exl Classical.propDecidable d1 d2 = [] := by unfold exl; exact if_neg h
theorem exl_asc (d1 d2 : Nd) : Asc (exl Classical.propDecidable d1 d2) := by
  by_cases h : NOk d1 ∧ NOk d2
  · rw [exl_yes h]; exact uni_asc _ _
  · rw [exl_no h]; exact Asc.nil
theorem NOk.ids {d : Nd} (h : NOk d) : ∃ k : Nat, k < 3 ∧ d.id = k ∧ d.id.toNat = k := ⟨d.id.toNat, by have := h.1; omega, by have := h.1; omega, rfl⟩
theorem NOk.three {d : Nd} (h : NOk d) : d.n = 3 := h.2.2.1.2.1.1
/-- Two nodes in blocks of their own. -/
def N2 (w V : World) (t : TypeId) (a1 a2 : Na) (d1 d2 : Nd) : Prop := Below w.heap.size w V ∧ NB V w.heap.size t a1 d1 ∧ NB V (w.heap.size + 1) t a2 d2
theorem N2.b {w V V' : World} {t : TypeId} {a1 a2 : Na} {d1 d2 : Nd} (h : N2 w V t a1 a2 d1 d2) (hb : Below V.heap.size V V') : N2 w V' t a1 a2 d1 d2 := ⟨h.1.trans (hb.mono h.1.size), h.2.1.b hb, h.2.2.b hb⟩
theorem N2.sz {w V : World} {t : TypeId} {a1 a2 : Na} {d1 d2 : Nd} (h : N2 w V t a1 a2 d1 d2) : w.heap.size + 2 ≤ V.heap.size := h.2.2.lt
theorem N2.new (w : World) (t : TypeId) (a1 a2 : Na) (d1 d2 : Nd) : N2 w ((w.alloc (.cells (nds a1 d1) t)).alloc (.cells (nds a2 d2) t)) t a1 a2 d1 d2 := by
  have h1 := NB.new w t a1 d1
  have h2 := NB.new (w.alloc (.cells (nds a1 d1) t)) t a2 d2
  have e : (w.alloc (.cells (nds a1 d1) t)).heap.size = w.heap.size + 1 := by simp
  have b := bal1 (w.alloc (.cells (nds a1 d1) t)) (.cells (nds a2 d2) t)
  rw [e] at h2 b
  exact ⟨(bal1 w _).trans (b.mono (by omega)), h1.below b (by omega), h2⟩

set_option maxHeartbeats 8000000 in
theorem extent_spec (a1 a2 : Na) (d1 d2 : Nd) (w : World) (hd1 : NBd d1) (hd2 : NBd d2) (hv1 : NV w a1 d1) (hv2 : NV w a2 d2) :
    Calls Tryz.prog 5 #[nv a1 d1, nv a2 d2] w fun e w' => ∃ v, e = .returned v ∧ w'.ownsRow w.heap.size 3 1 v (exl Classical.propDecidable d1 d2).length ((exl Classical.propDecidable d1 d2).map (.int .i64)) ∧ Below w.heap.size w w' := by
  obtain ⟨W, hW⟩ : ∃ W, W = (w.alloc (.cells (nds a1 d1) 37)).alloc (.cells (nds a2 d2) 37) := ⟨_, rfl⟩
  have H0 : Hid (N2 w W 37 a1 a2 d1 d2) := by rw [hW]; exact N2.new _ _ _ _ _ _
  have HV : Hid (∀ V, Below w.heap.size w V → NV V a1 d1 ∧ NV V a2 d2) := fun V hb => ⟨hv1.below hb, hv2.below hb⟩
  have HD : Hid (NBd d1 ∧ NBd d2) := ⟨hd1, hd2⟩
  have HY : Hid (NOk d1 → NOk d2 → exl Classical.propDecidable d1 d2 = uni (d1.L d2.id.toNat) (d2.L d1.id.toNat)) := fun h1 h2 => exl_yes ⟨h1, h2⟩
  have HX : Hid (¬ (NOk d1 ∧ NOk d2) → exl Classical.propDecidable d1 d2 = []) := fun h => exl_no h
  obtain ⟨p0, p1, p2, p3, p4, p5, p6, p7, p8, p9, p10, p11, p12, p13, p14, p15⟩ := H0.out.2.1.cells
  clear hv1 hv2 hd1 hd2
  generalize exl Classical.propDecidable d1 d2 = E at *
  unfold nv
  unfold nds at hW ⊢
  go_enter Tryz.func5, Tryz.ntmps5
  go_upto_region 1 with fail
  rw [← hW]
  clear hW
  generalize Value.agg #[.int .i64 d1.id, .bool d1.up, .bool d1.pr, .slice a1.im d1.im.length a1.imc, .slice a1.go d1.g.length a1.gc, .slice a1.bo d1.n a1.bc, .bool d1.fi, .bool d1.ol, .bool d1.he, .int .i64 d1.la, .slice a1.aA d1.A.length a1.cA, .slice a1.aB d1.C.length a1.cB, .slice a1.co d1.co.length a1.coc, .slice a1.so d1.m a1.sc, .slice a1.cp d1.cp.length a1.cpc, .slice a1.wt d1.wt.length a1.wtc] = vn1 at *
  generalize Value.agg #[.int .i64 d2.id, .bool d2.up, .bool d2.pr, .slice a2.im d2.im.length a2.imc, .slice a2.go d2.g.length a2.gc, .slice a2.bo d2.n a2.bc, .bool d2.fi, .bool d2.ol, .bool d2.he, .int .i64 d2.la, .slice a2.aA d2.A.length a2.cA, .slice a2.aB d2.C.length a2.cB, .slice a2.co d2.co.length a2.coc, .slice a2.so d2.m a2.sc, .slice a2.cp d2.cp.length a2.cpc, .slice a2.wt d2.wt.length a2.wtc] = vn2 at *
  go_wp2_with fail
  refine (node_spec a1 d1 W HD.out.1 (HV.out _ H0.out.1).1).mono ?_
  rintro e w1 ⟨h, b1⟩
  have H1 : Hid (N2 w w1 37 a1 a2 d1 d2) := H0.out.b b1
  clear b1 H0 p0 p1 p2 p3 p4 p5 p6 p7 p8 p9 p10 p11 p12 p13 p14 p15
  rcases h with ⟨h1, rfl⟩ | ⟨h1, rfl⟩
  case inr =>
    have HN : Hid (E = []) := HX.out (fun h => h1 h.1)
    clear h1 HX HY
    go_wp2
    go_ret
    exact ⟨_, rfl, by rw [HN.out]; exact owns_empty H1.out.1.size, H1.out.1.trans ((bal1 _ _).mono H1.out.1.size)⟩
  have HO1 := hide h1
  clear h1
  obtain ⟨p0, p1, p2, p3, p4, p5, p6, p7, p8, p9, p10, p11, p12, p13, p14, p15⟩ := H1.out.2.2.cells
  go_wp2_with fail
  refine (node_spec a2 d2 w1 HD.out.2 (HV.out _ H1.out.1).2).mono ?_
  rintro e w2 ⟨h, b1⟩
  have H2 : Hid (N2 w w2 37 a1 a2 d1 d2) := H1.out.b b1
  clear b1 H1 p0 p1 p2 p3 p4 p5 p6 p7 p8 p9 p10 p11 p12 p13 p14 p15
  rcases h with ⟨h1, rfl⟩ | ⟨h1, rfl⟩
  case inr =>
    have HN : Hid (E = []) := HX.out (fun h => h1 h.2)
    clear h1 HX HY
    go_wp2
    go_ret
    exact ⟨_, rfl, by rw [HN.out]; exact owns_empty H2.out.1.size, H2.out.1.trans ((bal1 _ _).mono H2.out.1.size)⟩
  obtain ⟨k1, hk1, e1, t1⟩ := HO1.out.ids
  obtain ⟨k2, hk2, e2, t2⟩ := h1.ids
  have HE : Hid (E = uni (d1.L k2) (d2.L k1)) := by rw [← t1, ← t2]; exact HY.out HO1.out h1
  have n1 := HO1.out.three
  have n2 := h1.three
  clear HY HX t1 t2
  obtain ⟨b1, o1, r1, c1, hb1, hc1, _, hs1⟩ := (HV.out _ H2.out.1).1.2.1.2.2 k2 (by rw [n1]; exact hk2)
  obtain ⟨b2, o2, r2, c2, hb2, hc2, _, hs2⟩ := (HV.out _ H2.out.1).2.2.1.2.2 k1 (by rw [n2]; exact hk1)
  have HM : Hid ((d1.L k2).length ≤ 1048576 ∧ (d2.L k1).length ≤ 1048576) := ⟨HD.out.1.2.1.2.2 k2 (by rw [n1]; exact hk2), HD.out.2.2.1.2.2 k1 (by rw [n2]; exact hk1)⟩
  have HQ : Hid (SL .i64 w2.drew r1 (d1.L k2).length (lg (d1.L k2)) ∧ SL .i64 w2.drew r2 (d2.L k1).length (lg (d2.L k1))) := ⟨hs1, hs2⟩
  have hcl : ∀ w', Below w2.heap.size w2 w' → w'.cell? ⟨b1, o1 + k2, none⟩ = some (.slice r1 (d1.L k2).length c1) ∧ w'.cell? ⟨b2, o2 + k1, none⟩ = some (.slice r2 (d2.L k1).length c2) := fun w' hb => ⟨(hb.cell (lt_of_cell hc1)).trans hc1, (hb.cell (lt_of_cell hc2)).trans hc2⟩
  generalize d1.L k2 = M1 at *
  generalize d2.L k1 = M2 at *
  have sS : Hid (∀ w', Below w2.heap.size w2 w' → N2 w w' 37 a1 a2 d1 d2 → (w'.cell? ⟨w.heap.size, 5, none⟩ = some (.slice (some ⟨b1, o1, none⟩) 3 a1.bc) ∧ w'.cell? ⟨w.heap.size + 1, 0, none⟩ = some (.int .i64 (k2 : Int)) ∧ w'.cell? ⟨b1, o1 + k2, none⟩ = some (.slice r1 M1.length c1)) ∧ (w'.cell? ⟨w.heap.size + 1, 5, none⟩ = some (.slice (some ⟨b2, o2, none⟩) 3 a2.bc) ∧ w'.cell? ⟨w.heap.size, 0, none⟩ = some (.int .i64 (k1 : Int)) ∧ w'.cell? ⟨b2, o2 + k1, none⟩ = some (.slice r2 M2.length c2))) := fun w' hb hn => by
    obtain ⟨x0, _, _, _, _, x5, _⟩ := hn.2.1.cells
    obtain ⟨y0, _, _, _, _, y5, _⟩ := hn.2.2.cells
    rw [hb1, n1] at x5
    rw [hb2, n2] at y5
    rw [e1] at x0
    rw [e2] at y0
    exact ⟨⟨x5, y0, (hcl w' hb).1⟩, y5, x0, (hcl w' hb).2⟩
  clear hcl hs1 hs2 hb1 hb2 hc1 hc2 n1 n2 e1 e2 h1 HO1
  have BD : Hid (Below w2.heap.size w2 w2.drew) := Below.drawn (Below.refl _ _) 1
  have HD2 : Hid (N2 w w2.drew 37 a1 a2 d1 d2) := H2.out.b BD.out
  have hS0 := sS.out w2.drew BD.out HD2.out
  have i1 : (k1 : Int) < 3 := by omega
  have i2 : (k2 : Int) < 3 := by omega
  have j1 : (0 : Int) ≤ (k1 : Int) := by omega
  have j2 : (0 : Int) ≤ (k2 : Int) := by omega
  go_wp2_with fail
  refine wp_region_held_drew (S := (fun w' => (w'.cell? ⟨w.heap.size, 5, none⟩ = some (.slice (some ⟨b1, o1, none⟩) 3 a1.bc) ∧ w'.cell? ⟨w.heap.size + 1, 0, none⟩ = some (.int .i64 (k2 : Int)) ∧ w'.cell? ⟨b1, o1 + k2, none⟩ = some (.slice r1 M1.length c1)) ∧ (w'.cell? ⟨w.heap.size + 1, 5, none⟩ = some (.slice (some ⟨b2, o2, none⟩) 3 a2.bc) ∧ w'.cell? ⟨w.heap.size, 0, none⟩ = some (.int .i64 (k1 : Int)) ∧ w'.cell? ⟨b2, o2 + k1, none⟩ = some (.slice r2 M2.length c2)))) (by kernel_rfl) ?_ (fun hHeld => ?_)
  · exact hS0
  refine wpAnyH_take (i := 0) (oi := { dst := some 14, op := Op.fieldAddr 37 (Operand.tmp 2) 4, type := 0, pos := "l09_meet.go:58", after := #[], guard := none }) (v := ?_) rfl (by kernel_rfl) (by kernel_rfl) (by kernel_rfl) (fun _ _ _ h => h) (Or.inl ⟨by rfl, ?_⟩) (by assumption) ?_
  rotate_left 1
  · (intro wq hSw; obtain ⟨⟨s1, s2, s3⟩, s4, s5, s6⟩ := hSw; go_simp; try with_reducible rfl)
  try simp only [Act.put, ly1, ly2, ly3]
  refine wpAnyH_take (i := 1) (oi := { dst := some 15, op := Op.fieldAddr 34 (Operand.tmp 14) 1, type := 0, pos := "l09_meet.go:58", after := #[{ on := 0, ground := Ground.data }], guard := none }) (v := ?_) rfl (by kernel_rfl) (by kernel_rfl) (by kernel_rfl) (fun _ _ _ h => h) (Or.inl ⟨by rfl, ?_⟩) (by assumption) ?_
  rotate_left 1
  · (intro wq hSw; obtain ⟨⟨s1, s2, s3⟩, s4, s5, s6⟩ := hSw; go_simp; try with_reducible rfl)
  try simp only [Act.put, ly1, ly2, ly3]
  refine wpAnyH_take (i := 2) (oi := { dst := some 16, op := Op.load 23 (Operand.tmp 15), type := 23, pos := "l09_meet.go:58", after := #[{ on := 1, ground := Ground.data }], guard := none }) (v := ?_) rfl (by kernel_rfl) (by kernel_rfl) (by kernel_rfl) (fun _ _ _ h => h) (Or.inl ⟨by rfl, ?_⟩) (by assumption) ?_
  rotate_left 1
  · (intro wq hSw; obtain ⟨⟨s1, s2, s3⟩, s4, s5, s6⟩ := hSw; go_simp; try with_reducible rfl)
  try simp only [Act.put, ly1, ly2, ly3]
  refine wpAnyH_take (i := 3) (oi := { dst := some 17, op := Op.fieldAddr 37 (Operand.tmp 3) 0, type := 0, pos := "l09_meet.go:58", after := #[], guard := none }) (v := ?_) rfl (by kernel_rfl) (by kernel_rfl) (by kernel_rfl) (fun _ _ _ h => h) (Or.inl ⟨by rfl, ?_⟩) (by assumption) ?_
  rotate_left 1
  · (intro wq hSw; obtain ⟨⟨s1, s2, s3⟩, s4, s5, s6⟩ := hSw; go_simp; try with_reducible rfl)
  try simp only [Act.put, ly1, ly2, ly3]
  refine wpAnyH_take (i := 4) (oi := { dst := some 18, op := Op.load 3 (Operand.tmp 17), type := 3, pos := "l09_meet.go:58", after := #[{ on := 3, ground := Ground.data }], guard := none }) (v := ?_) rfl (by kernel_rfl) (by kernel_rfl) (by kernel_rfl) (fun _ _ _ h => h) (Or.inl ⟨by rfl, ?_⟩) (by assumption) ?_
  rotate_left 1
  · (intro wq hSw; obtain ⟨⟨s1, s2, s3⟩, s4, s5, s6⟩ := hSw; go_simp; try with_reducible rfl)
  try simp only [Act.put, ly1, ly2, ly3]
  refine wpAnyH_take (i := 5) (oi := { dst := some 19, op := Op.indexAddr 23 (Operand.tmp 16) (Operand.tmp 18), type := 0, pos := "l09_meet.go:58", after := #[{ on := 2, ground := Ground.data }, { on := 4, ground := Ground.data }], guard := none }) (v := ?_) rfl (by kernel_rfl) (by kernel_rfl) (by kernel_rfl) (fun _ _ _ h => h) (Or.inl ⟨by rfl, ?_⟩) (by assumption) ?_
  rotate_left 1
  · (intro wq hSw; obtain ⟨⟨s1, s2, s3⟩, s4, s5, s6⟩ := hSw; go_simp; try with_reducible rfl)
  try simp only [Act.put, ly1, ly2, ly3]
  refine wpAnyH_take (i := 6) (oi := { dst := some 20, op := Op.load 22 (Operand.tmp 19), type := 22, pos := "l09_meet.go:58", after := #[{ on := 5, ground := Ground.data }], guard := none }) (v := ?_) rfl (by kernel_rfl) (by kernel_rfl) (by kernel_rfl) (fun _ _ _ h => h) (Or.inl ⟨by rfl, ?_⟩) (by assumption) ?_
  rotate_left 1
  · (intro wq hSw; obtain ⟨⟨s1, s2, s3⟩, s4, s5, s6⟩ := hSw; go_simp; try with_reducible rfl)
  try simp only [Act.put, ly1, ly2, ly3]
  refine wpAnyH_take (i := 7) (oi := { dst := some 21, op := Op.fieldAddr 37 (Operand.tmp 3) 4, type := 0, pos := "l09_meet.go:58", after := #[], guard := none }) (v := ?_) rfl (by kernel_rfl) (by kernel_rfl) (by kernel_rfl) (fun _ _ _ h => h) (Or.inl ⟨by rfl, ?_⟩) (by assumption) ?_
  rotate_left 1
  · (intro wq hSw; obtain ⟨⟨s1, s2, s3⟩, s4, s5, s6⟩ := hSw; go_simp; try with_reducible rfl)
  try simp only [Act.put, ly1, ly2, ly3]
  refine wpAnyH_take (i := 8) (oi := { dst := some 22, op := Op.fieldAddr 34 (Operand.tmp 21) 1, type := 0, pos := "l09_meet.go:58", after := #[{ on := 7, ground := Ground.data }], guard := none }) (v := ?_) rfl (by kernel_rfl) (by kernel_rfl) (by kernel_rfl) (fun _ _ _ h => h) (Or.inl ⟨by rfl, ?_⟩) (by assumption) ?_
  rotate_left 1
  · (intro wq hSw; obtain ⟨⟨s1, s2, s3⟩, s4, s5, s6⟩ := hSw; go_simp; try with_reducible rfl)
  try simp only [Act.put, ly1, ly2, ly3]
  refine wpAnyH_take (i := 9) (oi := { dst := some 23, op := Op.load 23 (Operand.tmp 22), type := 23, pos := "l09_meet.go:58", after := #[{ on := 8, ground := Ground.data }], guard := none }) (v := ?_) rfl (by kernel_rfl) (by kernel_rfl) (by kernel_rfl) (fun _ _ _ h => h) (Or.inl ⟨by rfl, ?_⟩) (by assumption) ?_
  rotate_left 1
  · (intro wq hSw; obtain ⟨⟨s1, s2, s3⟩, s4, s5, s6⟩ := hSw; go_simp; try with_reducible rfl)
  try simp only [Act.put, ly1, ly2, ly3]
  refine wpAnyH_take (i := 10) (oi := { dst := some 24, op := Op.fieldAddr 37 (Operand.tmp 2) 0, type := 0, pos := "l09_meet.go:58", after := #[], guard := none }) (v := ?_) rfl (by kernel_rfl) (by kernel_rfl) (by kernel_rfl) (fun _ _ _ h => h) (Or.inl ⟨by rfl, ?_⟩) (by assumption) ?_
  rotate_left 1
  · (intro wq hSw; obtain ⟨⟨s1, s2, s3⟩, s4, s5, s6⟩ := hSw; go_simp; try with_reducible rfl)
  try simp only [Act.put, ly1, ly2, ly3]
  refine wpAnyH_take (i := 11) (oi := { dst := some 25, op := Op.load 3 (Operand.tmp 24), type := 3, pos := "l09_meet.go:58", after := #[{ on := 10, ground := Ground.data }], guard := none }) (v := ?_) rfl (by kernel_rfl) (by kernel_rfl) (by kernel_rfl) (fun _ _ _ h => h) (Or.inl ⟨by rfl, ?_⟩) (by assumption) ?_
  rotate_left 1
  · (intro wq hSw; obtain ⟨⟨s1, s2, s3⟩, s4, s5, s6⟩ := hSw; go_simp; try with_reducible rfl)
  try simp only [Act.put, ly1, ly2, ly3]
  refine wpAnyH_take (i := 12) (oi := { dst := some 26, op := Op.indexAddr 23 (Operand.tmp 23) (Operand.tmp 25), type := 0, pos := "l09_meet.go:58", after := #[{ on := 9, ground := Ground.data }, { on := 11, ground := Ground.data }], guard := none }) (v := ?_) rfl (by kernel_rfl) (by kernel_rfl) (by kernel_rfl) (fun _ _ _ h => h) (Or.inl ⟨by rfl, ?_⟩) (by assumption) ?_
  rotate_left 1
  · (intro wq hSw; obtain ⟨⟨s1, s2, s3⟩, s4, s5, s6⟩ := hSw; go_simp; try with_reducible rfl)
  try simp only [Act.put, ly1, ly2, ly3]
  refine wpAnyH_take (i := 13) (oi := { dst := some 27, op := Op.load 22 (Operand.tmp 26), type := 22, pos := "l09_meet.go:58", after := #[{ on := 12, ground := Ground.data }], guard := none }) (v := ?_) rfl (by kernel_rfl) (by kernel_rfl) (by kernel_rfl) (fun _ _ _ h => h) (Or.inl ⟨by rfl, ?_⟩) (by assumption) ?_
  rotate_left 1
  · (intro wq hSw; obtain ⟨⟨s1, s2, s3⟩, s4, s5, s6⟩ := hSw; go_simp; try with_reducible rfl)
  try simp only [Act.put, ly1, ly2, ly3]
  refine wpAnyH_ready (rs := [14]) (by kernel_rfl) (by simp) ?_
  refine AllReadyH.cons (o := { dst := some 28, op := Op.call { callee := Callee.value (Operand.func 19), args := #[Operand.tmp 20, Operand.tmp 27], argTypes := #[22, 22] }, type := 22, pos := "l09_meet.go:58", after := #[{ on := 6, ground := Ground.data }, { on := 13, ground := Ground.data }], guard := none }) rfl (fun K hK => ?_) AllReadyH.nil
  go_simp
  refine (ounion_spec r1 r2 c1 c2 M1 M2 w2.drew HM.out.1 HM.out.2 HQ.out.1 HQ.out.2).mono ?_
  rintro e w5 ⟨v5, rfl, ho5, b5⟩
  have H5 : Hid (Below w.heap.size w w5 ∧ w5.ownsRow w.heap.size 3 1 v5 (uni M1 M2).length ((uni M1 M2).map (.int .i64))) := ⟨HD2.out.1.trans (b5.mono HD2.out.1.size), owns_mono ho5 HD2.out.1.size⟩
  have S5 := sS.out w5 (BD.out.trans b5) (HD2.out.b b5)
  clear ho5 b5
  go_wp2_with fail
  refine hK.out _ _ ?_ (fun hHeld => ?_)
  · exact S5
  clear hK K
  try simp only [Act.put, ly1, ly2, ly3]
  refine wpAnyH_take (i := 15) (oi := { dst := some 4, op := Op.assign (Operand.tmp 28), type := 22, pos := "l09_meet.go:58", after := #[{ on := 14, ground := Ground.data }, { on := 14, ground := Ground.chain }, { on := 0, ground := Ground.phase }, { on := 1, ground := Ground.phase }, { on := 2, ground := Ground.phase }, { on := 3, ground := Ground.phase }, { on := 4, ground := Ground.phase }, { on := 5, ground := Ground.phase }, { on := 6, ground := Ground.phase }, { on := 7, ground := Ground.phase }, { on := 8, ground := Ground.phase }, { on := 9, ground := Ground.phase }, { on := 10, ground := Ground.phase }, { on := 11, ground := Ground.phase }, { on := 12, ground := Ground.phase }, { on := 13, ground := Ground.phase }, { on := 14, ground := Ground.phase }], guard := none }) (v := ?_) rfl (by kernel_rfl) (by kernel_rfl) (by kernel_rfl) (fun _ _ _ h => h) (Or.inl ⟨by rfl, ?_⟩) (by assumption) ?_
  rotate_left 1
  · (intro wq hSw; (try dsimp only at hSw); go_simp; try with_reducible rfl)
  try simp only [Act.put, ly1, ly2, ly3]
  refine wpAnyH_done (by kernel_rfl) ?_ _
  go_wp2
  go_ret
  exact ⟨_, rfl, by rw [HE.out]; exact H5.out.2, H5.out.1⟩

set_option maxHeartbeats 8000000 in
theorem extent_impl (a1 a2 : Na) (d1 d2 : Nd) (w : World) (hg : ErrT w) (hd1 : NBd d1) (hd2 : NBd d2) (hv1 : NV w a1 d1) (hv2 : NV w a2 d2) :
    Calls Tryz.prog 7 #[nv a1 d1, nv a2 d2] w fun e w' => ∃ v, e = .returned v ∧ w'.ownsRow w.heap.size 3 1 v (exl Classical.propDecidable d1 d2).length ((exl Classical.propDecidable d1 d2).map (.int .i64)) ∧ Below w.heap.size w w' := by
  obtain ⟨W, hW⟩ : ∃ W, W = (w.alloc (.cells (nds a1 d1) 37)).alloc (.cells (nds a2 d2) 37) := ⟨_, rfl⟩
  have H0 : Hid (N2 w W 37 a1 a2 d1 d2) := by rw [hW]; exact N2.new _ _ _ _ _ _
  have HV : Hid (∀ V, Below w.heap.size w V → NV V a1 d1 ∧ NV V a2 d2 ∧ ErrT V) := fun V hb => ⟨hv1.below hb, hv2.below hb, hg.below hb⟩
  have HD : Hid (NBd d1 ∧ NBd d2) := ⟨hd1, hd2⟩
  have HY : Hid (NOk d1 → NOk d2 → exl Classical.propDecidable d1 d2 = uni (d1.L d2.id.toNat) (d2.L d1.id.toNat)) := fun h1 h2 => exl_yes ⟨h1, h2⟩
  have HX : Hid (¬ (NOk d1 ∧ NOk d2) → exl Classical.propDecidable d1 d2 = []) := fun h => exl_no h
  obtain ⟨p0, p1, p2, p3, p4, p5, p6, p7, p8, p9, p10, p11, p12, p13, p14, p15⟩ := H0.out.2.1.cells
  clear hv1 hv2 hd1 hd2 hg
  generalize exl Classical.propDecidable d1 d2 = E at *
  unfold nv
  unfold nds at hW ⊢
  go_enter Tryz.func7, Tryz.ntmps7
  go_upto_region 1 with fail
  rw [← hW]
  clear hW
  generalize Value.agg #[.int .i64 d1.id, .bool d1.up, .bool d1.pr, .slice a1.im d1.im.length a1.imc, .slice a1.go d1.g.length a1.gc, .slice a1.bo d1.n a1.bc, .bool d1.fi, .bool d1.ol, .bool d1.he, .int .i64 d1.la, .slice a1.aA d1.A.length a1.cA, .slice a1.aB d1.C.length a1.cB, .slice a1.co d1.co.length a1.coc, .slice a1.so d1.m a1.sc, .slice a1.cp d1.cp.length a1.cpc, .slice a1.wt d1.wt.length a1.wtc] = vn1 at *
  generalize Value.agg #[.int .i64 d2.id, .bool d2.up, .bool d2.pr, .slice a2.im d2.im.length a2.imc, .slice a2.go d2.g.length a2.gc, .slice a2.bo d2.n a2.bc, .bool d2.fi, .bool d2.ol, .bool d2.he, .int .i64 d2.la, .slice a2.aA d2.A.length a2.cA, .slice a2.aB d2.C.length a2.cB, .slice a2.co d2.co.length a2.coc, .slice a2.so d2.m a2.sc, .slice a2.cp d2.cp.length a2.cpc, .slice a2.wt d2.wt.length a2.wtc] = vn2 at *
  go_wp2_with fail
  refine (node_impl a1 d1 W (HV.out _ H0.out.1).2.2 HD.out.1 (HV.out _ H0.out.1).1).mono ?_
  rintro e w1 ⟨h, b1⟩
  have H1 : Hid (N2 w w1 37 a1 a2 d1 d2) := H0.out.b b1
  clear b1 H0 p0 p1 p2 p3 p4 p5 p6 p7 p8 p9 p10 p11 p12 p13 p14 p15
  rcases h with ⟨h1, rfl⟩ | ⟨h1, rfl⟩
  case inr =>
    have HN : Hid (E = []) := HX.out (fun h => h1 h.1)
    clear h1 HX HY
    go_wp2
    go_ret
    exact ⟨_, rfl, by rw [HN.out]; exact gnil, H1.out.1⟩
  have HO1 := hide h1
  clear h1
  obtain ⟨p0, p1, p2, p3, p4, p5, p6, p7, p8, p9, p10, p11, p12, p13, p14, p15⟩ := H1.out.2.2.cells
  go_wp2_with fail
  refine (node_impl a2 d2 w1 (HV.out _ H1.out.1).2.2 HD.out.2 (HV.out _ H1.out.1).2.1).mono ?_
  rintro e w2 ⟨h, b1⟩
  have H2 : Hid (N2 w w2 37 a1 a2 d1 d2) := H1.out.b b1
  clear b1 H1 p0 p1 p2 p3 p4 p5 p6 p7 p8 p9 p10 p11 p12 p13 p14 p15
  rcases h with ⟨h1, rfl⟩ | ⟨h1, rfl⟩
  case inr =>
    have HN : Hid (E = []) := HX.out (fun h => h1 h.2)
    clear h1 HX HY
    go_wp2
    go_ret
    exact ⟨_, rfl, by rw [HN.out]; exact gnil, H2.out.1⟩
  obtain ⟨k1, hk1, e1, t1⟩ := HO1.out.ids
  obtain ⟨k2, hk2, e2, t2⟩ := h1.ids
  have HE : Hid (E = uni (d1.L k2) (d2.L k1)) := by rw [← t1, ← t2]; exact HY.out HO1.out h1
  have n1 := HO1.out.three
  have n2 := h1.three
  clear HY HX t1 t2
  obtain ⟨b1, o1, r1, c1, hb1, hc1, _, hs1⟩ := (HV.out _ H2.out.1).1.2.1.2.2 k2 (by rw [n1]; exact hk2)
  obtain ⟨b2, o2, r2, c2, hb2, hc2, _, hs2⟩ := (HV.out _ H2.out.1).2.1.2.1.2.2 k1 (by rw [n2]; exact hk1)
  have HM : Hid ((d1.L k2).length ≤ 1048576 ∧ (d2.L k1).length ≤ 1048576) := ⟨HD.out.1.2.1.2.2 k2 (by rw [n1]; exact hk2), HD.out.2.2.1.2.2 k1 (by rw [n2]; exact hk1)⟩
  have HQ : Hid (SL .i64 w2.drew r1 (d1.L k2).length (lg (d1.L k2)) ∧ SL .i64 w2.drew r2 (d2.L k1).length (lg (d2.L k1))) := ⟨hs1, hs2⟩
  have hcl : ∀ w', Below w2.heap.size w2 w' → w'.cell? ⟨b1, o1 + k2, none⟩ = some (.slice r1 (d1.L k2).length c1) ∧ w'.cell? ⟨b2, o2 + k1, none⟩ = some (.slice r2 (d2.L k1).length c2) := fun w' hb => ⟨(hb.cell (lt_of_cell hc1)).trans hc1, (hb.cell (lt_of_cell hc2)).trans hc2⟩
  generalize d1.L k2 = M1 at *
  generalize d2.L k1 = M2 at *
  have sS : Hid (∀ w', Below w2.heap.size w2 w' → N2 w w' 37 a1 a2 d1 d2 → (w'.cell? ⟨w.heap.size, 5, none⟩ = some (.slice (some ⟨b1, o1, none⟩) 3 a1.bc) ∧ w'.cell? ⟨w.heap.size + 1, 0, none⟩ = some (.int .i64 (k2 : Int)) ∧ w'.cell? ⟨b1, o1 + k2, none⟩ = some (.slice r1 M1.length c1)) ∧ (w'.cell? ⟨w.heap.size + 1, 5, none⟩ = some (.slice (some ⟨b2, o2, none⟩) 3 a2.bc) ∧ w'.cell? ⟨w.heap.size, 0, none⟩ = some (.int .i64 (k1 : Int)) ∧ w'.cell? ⟨b2, o2 + k1, none⟩ = some (.slice r2 M2.length c2))) := fun w' hb hn => by
    obtain ⟨x0, _, _, _, _, x5, _⟩ := hn.2.1.cells
    obtain ⟨y0, _, _, _, _, y5, _⟩ := hn.2.2.cells
    rw [hb1, n1] at x5
    rw [hb2, n2] at y5
    rw [e1] at x0
    rw [e2] at y0
    exact ⟨⟨x5, y0, (hcl w' hb).1⟩, y5, x0, (hcl w' hb).2⟩
  clear hcl hs1 hs2 hb1 hb2 hc1 hc2 n1 n2 e1 e2 h1 HO1
  have BD : Hid (Below w2.heap.size w2 w2.drew) := Below.drawn (Below.refl _ _) 1
  have HD2 : Hid (N2 w w2.drew 37 a1 a2 d1 d2) := H2.out.b BD.out
  have hS0 := sS.out w2.drew BD.out HD2.out
  have i1 : (k1 : Int) < 3 := by omega
  have i2 : (k2 : Int) < 3 := by omega
  have j1 : (0 : Int) ≤ (k1 : Int) := by omega
  have j2 : (0 : Int) ≤ (k2 : Int) := by omega
  go_wp2_with fail
  refine wp_region_held_drew (S := (fun w' => (w'.cell? ⟨w.heap.size, 5, none⟩ = some (.slice (some ⟨b1, o1, none⟩) 3 a1.bc) ∧ w'.cell? ⟨w.heap.size + 1, 0, none⟩ = some (.int .i64 (k2 : Int)) ∧ w'.cell? ⟨b1, o1 + k2, none⟩ = some (.slice r1 M1.length c1)) ∧ (w'.cell? ⟨w.heap.size + 1, 5, none⟩ = some (.slice (some ⟨b2, o2, none⟩) 3 a2.bc) ∧ w'.cell? ⟨w.heap.size, 0, none⟩ = some (.int .i64 (k1 : Int)) ∧ w'.cell? ⟨b2, o2 + k1, none⟩ = some (.slice r2 M2.length c2)))) (by kernel_rfl) ?_ (fun hHeld => ?_)
  · exact hS0
  refine wpAnyH_take (i := 0) (oi := { dst := some 13, op := Op.fieldAddr 37 (Operand.tmp 2) 4, type := 0, pos := "l09_meet.go:34", after := #[], guard := none }) (v := ?_) rfl (by kernel_rfl) (by kernel_rfl) (by kernel_rfl) (fun _ _ _ h => h) (Or.inl ⟨by rfl, ?_⟩) (by assumption) ?_
  rotate_left 1
  · (intro wq hSw; obtain ⟨⟨s1, s2, s3⟩, s4, s5, s6⟩ := hSw; go_simp; try with_reducible rfl)
  try simp only [Act.put, ly1, ly2, ly3]
  refine wpAnyH_take (i := 1) (oi := { dst := some 14, op := Op.fieldAddr 34 (Operand.tmp 13) 1, type := 0, pos := "l09_meet.go:34", after := #[{ on := 0, ground := Ground.data }], guard := none }) (v := ?_) rfl (by kernel_rfl) (by kernel_rfl) (by kernel_rfl) (fun _ _ _ h => h) (Or.inl ⟨by rfl, ?_⟩) (by assumption) ?_
  rotate_left 1
  · (intro wq hSw; obtain ⟨⟨s1, s2, s3⟩, s4, s5, s6⟩ := hSw; go_simp; try with_reducible rfl)
  try simp only [Act.put, ly1, ly2, ly3]
  refine wpAnyH_take (i := 2) (oi := { dst := some 15, op := Op.load 23 (Operand.tmp 14), type := 23, pos := "l09_meet.go:34", after := #[{ on := 1, ground := Ground.data }], guard := none }) (v := ?_) rfl (by kernel_rfl) (by kernel_rfl) (by kernel_rfl) (fun _ _ _ h => h) (Or.inl ⟨by rfl, ?_⟩) (by assumption) ?_
  rotate_left 1
  · (intro wq hSw; obtain ⟨⟨s1, s2, s3⟩, s4, s5, s6⟩ := hSw; go_simp; try with_reducible rfl)
  try simp only [Act.put, ly1, ly2, ly3]
  refine wpAnyH_take (i := 3) (oi := { dst := some 16, op := Op.fieldAddr 37 (Operand.tmp 3) 0, type := 0, pos := "l09_meet.go:34", after := #[], guard := none }) (v := ?_) rfl (by kernel_rfl) (by kernel_rfl) (by kernel_rfl) (fun _ _ _ h => h) (Or.inl ⟨by rfl, ?_⟩) (by assumption) ?_
  rotate_left 1
  · (intro wq hSw; obtain ⟨⟨s1, s2, s3⟩, s4, s5, s6⟩ := hSw; go_simp; try with_reducible rfl)
  try simp only [Act.put, ly1, ly2, ly3]
  refine wpAnyH_take (i := 4) (oi := { dst := some 17, op := Op.load 3 (Operand.tmp 16), type := 3, pos := "l09_meet.go:34", after := #[{ on := 3, ground := Ground.data }], guard := none }) (v := ?_) rfl (by kernel_rfl) (by kernel_rfl) (by kernel_rfl) (fun _ _ _ h => h) (Or.inl ⟨by rfl, ?_⟩) (by assumption) ?_
  rotate_left 1
  · (intro wq hSw; obtain ⟨⟨s1, s2, s3⟩, s4, s5, s6⟩ := hSw; go_simp; try with_reducible rfl)
  try simp only [Act.put, ly1, ly2, ly3]
  refine wpAnyH_take (i := 5) (oi := { dst := some 18, op := Op.indexAddr 23 (Operand.tmp 15) (Operand.tmp 17), type := 0, pos := "l09_meet.go:34", after := #[{ on := 2, ground := Ground.data }, { on := 4, ground := Ground.data }], guard := none }) (v := ?_) rfl (by kernel_rfl) (by kernel_rfl) (by kernel_rfl) (fun _ _ _ h => h) (Or.inl ⟨by rfl, ?_⟩) (by assumption) ?_
  rotate_left 1
  · (intro wq hSw; obtain ⟨⟨s1, s2, s3⟩, s4, s5, s6⟩ := hSw; go_simp; try with_reducible rfl)
  try simp only [Act.put, ly1, ly2, ly3]
  refine wpAnyH_take (i := 6) (oi := { dst := some 19, op := Op.load 22 (Operand.tmp 18), type := 22, pos := "l09_meet.go:34", after := #[{ on := 5, ground := Ground.data }], guard := none }) (v := ?_) rfl (by kernel_rfl) (by kernel_rfl) (by kernel_rfl) (fun _ _ _ h => h) (Or.inl ⟨by rfl, ?_⟩) (by assumption) ?_
  rotate_left 1
  · (intro wq hSw; obtain ⟨⟨s1, s2, s3⟩, s4, s5, s6⟩ := hSw; go_simp; try with_reducible rfl)
  try simp only [Act.put, ly1, ly2, ly3]
  refine wpAnyH_take (i := 7) (oi := { dst := some 20, op := Op.fieldAddr 37 (Operand.tmp 3) 4, type := 0, pos := "l09_meet.go:34", after := #[], guard := none }) (v := ?_) rfl (by kernel_rfl) (by kernel_rfl) (by kernel_rfl) (fun _ _ _ h => h) (Or.inl ⟨by rfl, ?_⟩) (by assumption) ?_
  rotate_left 1
  · (intro wq hSw; obtain ⟨⟨s1, s2, s3⟩, s4, s5, s6⟩ := hSw; go_simp; try with_reducible rfl)
  try simp only [Act.put, ly1, ly2, ly3]
  refine wpAnyH_take (i := 8) (oi := { dst := some 21, op := Op.fieldAddr 34 (Operand.tmp 20) 1, type := 0, pos := "l09_meet.go:34", after := #[{ on := 7, ground := Ground.data }], guard := none }) (v := ?_) rfl (by kernel_rfl) (by kernel_rfl) (by kernel_rfl) (fun _ _ _ h => h) (Or.inl ⟨by rfl, ?_⟩) (by assumption) ?_
  rotate_left 1
  · (intro wq hSw; obtain ⟨⟨s1, s2, s3⟩, s4, s5, s6⟩ := hSw; go_simp; try with_reducible rfl)
  try simp only [Act.put, ly1, ly2, ly3]
  refine wpAnyH_take (i := 9) (oi := { dst := some 22, op := Op.load 23 (Operand.tmp 21), type := 23, pos := "l09_meet.go:34", after := #[{ on := 8, ground := Ground.data }], guard := none }) (v := ?_) rfl (by kernel_rfl) (by kernel_rfl) (by kernel_rfl) (fun _ _ _ h => h) (Or.inl ⟨by rfl, ?_⟩) (by assumption) ?_
  rotate_left 1
  · (intro wq hSw; obtain ⟨⟨s1, s2, s3⟩, s4, s5, s6⟩ := hSw; go_simp; try with_reducible rfl)
  try simp only [Act.put, ly1, ly2, ly3]
  refine wpAnyH_take (i := 10) (oi := { dst := some 23, op := Op.fieldAddr 37 (Operand.tmp 2) 0, type := 0, pos := "l09_meet.go:34", after := #[], guard := none }) (v := ?_) rfl (by kernel_rfl) (by kernel_rfl) (by kernel_rfl) (fun _ _ _ h => h) (Or.inl ⟨by rfl, ?_⟩) (by assumption) ?_
  rotate_left 1
  · (intro wq hSw; obtain ⟨⟨s1, s2, s3⟩, s4, s5, s6⟩ := hSw; go_simp; try with_reducible rfl)
  try simp only [Act.put, ly1, ly2, ly3]
  refine wpAnyH_take (i := 11) (oi := { dst := some 24, op := Op.load 3 (Operand.tmp 23), type := 3, pos := "l09_meet.go:34", after := #[{ on := 10, ground := Ground.data }], guard := none }) (v := ?_) rfl (by kernel_rfl) (by kernel_rfl) (by kernel_rfl) (fun _ _ _ h => h) (Or.inl ⟨by rfl, ?_⟩) (by assumption) ?_
  rotate_left 1
  · (intro wq hSw; obtain ⟨⟨s1, s2, s3⟩, s4, s5, s6⟩ := hSw; go_simp; try with_reducible rfl)
  try simp only [Act.put, ly1, ly2, ly3]
  refine wpAnyH_take (i := 12) (oi := { dst := some 25, op := Op.indexAddr 23 (Operand.tmp 22) (Operand.tmp 24), type := 0, pos := "l09_meet.go:34", after := #[{ on := 9, ground := Ground.data }, { on := 11, ground := Ground.data }], guard := none }) (v := ?_) rfl (by kernel_rfl) (by kernel_rfl) (by kernel_rfl) (fun _ _ _ h => h) (Or.inl ⟨by rfl, ?_⟩) (by assumption) ?_
  rotate_left 1
  · (intro wq hSw; obtain ⟨⟨s1, s2, s3⟩, s4, s5, s6⟩ := hSw; go_simp; try with_reducible rfl)
  try simp only [Act.put, ly1, ly2, ly3]
  refine wpAnyH_take (i := 13) (oi := { dst := some 26, op := Op.load 22 (Operand.tmp 25), type := 22, pos := "l09_meet.go:34", after := #[{ on := 12, ground := Ground.data }], guard := none }) (v := ?_) rfl (by kernel_rfl) (by kernel_rfl) (by kernel_rfl) (fun _ _ _ h => h) (Or.inl ⟨by rfl, ?_⟩) (by assumption) ?_
  rotate_left 1
  · (intro wq hSw; obtain ⟨⟨s1, s2, s3⟩, s4, s5, s6⟩ := hSw; go_simp; try with_reducible rfl)
  try simp only [Act.put, ly1, ly2, ly3]
  refine wpAnyH_ready (rs := [14]) (by kernel_rfl) (by simp) ?_
  refine AllReadyH.cons (o := { dst := some 27, op := Op.call { callee := Callee.value (Operand.func 26), args := #[Operand.tmp 19, Operand.tmp 26], argTypes := #[22, 22] }, type := 22, pos := "l09_meet.go:34", after := #[{ on := 6, ground := Ground.data }, { on := 13, ground := Ground.data }], guard := none }) rfl (fun K hK => ?_) AllReadyH.nil
  go_simp
  refine (ounion_impl r1 r2 c1 c2 M1 M2 w2.drew HM.out.1 HM.out.2 HQ.out.1 HQ.out.2).mono ?_
  rintro e w5 ⟨v5, rfl, ho5, b5⟩
  have H5 : Hid (Below w.heap.size w w5 ∧ w5.ownsRow w.heap.size 3 1 v5 (uni M1 M2).length ((uni M1 M2).map (.int .i64))) := ⟨HD2.out.1.trans (b5.mono HD2.out.1.size), owns_mono ho5 HD2.out.1.size⟩
  have S5 := sS.out w5 (BD.out.trans b5) (HD2.out.b b5)
  clear ho5 b5
  go_wp2_with fail
  refine hK.out _ _ ?_ (fun hHeld => ?_)
  · exact S5
  clear hK K
  try simp only [Act.put, ly1, ly2, ly3]
  refine wpAnyH_take (i := 15) (oi := { dst := some 4, op := Op.assign (Operand.tmp 27), type := 22, pos := "l09_meet.go:34", after := #[{ on := 14, ground := Ground.data }, { on := 14, ground := Ground.chain }, { on := 0, ground := Ground.phase }, { on := 1, ground := Ground.phase }, { on := 2, ground := Ground.phase }, { on := 3, ground := Ground.phase }, { on := 4, ground := Ground.phase }, { on := 5, ground := Ground.phase }, { on := 6, ground := Ground.phase }, { on := 7, ground := Ground.phase }, { on := 8, ground := Ground.phase }, { on := 9, ground := Ground.phase }, { on := 10, ground := Ground.phase }, { on := 11, ground := Ground.phase }, { on := 12, ground := Ground.phase }, { on := 13, ground := Ground.phase }, { on := 14, ground := Ground.phase }], guard := none }) (v := ?_) rfl (by kernel_rfl) (by kernel_rfl) (by kernel_rfl) (fun _ _ _ h => h) (Or.inl ⟨by rfl, ?_⟩) (by assumption) ?_
  rotate_left 1
  · (intro wq hSw; (try dsimp only at hSw); go_simp; try with_reducible rfl)
  try simp only [Act.put, ly1, ly2, ly3]
  refine wpAnyH_done (by kernel_rfl) ?_ _
  go_wp2
  go_ret
  exact ⟨_, rfl, by rw [HE.out]; exact H5.out.2, H5.out.1⟩
theorem own_rs {w : World} {B : Nat} {v : Value} {E : List Int} (h : w.ownsRow B 3 1 v E.length (E.map (.int .i64))) : ∃ p c, v = .slice p E.length c ∧ RS w B w.heap.size [⟨3, p, c, ir E⟩] := by
  have h' : w.ownsRow B 3 1 v (ir E).length (ir E) := by rw [ir_len]; exact h
  obtain ⟨p, c, e, hr⟩ := rs_owns h'
  exact ⟨p, c, by rw [e, ir_len], hr⟩
theorem ntot_nn (d : Nd) : 0 ≤ ntot d := by unfold ntot; omega
theorem ncnt_nn (d : Nd) : 0 ≤ ncnt d := by unfold ncnt; omega
theorem ncnt_le (d : Nd) : ncnt d ≤ ntot d := by unfold ncnt ntot; omega
/-- The two as they came in, and the model's answer. -/
def X0 (w V : World) (a1 a2 : Na) (d1 d2 : Nd) (E : List Int) (p0 : Option Addr) (c0 T0 : Nat) : Prop :=
  N2 w V 31 a1 a2 d1 d2 ∧ RS V (w.heap.size + 2) T0 [⟨3, p0, c0, ir E⟩] ∧ (w.heap.size + 2 ≤ T0 ∧ T0 ≤ V.heap.size)
theorem X0.onb {w V V' : World} {a1 a2 : Na} {d1 d2 : Nd} {E : List Int} {p0 : Option Addr} {c0 T0 B T : Nat} (h : X0 w V a1 a2 d1 d2 E p0 c0 T0) (ho : OnB B T V V') (hB : T0 ≤ B) : X0 w V' a1 a2 d1 d2 E p0 c0 T0 := by
  obtain ⟨h1, h2, h3, h4⟩ := h
  exact ⟨⟨h1.1.trans (ho.1.mono (by omega)), h1.2.1.below ho.1 (by omega), h1.2.2.below ho.1 (by omega)⟩, h2.kept (fun j _ hj => ho.1.block j (by omega)), h3, Nat.le_trans h4 ho.1.size⟩
theorem X0.b {w V V' : World} {a1 a2 : Na} {d1 d2 : Nd} {E : List Int} {p0 : Option Addr} {c0 T0 : Nat} (h : X0 w V a1 a2 d1 d2 E p0 c0 T0) (hb : Below V.heap.size V V') : X0 w V' a1 a2 d1 d2 E p0 c0 T0 :=
  h.onb (OnB.of_below (B := V.heap.size) (T := V.heap.size) hb (Nat.le_refl _)) h.2.2.2
theorem X0.sl {w V : World} {a1 a2 : Na} {d1 d2 : Nd} {E : List Int} {p0 : Option Addr} {c0 T0 : Nat} (h : X0 w V a1 a2 d1 d2 E p0 c0 T0) : SL .i64 V p0 E.length (lg E) := h.2.1.head.sl

/-- A node of the law's own: the block of its variable, where its rows lie. -/
def VN (V : World) (X B : Nat) (b : Na) (d : Nd) : Prop := NB V X 37 b d ∧ ON V B X b d
theorem VN.onb {V V' : World} {X B B' T' : Nat} {b : Na} {d : Nd} (h : VN V X B b d) (ho : OnB B' T' V V') (hT : X < B' ∨ T' ≤ B) : VN V' X B b d := by
  have hlt := h.1.lt
  have hBX : B ≤ X := h.2.1.1
  have hk : ∀ j, B ≤ j → j ≤ X → V'.heap[j]? = V.heap[j]? := fun j h1 h2 => by
    rcases hT with hT | hT
    · exact ho.1.block j (by omega)
    · exact ho.2 j (by omega) (by omega)
  exact ⟨(hk X hBX (Nat.le_refl _)).trans h.1, h.2.kept (fun j h1 h2 => hk j h1 (by omega)) ho.1.size⟩
theorem VN.b {V V' : World} {X B : Nat} {b : Na} {d : Nd} (h : VN V X B b d) (hb : Below V.heap.size V V') : VN V' X B b d :=
  h.onb (OnB.of_below (B := V.heap.size) (T := V.heap.size) hb (Nat.le_refl _)) (.inl h.1.lt)
theorem VN.new {V w1 : World} {b : Na} {d : Nd} (h : ON w1 V.heap.size w1.heap.size b d) : VN (w1.alloc (.cells (nds b d) 37)) w1.heap.size V.heap.size b d :=
  ⟨NB.new _ _ _ _, h.below (bal1 w1 _) (Nat.le_refl _)⟩

/-- The answer, in memory of its own behind all. -/
def GL (V : World) (X4 : Nat) (E : List Int) (pg : Option Addr) (cg Bg Tg : Nat) : Prop := RS V Bg Tg [⟨3, pg, cg, ir E⟩] ∧ X4 < Bg ∧ Bg ≤ Tg ∧ Tg ≤ V.heap.size
theorem GL.onb {V V' : World} {X4 Bg Tg B T : Nat} {E : List Int} {pg : Option Addr} {cg : Nat} (h : GL V X4 E pg cg Bg Tg) (ho : OnB B T V V') (hT : T ≤ Bg ∨ Tg ≤ B) : GL V' X4 E pg cg Bg Tg :=
  ⟨h.1.kept (fun j h1 h2 => by
    rcases hT with hT | hT
    · exact ho.2 j (by have := h.2.2.2; omega) (by omega)
    · exact ho.1.block j (by omega)), h.2.1, h.2.2.1, Nat.le_trans h.2.2.2 ho.1.size⟩
theorem GL.b {V V' : World} {X4 Bg Tg : Nat} {E : List Int} {pg : Option Addr} {cg : Nat} (h : GL V X4 E pg cg Bg Tg) (hb : Below V.heap.size V V') : GL V' X4 E pg cg Bg Tg :=
  h.onb (OnB.of_below (B := V.heap.size) (T := V.heap.size) hb (Nat.le_refl _)) (.inr h.2.2.2)
theorem GL.sl {V : World} {X4 Bg Tg : Nat} {E : List Int} {pg : Option Addr} {cg : Nat} (h : GL V X4 E pg cg Bg Tg) : SL .i64 V pg E.length (lg E) := h.1.head.sl
theorem drewn_b (V : World) (q : Nat) : Below V.heap.size V (V.drewN q) := Below.drawn (Below.refl _ _) q
theorem drew_b (V : World) : Below V.heap.size V V.drew := Below.drawn (Below.refl _ _) 1
/-- eqIntS of two lists that are alike. -/
theorem eqi_b (ao bo : Option Addr) (ca cb : Nat) (E : List Int) (w : World) (hn : E.length ≤ 1048576) (hA : SL .i64 w ao E.length (lg E)) (hB : SL .i64 w bo E.length (lg E)) :
    Calls Tryz.prog 8 #[.slice ao E.length ca, .slice bo E.length cb] w fun e w' => e = .returned (.bool true) ∧ Below w.heap.size w w' :=
  (ieq_yes ao bo E.length ca cb (lg E) (lg E) w hn hA hB (fun _ _ => rfl)).mono fun e w' ⟨h, q, h2⟩ => ⟨h, by rw [h2]; exact drewn_b _ _⟩
/-- markIntS of a list of one's own. -/
theorem marki_g (E : List Int) (X4 Bg Tg : Nat) (pg : Option Addr) (cg : Nat) (V : World) (hn : E.length ≤ 1048576) (h : GL V X4 E pg cg Bg Tg) :
    Calls Tryz.prog 11 #[.slice pg E.length cg, .int .i64 1] V fun e w' => e = .returned (.int .i64 (1 + E.length)) ∧ GL w' X4 (mkl 1 E.length) pg cg Bg Tg ∧ OnB Bg Tg V w' :=
  (marki_r pg cg cg Bg Tg E [] [] 1 V hn (by omega) (by omega) h.1).mono fun e w' ⟨h1, h2, h3⟩ => ⟨h1, ⟨h2, h.2.1, h.2.2.1, Nat.le_trans h.2.2.2 h3.1.size⟩, h3⟩
theorem heldi_g (E : List Int) (X4 Bg Tg : Nat) (pg : Option Addr) (cg : Nat) (V : World) (hn : E.length ≤ 1048576) (h : GL V X4 (mkl 1 E.length) pg cg Bg Tg) :
    Calls Tryz.prog 12 #[.slice pg E.length cg, .int .i64 1] V fun e w' => e = .returned (.int .i64 (1 + E.length)) ∧ w' = V :=
  iheld_any pg E.length cg 1 V hn (by omega) (by omega) (sl_mkl h.sl)
end Go.Proofs.YtabknfmhhjelaaaGreatDoor

/- Slices of slices, metas and nodes copied by the program. -/
import Derived.Test.YtkndnndildnbpaaGreatDoorNdCZ

namespace Go.Proofs.YtkndnndildnbpaaGreatDoor
open Go.ChangeShapes Go.WideShapes Go.ChangeAt Go.RowKit
set_option linter.unusedVariables false
set_option linter.unusedSimpArgs false
set_option maxRecDepth 100000

theorem copyi_r (p : Option Addr) (c : Nat) (l : List Int) (w : World) (hn : l.length ≤ 1048576) (hs : SL .i64 w p l.length (fun i => l.getD i 0)) :
    Calls Tryz.prog 154 #[.slice p l.length c] w fun e w' => RI w w' l e := by
  have h := copyof_i p c (ir l) w (by rw [ir_len]; exact hn) (Cs.ints hs)
  rw [ir_len] at h
  exact h.mono fun e w' ⟨p', c', h1, h2, h3, _⟩ => ⟨p', c', h1, h2, h3⟩
theorem copyb_r (p : Option Addr) (c : Nat) (l : List Bool) (w : World) (hn : l.length ≤ 1048576) (hs : SLb w p l.length (fun i => l.getD i false)) :
    Calls Tryz.prog 156 #[.slice p l.length c] w fun e w' => RO w w' l e := by
  have h := copyof_b p c (br l) w (by rw [br_len]; exact hn) (Cs.bools hs)
  rw [br_len] at h
  exact h.mono fun e w' ⟨p', c', h1, h2, h3, _⟩ => ⟨p', c', h1, h2, h3⟩

theorem inner_push (R : Nat → Option Addr × Nat) (k : Nat) (L : Nat → List Int) (r : Option Addr × Nat) : inner (setr R k r) (k + 1) L = inner R k L ++ [⟨3, r.1, r.2, ir (L k)⟩] := by
  unfold inner
  rw [List.range_succ, List.map_append, List.map_cons, List.map_nil, setr_at]
  congr 1
  exact List.map_congr_left fun i hi => by rw [setr_ne _ _ _ (by have := List.mem_range.1 hi; omega)]
/-- The copy of n slices under way: k are copied. -/
def CE (w wr : World) (p' : Option Addr) (c' n k : Nat) (L : Nat → List Int) (R0 : Nat → Option Addr × Nat) (R : Nat → Option Addr × Nat) : Prop :=
  Below w.heap.size w wr ∧ n ≤ c' ∧ (0 < n → p' = some ⟨w.heap.size, 0, none⟩) ∧ Own wr w.heap.size 22 p' n (fun j => if j < k then .slice (R j).1 (L j).length (R j).2 else .slice (R0 j).1 (L j).length (R0 j).2) ∧ RS wr (w.heap.size + 1) wr.heap.size (inner R k L)
theorem CE.call {w wr w1 : World} {p' : Option Addr} {c' n k : Nat} {L : Nat → List Int} {R0 R : Nat → Option Addr × Nat} (h : CE w wr p' c' n k L R0 R) (hb : Below wr.heap.size wr w1) : CE w w1 p' c' n k L R0 R :=
  ⟨h.1.trans (hb.mono h.1.size), h.2.1, h.2.2.1, h.2.2.2.1.below hb, (h.2.2.2.2.below hb (Nat.le_refl _)).wide (Nat.le_refl _) hb.size⟩
theorem CE.push {w wr w1 : World} {c' n k : Nat} {L : Nat → List Int} {R0 R : Nat → Option Addr × Nat} {q : Option Addr} {cq : Nat} (hk : k < n) (h : CE w wr (some ⟨w.heap.size, 0, none⟩) c' n k L R0 R) (hb : Below wr.heap.size wr w1) (hr : RS w1 wr.heap.size w1.heap.size [⟨3, q, cq, ir (L k)⟩]) :
    CE w (w1.setCell ⟨w.heap.size, k, none⟩ (.slice q (L k).length cq)) (some ⟨w.heap.size, 0, none⟩) c' n (k + 1) L R0 (setr R k (q, cq)) := by
  have h1 := h.call hb
  have hO : Only w.heap.size w1 (w1.setCell ⟨w.heap.size, k, none⟩ (.slice q (L k).length cq)) := (Only.refl _ _).setCell _
  have hlt : w.heap.size < wr.heap.size := by obtain ⟨g, e, _, hg, _⟩ := h.2.2.2.1.at hk; cases e; exact hg
  refine ⟨h1.1.trans hO.1, h1.2.1, h1.2.2.1, ?_, ?_⟩
  · refine (h1.2.2.2.1.set k _).congr fun j hj => ?_
    by_cases e : j = k
    · subst e; rw [if_pos rfl, if_pos (by omega), setr_at]
    · rw [if_neg e, setr_ne _ _ _ e]
      by_cases e2 : j < k
      · rw [if_pos e2, if_pos (by omega)]
      · rw [if_neg e2, if_neg (by omega)]
  · rw [inner_push, hO.2.1]
    refine RS.kept ?_ (fun j h2 _ => hO.2.2 j (by omega))
    exact (h.2.2.2.2.below hb (Nat.le_refl _)).push hr (by omega) hb.size
set_option maxHeartbeats 1000000 in
theorem copyeach_any (bo : Option Addr) (n bc : Nat) (L : Nat → List Int) (w : World) (hn : n ≤ 1048576) (hL : ∀ i, i < n → (L i).length ≤ 1048576) (hv : BV w bo n L) :
    Calls Tryz.prog 157 #[.slice bo n bc] w fun e w' => RSS w w' n L e := by
  obtain ⟨R0, hC, hS⟩ := Cs.outer hv
  have hcall := hide (copyof_s bo bc (outer R0 n L) w (by rw [outer_len]; exact hn) hC)
  rw [outer_len] at hcall
  have HL := hide hL
  have HS := hide hS
  have HC := hide hC
  clear hv hL hS hC
  go_enter Tryz.func157, Tryz.ntmps157
  go_wp2_with fail
  refine hcall.out.mono ?_
  rintro e w1 ⟨p', c', rfl, hr, hb, h1, h2⟩
  have H1 : Hid (CE w w1 p' c' n 0 L R0 R0) := by
    have hr0 := hr.head
    refine ⟨hb, by have := hr0.1; rwa [show (Rw.mk 22 p' c' (outer R0 n L)).vs.length = n from outer_len _ _ _] at this, fun hp => h2 ?_, ?_, RS.nil⟩
    · obtain ⟨b, off, e, _⟩ := HC.out.1 0 (by rw [outer_len]; exact hp)
      exact ⟨_, e⟩
    · rcases hr0.2 with h0 | ⟨g, e, hg, c, hc, hs, hF⟩
      · have h0' : outer R0 n L = [] := h0
        exact .inl (by rw [← outer_len R0 n L, h0']; rfl)
      · refine .inr ⟨g, e, hg.1, c, hc, by rwa [show (Rw.mk 22 p' c' (outer R0 n L)).vs.length = n from outer_len _ _ _] at hs, fun i hi => ?_⟩
        rw [hF i (by show i < (outer R0 n L).length; rw [outer_len]; exact hi)]
        exact (outer_get R0 n L i hi).trans (congrArg some (if_neg (Nat.not_lt_zero i)).symm)
  clear hr hb h1 h2 hcall
  go_wp2
  go_loopw [4, 5, 10] (fun _ _ i wr => ∃ (k : Nat) (R : Nat → Option Addr × Nat), k ≤ n ∧ i = .int .i64 k ∧ Hid (CE w wr p' c' n k L R0 R)) (fun _ _ i _ => n - (intOf i).toNat)
  case atStart => exact ⟨0, R0, by omega, rfl, H1.out⟩
  case round =>
    obtain ⟨k, R, hk, rfl, HI⟩ := hrel
    by_cases hlt : k < n
    · obtain ⟨b, off, rfl, hbl, hc⟩ := HC.out.1 k (by rw [outer_len]; exact hlt)
      rw [outer_get _ _ _ _ hlt] at hc
      have hc' := (HI.out.1.cell (p := ⟨b, off + k, none⟩) hbl).trans hc
      obtain rfl := HI.out.2.2.1 (by omega)
      have hcall := hide (copyi_r (R0 k).1 (R0 k).2 (L k) wr (HL.out k hlt) ((HS.out k hlt).below (HI.out.1)))
      have hcn := HI.out.2.1
      generalize hl : (L k).length = l at *
      have HLL := hide hl
      clear hl hc
      go_wp2_with fail
      refine hcall.out.mono ?_
      rintro e w2 ⟨q, cq, rfl, hr, hb⟩
      rw [HLL.out]
      obtain ⟨g, e, _, hg, hcell, hfz⟩ := (HI.out.call hb).2.2.2.1.at hlt
      cases e
      have HN := hide (HI.out.push hlt hb hr)
      rw [HLL.out] at HN
      clear hr hb hcall HI
      go_wp2
      go_roundw
      case rel => exact ⟨k + 1, _, by omega, by go_num, HN.out⟩
      case measure => simp [intOf]; omega
    · obtain rfl : k = n := by omega
      go_wp2
      go_ret
      refine ⟨p', c', R, rfl, ?_, HI.out.1⟩
      obtain ⟨h1, h2, h3, h4, h5⟩ := HI.out
      have hor : RwOk wr w.heap.size wr.heap.size ⟨22, p', c', outer R k L⟩ := by
        refine RwOk.of (n := k) (F := fun j => .slice (R j).1 (L j).length (R j).2) ?_ (outer_len _ _ _) h2 (fun i hi => outer_get R k L i hi)
        rcases h4 with h4 | ⟨g, e, hg, c, hc, hs, hF⟩
        · exact .inl h4
        · exact .inr ⟨g, e, ⟨hg, (Array.getElem?_eq_some_iff.1 hc).1⟩, c, hc, hs, fun i hi => by rw [hF i hi]; exact congrArg some (if_pos hi)⟩
      refine RS.app (xs := [⟨22, p', c', outer R k L⟩]) (RS.one hor) (h5.wide (by omega) (Nat.le_refl _)) fun r hr s hs => ?_
      rw [List.mem_singleton.1 hr]
      obtain ⟨i, hi, rfl⟩ := List.mem_map.1 hs
      exact apt_types hor (h5.1 _ hs) (show (22 : Nat) ≠ 3 by decide)
theorem kset {w : World} {b i : Nat} {t : TypeId} {cs cs' : Array Value} {v : Value} (h : w.heap[b]? = some (.cells cs t (0, 0))) (e : cs.setIfInBounds i v = cs') : (w.setCell ⟨b, i, none⟩ v).heap[b]? = some (.cells cs' t (0, 0)) := by
  have := sblk (o := i) v h
  rw [e] at this
  exact this
set_option maxHeartbeats 2000000 in
theorem copym_r (go bo : Option Addr) (gc bc : Nat) (g : List Int) (n : Nat) (L : Nat → List Int) (fi ol he : Bool) (la : Int) (w : World) (hd : Bd g n L) (hv : MV w go gc bo bc g n L) :
    Calls Tryz.prog 155 #[.agg #[.slice go g.length gc, .slice bo n bc, .bool fi, .bool ol, .bool he, .int .i64 la]] w fun e w' => RM w w' g n L fi ol he la e := by
  obtain ⟨W, hW⟩ : ∃ W, W = (w.alloc (.cells #[.slice go g.length gc, .slice bo n bc, .bool fi, .bool ol, .bool he, .int .i64 la] 25)).alloc (.cells #[.slice none 0 0, .slice none 0 0, .bool false, .bool false, .bool false, .int .i64 0] 25) := ⟨_, rfl⟩
  have H0 : Hid (Below w.heap.size w W ∧ KB (W) (w.heap.size) 25 go g.length gc bo n bc fi ol he la ∧ KB W (w.heap.size + 1) 25 none 0 0 none 0 0 false false false 0 ∧ W.heap.size = w.heap.size + 1 + 1) := by
    rw [hW]
    have h2 := KB.new (w.alloc (.cells #[.slice go g.length gc, .slice bo n bc, .bool fi, .bool ol, .bool he, .int .i64 la] 25)) 25 none 0 0 none 0 0 false false false 0
    rw [alsz] at h2
    exact ⟨(bal1 _ _).alloc (by simp) _, (KB.new w _ _ _ _ _ _ _ _ _ _ _).b (bal1 _ _), h2, by simp⟩
  have HV : Hid (∀ V, Below w.heap.size w V → MV V go gc bo bc g n L) := fun V hb => hv.below hb
  have HD := hide hd
  obtain ⟨p0, p1, p2, p3, p4, p5⟩ := H0.out.2.1.cells
  have z0 := H0.out.2.1.froz
  clear hv hd
  go_enter Tryz.func155, Tryz.ntmps155
  go_wp2_with fail
  rw [← hW]
  clear hW
  refine (copyi_r go gc g W HD.out.1 (HV.out _ H0.out.1).2.1).mono ?_
  rintro e w1 ⟨q1, c1, rfl, r1, b1⟩
  have e0 := H0.out.2.2.2
  have C1 : Hid ((Below w.heap.size w w1 ∧ KB (w1) (w.heap.size) 25 go g.length gc bo n bc fi ol he la ∧ KB w1 (w.heap.size + 1) 25 none 0 0 none 0 0 false false false 0 ∧ w.heap.size + 1 + 1 ≤ w1.heap.size) ∧ RS w1 (w.heap.size + 1 + 1) w1.heap.size [⟨3, q1, c1, ir g⟩]) :=
    ⟨⟨H0.out.1.trans (b1.mono H0.out.1.size), H0.out.2.1.b b1, H0.out.2.2.1.b b1, by have := b1.size; omega⟩, by rw [← e0]; exact r1⟩
  clear r1 b1 H0 p0 p1 p2 p3 p4 p5 z0 e0
  obtain ⟨p0, p1, p2, p3, p4, p5⟩ := C1.out.1.2.1.cells
  have z0 := C1.out.1.2.1.froz
  go_wp2_with fail
  have T1 : Hid ((Below w.heap.size w (w1.setCell ⟨w.heap.size, 0, none⟩ (.slice q1 g.length c1)) ∧ KB ((w1.setCell ⟨w.heap.size, 0, none⟩ (.slice q1 g.length c1))) (w.heap.size) 25 q1 g.length c1 bo n bc fi ol he la ∧ KB (w1.setCell ⟨w.heap.size, 0, none⟩ (.slice q1 g.length c1)) (w.heap.size + 1) 25 none 0 0 none 0 0 false false false 0 ∧ w.heap.size + 1 + 1 ≤ (w1.setCell ⟨w.heap.size, 0, none⟩ (.slice q1 g.length c1)).heap.size) ∧ RS (w1.setCell ⟨w.heap.size, 0, none⟩ (.slice q1 g.length c1)) (w.heap.size + 1 + 1) (w1.setCell ⟨w.heap.size, 0, none⟩ (.slice q1 g.length c1)).heap.size [⟨3, q1, c1, ir g⟩]) := by
    have ho : Only w.heap.size w1 (w1.setCell ⟨w.heap.size, 0, none⟩ (.slice q1 g.length c1)) := (Only.refl _ _).setCell _
    exact ⟨⟨C1.out.1.1.trans ho.1, kset C1.out.1.2.1 rfl, (ho.2.2 _ (by omega)).trans C1.out.1.2.2.1, by rw [ho.2.1]; exact C1.out.1.2.2.2⟩, by rw [ho.2.1]; exact C1.out.2.kept fun j h1 _ => ho.2.2 j (by omega)⟩
  clear C1 p0 p1 p2 p3 p4 p5 z0
  generalize w1.setCell ⟨w.heap.size, 0, none⟩ (.slice q1 g.length c1) = V1 at *
  refine (copyeach_any bo n bc L V1 HD.out.2.1 HD.out.2.2 (HV.out _ T1.out.1.1).2.2).mono ?_
  rintro e w2 ⟨q2, c2, R, rfl, r2, b2⟩
  have C2 : Hid ((Below w.heap.size w w2 ∧ KB (w2) (w.heap.size) 25 q1 g.length c1 bo n bc fi ol he la ∧ KB w2 (w.heap.size + 1) 25 none 0 0 none 0 0 false false false 0 ∧ w.heap.size + 1 + 1 ≤ w2.heap.size) ∧ RS w2 (w.heap.size + 1 + 1) w2.heap.size (mrows q1 c1 q2 c2 R g n L)) :=
    ⟨⟨T1.out.1.1.trans (b2.mono T1.out.1.1.size), T1.out.1.2.1.b b2, T1.out.1.2.2.1.b b2, by have := b2.size; have := T1.out.1.2.2.2; omega⟩, by have := (T1.out.2.below b2 (Nat.le_refl _)).push r2 T1.out.1.2.2.2 b2.size; simpa [mrows] using this⟩
  clear r2 b2 T1
  obtain ⟨p0, p1, p2, p3, p4, p5⟩ := C2.out.1.2.1.cells
  have z0 := C2.out.1.2.1.froz
  obtain ⟨x0, x1, x2, x3, x4, x5⟩ := C2.out.1.2.2.1.cells
  have z1 := C2.out.1.2.2.1.froz
  have hsz := C2.out.1.2.2.2
  go_wp2
  refine bodyPost_ret (v := .agg #[.slice q1 g.length c1, .slice q2 n c2, .bool fi, .bool ol, .bool he, .int .i64 la]) (by simp [results, Tryz.results155, go_sem, p0, p1, p2, p3, p4, p5, x0, x1, x2, x3, x4, x5]) rfl ⟨q1, c1, q2, c2, R, rfl, ?_⟩
  have hN : ∀ F : World, Only (w.heap.size + 1) (w2.setCell ⟨w.heap.size, 1, none⟩ (.slice q2 n c2)) F → RS F w.heap.size F.heap.size (mrows q1 c1 q2 c2 R g n L) ∧ Below w.heap.size w F := fun F hF => by
    have hO : Only w.heap.size w2 (w2.setCell ⟨w.heap.size, 1, none⟩ (.slice q2 n c2)) := (Only.refl _ _).setCell _
    have hs : F.heap.size = w2.heap.size := hF.2.1.trans hO.2.1
    refine ⟨?_, (C2.out.1.1.trans hO.1).trans (hF.1.mono (by omega))⟩
    rw [hs]
    exact (C2.out.2.kept (w' := F) fun j h1 _ => (hF.2.2 j (by omega)).trans (hO.2.2 j (by omega))).wide (by omega) (Nat.le_refl _)
  refine hN _ ?_
  iterate 6 (refine Only.setCell ?_ _)
  exact Only.refl _ _

theorem clones_r (aA aB : Option Addr) (cA cB : Nat) (A C : List Int) (w : World) (hA : VBy w aA cA A) (hB : VBy w aB cB C) (nA : NC aA cA) (nB : NC aB cB) :
    Calls Tryz.prog 137 #[.agg #[.slice aA A.length cA, .slice aB C.length cB]] w fun e w' => RSl w w' A C e :=
  (clones_impl aA aB cA cB A C w hA hB nA nB).mono fun e w' ⟨bA, bB, dA, dB, h1, h2, h3, h4, h5⟩ => ⟨bA, bB, dA, dB, h1, ⟨h4, h5⟩, rs_osl h2, h3⟩

/-- The copy under way: the node, with its slices' places turned one by one, at block w, the result's block behind it. -/
def CS (w V : World) (a' : Na) (d : Nd) (rs : List Rw) : Prop :=
  Below w.heap.size w V ∧ NB V w.heap.size 31 a' d ∧ NB V (w.heap.size + 1) 31 Na.zero Nd.zero ∧ w.heap.size + 1 + 1 ≤ V.heap.size ∧ RS V (w.heap.size + 1 + 1) V.heap.size rs
theorem CS.call {w V V' : World} {a' : Na} {d : Nd} {rs ys : List Rw} (h : CS w V a' d rs) (hb : Below V.heap.size V V') (hr : RS V' V.heap.size V'.heap.size ys) : CS w V' a' d (rs ++ ys) :=
  ⟨h.1.trans (hb.mono h.1.size), h.2.1.b hb, h.2.2.1.b hb, Nat.le_trans h.2.2.2.1 hb.size, (h.2.2.2.2.below hb (Nat.le_refl _)).push hr h.2.2.2.1 hb.size⟩
theorem CS.set {w V V' : World} {a' a2 : Na} {d : Nd} {rs : List Rw} (h : CS w V a' d rs) (ho : Only w.heap.size V V') (hn : NB V' w.heap.size 31 a2 d) : CS w V' a2 d rs :=
  ⟨h.1.trans ho.1, hn, h.2.2.1.far ho (by omega), by rw [ho.2.1]; exact h.2.2.2.1, by rw [ho.2.1]; exact h.2.2.2.2.kept fun j h1 _ => ho.2.2 j (by omega)⟩
theorem cs_new (w : World) (a : Na) (d : Nd) : CS w ((w.alloc (.cells (nds a d) 31)).alloc (.cells (nds Na.zero Nd.zero) 31)) a d [] := by
  have h2 := NB.new (w.alloc (.cells (nds a d) 31)) 31 Na.zero Nd.zero
  rw [alsz] at h2
  exact ⟨(bal1 _ _).alloc (by simp) _, (NB.new w _ _ _).b (bal1 _ _), h2, by simp, RS.nil⟩

set_option maxHeartbeats 8000000 in
theorem copyn_impl (a : Na) (d : Nd) (w : World) (hd : NBd d) (hv : NV w a d) (hn : NNC a) :
    Calls Tryz.prog 89 #[nv a d] w fun e w' => ∃ b, e = .returned (nv b d) ∧ ON w' w.heap.size w'.heap.size b d ∧ Below w.heap.size w w' := by
  obtain ⟨W, hW⟩ : ∃ W, W = (w.alloc (.cells (nds a d) 31)).alloc (.cells (nds Na.zero Nd.zero) 31) := ⟨_, rfl⟩
  have T0 : Hid (CS w W a d []) := by rw [hW]; exact cs_new w a d
  have HV : Hid (∀ V, Below w.heap.size w V → NV V a d) := fun V hb => hv.below hb
  have HD := hide hd
  have HN := hide hn
  have HY : Hid (Byr d.A ∧ Byr d.C) := ⟨hv.2.2.1.1.2.2, hv.2.2.1.2.2.2⟩
  obtain ⟨p0, p1, p2, p3, p4, p5, p6, p7, p8, p9, p10, p11, p12, p13, p14, p15⟩ := T0.out.2.1.cells
  have z2 := T0.out.2.1.froz
  clear hd hv hn
  unfold nv
  unfold nds Na.zero Nd.zero at hW
  dsimp only [List.length_nil] at hW
  unfold nds
  go_enter Tryz.func89, Tryz.ntmps89
  go_wp2_with fail
  rw [← hW]
  clear hW
  clear p0 p1 p2 p3 p4 p5 p6 p7 p8 p9 p10 p11 p12 p13 p14 p15 z2
  refine (copyi_r a.im a.imc d.im W HD.out.1 (HV.out _ T0.out.1).1.1).mono ?_
  rintro e w1 ⟨q0, c0, rfl, r0, b0⟩
  have C1 : Hid (CS w w1 a d ([] ++ [⟨3, q0, c0, ir d.im⟩])) := T0.out.call b0 r0
  clear r0 b0 T0
  obtain ⟨p0, p1, p2, p3, p4, p5, p6, p7, p8, p9, p10, p11, p12, p13, p14, p15⟩ := C1.out.2.1.cells
  have z2 := C1.out.2.1.froz
  go_wp2_with fail
  have T1 : Hid (CS w (w1.setCell ⟨w.heap.size, 3, none⟩ (.slice q0 d.im.length c0)) { a with im := q0, imc := c0 } d ([] ++ [⟨3, q0, c0, ir d.im⟩])) := by
    have h := C1.out
    refine h.set ((Only.refl _ _).setCell _) ?_
    have n0 : NB (w1.setCell ⟨w.heap.size, 3, none⟩ (.slice q0 d.im.length c0)) (w.heap.size) 31 { a with im := q0, imc := c0 } d := nset h.2.1 rfl
    exact n0
  clear p0 p1 p2 p3 p4 p5 p6 p7 p8 p9 p10 p11 p12 p13 p14 p15 z2
  clear C1
  generalize (w1.setCell ⟨w.heap.size, 3, none⟩ (.slice q0 d.im.length c0)) = V1 at *
  refine (copym_r a.go a.bo a.gc a.bc d.g d.n d.L d.fi d.ol d.he d.la V1 HD.out.2.1 (HV.out _ T1.out.1).2.1).mono ?_
  rintro e w2 ⟨q1, c1, q2, c2, R, rfl, r0, b0⟩
  have C2 : Hid (CS w w2 { a with im := q0, imc := c0 } d (([] ++ [⟨3, q0, c0, ir d.im⟩]) ++ mrows q1 c1 q2 c2 R d.g d.n d.L)) := T1.out.call b0 r0
  clear r0 b0 T1
  obtain ⟨p0, p1, p2, p3, p4, p5, p6, p7, p8, p9, p10, p11, p12, p13, p14, p15⟩ := C2.out.2.1.cells
  have z2 := C2.out.2.1.froz
  go_wp2_with fail
  have T2 : Hid (CS w ((((((w2.setCell ⟨w.heap.size, 4, none⟩ (.slice q1 d.g.length c1)).setCell ⟨w.heap.size, 5, none⟩ (.slice q2 d.n c2)).setCell ⟨w.heap.size, 6, none⟩ (.bool d.fi)).setCell ⟨w.heap.size, 7, none⟩ (.bool d.ol)).setCell ⟨w.heap.size, 8, none⟩ (.bool d.he)).setCell ⟨w.heap.size, 9, none⟩ (.int .i64 d.la)) { a with im := q0, imc := c0, go := q1, gc := c1, bo := q2, bc := c2 } d (([] ++ [⟨3, q0, c0, ir d.im⟩]) ++ mrows q1 c1 q2 c2 R d.g d.n d.L)) := by
    have h := C2.out
    refine h.set (((((((Only.refl _ _).setCell _).setCell _).setCell _).setCell _).setCell _).setCell _) ?_
    have n0 : NB (w2.setCell ⟨w.heap.size, 4, none⟩ (.slice q1 d.g.length c1)) (w.heap.size) 31 { a with im := q0, imc := c0, go := q1, gc := c1 } d := nset h.2.1 rfl
    have n1 : NB ((w2.setCell ⟨w.heap.size, 4, none⟩ (.slice q1 d.g.length c1)).setCell ⟨w.heap.size, 5, none⟩ (.slice q2 d.n c2)) (w.heap.size) 31 { a with im := q0, imc := c0, go := q1, gc := c1, bo := q2, bc := c2 } d := nset n0 rfl
    have n2 : NB (((w2.setCell ⟨w.heap.size, 4, none⟩ (.slice q1 d.g.length c1)).setCell ⟨w.heap.size, 5, none⟩ (.slice q2 d.n c2)).setCell ⟨w.heap.size, 6, none⟩ (.bool d.fi)) (w.heap.size) 31 { a with im := q0, imc := c0, go := q1, gc := c1, bo := q2, bc := c2 } d := nset n1 rfl
    have n3 : NB ((((w2.setCell ⟨w.heap.size, 4, none⟩ (.slice q1 d.g.length c1)).setCell ⟨w.heap.size, 5, none⟩ (.slice q2 d.n c2)).setCell ⟨w.heap.size, 6, none⟩ (.bool d.fi)).setCell ⟨w.heap.size, 7, none⟩ (.bool d.ol)) (w.heap.size) 31 { a with im := q0, imc := c0, go := q1, gc := c1, bo := q2, bc := c2 } d := nset n2 rfl
    have n4 : NB (((((w2.setCell ⟨w.heap.size, 4, none⟩ (.slice q1 d.g.length c1)).setCell ⟨w.heap.size, 5, none⟩ (.slice q2 d.n c2)).setCell ⟨w.heap.size, 6, none⟩ (.bool d.fi)).setCell ⟨w.heap.size, 7, none⟩ (.bool d.ol)).setCell ⟨w.heap.size, 8, none⟩ (.bool d.he)) (w.heap.size) 31 { a with im := q0, imc := c0, go := q1, gc := c1, bo := q2, bc := c2 } d := nset n3 rfl
    have n5 : NB ((((((w2.setCell ⟨w.heap.size, 4, none⟩ (.slice q1 d.g.length c1)).setCell ⟨w.heap.size, 5, none⟩ (.slice q2 d.n c2)).setCell ⟨w.heap.size, 6, none⟩ (.bool d.fi)).setCell ⟨w.heap.size, 7, none⟩ (.bool d.ol)).setCell ⟨w.heap.size, 8, none⟩ (.bool d.he)).setCell ⟨w.heap.size, 9, none⟩ (.int .i64 d.la)) (w.heap.size) 31 { a with im := q0, imc := c0, go := q1, gc := c1, bo := q2, bc := c2 } d := nset n4 rfl
    exact n5
  clear p0 p1 p2 p3 p4 p5 p6 p7 p8 p9 p10 p11 p12 p13 p14 p15 z2
  clear C2
  generalize ((((((w2.setCell ⟨w.heap.size, 4, none⟩ (.slice q1 d.g.length c1)).setCell ⟨w.heap.size, 5, none⟩ (.slice q2 d.n c2)).setCell ⟨w.heap.size, 6, none⟩ (.bool d.fi)).setCell ⟨w.heap.size, 7, none⟩ (.bool d.ol)).setCell ⟨w.heap.size, 8, none⟩ (.bool d.he)).setCell ⟨w.heap.size, 9, none⟩ (.int .i64 d.la)) = V2 at *
  refine (clones_r a.aA a.aB a.cA a.cB d.A d.C V2 ((HV.out _ T2.out.1).vA HD.out) ((HV.out _ T2.out.1).vC HD.out) HN.out.1 HN.out.2).mono ?_
  rintro e w3 ⟨q3, q4, c3, c4, rfl, m2, r0, b0⟩
  have C3 : Hid (CS w w3 { a with im := q0, imc := c0, go := q1, gc := c1, bo := q2, bc := c2 } d ((([] ++ [⟨3, q0, c0, ir d.im⟩]) ++ mrows q1 c1 q2 c2 R d.g d.n d.L) ++ [⟨5, q3, c3, yr d.A⟩, ⟨5, q4, c4, yr d.C⟩])) := T2.out.call b0 r0
  clear r0 b0 T2
  obtain ⟨p0, p1, p2, p3, p4, p5, p6, p7, p8, p9, p10, p11, p12, p13, p14, p15⟩ := C3.out.2.1.cells
  have z2 := C3.out.2.1.froz
  go_wp2_with fail
  have T3 : Hid (CS w ((w3.setCell ⟨w.heap.size, 10, none⟩ (.slice q3 d.A.length c3)).setCell ⟨w.heap.size, 11, none⟩ (.slice q4 d.C.length c4)) { a with im := q0, imc := c0, go := q1, gc := c1, bo := q2, bc := c2, aA := q3, cA := c3, aB := q4, cB := c4 } d ((([] ++ [⟨3, q0, c0, ir d.im⟩]) ++ mrows q1 c1 q2 c2 R d.g d.n d.L) ++ [⟨5, q3, c3, yr d.A⟩, ⟨5, q4, c4, yr d.C⟩])) := by
    have h := C3.out
    refine h.set (((Only.refl _ _).setCell _).setCell _) ?_
    have n0 : NB (w3.setCell ⟨w.heap.size, 10, none⟩ (.slice q3 d.A.length c3)) (w.heap.size) 31 { a with im := q0, imc := c0, go := q1, gc := c1, bo := q2, bc := c2, aA := q3, cA := c3 } d := nset h.2.1 rfl
    have n1 : NB ((w3.setCell ⟨w.heap.size, 10, none⟩ (.slice q3 d.A.length c3)).setCell ⟨w.heap.size, 11, none⟩ (.slice q4 d.C.length c4)) (w.heap.size) 31 { a with im := q0, imc := c0, go := q1, gc := c1, bo := q2, bc := c2, aA := q3, cA := c3, aB := q4, cB := c4 } d := nset n0 rfl
    exact n1
  clear p0 p1 p2 p3 p4 p5 p6 p7 p8 p9 p10 p11 p12 p13 p14 p15 z2
  clear C3
  generalize ((w3.setCell ⟨w.heap.size, 10, none⟩ (.slice q3 d.A.length c3)).setCell ⟨w.heap.size, 11, none⟩ (.slice q4 d.C.length c4)) = V3 at *
  refine (copyb_r a.co a.coc d.co V3 HD.out.2.2.2.1 (HV.out _ T3.out.1).2.2.2.1.1).mono ?_
  rintro e w4 ⟨q5, c5, rfl, r0, b0⟩
  have C4 : Hid (CS w w4 { a with im := q0, imc := c0, go := q1, gc := c1, bo := q2, bc := c2, aA := q3, cA := c3, aB := q4, cB := c4 } d (((([] ++ [⟨3, q0, c0, ir d.im⟩]) ++ mrows q1 c1 q2 c2 R d.g d.n d.L) ++ [⟨5, q3, c3, yr d.A⟩, ⟨5, q4, c4, yr d.C⟩]) ++ [⟨4, q5, c5, br d.co⟩])) := T3.out.call b0 r0
  clear r0 b0 T3
  obtain ⟨p0, p1, p2, p3, p4, p5, p6, p7, p8, p9, p10, p11, p12, p13, p14, p15⟩ := C4.out.2.1.cells
  have z2 := C4.out.2.1.froz
  go_wp2_with fail
  have T4 : Hid (CS w (w4.setCell ⟨w.heap.size, 12, none⟩ (.slice q5 d.co.length c5)) { a with im := q0, imc := c0, go := q1, gc := c1, bo := q2, bc := c2, aA := q3, cA := c3, aB := q4, cB := c4, co := q5, coc := c5 } d (((([] ++ [⟨3, q0, c0, ir d.im⟩]) ++ mrows q1 c1 q2 c2 R d.g d.n d.L) ++ [⟨5, q3, c3, yr d.A⟩, ⟨5, q4, c4, yr d.C⟩]) ++ [⟨4, q5, c5, br d.co⟩])) := by
    have h := C4.out
    refine h.set ((Only.refl _ _).setCell _) ?_
    have n0 : NB (w4.setCell ⟨w.heap.size, 12, none⟩ (.slice q5 d.co.length c5)) (w.heap.size) 31 { a with im := q0, imc := c0, go := q1, gc := c1, bo := q2, bc := c2, aA := q3, cA := c3, aB := q4, cB := c4, co := q5, coc := c5 } d := nset h.2.1 rfl
    exact n0
  clear p0 p1 p2 p3 p4 p5 p6 p7 p8 p9 p10 p11 p12 p13 p14 p15 z2
  clear C4
  generalize (w4.setCell ⟨w.heap.size, 12, none⟩ (.slice q5 d.co.length c5)) = V4 at *
  refine (copyeach_any a.so d.m a.sc d.S V4 HD.out.2.2.2.2.1.1 HD.out.2.2.2.2.1.2 (HV.out _ T4.out.1).2.2.2.2.1.1).mono ?_
  rintro e w5 ⟨q6, c6, Q, rfl, r0, b0⟩
  have C5 : Hid (CS w w5 { a with im := q0, imc := c0, go := q1, gc := c1, bo := q2, bc := c2, aA := q3, cA := c3, aB := q4, cB := c4, co := q5, coc := c5 } d ((((([] ++ [⟨3, q0, c0, ir d.im⟩]) ++ mrows q1 c1 q2 c2 R d.g d.n d.L) ++ [⟨5, q3, c3, yr d.A⟩, ⟨5, q4, c4, yr d.C⟩]) ++ [⟨4, q5, c5, br d.co⟩]) ++ srows q6 c6 Q d.m d.S)) := T4.out.call b0 r0
  clear r0 b0 T4
  obtain ⟨p0, p1, p2, p3, p4, p5, p6, p7, p8, p9, p10, p11, p12, p13, p14, p15⟩ := C5.out.2.1.cells
  have z2 := C5.out.2.1.froz
  go_wp2_with fail
  have T5 : Hid (CS w (w5.setCell ⟨w.heap.size, 13, none⟩ (.slice q6 d.m c6)) { a with im := q0, imc := c0, go := q1, gc := c1, bo := q2, bc := c2, aA := q3, cA := c3, aB := q4, cB := c4, co := q5, coc := c5, so := q6, sc := c6 } d ((((([] ++ [⟨3, q0, c0, ir d.im⟩]) ++ mrows q1 c1 q2 c2 R d.g d.n d.L) ++ [⟨5, q3, c3, yr d.A⟩, ⟨5, q4, c4, yr d.C⟩]) ++ [⟨4, q5, c5, br d.co⟩]) ++ srows q6 c6 Q d.m d.S)) := by
    have h := C5.out
    refine h.set ((Only.refl _ _).setCell _) ?_
    have n0 : NB (w5.setCell ⟨w.heap.size, 13, none⟩ (.slice q6 d.m c6)) (w.heap.size) 31 { a with im := q0, imc := c0, go := q1, gc := c1, bo := q2, bc := c2, aA := q3, cA := c3, aB := q4, cB := c4, co := q5, coc := c5, so := q6, sc := c6 } d := nset h.2.1 rfl
    exact n0
  clear p0 p1 p2 p3 p4 p5 p6 p7 p8 p9 p10 p11 p12 p13 p14 p15 z2
  clear C5
  generalize (w5.setCell ⟨w.heap.size, 13, none⟩ (.slice q6 d.m c6)) = V5 at *
  refine (copyb_r a.cp a.cpc d.cp V5 HD.out.2.2.2.2.2.1 (HV.out _ T5.out.1).2.2.2.2.2.1.1).mono ?_
  rintro e w6 ⟨q7, c7, rfl, r0, b0⟩
  have C6 : Hid (CS w w6 { a with im := q0, imc := c0, go := q1, gc := c1, bo := q2, bc := c2, aA := q3, cA := c3, aB := q4, cB := c4, co := q5, coc := c5, so := q6, sc := c6 } d (((((([] ++ [⟨3, q0, c0, ir d.im⟩]) ++ mrows q1 c1 q2 c2 R d.g d.n d.L) ++ [⟨5, q3, c3, yr d.A⟩, ⟨5, q4, c4, yr d.C⟩]) ++ [⟨4, q5, c5, br d.co⟩]) ++ srows q6 c6 Q d.m d.S) ++ [⟨4, q7, c7, br d.cp⟩])) := T5.out.call b0 r0
  clear r0 b0 T5
  obtain ⟨p0, p1, p2, p3, p4, p5, p6, p7, p8, p9, p10, p11, p12, p13, p14, p15⟩ := C6.out.2.1.cells
  have z2 := C6.out.2.1.froz
  go_wp2_with fail
  have T6 : Hid (CS w (w6.setCell ⟨w.heap.size, 14, none⟩ (.slice q7 d.cp.length c7)) { a with im := q0, imc := c0, go := q1, gc := c1, bo := q2, bc := c2, aA := q3, cA := c3, aB := q4, cB := c4, co := q5, coc := c5, so := q6, sc := c6, cp := q7, cpc := c7 } d (((((([] ++ [⟨3, q0, c0, ir d.im⟩]) ++ mrows q1 c1 q2 c2 R d.g d.n d.L) ++ [⟨5, q3, c3, yr d.A⟩, ⟨5, q4, c4, yr d.C⟩]) ++ [⟨4, q5, c5, br d.co⟩]) ++ srows q6 c6 Q d.m d.S) ++ [⟨4, q7, c7, br d.cp⟩])) := by
    have h := C6.out
    refine h.set ((Only.refl _ _).setCell _) ?_
    have n0 : NB (w6.setCell ⟨w.heap.size, 14, none⟩ (.slice q7 d.cp.length c7)) (w.heap.size) 31 { a with im := q0, imc := c0, go := q1, gc := c1, bo := q2, bc := c2, aA := q3, cA := c3, aB := q4, cB := c4, co := q5, coc := c5, so := q6, sc := c6, cp := q7, cpc := c7 } d := nset h.2.1 rfl
    exact n0
  clear p0 p1 p2 p3 p4 p5 p6 p7 p8 p9 p10 p11 p12 p13 p14 p15 z2
  clear C6
  generalize (w6.setCell ⟨w.heap.size, 14, none⟩ (.slice q7 d.cp.length c7)) = V6 at *
  refine (copyi_r a.wt a.wtc d.wt V6 HD.out.2.2.2.2.2.2 (HV.out _ T6.out.1).2.2.2.2.2.2.1).mono ?_
  rintro e w7 ⟨q8, c8, rfl, r0, b0⟩
  have C7 : Hid (CS w w7 { a with im := q0, imc := c0, go := q1, gc := c1, bo := q2, bc := c2, aA := q3, cA := c3, aB := q4, cB := c4, co := q5, coc := c5, so := q6, sc := c6, cp := q7, cpc := c7 } d ((((((([] ++ [⟨3, q0, c0, ir d.im⟩]) ++ mrows q1 c1 q2 c2 R d.g d.n d.L) ++ [⟨5, q3, c3, yr d.A⟩, ⟨5, q4, c4, yr d.C⟩]) ++ [⟨4, q5, c5, br d.co⟩]) ++ srows q6 c6 Q d.m d.S) ++ [⟨4, q7, c7, br d.cp⟩]) ++ [⟨3, q8, c8, ir d.wt⟩])) := T6.out.call b0 r0
  clear r0 b0 T6
  obtain ⟨p0, p1, p2, p3, p4, p5, p6, p7, p8, p9, p10, p11, p12, p13, p14, p15⟩ := C7.out.2.1.cells
  have z2 := C7.out.2.1.froz
  obtain ⟨x0, x1, x2, x3, x4, x5, x6, x7, x8, x9, x10, x11, x12, x13, x14, x15⟩ := C7.out.2.2.1.cells
  have z1 := C7.out.2.2.1.froz
  have hsz := C7.out.2.2.2.1
  simp only [Na.zero, Nd.zero, List.length_nil] at x0 x1 x2 x3 x4 x5 x6 x7 x8 x9 x10 x11 x12 x13 x14 x15
  go_wp2
  refine bodyPost_ret (v := .agg #[.int .i64 d.id, .bool d.up, .bool d.pr, .slice q0 d.im.length c0, .slice q1 d.g.length c1, .slice q2 d.n c2, .bool d.fi, .bool d.ol, .bool d.he, .int .i64 d.la, .slice q3 d.A.length c3, .slice q4 d.C.length c4, .slice q5 d.co.length c5, .slice q6 d.m c6, .slice q7 d.cp.length c7, .slice q8 d.wt.length c8]) (by simp [results, Tryz.results89, go_sem, p0, p1, p2, p3, p4, p5, p6, p7, p8, p9, p10, p11, p12, p13, p14, p15, x0, x1, x2, x3, x4, x5, x6, x7, x8, x9, x10, x11, x12, x13, x14, x15]) rfl ⟨⟨q0, c0, q1, c1, q2, c2, q3, c3, q4, c4, q5, c5, q6, c6, q7, c7, q8, c8⟩, rfl, ?_⟩
  have hN : ∀ F : World, Only (w.heap.size + 1) (w7.setCell ⟨w.heap.size, 15, none⟩ (.slice q8 d.wt.length c8)) F → ON F w.heap.size F.heap.size ⟨q0, c0, q1, c1, q2, c2, q3, c3, q4, c4, q5, c5, q6, c6, q7, c7, q8, c8⟩ d ∧ Below w.heap.size w F := fun F hF => by
    have hO : Only w.heap.size w7 (w7.setCell ⟨w.heap.size, 15, none⟩ (.slice q8 d.wt.length c8)) := (Only.refl _ _).setCell _
    have hs : F.heap.size = w7.heap.size := hF.2.1.trans hO.2.1
    refine ⟨⟨⟨by omega, Nat.le_refl _⟩, m2, HY.out, R, Q, ?_⟩, (C7.out.1.trans hO.1).trans (hF.1.mono (by omega))⟩
    rw [hs]
    have := (C7.out.2.2.2.2.kept (w' := F) fun j h1 _ => (hF.2.2 j (by omega)).trans (hO.2.2 j (by omega))).wide (B' := w.heap.size) (by omega) (Nat.le_refl _)
    simpa [nrows] using this
  refine hN _ ?_
  iterate 16 (refine Only.setCell ?_ _)
  exact Only.refl _ _
end Go.Proofs.YtkndnndildnbpaaGreatDoor

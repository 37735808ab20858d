/- A draft, of the program: made, kept, kept where it is right. -/
import Derived.Test.YtkndnndildnbpaaGreatDoorGu
import Derived.Test.YtkndnndildnbpaaGreatDoorSlPuZ

namespace Go.Proofs.YtkndnndildnbpaaGreatDoor
open Go.ChangeShapes Go.WideShapes Go.ChangeAt Go.RowKit
set_option linter.unusedVariables false
set_option linter.unusedSimpArgs false
set_option maxRecDepth 100000

theorem err_only {w w' : World} {X : Nat} {am : Na} {dm : Nd} {a : Na} {d : Nd} (hg : ErrT w) (h : DB w X am dm a d) (ho : OnlyG X w w') : ErrT w' := by
  have hne : 11 ≠ X := fun e => by
    have h0 : w.heap[X]? = _ := h
    rw [← e] at h0
    unfold ErrT at hg
    simp [World.cell?, h0, dds] at hg
  have hlt : 11 < w.heap.size := by
    rcases Nat.lt_or_ge 11 w.heap.size with h | h
    · exact h
    · unfold ErrT at hg; simp [World.cell?, Array.getElem?_eq_none h] at hg
  have e := ho.2 11 hlt hne
  unfold ErrT at hg ⊢
  rw [← hg]
  simp only [World.cell?]
  rw [e]
theorem onlyG_then {w w2 w3 : World} {X g : Nat} (h : OnlyG X w w2) (ho : Only g w2 w3) (hg : w.heap.size ≤ g) (hX : X ≤ w.heap.size) : OnlyG X w w3 :=
  ⟨h.1.trans (ho.1.mono (by omega)), fun j h1 h2 => (ho.2.2 j (by omega)).trans (h.2 j h1 h2)⟩
theorem on_beside {w w' : World} {B T g : Nat} {c : Array Value} {b : Na} {d : Nd} (h : ON w B T b d) (hc : w.heap[g]? = some (.cells c 31 (0, 0))) (ho : Only g w w') : ON w' B T b d := by
  obtain ⟨h1, h2, h3, R, Q, h5⟩ := h
  refine ⟨by rw [ho.2.1]; exact h1, h2, h3, R, Q, rs_beside h5 hc (fun r hr => ?_) ho⟩
  rcases drows_t (am := b) (R' := R) (dm := d) (List.mem_append_right _ hr) with h | h | h | h <;> rw [h] <;> decide
theorem step_if {p : Bool} {A B : Prop} (hp : p = true) (h : A) : if p = true then A else B := by rw [if_pos hp]; exact h

set_option maxHeartbeats 100000000 in
theorem draft_i (a : Na) (d : Nd) (w : World) (hd : NBd d) (hv : NV w a d) (hn : NNC a) :
    Calls Tryz.prog 90 #[nv a d] w fun e w' => ∃ X am b, e = .returned (.pointer (some ⟨X, 0, none⟩)) ∧ DR w' X w.heap.size am d b d ∧ w.heap.size < X ∧ Below w.heap.size w w' := by
  obtain ⟨W, hW⟩ : ∃ W, W = w.alloc (.cells (nds a d) 31) := ⟨_, rfl⟩
  have HS0 : Hid (Below w.heap.size w W.drew ∧ NB W.drew w.heap.size 31 a d) := by rw [hW]; exact ⟨Below.drawn (bal1 _ _) 1, (NB.new w _ _ _).b (Below.drawn (Below.refl _ _) 1)⟩
  have hlt0 : w.heap.size < W.drew.heap.size := HS0.out.2.lt
  have HV : Hid (∀ V, Below w.heap.size w V → NV V a d) := fun V hb => hv.below hb
  have HD := hide hd
  have HN := hide hn
  clear hd hv hn
  unfold nv
  unfold nds at hW ⊢
  go_enter Tryz.func90, Tryz.ntmps90
  go_upto_region 1 with fail
  rw [← hW]
  clear hW
  generalize Value.agg #[.int .i64 d.id, .bool d.up, .bool d.pr, .slice a.im d.im.length a.imc, .slice a.go d.g.length a.gc, .slice a.bo d.n a.bc, .bool d.fi, .bool d.ol, .bool d.he, .int .i64 d.la, .slice a.aA d.A.length a.cA, .slice a.aB d.C.length a.cB, .slice a.co d.co.length a.coc, .slice a.so d.m a.sc, .slice a.cp d.cp.length a.cpc, .slice a.wt d.wt.length a.wtc] = vn at *
  refine wp_region_held_drew (S := (fun w' => NB w' w.heap.size 31 a d)) (by kernel_rfl) ?_ (fun hHeld => ?_)
  · exact HS0.out.2
  refine wpAnyH_take (i := 0) (oi := { dst := some 3, op := Op.fieldAddr 31 (Operand.tmp 1) 4, type := 0, pos := "l08_node.go:148", after := #[], guard := none }) (v := ?_) rfl (by kernel_rfl) (by kernel_rfl) (by kernel_rfl) (fun _ _ _ h => h) (Or.inl ⟨by rfl, ?_⟩) (by assumption) ?_
  rotate_left 1
  · (intro wq hSw; (try dsimp only at hSw); go_simp; try with_reducible rfl)
  try simp only [Act.put, ly1, ly2, ly3]
  refine wpAnyH_take (i := 1) (oi := { dst := some 4, op := Op.load 25 (Operand.tmp 3), type := 25, pos := "l08_node.go:148", after := #[{ on := 0, ground := Ground.data }], guard := none }) (v := mvv a d) rfl (by kernel_rfl) (by kernel_rfl) (by kernel_rfl) (fun _ _ _ h => h) (yieldsIf_load_mid (by rfl) _ _ rfl w.heap.size 4 rfl (mds a d) _ (fun wq hSw => range_of hSw rfl) Tryz.underlying25 rfl (by kernel_rfl)) (by assumption) ?_
  try simp only [Act.put, ly1, ly2, ly3]
  refine wpAnyH_take (i := 3) (oi := { dst := some 6, op := Op.load 31 (Operand.tmp 1), type := 31, pos := "l08_node.go:148", after := #[], guard := none }) (v := nv a d) rfl (by kernel_rfl) (by kernel_rfl) (by kernel_rfl) (fun _ _ _ h => h) (yieldsIf_load_mid (by rfl) _ _ rfl w.heap.size 0 rfl ((nds a d).toList) _ (fun wq hSw => range_of hSw rfl) Tryz.underlying31 rfl (by kernel_rfl)) (by assumption) ?_
  try simp only [Act.put, ly1, ly2, ly3]
  refine wpAnyH_ready (rs := [2]) (by kernel_rfl) (by simp) ?_
  refine AllReadyH.cons (o := { dst := some 5, op := Op.call { callee := Callee.value (Operand.func 155), args := #[Operand.tmp 4], argTypes := #[25] }, type := 25, pos := "l08_node.go:148", after := #[{ on := 1, ground := Ground.data }], guard := none }) rfl (fun K hK => ?_) AllReadyH.nil
  go_simp
  refine (copym_r a.go a.bo a.gc a.bc d.g d.n d.L d.fi d.ol d.he d.la W.drew HD.out.2.1 (HV.out _ HS0.out.1).2.1).mono ?_
  rintro e y1 ⟨q1, c1, q2, c2, R', rfl, r1, b1⟩
  have H1 : Hid (Below w.heap.size w y1 ∧ NB y1 w.heap.size 31 a d ∧ RS y1 W.drew.heap.size y1.heap.size (mrows q1 c1 q2 c2 R' d.g d.n d.L) ∧ W.drew.heap.size ≤ y1.heap.size) := ⟨HS0.out.1.trans (b1.mono HS0.out.1.size), HS0.out.2.b b1, r1, b1.size⟩
  clear r1 b1
  go_wp2_with fail
  refine hK.out _ _ ?_ (fun hHeld => ?_)
  · exact H1.out.2.1
  clear hK K
  try simp only [Act.put, ly1, ly2, ly3]
  refine wpAnyH_ready (rs := [4]) (by kernel_rfl) (by simp) ?_
  refine AllReadyH.cons (o := { dst := some 7, op := Op.call { callee := Callee.value (Operand.func 89), args := #[Operand.tmp 6], argTypes := #[31] }, type := 31, pos := "l08_node.go:148", after := #[{ on := 3, ground := Ground.data }, { on := 2, ground := Ground.chain }], guard := none }) rfl (fun K hK => ?_) AllReadyH.nil
  go_simp
  refine (copyn_impl a d y1 HD.out (HV.out _ H1.out.1) HN.out).mono ?_
  rintro e y2 ⟨b, rfl, o2, b2⟩
  obtain ⟨am, ham⟩ : ∃ am : Na, am = { a with go := q1, gc := c1, bo := q2, bc := c2 } := ⟨_, rfl⟩
  have H2 : Hid (Below w.heap.size w y2 ∧ NB y2 w.heap.size 31 a d ∧ NNC b ∧ (Byr d.A ∧ Byr d.C) ∧ ∃ R' R Q, RS y2 w.heap.size y2.heap.size (drows am R' d b R Q d)) := by
    obtain ⟨⟨z1, _⟩, z3, z4, R, Q, z5⟩ := o2
    exact ⟨H1.out.1.trans (b2.mono H1.out.1.size), H1.out.2.1.b b2, z3, z4, R', R, Q, by rw [ham]; exact (((H1.out.2.2.1.below b2 (Nat.le_refl _)).push z5 H1.out.2.2.2 z1)).wide (Nat.le_of_lt hlt0) (Nat.le_refl _)⟩
  have HA : Hid (mvv am d = .agg #[.slice q1 d.g.length c1, .slice q2 d.n c2, .bool d.fi, .bool d.ol, .bool d.he, .int .i64 d.la]) := by rw [ham]; rfl
  rw [← HA.out]
  clear o2 b2 H1 ham HA
  unfold nv nds mvv
  go_wp2_with fail
  refine hK.out _ _ ?_ (fun hHeld => ?_)
  · exact H2.out.2.1
  clear hK K
  try simp only [Act.put, ly1, ly2, ly3]
  refine wpAnyH_take (i := 5) (oi := { dst := some 8, op := Op.build 98 #[(0, Operand.tmp 5), (1, Operand.tmp 7)], type := 98, pos := "l08_node.go:148", after := #[{ on := 2, ground := Ground.data }, { on := 4, ground := Ground.data }], guard := none }) (v := ?_) rfl (by kernel_rfl) (by kernel_rfl) (by kernel_rfl) (fun _ _ _ h => h) (Or.inl ⟨by rfl, ?_⟩) (by assumption) ?_
  rotate_left 1
  · (intro wq hSw; (try dsimp only at hSw); go_simp; try with_reducible rfl)
  try simp only [Act.put, ly1, ly2, ly3]
  refine wpAnyH_ready (rs := [6]) (by kernel_rfl) (by simp) ?_
  refine AllReadyH.cons (o := { dst := some 9, op := Op.box 98 (Operand.tmp 8), type := 95, pos := "l08_node.go:148", after := #[{ on := 5, ground := Ground.data }], guard := none }) rfl (fun K hK => ?_) AllReadyH.nil
  go_simp
  have H3 : Hid (DR (y2.alloc (.cells (dds am d b d) 98)) y2.heap.size w.heap.size am d b d ∧ w.heap.size < y2.heap.size ∧ Below w.heap.size w (y2.alloc (.cells (dds am d b d) 98))) := ⟨⟨DB.new _ _ _ _ _, H2.out.1.size, H2.out.2.2.1, H2.out.2.2.2.1, by
    obtain ⟨R', R, Q, z⟩ := H2.out.2.2.2.2
    exact ⟨R', R, Q, (z.below (bal1 _ _) (Nat.le_refl _)).wide (Nat.le_refl _) (by simp)⟩⟩, H2.out.2.1.lt, H2.out.1.trans ((bal1 y2 _).mono H2.out.1.size)⟩
  have HK : Hid (NB (y2.alloc (.cells (dds am d b d) 98)) w.heap.size 31 a d) := H2.out.2.1.b (bal1 _ _)
  clear H2
  refine hK.out _ _ ?_ (fun hHeld => ?_)
  · exact HK.out
  clear hK K
  try simp only [Act.put, ly1, ly2, ly3]
  refine wpAnyH_take (i := 7) (oi := { dst := some 2, op := Op.assign (Operand.tmp 9), type := 95, pos := "l08_node.go:148", after := #[{ on := 6, ground := Ground.data }, { on := 4, ground := Ground.chain }, { on := 0, ground := Ground.phase }, { on := 1, ground := Ground.phase }, { on := 2, ground := Ground.phase }, { on := 3, ground := Ground.phase }, { on := 4, ground := Ground.phase }, { on := 5, ground := Ground.phase }, { on := 6, ground := Ground.phase }], guard := none }) (v := ?_) rfl (by kernel_rfl) (by kernel_rfl) (by kernel_rfl) (fun _ _ _ h => h) (Or.inl ⟨by rfl, ?_⟩) (by assumption) ?_
  rotate_left 1
  · (intro wq hSw; (try dsimp only at hSw); go_simp; try with_reducible rfl)
  try simp only [Act.put, ly1, ly2, ly3]
  refine wpAnyH_done (by kernel_rfl) ?_ _
  go_wp2_with fail
  go_ret
  exact ⟨_, am, b, rfl, H3.out⟩

theorem kp_rows {w w2 : World} {B : Nat} {am b : Na} {dm d : Nd} {R' R Q : Nat → Option Addr × Nat} {bA bB : Option Addr} {cA cB : Nat} {A C : List Int} (h : RS w B w.heap.size (drows am R' dm b R Q d)) (hb : Below w.heap.size w w2) (hs : RS w2 w.heap.size w2.heap.size [⟨5, bA, cA, yr A⟩, ⟨5, bB, cB, yr C⟩]) (hB : B ≤ w.heap.size) :
    RS w2 B w2.heap.size (nrows { b with go := am.go, gc := am.gc, bo := am.bo, bc := am.bc, aA := bA, cA := cA, aB := bB, cB := cB } R' Q { d with g := dm.g, n := dm.n, L := dm.L, A := A, C := C }) := by
  have h1 := h.below hb (Nat.le_refl _)
  have hN : RS w2 B w.heap.size ([⟨3, b.im, b.imc, ir d.im⟩] ++ (mrows b.go b.gc b.bo b.bc R d.g d.n d.L ++ ([⟨5, b.aA, b.cA, yr d.A⟩, ⟨5, b.aB, b.cB, yr d.C⟩] ++ (⟨4, b.co, b.coc, br d.co⟩ :: (srows b.so b.sc Q d.m d.S ++ [⟨4, b.cp, b.cpc, br d.cp⟩, ⟨3, b.wt, b.wtc, ir d.wt⟩]))))) := h1.right
  have hap : Ap (mrows am.go am.gc am.bo am.bc R' dm.g dm.n dm.L) ([⟨3, b.im, b.imc, ir d.im⟩] ++ (mrows b.go b.gc b.bo b.bc R d.g d.n d.L ++ ([⟨5, b.aA, b.cA, yr d.A⟩, ⟨5, b.aB, b.cB, yr d.C⟩] ++ (⟨4, b.co, b.coc, br d.co⟩ :: (srows b.so b.sc Q d.m d.S ++ [⟨4, b.cp, b.cpc, br d.cp⟩, ⟨3, b.wt, b.wtc, ir d.wt⟩]))))) := h1.ap
  have h2 := hN.swap h1.left (fun r hr s hs => hap r hr s (List.mem_append_left _ hs)) (fun r hr s hs => hap r hr s (List.mem_append_right _ (List.mem_append_right _ hs)))
  have h3 : RS w2 B w.heap.size (([⟨3, b.im, b.imc, ir d.im⟩] ++ mrows am.go am.gc am.bo am.bc R' dm.g dm.n dm.L) ++ ([⟨5, b.aA, b.cA, yr d.A⟩, ⟨5, b.aB, b.cB, yr d.C⟩] ++ (⟨4, b.co, b.coc, br d.co⟩ :: (srows b.so b.sc Q d.m d.S ++ [⟨4, b.cp, b.cpc, br d.cp⟩, ⟨3, b.wt, b.wtc, ir d.wt⟩])))) := by
    rw [List.append_assoc]; exact h2
  have h4 := h3.renew hs hB hb.size
  rw [List.append_assoc] at h4
  exact h4

/-- A draft that was kept: its node in memory of its own. -/
def KR (w : World) (X B : Nat) (am : Na) (dm : Nd) (b : Na) (k : Nd) : Prop := DB w X am dm b k ∧ B ≤ X ∧ ON w B w.heap.size b k ∧ (b.go = am.go ∧ b.gc = am.gc ∧ b.bo = am.bo ∧ b.bc = am.bc)
set_option maxHeartbeats 100000000 in
theorem keep_i (X B : Nat) (am : Na) (dm : Nd) (b : Na) (d : Nd) (w : World) (hg : ErrT w) (h : DR w X B am dm b d) (hd : NBd d) (hm : Bd dm.g dm.n dm.L) :
    Calls Tryz.prog 115 #[.pointer (some ⟨X, 0, none⟩)] w fun e w' => e = .returned (.tuple #[]) ∧ (∃ b', KR w' X B am dm b' (kpd Classical.propDecidable d dm)) ∧ OnlyG X w w' := by
  have H0 := hide h
  have HG := hide hg
  have HD := hide hd
  have HM := hide hm
  have HNN : Hid (NNC b) := h.2.2.1
  have HBX : Hid (B ≤ X) := h.2.1
  obtain ⟨AX, hAX⟩ : ∃ A, A = ptA Classical.propDecidable d.A d.C (kpx Classical.propDecidable d dm) := ⟨_, rfl⟩
  obtain ⟨CX, hCX⟩ : ∃ A, A = ptB Classical.propDecidable d.A d.C (kpx Classical.propDecidable d dm) := ⟨_, rfl⟩
  have HK2 : Hid (kpd Classical.propDecidable d dm = { d with g := dm.g, n := dm.n, L := dm.L, fi := dm.fi, ol := dm.ol, he := dm.he, la := dm.la, A := AX, C := CX }) := by rw [hAX, hCX]; rfl
  have HBY : Hid (Byr AX ∧ Byr CX) := by
    have hX := slm_by dm.g dm.n dm.L dm.fi dm.ol dm.he dm.la ((sqv Classical.propDecidable) ((latL Classical.propDecidable) d.A d.C) + 1)
    rw [hAX, hCX]
    exact ⟨(ptA_by ⟨hd.2.2.1.1, h.2.2.2.1.1⟩ hX).2, (ptB_by ⟨hd.2.2.1.2, h.2.2.2.1.2⟩ hX).2⟩
  have HSP : Hid (AX = (ptA Classical.propDecidable) d.A d.C ((slm Classical.propDecidable) dm.g dm.n dm.L dm.fi dm.ol dm.he dm.la ((sqv Classical.propDecidable) ((latL Classical.propDecidable) d.A d.C) + 1)) ∧ CX = (ptB Classical.propDecidable) d.A d.C ((slm Classical.propDecidable) dm.g dm.n dm.L dm.fi dm.ol dm.he dm.la ((sqv Classical.propDecidable) ((latL Classical.propDecidable) d.A d.C) + 1))) := ⟨hAX, hCX⟩
  clear h hg hd hm hAX hCX
  go_enter Tryz.func115, Tryz.ntmps115
  go_upto_region 1 with (first
    | (refine ld_dm0 rfl _ rfl X rfl H0.out.1 ?_)
    | (refine st_dm10 rfl _ _ rfl rfl X am dm rfl rfl H0.out.1 (fun w1 ho1 hd1 => ?_)))
  obtain ⟨b1, hb1⟩ : ∃ b1 : Na, b1 = { b with go := am.go, gc := am.gc, bo := am.bo, bc := am.bc } := ⟨_, rfl⟩
  obtain ⟨d1, hdd1⟩ : ∃ d1 : Nd, d1 = { d with g := dm.g, n := dm.n, L := dm.L, fi := dm.fi, ol := dm.ol, he := dm.he, la := dm.la } := ⟨_, rfl⟩
  rw [← hb1, ← hdd1] at hd1
  have HS1 : Hid (DB w1.drew X am dm b1 d1 ∧ (b1.aA = b.aA ∧ b1.cA = b.cA ∧ b1.aB = b.aB ∧ b1.cB = b.cB ∧ d1.A = d.A ∧ d1.C = d.C) ∧ OnlyG X w w1.drew ∧ ErrT w1.drew ∧ NV w1.drew b d ∧ MV w1.drew am.go am.gc am.bo am.bc dm.g dm.n dm.L ∧ w1.drew.heap.size = w.heap.size ∧ ∃ R' R Q, RS w1.drew B w.heap.size (drows am R' dm b R Q d)) := by
    obtain ⟨q1, q2, q3, q4, R', R, Q, q5⟩ := H0.out
    have hb : Below w.heap.size w1 w1.drew := Below.drawn (Below.refl _ _) 1
    have hr := rs_beside q5 q1 (fun r hr => drow_ne (drows_t hr)) ho1
    have hsz : B ≤ w1.heap.size := by rw [ho1.2.1]; exact Nat.le_trans q2 (Nat.le_of_lt q1.lt)
    refine ⟨hd1, by rw [hb1, hdd1]; exact ⟨rfl, rfl, rfl, rfl, rfl, rfl⟩, (OnlyG.of_only ho1).trans ⟨Below.drawn (Below.refl _ _) 1, fun _ _ _ => rfl⟩, ?_, ?_, ?_, ho1.2.1, R', R, Q, hr⟩
    · exact err_only HG.out q1 ((OnlyG.of_only ho1).trans ⟨Below.drawn (Below.refl _ _) 1, fun _ _ _ => rfl⟩)
    · exact ON.nv (B := B) (T := w1.heap.size) ⟨⟨hsz, Nat.le_refl _⟩, q3, q4, R, Q, by rw [ho1.2.1]; exact hr.right⟩
    · exact hr.left.mv
  have HE1 : Hid (b1 = { b with go := am.go, gc := am.gc, bo := am.bo, bc := am.bc } ∧ d1 = { d with g := dm.g, n := dm.n, L := dm.L, fi := dm.fi, ol := dm.ol, he := dm.he, la := dm.la }) := ⟨hb1, hdd1⟩
  have hslp : Hid (∀ W, ErrT W → NV W b d → MV W am.go am.gc am.bo am.bc dm.g dm.n dm.L → Calls Tryz.prog 58 #[.agg #[.slice b.aA d.A.length b.cA, .slice b.aB d.C.length b.cB], .agg #[.slice am.go dm.g.length am.gc, .slice am.bo dm.n am.bc, .bool dm.fi, .bool dm.ol, .bool dm.he, .int .i64 dm.la]] W fun e w' => PtOut W w' AX CX e) := fun W h1 h2 h3 => by
    rw [HSP.out.1, HSP.out.2]
    exact slotput_impl b.aA b.aB b.cA b.cB d.A d.C am.go am.bo am.gc am.bc dm.g dm.n dm.L dm.fi dm.ol dm.he dm.la W h1 (h2.vA HD.out) (h2.vC HD.out) HNN.out.1 HNN.out.2 HM.out h3
  clear ho1 hd1 hb1 hdd1 H0 HG HSP
  refine wp_region_held_drew (S := (fun w' => w'.rangeAt X 0 (mds am dm))) (by kernel_rfl) ?_ (fun hHeld => ?_)
  · exact HS1.out.1.m0
  refine wpAnyH_take (i := 0) (oi := { dst := some 10, op := Op.move (Operand.tmp 0), type := 95, pos := "l08_node.go:152", after := #[], guard := none }) (v := ?_) rfl (by kernel_rfl) (by kernel_rfl) (by kernel_rfl) (fun _ _ _ h => h) (Or.inl ⟨by rfl, ?_⟩) (by assumption) ?_
  rotate_left 1
  · (intro wq hSw; (try dsimp only at hSw); go_simp; try with_reducible rfl)
  try simp only [Act.put, ly1, ly2, ly3]
  refine wpAnyH_take (i := 1) (oi := { dst := some 11, op := Op.move (Operand.tmp 0), type := 95, pos := "l08_node.go:152", after := #[], guard := none }) (v := ?_) rfl (by kernel_rfl) (by kernel_rfl) (by kernel_rfl) (fun _ _ _ h => h) (Or.inl ⟨by rfl, ?_⟩) (by assumption) ?_
  rotate_left 1
  · (intro wq hSw; (try dsimp only at hSw); go_simp; try with_reducible rfl)
  try simp only [Act.put, ly1, ly2, ly3]
  refine wpAnyH_take (i := 2) (oi := { dst := some 12, op := Op.nilCheck (Operand.tmp 11), type := 0, pos := "l08_node.go:152", after := #[{ on := 1, ground := Ground.data }], guard := none }) (v := ?_) rfl (by kernel_rfl) (by kernel_rfl) (by kernel_rfl) (fun _ _ _ h => h) (Or.inl ⟨by rfl, ?_⟩) (by assumption) ?_
  rotate_left 1
  · (intro wq hSw; (try dsimp only at hSw); go_simp; try with_reducible rfl)
  try simp only [Act.put, ly1, ly2, ly3]
  refine wpAnyH_take (i := 3) (oi := { dst := some 13, op := Op.fieldAddr 98 (Operand.tmp 12) 1, type := 0, pos := "l08_node.go:152", after := #[{ on := 2, ground := Ground.data }], guard := none }) (v := ?_) rfl (by kernel_rfl) (by kernel_rfl) (by kernel_rfl) (fun _ _ _ h => h) (Or.inl ⟨by rfl, ?_⟩) (by assumption) ?_
  rotate_left 1
  · (intro wq hSw; (try dsimp only at hSw); go_simp; try with_reducible rfl)
  try simp only [Act.put, ly1, ly2, ly3]
  refine wpAnyH_take (i := 4) (oi := { dst := some 14, op := Op.fieldAddr 31 (Operand.tmp 13) 5, type := 0, pos := "l08_node.go:152", after := #[{ on := 3, ground := Ground.data }], guard := none }) (v := ?_) rfl (by kernel_rfl) (by kernel_rfl) (by kernel_rfl) (fun _ _ _ h => h) (Or.inl ⟨by rfl, ?_⟩) (by assumption) ?_
  rotate_left 1
  · (intro wq hSw; (try dsimp only at hSw); go_simp; try with_reducible rfl)
  try simp only [Act.put, ly1, ly2, ly3]
  refine wpAnyH_take (i := 6) (oi := { dst := some 16, op := Op.move (Operand.tmp 0), type := 95, pos := "l08_node.go:152", after := #[], guard := none }) (v := ?_) rfl (by kernel_rfl) (by kernel_rfl) (by kernel_rfl) (fun _ _ _ h => h) (Or.inl ⟨by rfl, ?_⟩) (by assumption) ?_
  rotate_left 1
  · (intro wq hSw; (try dsimp only at hSw); go_simp; try with_reducible rfl)
  try simp only [Act.put, ly1, ly2, ly3]
  refine wpAnyH_take (i := 7) (oi := { dst := some 17, op := Op.nilCheck (Operand.tmp 16), type := 0, pos := "l08_node.go:152", after := #[{ on := 6, ground := Ground.data }], guard := none }) (v := ?_) rfl (by kernel_rfl) (by kernel_rfl) (by kernel_rfl) (fun _ _ _ h => h) (Or.inl ⟨by rfl, ?_⟩) (by assumption) ?_
  rotate_left 1
  · (intro wq hSw; (try dsimp only at hSw); go_simp; try with_reducible rfl)
  try simp only [Act.put, ly1, ly2, ly3]
  refine wpAnyH_take (i := 8) (oi := { dst := some 18, op := Op.fieldAddr 98 (Operand.tmp 17) 0, type := 0, pos := "l08_node.go:152", after := #[{ on := 7, ground := Ground.data }], guard := none }) (v := ?_) rfl (by kernel_rfl) (by kernel_rfl) (by kernel_rfl) (fun _ _ _ h => h) (Or.inl ⟨by rfl, ?_⟩) (by assumption) ?_
  rotate_left 1
  · (intro wq hSw; (try dsimp only at hSw); go_simp; try with_reducible rfl)
  try simp only [Act.put, ly1, ly2, ly3]
  refine wpAnyH_take (i := 9) (oi := { dst := some 19, op := Op.load 25 (Operand.tmp 18), type := 25, pos := "l08_node.go:152", after := #[{ on := 8, ground := Ground.data }], guard := none }) (v := mvv am dm) rfl (by kernel_rfl) (by kernel_rfl) (by kernel_rfl) (fun _ _ _ h => h) (yieldsIf_load_mid (by rfl) _ _ rfl X 0 rfl (mds am dm) _ (fun wq hSw => hSw) Tryz.underlying25 rfl (by kernel_rfl)) (by assumption) ?_
  try simp only [Act.put, ly1, ly2, ly3]
  have c16 : w1.drew.cell? ⟨X, 16, none⟩ = some (.slice b.aA d.A.length b.cA) := by have h : w1.drew.cell? ⟨X, 16, none⟩ = some (.slice b1.aA d1.A.length b1.cA) := HS1.out.1.cell (i := 16) rfl; rw [HS1.out.2.1.1, HS1.out.2.1.2.1, HS1.out.2.1.2.2.2.2.1] at h; exact h
  have c17 : w1.drew.cell? ⟨X, 17, none⟩ = some (.slice b.aB d.C.length b.cB) := by have h : w1.drew.cell? ⟨X, 17, none⟩ = some (.slice b1.aB d1.C.length b1.cB) := HS1.out.1.cell (i := 17) rfl; rw [HS1.out.2.1.2.2.1, HS1.out.2.1.2.2.2.1, HS1.out.2.1.2.2.2.2.2] at h; exact h
  refine wpAnyH_ready (rs := [5]) (by kernel_rfl) (by simp) ?_
  refine AllReadyH.cons (o := { dst := some 15, op := Op.load 28 (Operand.tmp 14), type := 28, pos := "l08_node.go:152", after := #[{ on := 4, ground := Ground.data }], guard := none }) rfl (fun K hK => ?_) AllReadyH.nil
  go_simp
  refine hK.out _ _ ?_ (fun hHeld => ?_)
  · exact HS1.out.1.m0
  clear hK K
  try simp only [Act.put, ly1, ly2, ly3]
  clear c16 c17
  refine wpAnyH_ready (rs := [10]) (by kernel_rfl) (by simp) ?_
  refine AllReadyH.cons (o := { dst := some 20, op := Op.call { callee := Callee.value (Operand.func 58), args := #[Operand.tmp 15, Operand.tmp 19], argTypes := #[28, 25] }, type := 28, pos := "l08_node.go:152", after := #[{ on := 5, ground := Ground.data }, { on := 9, ground := Ground.data }], guard := none }) rfl (fun K hK => ?_) AllReadyH.nil
  go_simp
  refine (hslp.out w1.drew HS1.out.2.2.2.1 HS1.out.2.2.2.2.1 HS1.out.2.2.2.2.2.1).mono ?_
  rintro e w2 ⟨bA, bB, dA, dB, rfl, o2, b2, n2⟩
  have HS2 : Hid (DB w2 X am dm b1 d1 ∧ OnlyG X w w2 ∧ (NC bA dA ∧ NC bB dB) ∧ w.heap.size ≤ w2.heap.size ∧ ∃ R' Q, RS w2 B w2.heap.size (nrows { b with go := am.go, gc := am.gc, bo := am.bo, bc := am.bc, aA := bA, cA := dA, aB := bB, cB := dB } R' Q { d with g := dm.g, n := dm.n, L := dm.L, A := AX, C := CX })) := by
    obtain ⟨_, _, y1, _, _, _, y2, R', R, Q, y3⟩ := HS1.out
    rw [← y2] at y3
    refine ⟨HS1.out.1.b b2, y1.trans (OnlyG.of_below b2 (Nat.le_of_lt HS1.out.1.lt)), n2, by rw [← y2]; exact b2.size, R', Q, kp_rows y3 b2 (rs_osl o2) (Nat.le_trans HBX.out (Nat.le_of_lt HS1.out.1.lt))⟩
  have c16 : w2.cell? ⟨X, 16, none⟩ = some (.slice b1.aA d1.A.length b1.cA) := HS2.out.1.cell (i := 16) rfl
  have c17 : w2.cell? ⟨X, 17, none⟩ = some (.slice b1.aB d1.C.length b1.cB) := HS2.out.1.cell (i := 17) rfl
  have zX := HS2.out.1.froz
  clear o2 b2 n2
  go_wp2_with fail
  refine hK.out _ _ ?_ (fun hHeld => ?_)
  · exact HS2.out.1.m0
  clear hK K
  try simp only [Act.put, ly1, ly2, ly3]
  refine wpAnyH_take (i := 11) (oi := { dst := some 21, op := Op.nilCheck (Operand.tmp 10), type := 0, pos := "l08_node.go:152", after := #[{ on := 0, ground := Ground.data }, { on := 0, ground := Ground.phase }, { on := 1, ground := Ground.phase }, { on := 2, ground := Ground.phase }, { on := 3, ground := Ground.phase }, { on := 4, ground := Ground.phase }, { on := 5, ground := Ground.phase }, { on := 6, ground := Ground.phase }, { on := 7, ground := Ground.phase }, { on := 8, ground := Ground.phase }, { on := 9, ground := Ground.phase }, { on := 10, ground := Ground.phase }], guard := none }) (v := ?_) rfl (by kernel_rfl) (by kernel_rfl) (by kernel_rfl) (fun _ _ _ h => h) (Or.inl ⟨by rfl, ?_⟩) (by assumption) ?_
  rotate_left 1
  · (intro wq hSw; (try dsimp only at hSw); go_simp; try with_reducible rfl)
  try simp only [Act.put, ly1, ly2, ly3]
  refine wpAnyH_take (i := 12) (oi := { dst := some 22, op := Op.fieldAddr 98 (Operand.tmp 21) 1, type := 0, pos := "l08_node.go:152", after := #[{ on := 11, ground := Ground.data }, { on := 0, ground := Ground.phase }, { on := 1, ground := Ground.phase }, { on := 2, ground := Ground.phase }, { on := 3, ground := Ground.phase }, { on := 4, ground := Ground.phase }, { on := 5, ground := Ground.phase }, { on := 6, ground := Ground.phase }, { on := 7, ground := Ground.phase }, { on := 8, ground := Ground.phase }, { on := 9, ground := Ground.phase }, { on := 10, ground := Ground.phase }], guard := none }) (v := ?_) rfl (by kernel_rfl) (by kernel_rfl) (by kernel_rfl) (fun _ _ _ h => h) (Or.inl ⟨by rfl, ?_⟩) (by assumption) ?_
  rotate_left 1
  · (intro wq hSw; (try dsimp only at hSw); go_simp; try with_reducible rfl)
  try simp only [Act.put, ly1, ly2, ly3]
  refine wpAnyH_take (i := 13) (oi := { dst := some 23, op := Op.fieldAddr 31 (Operand.tmp 22) 5, type := 0, pos := "l08_node.go:152", after := #[{ on := 12, ground := Ground.data }, { on := 0, ground := Ground.phase }, { on := 1, ground := Ground.phase }, { on := 2, ground := Ground.phase }, { on := 3, ground := Ground.phase }, { on := 4, ground := Ground.phase }, { on := 5, ground := Ground.phase }, { on := 6, ground := Ground.phase }, { on := 7, ground := Ground.phase }, { on := 8, ground := Ground.phase }, { on := 9, ground := Ground.phase }, { on := 10, ground := Ground.phase }], guard := none }) (v := ?_) rfl (by kernel_rfl) (by kernel_rfl) (by kernel_rfl) (fun _ _ _ h => h) (Or.inl ⟨by rfl, ?_⟩) (by assumption) ?_
  rotate_left 1
  · (intro wq hSw; (try dsimp only at hSw); go_simp; try with_reducible rfl)
  try simp only [Act.put, ly1, ly2, ly3]
  obtain ⟨b2, hb2⟩ : ∃ b2 : Na, b2 = { b with go := am.go, gc := am.gc, bo := am.bo, bc := am.bc, aA := bA, cA := dA, aB := bB, cB := dB } := ⟨_, rfl⟩
  obtain ⟨w3, hw3⟩ : ∃ w3, w3 = (w2.setCell ⟨X, 16, none⟩ (.slice bA AX.length dA)).setCell ⟨X, 17, none⟩ (.slice bB CX.length dB) := ⟨_, rfl⟩
  have HS3 : Hid (DB w3 X am dm b2 (kpd Classical.propDecidable d dm) ∧ Only X w2 w3) := by
    refine ⟨?_, by rw [hw3]; exact ((Only.refl _ _).setCell _).setCell _⟩
    have n0 := HS2.out.1
    rw [HE1.out.1, HE1.out.2] at n0
    rw [hw3, hb2, HK2.out]
    have n1 : DB _ X am dm { b with go := am.go, gc := am.gc, bo := am.bo, bc := am.bc, aA := bA, cA := dA } { d with g := dm.g, n := dm.n, L := dm.L, fi := dm.fi, ol := dm.ol, he := dm.he, la := dm.la, A := AX } := DB.set (i := 16) (v := .slice bA AX.length dA) n0 rfl
    exact DB.set (i := 17) (v := .slice bB CX.length dB) n1 rfl
  refine wpAnyH_ready (rs := [14]) (by kernel_rfl) (by simp) ?_
  refine AllReadyH.cons (o := { dst := none, op := Op.store 28 (Operand.tmp 23) (Operand.tmp 20), type := 0, pos := "l08_node.go:152", after := #[{ on := 13, ground := Ground.data }, { on := 10, ground := Ground.data }, { on := 10, ground := Ground.chain }, { on := 0, ground := Ground.phase }, { on := 1, ground := Ground.phase }, { on := 2, ground := Ground.phase }, { on := 3, ground := Ground.phase }, { on := 4, ground := Ground.phase }, { on := 5, ground := Ground.phase }, { on := 6, ground := Ground.phase }, { on := 7, ground := Ground.phase }, { on := 8, ground := Ground.phase }, { on := 9, ground := Ground.phase }, { on := 10, ground := Ground.phase }], guard := none }) rfl (fun K hK => ?_) AllReadyH.nil
  go_simp
  rw [← hw3]
  refine hK.out _ _ ?_ (fun hHeld => ?_)
  · exact HS3.out.1.m0
  clear hK K
  try simp only [Act.put, ly1, ly2, ly3]
  refine wpAnyH_done (by kernel_rfl) ?_ _
  have HF : Hid ((∃ b', KR w3 X B am dm b' (kpd Classical.propDecidable d dm)) ∧ OnlyG X w w3) := by
    obtain ⟨y0, y1, y2, y3, R', Q, y4⟩ := HS2.out
    refine ⟨⟨b2, HS3.out.1, HBX.out, ⟨⟨?_, Nat.le_refl _⟩, by rw [hb2]; exact y2, by rw [HK2.out]; exact HBY.out, R', Q, ?_⟩, by rw [hb2]; exact ⟨rfl, rfl, rfl, rfl⟩⟩, y1.trans (OnlyG.of_only HS3.out.2)⟩
    · rw [HS3.out.2.2.1]; exact Nat.le_trans HBX.out (Nat.le_of_lt y0.lt)
    · rw [HS3.out.2.2.1, hb2, HK2.out]; exact rs_beside y4 y0 (fun r hr => drow_ne (drows_t (am := am) (R' := R') (dm := dm) (List.mem_append_right _ hr))) HS3.out.2
  clear HS3 HS2 hw3 hb2 c16 c17 zX
  go_wp2_with fail
  go_end0
  exact ⟨rfl, HF.out⟩

theorem tells_b {w w' : World} {e : Ending} {p : Prop} (h : Tells w w' e p) : ∃ t : Bool, e = .returned (.bool t) ∧ (t = true ↔ p) ∧ Below w.heap.size w w' := by
  obtain ⟨⟨hp, rfl⟩ | ⟨hp, rfl⟩, hb⟩ := h
  · exact ⟨true, rfl, ⟨fun _ => hp, fun _ => rfl⟩, hb⟩
  · exact ⟨false, rfl, ⟨fun h => (by cases h), fun h => absurd h hp⟩, hb⟩
theorem st_node_wp {o : Oper} {a : Act} {w : World} {K : Act → World → Prop} {Q : Exit → Act → World → Prop} (x y : Operand) (ho : o.op = .store 31 x y) (hd : o.dst = none) (g : Nat) (A : Na) (d : Nd) (hx : a.eval x = .pointer (some ⟨g, 0, none⟩)) (hy : a.eval y = nv A d) {t : TypeId} {A0 : Na} {d0 : Nd} (h : NB w g t A0 d0)
    (hK : ∀ F, Only g w F → NB F g t A d → K a F) : o.wp Tryz.prog a w K Q :=
  wp_store_row 31 x y ho g (nds A d) hx hy t (nds A0 d0) h (by kernel_rfl) rfl (by simp [nds, Value.oneCell'] <;> rfl) (by rw [hd]; exact hK _ (only_setRow h) (setRow_heap _ _ _ _ _ _ h))
theorem res_node_b {fn : Func} {F : World} {tmps : Array Value} {k m b : Nat} {a : Na} {d : Nd} {t : Bool} (hr : fn.results = #[ResultVar.cell k 31, ResultVar.tmp m]) (htm : tmps[k]? = some (.pointer (some ⟨b, 0, none⟩))) (htb : tmps[m]? = some (.bool t)) (h : NB F b 31 a d) : (results fn tmps).run Tryz.prog F = .ok (.tuple #[nv a d, .bool t]) F := by
  obtain ⟨x0, x1, x2, x3, x4, x5, x6, x7, x8, x9, x10, x11, x12, x13, x14, x15⟩ := h.cells
  simp [results, hr, htm, htb, go_sem, x0, x1, x2, x3, x4, x5, x6, x7, x8, x9, x10, x11, x12, x13, x14, x15, nv, nds]
theorem DR.size {w : World} {X B : Nat} {am : Na} {dm : Nd} {a : Na} {d : Nd} (h : DR w X B am dm a d) : B ≤ w.heap.size := Nat.le_trans h.2.1 (Nat.le_of_lt h.1.lt)
set_option maxHeartbeats 100000000 in
theorem kept_i (X B : Nat) (am : Na) (dm : Nd) (b : Na) (d : Nd) (w : World) (hg : ErrT w) (h : DR w X B am dm b d) (hd : NBd d) (hm : Bd dm.g dm.n dm.L) :
    Calls Tryz.prog 160 #[.pointer (some ⟨X, 0, none⟩)] w fun e w' => ∃ b' t, e = .returned (.tuple #[nv b' (kpd Classical.propDecidable d dm), .bool t]) ∧ (t = true ↔ NOk (kpd Classical.propDecidable d dm)) ∧ ON w' B w'.heap.size b' (kpd Classical.propDecidable d dm) ∧ OnlyG X w w' := by
  obtain ⟨W, hW⟩ : ∃ W, W = w.alloc (.cells (nds Na.zero Nd.zero) 31) := ⟨_, rfl⟩
  have HB0 : Hid (Below w.heap.size w W) := by rw [hW]; exact bal1 _ _
  have HZ : Hid (NB W w.heap.size 31 Na.zero Nd.zero ∧ X < w.heap.size ∧ B ≤ X) := ⟨by rw [hW]; exact NB.new _ _ _ _, h.1.lt, h.2.1⟩
  have hcall := hide (keep_i X B am dm b d W (hg.below HB0.out) (h.below HB0.out) hd hm)
  have HBK : Hid (NBd (kpd Classical.propDecidable d dm)) := nbd_kpd hd h.2.2.2.1 hm
  have HER : Hid (∀ V, OnlyG X w V → ErrT V) := fun V ho => err_only hg h.1 ho
  clear h hg hd hm
  generalize kpd Classical.propDecidable d dm = k at *
  unfold nds Na.zero Nd.zero at hW
  dsimp only [List.length_nil] at hW
  go_enter Tryz.func160, Tryz.ntmps160
  go_upto_region 1 with fail
  rw [← hW]
  clear hW
  go_wp2_with fail
  refine hcall.out.mono ?_
  rintro e w1 ⟨rfl, ⟨b', hk⟩, ho⟩
  have HS1 : Hid (DB w1.drew X am dm b' k ∧ ON w1.drew B w1.drew.heap.size b' k ∧ NB w1.drew w.heap.size 31 Na.zero Nd.zero ∧ OnlyG X w w1.drew ∧ ErrT w1.drew) := by
    have hd1 : OnlyG X w1 w1.drew := ⟨Below.drawn (Below.refl _ _) 1, fun _ _ _ => rfl⟩
    have h0 : OnlyG X w w1 := (OnlyG.of_below HB0.out (Nat.le_of_lt HZ.out.2.1)).trans ho
    exact ⟨hk.1, hk.2.2.1, (ho.2 w.heap.size HZ.out.1.lt (by have := HZ.out.2.1; omega)).trans HZ.out.1, h0.trans hd1, HER.out _ (h0.trans hd1)⟩
  clear hk ho hcall HB0
  go_upto_region 2 with fail
  refine wp_region_held_drew (S := (fun w' => DB w' X am dm b' k)) (by kernel_rfl) ?_ (fun hHeld => ?_)
  · exact HS1.out.1
  refine wpAnyH_take (i := 0) (oi := { dst := some 6, op := Op.move (Operand.tmp 0), type := 95, pos := "l08_node.go:157", after := #[], guard := none }) (v := ?_) rfl (by kernel_rfl) (by kernel_rfl) (by kernel_rfl) (fun _ _ _ h => h) (Or.inl ⟨by rfl, ?_⟩) (by assumption) ?_
  rotate_left 1
  · (intro wq hSw; (try dsimp only at hSw); go_simp; try with_reducible rfl)
  try simp only [Act.put, ly1, ly2, ly3]
  refine wpAnyH_take (i := 1) (oi := { dst := some 7, op := Op.nilCheck (Operand.tmp 6), type := 0, pos := "l08_node.go:157", after := #[{ on := 0, ground := Ground.data }], guard := none }) (v := ?_) rfl (by kernel_rfl) (by kernel_rfl) (by kernel_rfl) (fun _ _ _ h => h) (Or.inl ⟨by rfl, ?_⟩) (by assumption) ?_
  rotate_left 1
  · (intro wq hSw; (try dsimp only at hSw); go_simp; try with_reducible rfl)
  try simp only [Act.put, ly1, ly2, ly3]
  refine wpAnyH_take (i := 2) (oi := { dst := some 8, op := Op.fieldAddr 98 (Operand.tmp 7) 1, type := 0, pos := "l08_node.go:157", after := #[{ on := 1, ground := Ground.data }], guard := none }) (v := ?_) rfl (by kernel_rfl) (by kernel_rfl) (by kernel_rfl) (fun _ _ _ h => h) (Or.inl ⟨by rfl, ?_⟩) (by assumption) ?_
  rotate_left 1
  · (intro wq hSw; (try dsimp only at hSw); go_simp; try with_reducible rfl)
  try simp only [Act.put, ly1, ly2, ly3]
  refine wpAnyH_take (i := 3) (oi := { dst := some 9, op := Op.load 31 (Operand.tmp 8), type := 31, pos := "l08_node.go:157", after := #[{ on := 2, ground := Ground.data }], guard := none }) (v := nv b' k) rfl (by kernel_rfl) (by kernel_rfl) (by kernel_rfl) (fun _ _ _ h => h) (yieldsIf_load_mid (by rfl) _ _ rfl X 6 rfl ((nds b' k).toList) _ (fun wq hSw => hSw.node) Tryz.underlying31 rfl (by kernel_rfl)) (by assumption) ?_
  try simp only [Act.put, ly1, ly2, ly3]
  refine wpAnyH_take (i := 4) (oi := { dst := some 10, op := Op.move (Operand.tmp 0), type := 95, pos := "l08_node.go:157", after := #[], guard := none }) (v := ?_) rfl (by kernel_rfl) (by kernel_rfl) (by kernel_rfl) (fun _ _ _ h => h) (Or.inl ⟨by rfl, ?_⟩) (by assumption) ?_
  rotate_left 1
  · (intro wq hSw; (try dsimp only at hSw); go_simp; try with_reducible rfl)
  try simp only [Act.put, ly1, ly2, ly3]
  refine wpAnyH_take (i := 5) (oi := { dst := some 11, op := Op.nilCheck (Operand.tmp 10), type := 0, pos := "l08_node.go:157", after := #[{ on := 4, ground := Ground.data }], guard := none }) (v := ?_) rfl (by kernel_rfl) (by kernel_rfl) (by kernel_rfl) (fun _ _ _ h => h) (Or.inl ⟨by rfl, ?_⟩) (by assumption) ?_
  rotate_left 1
  · (intro wq hSw; (try dsimp only at hSw); go_simp; try with_reducible rfl)
  try simp only [Act.put, ly1, ly2, ly3]
  refine wpAnyH_take (i := 6) (oi := { dst := some 12, op := Op.fieldAddr 98 (Operand.tmp 11) 1, type := 0, pos := "l08_node.go:157", after := #[{ on := 5, ground := Ground.data }], guard := none }) (v := ?_) rfl (by kernel_rfl) (by kernel_rfl) (by kernel_rfl) (fun _ _ _ h => h) (Or.inl ⟨by rfl, ?_⟩) (by assumption) ?_
  rotate_left 1
  · (intro wq hSw; (try dsimp only at hSw); go_simp; try with_reducible rfl)
  try simp only [Act.put, ly1, ly2, ly3]
  refine wpAnyH_take (i := 7) (oi := { dst := some 13, op := Op.load 31 (Operand.tmp 12), type := 31, pos := "l08_node.go:157", after := #[{ on := 6, ground := Ground.data }], guard := none }) (v := nv b' k) rfl (by kernel_rfl) (by kernel_rfl) (by kernel_rfl) (fun _ _ _ h => h) (yieldsIf_load_mid (by rfl) _ _ rfl X 6 rfl ((nds b' k).toList) _ (fun wq hSw => hSw.node) Tryz.underlying31 rfl (by kernel_rfl)) (by assumption) ?_
  try simp only [Act.put, ly1, ly2, ly3]
  refine wpAnyH_ready (rs := [8]) (by kernel_rfl) (by simp) ?_
  refine AllReadyH.cons (o := { dst := some 14, op := Op.call { callee := Callee.value (Operand.func 87), args := #[Operand.tmp 13], argTypes := #[31] }, type := 4, pos := "l08_node.go:157", after := #[{ on := 7, ground := Ground.data }], guard := none }) rfl (fun K hK => ?_) AllReadyH.nil
  go_simp
  refine (node_impl b' k w1.drew HS1.out.2.2.2.2 HBK.out HS1.out.2.1.nv).mono ?_
  intro e w2 h
  obtain ⟨t, rfl, ht, b2⟩ := tells_b h
  have HS2 : Hid (DB w2 X am dm b' k ∧ ON w2 B w2.heap.size b' k ∧ NB w2 w.heap.size 31 Na.zero Nd.zero ∧ OnlyG X w w2 ∧ (t = true ↔ NOk k)) := ⟨HS1.out.1.b b2, (HS1.out.2.1.below b2 (Nat.le_refl _)).wider (Nat.le_refl _) b2.size (Nat.le_refl _), HS1.out.2.2.1.b b2, HS1.out.2.2.2.1.trans (OnlyG.of_below b2 (Nat.le_of_lt HS1.out.1.lt)), ht⟩
  clear h ht b2 HS1
  go_wp2_with fail
  refine hK.out _ _ ?_ (fun hHeld => ?_)
  · exact HS2.out.1
  clear hK K
  try simp only [Act.put, ly1, ly2, ly3]
  refine wpAnyH_ready (rs := [9]) (by kernel_rfl) (by simp) ?_
  refine AllReadyH.cons (o := { dst := none, op := Op.store 31 (Operand.tmp 2) (Operand.tmp 9), type := 0, pos := "l08_node.go:157", after := #[{ on := 3, ground := Ground.data }, { on := 8, ground := Ground.chain }, { on := 0, ground := Ground.phase }, { on := 1, ground := Ground.phase }, { on := 2, ground := Ground.phase }, { on := 3, ground := Ground.phase }, { on := 4, ground := Ground.textOnly Departure.lateStores }, { on := 5, ground := Ground.textOnly Departure.lateStores }, { on := 6, ground := Ground.textOnly Departure.lateStores }, { on := 7, ground := Ground.textOnly Departure.lateStores }, { on := 8, ground := Ground.textOnly Departure.lateStoresUnsure }], guard := none }) rfl (fun K hK => ?_) AllReadyH.nil
  refine step_if (by rfl) (st_node_wp _ _ rfl rfl w.heap.size b' k rfl rfl HS2.out.2.2.1 (fun w3 ho3 hn3 => ?_))
  have HS3 : Hid (DB w3 X am dm b' k ∧ ON w3 B w3.heap.size b' k ∧ OnlyG X w w3 ∧ (t = true ↔ NOk k)) := ⟨HS2.out.1.far ho3 (by have := HZ.out.2.1; omega), by rw [ho3.2.1]; exact on_beside HS2.out.2.1 HS2.out.2.2.1 ho3, onlyG_then HS2.out.2.2.2.1 ho3 (Nat.le_refl _) (Nat.le_of_lt HZ.out.2.1), HS2.out.2.2.2.2⟩
  refine hK.out _ _ ?_ (fun hHeld => ?_)
  · exact HS3.out.1
  clear hK K
  try simp only [Act.put, ly1, ly2, ly3]
  refine wpAnyH_take (i := 10) (oi := { dst := some 3, op := Op.assign (Operand.tmp 14), type := 4, pos := "l08_node.go:157", after := #[{ on := 8, ground := Ground.data }, { on := 9, ground := Ground.chain }, { on := 0, ground := Ground.phase }, { on := 1, ground := Ground.phase }, { on := 2, ground := Ground.phase }, { on := 3, ground := Ground.phase }, { on := 4, ground := Ground.phase }, { on := 5, ground := Ground.phase }, { on := 6, ground := Ground.phase }, { on := 7, ground := Ground.phase }, { on := 8, ground := Ground.phase }, { on := 9, ground := Ground.phase }], guard := none }) (v := ?_) rfl (by kernel_rfl) (by kernel_rfl) (by kernel_rfl) (fun _ _ _ h => h) (Or.inl ⟨by rfl, ?_⟩) (by assumption) ?_
  rotate_left 1
  · (intro wq hSw; (try dsimp only at hSw); go_simp; try with_reducible rfl)
  try simp only [Act.put, ly1, ly2, ly3]
  refine wpAnyH_done (by kernel_rfl) ?_ _
  go_wp2_with fail
  exact bodyPost_ret (v := .tuple #[nv b' k, .bool t]) (res_node_b Tryz.results160 rfl rfl hn3) rfl ⟨b', t, rfl, HS3.out.2.2.2, HS3.out.2.1, HS3.out.2.2.1⟩

set_option maxHeartbeats 100000000 in
theorem keptor_i (X B : Nat) (am : Na) (dm : Nd) (b : Na) (d : Nd) (aw : Na) (dw r : Nd) (w : World) (hg : ErrT w) (h : DR w X B am dm b d) (hd : NBd d) (hm : Bd dm.g dm.n dm.L) (hdw : NBd dw) (hnw : NNC aw) (hvw : ∀ V, Below B w V → NV V aw dw)
    (hy : NOk (kpd Classical.propDecidable d dm) → r = kpd Classical.propDecidable d dm) (hn : ¬ NOk (kpd Classical.propDecidable d dm) → r = dw) :
    Calls Tryz.prog 92 #[.pointer (some ⟨X, 0, none⟩), nv aw dw] w fun e w' => ∃ b', e = .returned (nv b' r) ∧ ON w' B w'.heap.size b' r ∧ OnlyG X w w' := by
  obtain ⟨W, hW⟩ : ∃ W, W = (w.alloc (.cells (nds aw dw) 31)).alloc (.cells (nds Na.zero Nd.zero) 31) := ⟨_, rfl⟩
  have T0 : Hid (CS w W aw dw []) := by rw [hW]; exact cs_new w aw dw
  have HZ : Hid (X < w.heap.size ∧ B ≤ X) := ⟨h.1.lt, h.2.1⟩
  have hcall := hide (kept_i X B am dm b d W (hg.below T0.out.1) (h.below T0.out.1) hd hm)
  have HDW := hide hdw
  have HNW := hide hnw
  have HVW := hide hvw
  have HY := hide hy
  have HN := hide hn
  clear h hg hd hm hdw hnw hvw hy hn
  generalize kpd Classical.propDecidable d dm = k at *
  unfold nv
  unfold nds Na.zero Nd.zero at hW
  dsimp only [List.length_nil] at hW
  unfold nds
  go_enter Tryz.func92, Tryz.ntmps92
  go_upto_region 1 with fail
  rw [← hW]
  clear hW
  generalize Value.agg #[.int .i64 dw.id, .bool dw.up, .bool dw.pr, .slice aw.im dw.im.length aw.imc, .slice aw.go dw.g.length aw.gc, .slice aw.bo dw.n aw.bc, .bool dw.fi, .bool dw.ol, .bool dw.he, .int .i64 dw.la, .slice aw.aA dw.A.length aw.cA, .slice aw.aB dw.C.length aw.cB, .slice aw.co dw.co.length aw.coc, .slice aw.so dw.m aw.sc, .slice aw.cp dw.cp.length aw.cpc, .slice aw.wt dw.wt.length aw.wtc] = vn at *
  go_wp2_with fail
  refine hcall.out.mono ?_
  rintro e w1 ⟨b', t, rfl, ht, o1, ho1⟩
  obtain ⟨W1, hW1⟩ : ∃ W1, W1 = w1.alloc (.cells (nds b' k) 31) := ⟨_, rfl⟩
  have H1 : Hid (OnlyG X w W1 ∧ NB W1 w.heap.size 31 aw dw ∧ NB W1 (w.heap.size + 1) 31 Na.zero Nd.zero ∧ NB W1 w1.heap.size 31 b' k ∧ ON W1 B w1.heap.size b' k ∧ w.heap.size + 1 < w1.heap.size ∧ (t = true ↔ NOk k)) := by
    have hx := HZ.out.1
    have hwz := T0.out.2.2.2.1
    have hs := ho1.1.size
    have h0 : OnlyG X w w1 := (OnlyG.of_below T0.out.1 (Nat.le_of_lt hx)).trans ho1
    have bx := bal1 w1 (.cells (nds b' k) 31)
    rw [hW1]
    refine ⟨h0.trans (OnlyG.of_below bx (by omega)), NB.b ((ho1.2 _ (by omega) (by omega)).trans T0.out.2.1) bx, NB.b ((ho1.2 _ (by omega) (by omega)).trans T0.out.2.2.1) bx, NB.new _ _ _ _, o1.below bx (Nat.le_refl _), by omega, ht⟩
  clear o1 ho1 ht hcall T0
  unfold nds at hW1
  unfold nv nds
  go_upto_region 2 with fail
  rw [← hW1]
  clear hW1
  generalize w1.heap.size = Y at *
  generalize Value.agg #[.int .i64 k.id, .bool k.up, .bool k.pr, .slice b'.im k.im.length b'.imc, .slice b'.go k.g.length b'.gc, .slice b'.bo k.n b'.bc, .bool k.fi, .bool k.ol, .bool k.he, .int .i64 k.la, .slice b'.aA k.A.length b'.cA, .slice b'.aB k.C.length b'.cB, .slice b'.co k.co.length b'.coc, .slice b'.so k.m b'.sc, .slice b'.cp k.cp.length b'.cpc, .slice b'.wt k.wt.length b'.wtc] = vb at *
  cases t with
  | false =>
    have HE : Hid (r = dw) := HN.out (fun h => by have := H1.out.2.2.2.2.2.2.2 h; cases this)
    clear HN HY
    go_wp2_with (refine ld_node rfl _ rfl w.heap.size rfl H1.out.2.1 ?_)
    refine (copyn_impl aw dw W1 HDW.out (HVW.out _ (H1.out.1.1.mono HZ.out.2)) HNW.out).mono ?_
    rintro e w2 ⟨b2, rfl, o2, c2⟩
    have H2 : Hid (NB w2 (w.heap.size + 1) 31 Na.zero Nd.zero ∧ ∀ F, Only (w.heap.size + 1) w2 F → ON F B F.heap.size b2 r ∧ OnlyG X w F) := ⟨H1.out.2.2.1.b c2, fun F hF => by
      have hs := hF.2.1
      have hx := HZ.out
      have hz := H1.out.2.2.2.1.lt
      have hy := H1.out.2.2.2.2.2.1
      refine ⟨?_, onlyG_then (H1.out.1.trans (OnlyG.of_below c2 (by omega))) hF (Nat.le_succ _) (Nat.le_of_lt hx.1)⟩
      rw [HE.out]
      exact (o2.only hF (.inr (by omega))).wider (by omega) (by omega) (Nat.le_refl _)⟩
    have HE2 : Hid (nv b2 r = nv b2 dw) := (show _ = _ from by rw [HE.out])
    clear o2 c2 H1
    go_wp2_with (first
      | (refine st_node rfl _ _ rfl rfl (w.heap.size + 1) b2 dw rfl rfl H2.out.1 (fun F hF1 hF2 => ?_))
      | (refine bodyPost_ret (v := nv b2 dw) (res_node Tryz.results92 rfl hF2) rfl ⟨b2, (show Ending.returned (nv b2 dw) = Ending.returned (nv b2 r) from by rw [HE2.out]), H2.out.2 F hF1⟩))
  | true =>
    have HE : Hid (r = k) := HY.out (H1.out.2.2.2.2.2.2.1 rfl)
    have H2 : Hid (NB W1 Y 31 b' k ∧ NB W1 (w.heap.size + 1) 31 Na.zero Nd.zero ∧ ∀ F, Only (w.heap.size + 1) W1 F → ON F B F.heap.size b' r ∧ OnlyG X w F) := ⟨H1.out.2.2.2.1, H1.out.2.2.1, fun F hF => by
      have hs := hF.2.1
      have hx := HZ.out
      have hz := H1.out.2.2.2.1.lt
      refine ⟨?_, onlyG_then H1.out.1 hF (Nat.le_succ _) (Nat.le_of_lt hx.1)⟩
      rw [HE.out]
      exact (on_beside H1.out.2.2.2.2.1 H1.out.2.2.1 hF).wider (Nat.le_refl _) (by omega) (Nat.le_refl _)⟩
    have HE2 : Hid (nv b' r = nv b' k) := (show _ = _ from by rw [HE.out])
    clear HN HY H1
    go_wp2_with (first
      | (refine ld_node rfl _ rfl Y rfl H2.out.1 ?_)
      | (refine st_node rfl _ _ rfl rfl (w.heap.size + 1) b' k rfl rfl H2.out.2.1 (fun F hF1 hF2 => ?_))
      | (refine bodyPost_ret (v := nv b' k) (res_node Tryz.results92 rfl hF2) rfl ⟨b', (show Ending.returned (nv b' k) = Ending.returned (nv b' r) from by rw [HE2.out]), H2.out.2.2 F hF1⟩))
end Go.Proofs.YtkndnndildnbpaaGreatDoor

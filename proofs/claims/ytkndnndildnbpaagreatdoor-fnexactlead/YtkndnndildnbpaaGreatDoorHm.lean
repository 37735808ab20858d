/- Mate, of the program and of its model. -/
import Derived.Test.YtkndnndildnbpaaGreatDoorGa
import Derived.Test.YtkndnndildnbpaaGreatDoorGu
import Derived.LaidEql
import Derived.Stop.Asserts
import Derived.RowKitTokens

namespace Go.Proofs.YtkndnndildnbpaaGreatDoor
open Go.ChangeShapes Go.WideShapes Go.ChangeAt Go.RowKit
set_option linter.unusedVariables false
set_option linter.unusedSimpArgs false
set_option maxRecDepth 100000

/-- The other one of the pair. -/
def mateX (x : Int) : Int := if x = 0 then 1 else if x = 1 then 0 else -1
theorem mate_s (x : Int) (w : World) : Calls Tryz.prog 110 #[.int .i64 x] w fun e w' => e = .returned (.int .i64 (mateX x)) ∧ w' = w := by
  by_cases hin : 0 ≤ x ∧ x ≤ 1
  · obtain ⟨h0, h1⟩ := hin
    have e2 : mateX x = 1 - x := by rcases (show x = 0 ∨ x = 1 by omega) with rfl | rfl <;> rfl
    rw [e2]
    clear e2
    go_enter Tryz.func110, Tryz.ntmps110
    go_wp2_with fail
    refine (in_yes x 0 1 w h0 h1).mono ?_
    rintro e w1 ⟨rfl, hw⟩
    rw [hw]
    clear hw w1
    go_wp2
    go_ret
    exact ⟨rfl, rfl⟩
  · have hno : x < 0 ∨ 1 < x := by omega
    have e2 : mateX x = -1 := by unfold mateX; rw [if_neg (by omega), if_neg (by omega)]
    rw [e2]
    clear e2 hin
    go_enter Tryz.func110, Tryz.ntmps110
    go_wp2_with fail
    refine (in_no x 0 1 w hno).mono ?_
    rintro e w1 ⟨rfl, hw⟩
    rw [hw]
    clear hw w1
    go_wp2
    go_ret
    exact ⟨rfl, rfl⟩
theorem tells_of {w w' : World} {b : Bool} {p : Prop} (h : b = true ↔ p) (hb : Below w.heap.size w w') : Tells w w' (.returned (.bool b)) p := by
  cases b with
  | true => exact Tells.yes (h.1 rfl) hb
  | false => exact Tells.no (fun hp => by cases h.2 hp) hb
def I2 (w V : World) (a1 a2 : Na) (d1 d2 : Nd) : Prop := Below w.heap.size w V ∧ NB V w.heap.size 31 a1 d1 ∧ NB V (w.heap.size + 1) 31 a2 d2
theorem I2.b {w V V' : World} {a1 a2 : Na} {d1 d2 : Nd} (h : I2 w V a1 a2 d1 d2) (hb : Below V.heap.size V V') : I2 w V' a1 a2 d1 d2 := ⟨h.1.trans (hb.mono h.1.size), h.2.1.b hb, h.2.2.b hb⟩
theorem I2.new (w : World) (a1 a2 : Na) (d1 d2 : Nd) : I2 w ((w.alloc (.cells (nds a1 d1) 31)).alloc (.cells (nds a2 d2) 31)) a1 a2 d1 d2 := by
  have h1 := NB.new w 31 a1 d1
  have h2 := NB.new (w.alloc (.cells (nds a1 d1) 31)) 31 a2 d2
  have e : (w.alloc (.cells (nds a1 d1) 31)).heap.size = w.heap.size + 1 := by simp
  have b := bal1 (w.alloc (.cells (nds a1 d1) 31)) (.cells (nds a2 d2) 31)
  rw [e] at h2 b
  exact ⟨(bal1 w _).trans (b.mono (by omega)), h1.below b (by omega), h2⟩
/-- A variable that holds an error. -/
def ErrV (g : Nat) (w : World) : Prop := ∃ p, w.cell? ⟨g, 0, none⟩ = some (.iface 258 (.pointer (some p)))
theorem ErrV.below {g : Nat} {w V : World} (h : ErrV g w) (hb : Below w.heap.size w V) : ErrV g V := by
  obtain ⟨p, hp⟩ := h
  have hlt : g < w.heap.size := by
    rcases Nat.lt_or_ge g w.heap.size with h1 | h1
    · exact h1
    · simp [World.cell?, Array.getElem?_eq_none h1] at hp
  exact ⟨p, (hb.cell (p := ⟨g, 0, none⟩) hlt).trans hp⟩
/-- What bars, or nothing. -/
def WhyP (P : Prop) (x : Value) : Prop := (P ∧ x = .nilIface) ∨ (¬ P ∧ ∃ p, x = .iface 258 (.pointer (some p)))
/-- The pair; one that is fit; who may hold. -/
def PairC (d1 d2 : Nd) : Prop := NOk d1 ∧ NOk d2 ∧ d2.id = mateOf d1.id
def FitC (d : Nd) : Prop := d.up = true ∧ d.fi = true ∧ d.ol = false
def MhC (d1 d2 : Nd) : Prop := PairC d1 d2 ∧ FitC d1 ∧ d1.he = false ∧ d1.co.getD d2.id.toNat false = false ∧ d2.pr = false
/-- .. errors at hand. -/
def ErrH (w : World) : Prop := ErrT w ∧ ErrV 1 w ∧ ErrV 2 w ∧ ErrV 3 w ∧ ErrV 4 w ∧ ErrV 5 w
theorem ErrH.below {w V : World} (h : ErrH w) (hb : Below w.heap.size w V) : ErrH V :=
  ⟨h.1.below hb, h.2.1.below hb, h.2.2.1.below hb, h.2.2.2.1.below hb, h.2.2.2.2.1.below hb, h.2.2.2.2.2.below hb⟩
theorem NOk.ids' {d : Nd} (h : NOk d) : ∃ k : Nat, k < 3 ∧ d.id = k ∧ d.id.toNat = k := ⟨d.id.toNat, by have := h.1; omega, by have := h.1; omega, rfl⟩
set_option maxHeartbeats 100000000 in
theorem pair_i (a1 a2 : Na) (d1 d2 : Nd) (w : World) (hg : ErrT w) (hd1 : NBd d1) (hd2 : NBd d2) (hv1 : NV w a1 d1) (hv2 : NV w a2 d2) :
    Calls Tryz.prog 191 #[nv a1 d1, nv a2 d2] w fun e w' => Tells w w' e (PairC d1 d2) := by
  obtain ⟨W, hW⟩ : ∃ W, W = (w.alloc (.cells (nds a1 d1) 31)).alloc (.cells (nds a2 d2) 31) := ⟨_, rfl⟩
  have HS0 : Hid (I2 w W.drew a1 a2 d1 d2) := by rw [hW]; exact (I2.new _ _ _ _ _).b (Below.drawn (Below.refl _ _) 1)
  have HV : Hid (∀ V, Below w.heap.size w V → NV V a1 d1 ∧ NV V a2 d2 ∧ ErrT V) := fun V hb => ⟨hv1.below hb, hv2.below hb, hg.below hb⟩
  have HD : Hid (NBd d1 ∧ NBd d2) := ⟨hd1, hd2⟩
  clear hd1 hd2 hv1 hv2 hg
  unfold nv
  unfold nds at hW ⊢
  go_enter Tryz.func191, Tryz.ntmps191
  go_upto_region 1 with fail
  rw [← hW]
  clear hW
  generalize Value.agg #[.int .i64 d1.id, .bool d1.up, .bool d1.pr, .slice a1.im d1.im.length a1.imc, .slice a1.go d1.g.length a1.gc, .slice a1.bo d1.n a1.bc, .bool d1.fi, .bool d1.ol, .bool d1.he, .int .i64 d1.la, .slice a1.aA d1.A.length a1.cA, .slice a1.aB d1.C.length a1.cB, .slice a1.co d1.co.length a1.coc, .slice a1.so d1.m a1.sc, .slice a1.cp d1.cp.length a1.cpc, .slice a1.wt d1.wt.length a1.wtc] = vn1 at *
  generalize Value.agg #[.int .i64 d2.id, .bool d2.up, .bool d2.pr, .slice a2.im d2.im.length a2.imc, .slice a2.go d2.g.length a2.gc, .slice a2.bo d2.n a2.bc, .bool d2.fi, .bool d2.ol, .bool d2.he, .int .i64 d2.la, .slice a2.aA d2.A.length a2.cA, .slice a2.aB d2.C.length a2.cB, .slice a2.co d2.co.length a2.coc, .slice a2.so d2.m a2.sc, .slice a2.cp d2.cp.length a2.cpc, .slice a2.wt d2.wt.length a2.wtc] = vn2 at *
  refine wp_region_held_drew (S := (fun w' => NB w' w.heap.size 31 a1 d1 ∧ NB w' (w.heap.size + 1) 31 a2 d2)) (by kernel_rfl) ?_ (fun hHeld => ?_)
  · exact HS0.out.2
  refine wpAnyH_take (i := 0) (oi := { dst := some 5, op := Op.load 31 (Operand.tmp 2), type := 31, pos := "l11_role.go:118", after := #[], guard := none }) (v := nv a1 d1) rfl (by kernel_rfl) (by kernel_rfl) (by kernel_rfl) (fun _ _ _ h => h) (yieldsIf_load_mid (by rfl) _ _ rfl w.heap.size 0 rfl (nds a1 d1).toList _ (fun wq hSw => range_of hSw.1 rfl) Tryz.underlying31 rfl (by kernel_rfl)) (by assumption) ?_
  try simp only [Act.put, ly1, ly2, ly3]
  refine wpAnyH_ready (rs := [1]) (by kernel_rfl) (by simp) ?_
  refine AllReadyH.cons (o := { dst := some 6, op := Op.call { callee := Callee.value (Operand.func 87), args := #[Operand.tmp 5], argTypes := #[31] }, type := 4, pos := "l11_role.go:118", after := #[{ on := 0, ground := Ground.data }], guard := none }) rfl (fun K hK => ?_) AllReadyH.nil
  go_simp
  refine (node_impl a1 d1 W.drew (HV.out _ HS0.out.1).2.2 HD.out.1 (HV.out _ HS0.out.1).1).mono ?_
  rintro e w1 ⟨h, c1⟩
  have H1 := hide (HS0.out.b c1)
  clear c1
  rcases h with ⟨hok, rfl⟩ | ⟨hok, rfl⟩
  case inr =>
    have HN : Hid (¬ PairC d1 d2) := fun h => hok h.1
    clear hok
    go_wp2_with fail
    refine hK.out _ _ ?_ (fun hHeld => ?_)
    · exact H1.out.2
    clear hK K
    try simp only [Act.put, ly1, ly2, ly3]
    refine wpAnyH_take (i := 2) (oi := { dst := some 7, op := Op.move (Operand.tmp 6), type := 4, pos := "l11_role.go:118", after := #[{ on := 1, ground := Ground.data }, { on := 1, ground := Ground.chain }], guard := none }) (v := ?_) rfl (by kernel_rfl) (by kernel_rfl) (by kernel_rfl) (fun _ _ _ h => h) (Or.inl ⟨by rfl, ?_⟩) (by assumption) ?_
    rotate_left 1
    · (intro wq hSw; (try dsimp only at hSw); go_simp; try with_reducible rfl)
    try simp only [Act.put, ly1, ly2, ly3]
    refine wpAnyH_take (i := 3) (oi := { dst := some 8, op := Op.load 31 (Operand.tmp 3), type := 31, pos := "l11_role.go:118", after := #[{ on := 2, ground := Ground.guard }], guard := some (2, true) }) (v := undef) rfl (by kernel_rfl) (by kernel_rfl) (by kernel_rfl) (fun _ _ _ h => h) (Or.inr ⟨by rfl, rfl⟩) (by assumption) ?_
    try simp only [Act.put, ly1, ly2, ly3]
    refine wpAnyH_take (i := 4) (oi := { dst := some 9, op := Op.call { callee := Callee.value (Operand.func 87), args := #[Operand.tmp 8], argTypes := #[31] }, type := 4, pos := "l11_role.go:118", after := #[{ on := 3, ground := Ground.data }, { on := 2, ground := Ground.chain }, { on := 2, ground := Ground.guard }], guard := some (2, true) }) (v := undef) rfl (by kernel_rfl) (by kernel_rfl) (by kernel_rfl) (fun _ _ _ h => h) (Or.inr ⟨by rfl, rfl⟩) (by assumption) ?_
    try simp only [Act.put, ly1, ly2, ly3]
    refine wpAnyH_take (i := 5) (oi := { dst := some 10, op := Op.pick (Operand.tmp 7) (Operand.tmp 9) (Operand.const (Value.bool false)), type := 4, pos := "l11_role.go:118", after := #[{ on := 2, ground := Ground.data }, { on := 4, ground := Ground.data }], guard := none }) (v := ?_) rfl (by kernel_rfl) (by kernel_rfl) (by kernel_rfl) (fun _ _ _ h => h) (Or.inl ⟨by rfl, ?_⟩) (by assumption) ?_
    rotate_left 1
    · (intro wq hSw; (try dsimp only at hSw); go_simp; try with_reducible rfl)
    try simp only [Act.put, ly1, ly2, ly3]
    refine wpAnyH_take (i := 6) (oi := { dst := some 11, op := Op.move (Operand.tmp 10), type := 4, pos := "l11_role.go:118", after := #[{ on := 5, ground := Ground.data }, { on := 4, ground := Ground.chain }], guard := none }) (v := ?_) rfl (by kernel_rfl) (by kernel_rfl) (by kernel_rfl) (fun _ _ _ h => h) (Or.inl ⟨by rfl, ?_⟩) (by assumption) ?_
    rotate_left 1
    · (intro wq hSw; (try dsimp only at hSw); go_simp; try with_reducible rfl)
    try simp only [Act.put, ly1, ly2, ly3]
    refine wpAnyH_take (i := 7) (oi := { dst := some 12, op := Op.fieldAddr 31 (Operand.tmp 3) 0, type := 0, pos := "l11_role.go:118", after := #[{ on := 6, ground := Ground.guard }], guard := some (6, true) }) (v := undef) rfl (by kernel_rfl) (by kernel_rfl) (by kernel_rfl) (fun _ _ _ h => h) (Or.inr ⟨by rfl, rfl⟩) (by assumption) ?_
    try simp only [Act.put, ly1, ly2, ly3]
    refine wpAnyH_take (i := 8) (oi := { dst := some 13, op := Op.load 3 (Operand.tmp 12), type := 3, pos := "l11_role.go:118", after := #[{ on := 7, ground := Ground.data }, { on := 6, ground := Ground.guard }], guard := some (6, true) }) (v := undef) rfl (by kernel_rfl) (by kernel_rfl) (by kernel_rfl) (fun _ _ _ h => h) (Or.inr ⟨by rfl, rfl⟩) (by assumption) ?_
    try simp only [Act.put, ly1, ly2, ly3]
    refine wpAnyH_take (i := 9) (oi := { dst := some 14, op := Op.fieldAddr 31 (Operand.tmp 2) 0, type := 0, pos := "l11_role.go:118", after := #[{ on := 6, ground := Ground.guard }], guard := some (6, true) }) (v := undef) rfl (by kernel_rfl) (by kernel_rfl) (by kernel_rfl) (fun _ _ _ h => h) (Or.inr ⟨by rfl, rfl⟩) (by assumption) ?_
    try simp only [Act.put, ly1, ly2, ly3]
    refine wpAnyH_take (i := 10) (oi := { dst := some 15, op := Op.load 3 (Operand.tmp 14), type := 3, pos := "l11_role.go:118", after := #[{ on := 9, ground := Ground.data }, { on := 6, ground := Ground.guard }], guard := some (6, true) }) (v := undef) rfl (by kernel_rfl) (by kernel_rfl) (by kernel_rfl) (fun _ _ _ h => h) (Or.inr ⟨by rfl, rfl⟩) (by assumption) ?_
    try simp only [Act.put, ly1, ly2, ly3]
    refine wpAnyH_take (i := 11) (oi := { dst := some 16, op := Op.call { callee := Callee.value (Operand.func 113), args := #[Operand.tmp 15], argTypes := #[3] }, type := 3, pos := "l11_role.go:118", after := #[{ on := 10, ground := Ground.data }, { on := 6, ground := Ground.chain }, { on := 6, ground := Ground.guard }], guard := some (6, true) }) (v := undef) rfl (by kernel_rfl) (by kernel_rfl) (by kernel_rfl) (fun _ _ _ h => h) (Or.inr ⟨by rfl, rfl⟩) (by assumption) ?_
    try simp only [Act.put, ly1, ly2, ly3]
    refine wpAnyH_take (i := 12) (oi := { dst := some 17, op := Op.binOp BinOp.eql 3 (Operand.tmp 13) (Operand.tmp 16) 3, type := 4, pos := "l11_role.go:118", after := #[{ on := 8, ground := Ground.data }, { on := 11, ground := Ground.data }, { on := 6, ground := Ground.guard }], guard := some (6, true) }) (v := undef) rfl (by kernel_rfl) (by kernel_rfl) (by kernel_rfl) (fun _ _ _ h => h) (Or.inr ⟨by rfl, rfl⟩) (by assumption) ?_
    try simp only [Act.put, ly1, ly2, ly3]
    refine wpAnyH_take (i := 13) (oi := { dst := some 18, op := Op.pick (Operand.tmp 11) (Operand.tmp 17) (Operand.const (Value.bool false)), type := 4, pos := "l11_role.go:118", after := #[{ on := 6, ground := Ground.data }, { on := 12, ground := Ground.data }], guard := none }) (v := ?_) rfl (by kernel_rfl) (by kernel_rfl) (by kernel_rfl) (fun _ _ _ h => h) (Or.inl ⟨by rfl, ?_⟩) (by assumption) ?_
    rotate_left 1
    · (intro wq hSw; (try dsimp only at hSw); go_simp; try with_reducible rfl)
    try simp only [Act.put, ly1, ly2, ly3]
    refine wpAnyH_take (i := 14) (oi := { dst := some 4, op := Op.assign (Operand.tmp 18), type := 4, pos := "l11_role.go:118", after := #[{ on := 13, ground := Ground.data }, { on := 11, ground := Ground.chain }, { on := 0, ground := Ground.phase }, { on := 1, ground := Ground.phase }, { on := 2, ground := Ground.phase }, { on := 3, ground := Ground.phase }, { on := 4, ground := Ground.phase }, { on := 5, ground := Ground.phase }, { on := 6, ground := Ground.phase }, { on := 7, ground := Ground.phase }, { on := 8, ground := Ground.phase }, { on := 9, ground := Ground.phase }, { on := 10, ground := Ground.phase }, { on := 11, ground := Ground.phase }, { on := 12, ground := Ground.phase }, { on := 13, ground := Ground.phase }], guard := none }) (v := ?_) rfl (by kernel_rfl) (by kernel_rfl) (by kernel_rfl) (fun _ _ _ h => h) (Or.inl ⟨by rfl, ?_⟩) (by assumption) ?_
    rotate_left 1
    · (intro wq hSw; (try dsimp only at hSw); go_simp; try with_reducible rfl)
    try simp only [Act.put, ly1, ly2, ly3]
    refine wpAnyH_done (by kernel_rfl) ?_ _
    go_wp2
    go_ret
    exact Tells.no HN.out H1.out.1
  go_wp2_with fail
  refine hK.out _ _ ?_ (fun hHeld => ?_)
  · exact H1.out.2
  clear hK K
  try simp only [Act.put, ly1, ly2, ly3]
  refine wpAnyH_take (i := 2) (oi := { dst := some 7, op := Op.move (Operand.tmp 6), type := 4, pos := "l11_role.go:118", after := #[{ on := 1, ground := Ground.data }, { on := 1, ground := Ground.chain }], guard := none }) (v := ?_) rfl (by kernel_rfl) (by kernel_rfl) (by kernel_rfl) (fun _ _ _ h => h) (Or.inl ⟨by rfl, ?_⟩) (by assumption) ?_
  rotate_left 1
  · (intro wq hSw; (try dsimp only at hSw); go_simp; try with_reducible rfl)
  try simp only [Act.put, ly1, ly2, ly3]
  refine wpAnyH_take (i := 3) (oi := { dst := some 8, op := Op.load 31 (Operand.tmp 3), type := 31, pos := "l11_role.go:118", after := #[{ on := 2, ground := Ground.guard }], guard := some (2, true) }) (v := nv a2 d2) rfl (by kernel_rfl) (by kernel_rfl) (by kernel_rfl) (fun _ _ _ h => h) (yieldsIf_load_mid (by rfl) _ _ rfl (w.heap.size + 1) 0 rfl (nds a2 d2).toList _ (fun wq hSw => range_of hSw.2 rfl) Tryz.underlying31 rfl (by kernel_rfl)) (by assumption) ?_
  try simp only [Act.put, ly1, ly2, ly3]
  refine wpAnyH_ready (rs := [4]) (by kernel_rfl) (by simp) ?_
  refine AllReadyH.cons (o := { dst := some 9, op := Op.call { callee := Callee.value (Operand.func 87), args := #[Operand.tmp 8], argTypes := #[31] }, type := 4, pos := "l11_role.go:118", after := #[{ on := 3, ground := Ground.data }, { on := 2, ground := Ground.chain }, { on := 2, ground := Ground.guard }], guard := some (2, true) }) rfl (fun K hK => ?_) AllReadyH.nil
  go_simp
  refine (node_impl a2 d2 w1 (HV.out _ H1.out.1).2.2 HD.out.2 (HV.out _ H1.out.1).2.1).mono ?_
  rintro e w2 ⟨h, c1⟩
  have H2 := hide (H1.out.b c1)
  clear c1
  rcases h with ⟨hok2, rfl⟩ | ⟨hok2, rfl⟩
  case inr =>
    have HN : Hid (¬ PairC d1 d2) := fun h => hok2 h.2.1
    clear hok hok2
    go_wp2_with fail
    refine hK.out _ _ ?_ (fun hHeld => ?_)
    · exact H2.out.2
    clear hK K
    try simp only [Act.put, ly1, ly2, ly3]
    refine wpAnyH_take (i := 5) (oi := { dst := some 10, op := Op.pick (Operand.tmp 7) (Operand.tmp 9) (Operand.const (Value.bool false)), type := 4, pos := "l11_role.go:118", after := #[{ on := 2, ground := Ground.data }, { on := 4, ground := Ground.data }], guard := none }) (v := ?_) rfl (by kernel_rfl) (by kernel_rfl) (by kernel_rfl) (fun _ _ _ h => h) (Or.inl ⟨by rfl, ?_⟩) (by assumption) ?_
    rotate_left 1
    · (intro wq hSw; (try dsimp only at hSw); go_simp; try with_reducible rfl)
    try simp only [Act.put, ly1, ly2, ly3]
    refine wpAnyH_take (i := 6) (oi := { dst := some 11, op := Op.move (Operand.tmp 10), type := 4, pos := "l11_role.go:118", after := #[{ on := 5, ground := Ground.data }, { on := 4, ground := Ground.chain }], guard := none }) (v := ?_) rfl (by kernel_rfl) (by kernel_rfl) (by kernel_rfl) (fun _ _ _ h => h) (Or.inl ⟨by rfl, ?_⟩) (by assumption) ?_
    rotate_left 1
    · (intro wq hSw; (try dsimp only at hSw); go_simp; try with_reducible rfl)
    try simp only [Act.put, ly1, ly2, ly3]
    refine wpAnyH_take (i := 7) (oi := { dst := some 12, op := Op.fieldAddr 31 (Operand.tmp 3) 0, type := 0, pos := "l11_role.go:118", after := #[{ on := 6, ground := Ground.guard }], guard := some (6, true) }) (v := undef) rfl (by kernel_rfl) (by kernel_rfl) (by kernel_rfl) (fun _ _ _ h => h) (Or.inr ⟨by rfl, rfl⟩) (by assumption) ?_
    try simp only [Act.put, ly1, ly2, ly3]
    refine wpAnyH_take (i := 8) (oi := { dst := some 13, op := Op.load 3 (Operand.tmp 12), type := 3, pos := "l11_role.go:118", after := #[{ on := 7, ground := Ground.data }, { on := 6, ground := Ground.guard }], guard := some (6, true) }) (v := undef) rfl (by kernel_rfl) (by kernel_rfl) (by kernel_rfl) (fun _ _ _ h => h) (Or.inr ⟨by rfl, rfl⟩) (by assumption) ?_
    try simp only [Act.put, ly1, ly2, ly3]
    refine wpAnyH_take (i := 9) (oi := { dst := some 14, op := Op.fieldAddr 31 (Operand.tmp 2) 0, type := 0, pos := "l11_role.go:118", after := #[{ on := 6, ground := Ground.guard }], guard := some (6, true) }) (v := undef) rfl (by kernel_rfl) (by kernel_rfl) (by kernel_rfl) (fun _ _ _ h => h) (Or.inr ⟨by rfl, rfl⟩) (by assumption) ?_
    try simp only [Act.put, ly1, ly2, ly3]
    refine wpAnyH_take (i := 10) (oi := { dst := some 15, op := Op.load 3 (Operand.tmp 14), type := 3, pos := "l11_role.go:118", after := #[{ on := 9, ground := Ground.data }, { on := 6, ground := Ground.guard }], guard := some (6, true) }) (v := undef) rfl (by kernel_rfl) (by kernel_rfl) (by kernel_rfl) (fun _ _ _ h => h) (Or.inr ⟨by rfl, rfl⟩) (by assumption) ?_
    try simp only [Act.put, ly1, ly2, ly3]
    refine wpAnyH_take (i := 11) (oi := { dst := some 16, op := Op.call { callee := Callee.value (Operand.func 113), args := #[Operand.tmp 15], argTypes := #[3] }, type := 3, pos := "l11_role.go:118", after := #[{ on := 10, ground := Ground.data }, { on := 6, ground := Ground.chain }, { on := 6, ground := Ground.guard }], guard := some (6, true) }) (v := undef) rfl (by kernel_rfl) (by kernel_rfl) (by kernel_rfl) (fun _ _ _ h => h) (Or.inr ⟨by rfl, rfl⟩) (by assumption) ?_
    try simp only [Act.put, ly1, ly2, ly3]
    refine wpAnyH_take (i := 12) (oi := { dst := some 17, op := Op.binOp BinOp.eql 3 (Operand.tmp 13) (Operand.tmp 16) 3, type := 4, pos := "l11_role.go:118", after := #[{ on := 8, ground := Ground.data }, { on := 11, ground := Ground.data }, { on := 6, ground := Ground.guard }], guard := some (6, true) }) (v := undef) rfl (by kernel_rfl) (by kernel_rfl) (by kernel_rfl) (fun _ _ _ h => h) (Or.inr ⟨by rfl, rfl⟩) (by assumption) ?_
    try simp only [Act.put, ly1, ly2, ly3]
    refine wpAnyH_take (i := 13) (oi := { dst := some 18, op := Op.pick (Operand.tmp 11) (Operand.tmp 17) (Operand.const (Value.bool false)), type := 4, pos := "l11_role.go:118", after := #[{ on := 6, ground := Ground.data }, { on := 12, ground := Ground.data }], guard := none }) (v := ?_) rfl (by kernel_rfl) (by kernel_rfl) (by kernel_rfl) (fun _ _ _ h => h) (Or.inl ⟨by rfl, ?_⟩) (by assumption) ?_
    rotate_left 1
    · (intro wq hSw; (try dsimp only at hSw); go_simp; try with_reducible rfl)
    try simp only [Act.put, ly1, ly2, ly3]
    refine wpAnyH_take (i := 14) (oi := { dst := some 4, op := Op.assign (Operand.tmp 18), type := 4, pos := "l11_role.go:118", after := #[{ on := 13, ground := Ground.data }, { on := 11, ground := Ground.chain }, { on := 0, ground := Ground.phase }, { on := 1, ground := Ground.phase }, { on := 2, ground := Ground.phase }, { on := 3, ground := Ground.phase }, { on := 4, ground := Ground.phase }, { on := 5, ground := Ground.phase }, { on := 6, ground := Ground.phase }, { on := 7, ground := Ground.phase }, { on := 8, ground := Ground.phase }, { on := 9, ground := Ground.phase }, { on := 10, ground := Ground.phase }, { on := 11, ground := Ground.phase }, { on := 12, ground := Ground.phase }, { on := 13, ground := Ground.phase }], guard := none }) (v := ?_) rfl (by kernel_rfl) (by kernel_rfl) (by kernel_rfl) (fun _ _ _ h => h) (Or.inl ⟨by rfl, ?_⟩) (by assumption) ?_
    rotate_left 1
    · (intro wq hSw; (try dsimp only at hSw); go_simp; try with_reducible rfl)
    try simp only [Act.put, ly1, ly2, ly3]
    refine wpAnyH_done (by kernel_rfl) ?_ _
    go_wp2
    go_ret
    exact Tells.no HN.out H2.out.1
  have HP : Hid (PairC d1 d2 ↔ d2.id = mateOf d1.id) := ⟨fun h => h.2.2, fun h => ⟨hok, hok2, h⟩⟩
  clear hok hok2
  go_wp2_with fail
  refine hK.out _ _ ?_ (fun hHeld => ?_)
  · exact H2.out.2
  clear hK K
  try simp only [Act.put, ly1, ly2, ly3]
  refine wpAnyH_take (i := 5) (oi := { dst := some 10, op := Op.pick (Operand.tmp 7) (Operand.tmp 9) (Operand.const (Value.bool false)), type := 4, pos := "l11_role.go:118", after := #[{ on := 2, ground := Ground.data }, { on := 4, ground := Ground.data }], guard := none }) (v := ?_) rfl (by kernel_rfl) (by kernel_rfl) (by kernel_rfl) (fun _ _ _ h => h) (Or.inl ⟨by rfl, ?_⟩) (by assumption) ?_
  rotate_left 1
  · (intro wq hSw; (try dsimp only at hSw); go_simp; try with_reducible rfl)
  try simp only [Act.put, ly1, ly2, ly3]
  refine wpAnyH_take (i := 6) (oi := { dst := some 11, op := Op.move (Operand.tmp 10), type := 4, pos := "l11_role.go:118", after := #[{ on := 5, ground := Ground.data }, { on := 4, ground := Ground.chain }], guard := none }) (v := ?_) rfl (by kernel_rfl) (by kernel_rfl) (by kernel_rfl) (fun _ _ _ h => h) (Or.inl ⟨by rfl, ?_⟩) (by assumption) ?_
  rotate_left 1
  · (intro wq hSw; (try dsimp only at hSw); go_simp; try with_reducible rfl)
  try simp only [Act.put, ly1, ly2, ly3]
  refine wpAnyH_take (i := 7) (oi := { dst := some 12, op := Op.fieldAddr 31 (Operand.tmp 3) 0, type := 0, pos := "l11_role.go:118", after := #[{ on := 6, ground := Ground.guard }], guard := some (6, true) }) (v := ?_) rfl (by kernel_rfl) (by kernel_rfl) (by kernel_rfl) (fun _ _ _ h => h) (Or.inl ⟨by rfl, ?_⟩) (by assumption) ?_
  rotate_left 1
  · (intro wq hSw; (try dsimp only at hSw); go_simp; try with_reducible rfl)
  try simp only [Act.put, ly1, ly2, ly3]
  refine wpAnyH_take (i := 8) (oi := { dst := some 13, op := Op.load 3 (Operand.tmp 12), type := 3, pos := "l11_role.go:118", after := #[{ on := 7, ground := Ground.data }, { on := 6, ground := Ground.guard }], guard := some (6, true) }) (v := .int .i64 d2.id) rfl (by kernel_rfl) (by kernel_rfl) (by kernel_rfl) (fun _ _ _ h => h) (Or.inl ⟨by rfl, ?_⟩) (by assumption) ?_
  · (intro wq hSw; have hpc := hSw.2.cells.1; go_simp <;> first | rfl | exact hpc)
  try simp only [Act.put, ly1, ly2, ly3]
  refine wpAnyH_take (i := 9) (oi := { dst := some 14, op := Op.fieldAddr 31 (Operand.tmp 2) 0, type := 0, pos := "l11_role.go:118", after := #[{ on := 6, ground := Ground.guard }], guard := some (6, true) }) (v := ?_) rfl (by kernel_rfl) (by kernel_rfl) (by kernel_rfl) (fun _ _ _ h => h) (Or.inl ⟨by rfl, ?_⟩) (by assumption) ?_
  rotate_left 1
  · (intro wq hSw; (try dsimp only at hSw); go_simp; try with_reducible rfl)
  try simp only [Act.put, ly1, ly2, ly3]
  refine wpAnyH_take (i := 10) (oi := { dst := some 15, op := Op.load 3 (Operand.tmp 14), type := 3, pos := "l11_role.go:118", after := #[{ on := 9, ground := Ground.data }, { on := 6, ground := Ground.guard }], guard := some (6, true) }) (v := .int .i64 d1.id) rfl (by kernel_rfl) (by kernel_rfl) (by kernel_rfl) (fun _ _ _ h => h) (Or.inl ⟨by rfl, ?_⟩) (by assumption) ?_
  · (intro wq hSw; have hpc := hSw.1.cells.1; go_simp <;> first | rfl | exact hpc)
  try simp only [Act.put, ly1, ly2, ly3]
  refine wpAnyH_ready (rs := [11]) (by kernel_rfl) (by simp) ?_
  refine AllReadyH.cons (o := { dst := some 16, op := Op.call { callee := Callee.value (Operand.func 113), args := #[Operand.tmp 15], argTypes := #[3] }, type := 3, pos := "l11_role.go:118", after := #[{ on := 10, ground := Ground.data }, { on := 6, ground := Ground.chain }, { on := 6, ground := Ground.guard }], guard := some (6, true) }) rfl (fun K hK => ?_) AllReadyH.nil
  go_simp
  refine (mate_impl d1.id w2).mono ?_
  rintro e w3 ⟨rfl, hw⟩
  rw [hw]
  clear hw w3
  go_wp2_with fail
  refine hK.out _ _ ?_ (fun hHeld => ?_)
  · exact H2.out.2
  clear hK K
  try simp only [Act.put, ly1, ly2, ly3]
  obtain ⟨t, ht⟩ : ∃ t : Bool, t = (d2.id == mateOf d1.id) := ⟨_, rfl⟩
  have HT : Hid (t = true ↔ PairC d1 d2) := (show _ ↔ _ from by rw [HP.out, ht]; simp)
  refine wpAnyH_take (i := 12) (oi := { dst := some 17, op := Op.binOp BinOp.eql 3 (Operand.tmp 13) (Operand.tmp 16) 3, type := 4, pos := "l11_role.go:118", after := #[{ on := 8, ground := Ground.data }, { on := 11, ground := Ground.data }, { on := 6, ground := Ground.guard }], guard := some (6, true) }) (v := .bool t) rfl (by kernel_rfl) (by kernel_rfl) (by kernel_rfl) (fun _ _ _ h => h) (Or.inl ⟨by rfl, ?_⟩) (by assumption) ?_
  · (intro wq hSw; rw [ht]; go_simp <;> rfl)
  try simp only [Act.put, ly1, ly2, ly3]
  clear ht
  refine wpAnyH_take (i := 13) (oi := { dst := some 18, op := Op.pick (Operand.tmp 11) (Operand.tmp 17) (Operand.const (Value.bool false)), type := 4, pos := "l11_role.go:118", after := #[{ on := 6, ground := Ground.data }, { on := 12, ground := Ground.data }], guard := none }) (v := ?_) rfl (by kernel_rfl) (by kernel_rfl) (by kernel_rfl) (fun _ _ _ h => h) (Or.inl ⟨by rfl, ?_⟩) (by assumption) ?_
  rotate_left 1
  · (intro wq hSw; (try dsimp only at hSw); go_simp; try with_reducible rfl)
  try simp only [Act.put, ly1, ly2, ly3]
  refine wpAnyH_take (i := 14) (oi := { dst := some 4, op := Op.assign (Operand.tmp 18), type := 4, pos := "l11_role.go:118", after := #[{ on := 13, ground := Ground.data }, { on := 11, ground := Ground.chain }, { on := 0, ground := Ground.phase }, { on := 1, ground := Ground.phase }, { on := 2, ground := Ground.phase }, { on := 3, ground := Ground.phase }, { on := 4, ground := Ground.phase }, { on := 5, ground := Ground.phase }, { on := 6, ground := Ground.phase }, { on := 7, ground := Ground.phase }, { on := 8, ground := Ground.phase }, { on := 9, ground := Ground.phase }, { on := 10, ground := Ground.phase }, { on := 11, ground := Ground.phase }, { on := 12, ground := Ground.phase }, { on := 13, ground := Ground.phase }], guard := none }) (v := ?_) rfl (by kernel_rfl) (by kernel_rfl) (by kernel_rfl) (fun _ _ _ h => h) (Or.inl ⟨by rfl, ?_⟩) (by assumption) ?_
  rotate_left 1
  · (intro wq hSw; (try dsimp only at hSw); go_simp; try with_reducible rfl)
  try simp only [Act.put, ly1, ly2, ly3]
  refine wpAnyH_done (by kernel_rfl) ?_ _
  go_wp2
  go_ret
  exact tells_of HT.out H2.out.1

set_option maxHeartbeats 100000000 in
theorem pair_s (a1 a2 : Na) (d1 d2 : Nd) (w : World) (hd1 : NBd d1) (hd2 : NBd d2) (hv1 : NV w a1 d1) (hv2 : NV w a2 d2) :
    Calls Tryz.prog 120 #[nv a1 d1, nv a2 d2] w fun e w' => Tells w w' e (PairC d1 d2) := by
  obtain ⟨W, hW⟩ : ∃ W, W = (w.alloc (.cells (nds a1 d1) 31)).alloc (.cells (nds a2 d2) 31) := ⟨_, rfl⟩
  have HS0 : Hid (I2 w W.drew a1 a2 d1 d2) := by rw [hW]; exact (I2.new _ _ _ _ _).b (Below.drawn (Below.refl _ _) 1)
  have HV : Hid (∀ V, Below w.heap.size w V → NV V a1 d1 ∧ NV V a2 d2) := fun V hb => ⟨hv1.below hb, hv2.below hb⟩
  have HD : Hid (NBd d1 ∧ NBd d2) := ⟨hd1, hd2⟩
  clear hd1 hd2 hv1 hv2
  unfold nv
  unfold nds at hW ⊢
  go_enter Tryz.func120, Tryz.ntmps120
  go_upto_region 1 with fail
  rw [← hW]
  clear hW
  generalize Value.agg #[.int .i64 d1.id, .bool d1.up, .bool d1.pr, .slice a1.im d1.im.length a1.imc, .slice a1.go d1.g.length a1.gc, .slice a1.bo d1.n a1.bc, .bool d1.fi, .bool d1.ol, .bool d1.he, .int .i64 d1.la, .slice a1.aA d1.A.length a1.cA, .slice a1.aB d1.C.length a1.cB, .slice a1.co d1.co.length a1.coc, .slice a1.so d1.m a1.sc, .slice a1.cp d1.cp.length a1.cpc, .slice a1.wt d1.wt.length a1.wtc] = vn1 at *
  generalize Value.agg #[.int .i64 d2.id, .bool d2.up, .bool d2.pr, .slice a2.im d2.im.length a2.imc, .slice a2.go d2.g.length a2.gc, .slice a2.bo d2.n a2.bc, .bool d2.fi, .bool d2.ol, .bool d2.he, .int .i64 d2.la, .slice a2.aA d2.A.length a2.cA, .slice a2.aB d2.C.length a2.cB, .slice a2.co d2.co.length a2.coc, .slice a2.so d2.m a2.sc, .slice a2.cp d2.cp.length a2.cpc, .slice a2.wt d2.wt.length a2.wtc] = vn2 at *
  refine wp_region_held_drew (S := (fun w' => NB w' w.heap.size 31 a1 d1 ∧ NB w' (w.heap.size + 1) 31 a2 d2)) (by kernel_rfl) ?_ (fun hHeld => ?_)
  · exact HS0.out.2
  refine wpAnyH_take (i := 0) (oi := { dst := some 5, op := Op.load 31 (Operand.tmp 2), type := 31, pos := "l11_role.go:7", after := #[], guard := none }) (v := nv a1 d1) rfl (by kernel_rfl) (by kernel_rfl) (by kernel_rfl) (fun _ _ _ h => h) (yieldsIf_load_mid (by rfl) _ _ rfl w.heap.size 0 rfl (nds a1 d1).toList _ (fun wq hSw => range_of hSw.1 rfl) Tryz.underlying31 rfl (by kernel_rfl)) (by assumption) ?_
  try simp only [Act.put, ly1, ly2, ly3]
  refine wpAnyH_ready (rs := [1]) (by kernel_rfl) (by simp) ?_
  refine AllReadyH.cons (o := { dst := some 6, op := Op.call { callee := Callee.value (Operand.func 79), args := #[Operand.tmp 5], argTypes := #[31] }, type := 4, pos := "l11_role.go:7", after := #[{ on := 0, ground := Ground.data }], guard := none }) rfl (fun K hK => ?_) AllReadyH.nil
  go_simp
  refine (node_spec a1 d1 W.drew HD.out.1 (HV.out _ HS0.out.1).1).mono ?_
  rintro e w1 ⟨h, c1⟩
  have H1 := hide (HS0.out.b c1)
  clear c1
  rcases h with ⟨hok, rfl⟩ | ⟨hok, rfl⟩
  case inr =>
    have HN : Hid (¬ PairC d1 d2) := fun h => hok h.1
    clear hok
    go_wp2_with fail
    refine hK.out _ _ ?_ (fun hHeld => ?_)
    · exact H1.out.2
    clear hK K
    try simp only [Act.put, ly1, ly2, ly3]
    refine wpAnyH_take (i := 2) (oi := { dst := some 7, op := Op.move (Operand.tmp 6), type := 4, pos := "l11_role.go:7", after := #[{ on := 1, ground := Ground.data }, { on := 1, ground := Ground.chain }], guard := none }) (v := ?_) rfl (by kernel_rfl) (by kernel_rfl) (by kernel_rfl) (fun _ _ _ h => h) (Or.inl ⟨by rfl, ?_⟩) (by assumption) ?_
    rotate_left 1
    · (intro wq hSw; (try dsimp only at hSw); go_simp; try with_reducible rfl)
    try simp only [Act.put, ly1, ly2, ly3]
    refine wpAnyH_take (i := 3) (oi := { dst := some 8, op := Op.load 31 (Operand.tmp 3), type := 31, pos := "l11_role.go:7", after := #[{ on := 2, ground := Ground.guard }], guard := some (2, true) }) (v := undef) rfl (by kernel_rfl) (by kernel_rfl) (by kernel_rfl) (fun _ _ _ h => h) (Or.inr ⟨by rfl, rfl⟩) (by assumption) ?_
    try simp only [Act.put, ly1, ly2, ly3]
    refine wpAnyH_take (i := 4) (oi := { dst := some 9, op := Op.call { callee := Callee.value (Operand.func 79), args := #[Operand.tmp 8], argTypes := #[31] }, type := 4, pos := "l11_role.go:7", after := #[{ on := 3, ground := Ground.data }, { on := 2, ground := Ground.chain }, { on := 2, ground := Ground.guard }], guard := some (2, true) }) (v := undef) rfl (by kernel_rfl) (by kernel_rfl) (by kernel_rfl) (fun _ _ _ h => h) (Or.inr ⟨by rfl, rfl⟩) (by assumption) ?_
    try simp only [Act.put, ly1, ly2, ly3]
    refine wpAnyH_take (i := 5) (oi := { dst := some 10, op := Op.pick (Operand.tmp 7) (Operand.tmp 9) (Operand.const (Value.bool false)), type := 4, pos := "l11_role.go:7", after := #[{ on := 2, ground := Ground.data }, { on := 4, ground := Ground.data }], guard := none }) (v := ?_) rfl (by kernel_rfl) (by kernel_rfl) (by kernel_rfl) (fun _ _ _ h => h) (Or.inl ⟨by rfl, ?_⟩) (by assumption) ?_
    rotate_left 1
    · (intro wq hSw; (try dsimp only at hSw); go_simp; try with_reducible rfl)
    try simp only [Act.put, ly1, ly2, ly3]
    refine wpAnyH_take (i := 6) (oi := { dst := some 11, op := Op.move (Operand.tmp 10), type := 4, pos := "l11_role.go:7", after := #[{ on := 5, ground := Ground.data }, { on := 4, ground := Ground.chain }], guard := none }) (v := ?_) rfl (by kernel_rfl) (by kernel_rfl) (by kernel_rfl) (fun _ _ _ h => h) (Or.inl ⟨by rfl, ?_⟩) (by assumption) ?_
    rotate_left 1
    · (intro wq hSw; (try dsimp only at hSw); go_simp; try with_reducible rfl)
    try simp only [Act.put, ly1, ly2, ly3]
    refine wpAnyH_take (i := 7) (oi := { dst := some 12, op := Op.fieldAddr 31 (Operand.tmp 2) 0, type := 0, pos := "l11_role.go:7", after := #[{ on := 6, ground := Ground.guard }], guard := some (6, true) }) (v := undef) rfl (by kernel_rfl) (by kernel_rfl) (by kernel_rfl) (fun _ _ _ h => h) (Or.inr ⟨by rfl, rfl⟩) (by assumption) ?_
    try simp only [Act.put, ly1, ly2, ly3]
    refine wpAnyH_take (i := 8) (oi := { dst := some 13, op := Op.load 3 (Operand.tmp 12), type := 3, pos := "l11_role.go:7", after := #[{ on := 7, ground := Ground.data }, { on := 6, ground := Ground.guard }], guard := some (6, true) }) (v := undef) rfl (by kernel_rfl) (by kernel_rfl) (by kernel_rfl) (fun _ _ _ h => h) (Or.inr ⟨by rfl, rfl⟩) (by assumption) ?_
    try simp only [Act.put, ly1, ly2, ly3]
    refine wpAnyH_take (i := 9) (oi := { dst := some 14, op := Op.call { callee := Callee.value (Operand.func 110), args := #[Operand.tmp 13], argTypes := #[3] }, type := 3, pos := "l11_role.go:7", after := #[{ on := 8, ground := Ground.data }, { on := 6, ground := Ground.chain }, { on := 6, ground := Ground.guard }], guard := some (6, true) }) (v := undef) rfl (by kernel_rfl) (by kernel_rfl) (by kernel_rfl) (fun _ _ _ h => h) (Or.inr ⟨by rfl, rfl⟩) (by assumption) ?_
    try simp only [Act.put, ly1, ly2, ly3]
    refine wpAnyH_take (i := 10) (oi := { dst := some 15, op := Op.fieldAddr 31 (Operand.tmp 3) 0, type := 0, pos := "l11_role.go:7", after := #[{ on := 6, ground := Ground.guard }], guard := some (6, true) }) (v := undef) rfl (by kernel_rfl) (by kernel_rfl) (by kernel_rfl) (fun _ _ _ h => h) (Or.inr ⟨by rfl, rfl⟩) (by assumption) ?_
    try simp only [Act.put, ly1, ly2, ly3]
    refine wpAnyH_take (i := 11) (oi := { dst := some 16, op := Op.load 3 (Operand.tmp 15), type := 3, pos := "l11_role.go:7", after := #[{ on := 10, ground := Ground.data }, { on := 6, ground := Ground.guard }], guard := some (6, true) }) (v := undef) rfl (by kernel_rfl) (by kernel_rfl) (by kernel_rfl) (fun _ _ _ h => h) (Or.inr ⟨by rfl, rfl⟩) (by assumption) ?_
    try simp only [Act.put, ly1, ly2, ly3]
    refine wpAnyH_take (i := 12) (oi := { dst := some 17, op := Op.binOp BinOp.eql 3 (Operand.tmp 14) (Operand.tmp 16) 3, type := 4, pos := "l11_role.go:7", after := #[{ on := 9, ground := Ground.data }, { on := 11, ground := Ground.data }, { on := 6, ground := Ground.guard }], guard := some (6, true) }) (v := undef) rfl (by kernel_rfl) (by kernel_rfl) (by kernel_rfl) (fun _ _ _ h => h) (Or.inr ⟨by rfl, rfl⟩) (by assumption) ?_
    try simp only [Act.put, ly1, ly2, ly3]
    refine wpAnyH_take (i := 13) (oi := { dst := some 18, op := Op.pick (Operand.tmp 11) (Operand.tmp 17) (Operand.const (Value.bool false)), type := 4, pos := "l11_role.go:7", after := #[{ on := 6, ground := Ground.data }, { on := 12, ground := Ground.data }], guard := none }) (v := ?_) rfl (by kernel_rfl) (by kernel_rfl) (by kernel_rfl) (fun _ _ _ h => h) (Or.inl ⟨by rfl, ?_⟩) (by assumption) ?_
    rotate_left 1
    · (intro wq hSw; (try dsimp only at hSw); go_simp; try with_reducible rfl)
    try simp only [Act.put, ly1, ly2, ly3]
    refine wpAnyH_take (i := 14) (oi := { dst := some 4, op := Op.assign (Operand.tmp 18), type := 4, pos := "l11_role.go:7", after := #[{ on := 13, ground := Ground.data }, { on := 9, ground := Ground.chain }, { on := 0, ground := Ground.phase }, { on := 1, ground := Ground.phase }, { on := 2, ground := Ground.phase }, { on := 3, ground := Ground.phase }, { on := 4, ground := Ground.phase }, { on := 5, ground := Ground.phase }, { on := 6, ground := Ground.phase }, { on := 7, ground := Ground.phase }, { on := 8, ground := Ground.phase }, { on := 9, ground := Ground.phase }, { on := 10, ground := Ground.phase }, { on := 11, ground := Ground.phase }, { on := 12, ground := Ground.phase }, { on := 13, ground := Ground.phase }], guard := none }) (v := ?_) rfl (by kernel_rfl) (by kernel_rfl) (by kernel_rfl) (fun _ _ _ h => h) (Or.inl ⟨by rfl, ?_⟩) (by assumption) ?_
    rotate_left 1
    · (intro wq hSw; (try dsimp only at hSw); go_simp; try with_reducible rfl)
    try simp only [Act.put, ly1, ly2, ly3]
    refine wpAnyH_done (by kernel_rfl) ?_ _
    go_wp2
    go_ret
    exact Tells.no HN.out H1.out.1
  go_wp2_with fail
  refine hK.out _ _ ?_ (fun hHeld => ?_)
  · exact H1.out.2
  clear hK K
  try simp only [Act.put, ly1, ly2, ly3]
  refine wpAnyH_take (i := 2) (oi := { dst := some 7, op := Op.move (Operand.tmp 6), type := 4, pos := "l11_role.go:7", after := #[{ on := 1, ground := Ground.data }, { on := 1, ground := Ground.chain }], guard := none }) (v := ?_) rfl (by kernel_rfl) (by kernel_rfl) (by kernel_rfl) (fun _ _ _ h => h) (Or.inl ⟨by rfl, ?_⟩) (by assumption) ?_
  rotate_left 1
  · (intro wq hSw; (try dsimp only at hSw); go_simp; try with_reducible rfl)
  try simp only [Act.put, ly1, ly2, ly3]
  refine wpAnyH_take (i := 3) (oi := { dst := some 8, op := Op.load 31 (Operand.tmp 3), type := 31, pos := "l11_role.go:7", after := #[{ on := 2, ground := Ground.guard }], guard := some (2, true) }) (v := nv a2 d2) rfl (by kernel_rfl) (by kernel_rfl) (by kernel_rfl) (fun _ _ _ h => h) (yieldsIf_load_mid (by rfl) _ _ rfl (w.heap.size + 1) 0 rfl (nds a2 d2).toList _ (fun wq hSw => range_of hSw.2 rfl) Tryz.underlying31 rfl (by kernel_rfl)) (by assumption) ?_
  try simp only [Act.put, ly1, ly2, ly3]
  refine wpAnyH_ready (rs := [4]) (by kernel_rfl) (by simp) ?_
  refine AllReadyH.cons (o := { dst := some 9, op := Op.call { callee := Callee.value (Operand.func 79), args := #[Operand.tmp 8], argTypes := #[31] }, type := 4, pos := "l11_role.go:7", after := #[{ on := 3, ground := Ground.data }, { on := 2, ground := Ground.chain }, { on := 2, ground := Ground.guard }], guard := some (2, true) }) rfl (fun K hK => ?_) AllReadyH.nil
  go_simp
  refine (node_spec a2 d2 w1 HD.out.2 (HV.out _ H1.out.1).2).mono ?_
  rintro e w2 ⟨h, c1⟩
  have H2 := hide (H1.out.b c1)
  clear c1
  rcases h with ⟨hok2, rfl⟩ | ⟨hok2, rfl⟩
  case inr =>
    have HN : Hid (¬ PairC d1 d2) := fun h => hok2 h.2.1
    clear hok hok2
    go_wp2_with fail
    refine hK.out _ _ ?_ (fun hHeld => ?_)
    · exact H2.out.2
    clear hK K
    try simp only [Act.put, ly1, ly2, ly3]
    refine wpAnyH_take (i := 5) (oi := { dst := some 10, op := Op.pick (Operand.tmp 7) (Operand.tmp 9) (Operand.const (Value.bool false)), type := 4, pos := "l11_role.go:7", after := #[{ on := 2, ground := Ground.data }, { on := 4, ground := Ground.data }], guard := none }) (v := ?_) rfl (by kernel_rfl) (by kernel_rfl) (by kernel_rfl) (fun _ _ _ h => h) (Or.inl ⟨by rfl, ?_⟩) (by assumption) ?_
    rotate_left 1
    · (intro wq hSw; (try dsimp only at hSw); go_simp; try with_reducible rfl)
    try simp only [Act.put, ly1, ly2, ly3]
    refine wpAnyH_take (i := 6) (oi := { dst := some 11, op := Op.move (Operand.tmp 10), type := 4, pos := "l11_role.go:7", after := #[{ on := 5, ground := Ground.data }, { on := 4, ground := Ground.chain }], guard := none }) (v := ?_) rfl (by kernel_rfl) (by kernel_rfl) (by kernel_rfl) (fun _ _ _ h => h) (Or.inl ⟨by rfl, ?_⟩) (by assumption) ?_
    rotate_left 1
    · (intro wq hSw; (try dsimp only at hSw); go_simp; try with_reducible rfl)
    try simp only [Act.put, ly1, ly2, ly3]
    refine wpAnyH_take (i := 7) (oi := { dst := some 12, op := Op.fieldAddr 31 (Operand.tmp 2) 0, type := 0, pos := "l11_role.go:7", after := #[{ on := 6, ground := Ground.guard }], guard := some (6, true) }) (v := undef) rfl (by kernel_rfl) (by kernel_rfl) (by kernel_rfl) (fun _ _ _ h => h) (Or.inr ⟨by rfl, rfl⟩) (by assumption) ?_
    try simp only [Act.put, ly1, ly2, ly3]
    refine wpAnyH_take (i := 8) (oi := { dst := some 13, op := Op.load 3 (Operand.tmp 12), type := 3, pos := "l11_role.go:7", after := #[{ on := 7, ground := Ground.data }, { on := 6, ground := Ground.guard }], guard := some (6, true) }) (v := undef) rfl (by kernel_rfl) (by kernel_rfl) (by kernel_rfl) (fun _ _ _ h => h) (Or.inr ⟨by rfl, rfl⟩) (by assumption) ?_
    try simp only [Act.put, ly1, ly2, ly3]
    refine wpAnyH_take (i := 9) (oi := { dst := some 14, op := Op.call { callee := Callee.value (Operand.func 110), args := #[Operand.tmp 13], argTypes := #[3] }, type := 3, pos := "l11_role.go:7", after := #[{ on := 8, ground := Ground.data }, { on := 6, ground := Ground.chain }, { on := 6, ground := Ground.guard }], guard := some (6, true) }) (v := undef) rfl (by kernel_rfl) (by kernel_rfl) (by kernel_rfl) (fun _ _ _ h => h) (Or.inr ⟨by rfl, rfl⟩) (by assumption) ?_
    try simp only [Act.put, ly1, ly2, ly3]
    refine wpAnyH_take (i := 10) (oi := { dst := some 15, op := Op.fieldAddr 31 (Operand.tmp 3) 0, type := 0, pos := "l11_role.go:7", after := #[{ on := 6, ground := Ground.guard }], guard := some (6, true) }) (v := undef) rfl (by kernel_rfl) (by kernel_rfl) (by kernel_rfl) (fun _ _ _ h => h) (Or.inr ⟨by rfl, rfl⟩) (by assumption) ?_
    try simp only [Act.put, ly1, ly2, ly3]
    refine wpAnyH_take (i := 11) (oi := { dst := some 16, op := Op.load 3 (Operand.tmp 15), type := 3, pos := "l11_role.go:7", after := #[{ on := 10, ground := Ground.data }, { on := 6, ground := Ground.guard }], guard := some (6, true) }) (v := undef) rfl (by kernel_rfl) (by kernel_rfl) (by kernel_rfl) (fun _ _ _ h => h) (Or.inr ⟨by rfl, rfl⟩) (by assumption) ?_
    try simp only [Act.put, ly1, ly2, ly3]
    refine wpAnyH_take (i := 12) (oi := { dst := some 17, op := Op.binOp BinOp.eql 3 (Operand.tmp 14) (Operand.tmp 16) 3, type := 4, pos := "l11_role.go:7", after := #[{ on := 9, ground := Ground.data }, { on := 11, ground := Ground.data }, { on := 6, ground := Ground.guard }], guard := some (6, true) }) (v := undef) rfl (by kernel_rfl) (by kernel_rfl) (by kernel_rfl) (fun _ _ _ h => h) (Or.inr ⟨by rfl, rfl⟩) (by assumption) ?_
    try simp only [Act.put, ly1, ly2, ly3]
    refine wpAnyH_take (i := 13) (oi := { dst := some 18, op := Op.pick (Operand.tmp 11) (Operand.tmp 17) (Operand.const (Value.bool false)), type := 4, pos := "l11_role.go:7", after := #[{ on := 6, ground := Ground.data }, { on := 12, ground := Ground.data }], guard := none }) (v := ?_) rfl (by kernel_rfl) (by kernel_rfl) (by kernel_rfl) (fun _ _ _ h => h) (Or.inl ⟨by rfl, ?_⟩) (by assumption) ?_
    rotate_left 1
    · (intro wq hSw; (try dsimp only at hSw); go_simp; try with_reducible rfl)
    try simp only [Act.put, ly1, ly2, ly3]
    refine wpAnyH_take (i := 14) (oi := { dst := some 4, op := Op.assign (Operand.tmp 18), type := 4, pos := "l11_role.go:7", after := #[{ on := 13, ground := Ground.data }, { on := 9, ground := Ground.chain }, { on := 0, ground := Ground.phase }, { on := 1, ground := Ground.phase }, { on := 2, ground := Ground.phase }, { on := 3, ground := Ground.phase }, { on := 4, ground := Ground.phase }, { on := 5, ground := Ground.phase }, { on := 6, ground := Ground.phase }, { on := 7, ground := Ground.phase }, { on := 8, ground := Ground.phase }, { on := 9, ground := Ground.phase }, { on := 10, ground := Ground.phase }, { on := 11, ground := Ground.phase }, { on := 12, ground := Ground.phase }, { on := 13, ground := Ground.phase }], guard := none }) (v := ?_) rfl (by kernel_rfl) (by kernel_rfl) (by kernel_rfl) (fun _ _ _ h => h) (Or.inl ⟨by rfl, ?_⟩) (by assumption) ?_
    rotate_left 1
    · (intro wq hSw; (try dsimp only at hSw); go_simp; try with_reducible rfl)
    try simp only [Act.put, ly1, ly2, ly3]
    refine wpAnyH_done (by kernel_rfl) ?_ _
    go_wp2
    go_ret
    exact Tells.no HN.out H2.out.1
  have HP : Hid (PairC d1 d2 ↔ d2.id = mateOf d1.id) := ⟨fun h => h.2.2, fun h => ⟨hok, hok2, h⟩⟩
  clear hok hok2
  go_wp2_with fail
  refine hK.out _ _ ?_ (fun hHeld => ?_)
  · exact H2.out.2
  clear hK K
  try simp only [Act.put, ly1, ly2, ly3]
  refine wpAnyH_take (i := 5) (oi := { dst := some 10, op := Op.pick (Operand.tmp 7) (Operand.tmp 9) (Operand.const (Value.bool false)), type := 4, pos := "l11_role.go:7", after := #[{ on := 2, ground := Ground.data }, { on := 4, ground := Ground.data }], guard := none }) (v := ?_) rfl (by kernel_rfl) (by kernel_rfl) (by kernel_rfl) (fun _ _ _ h => h) (Or.inl ⟨by rfl, ?_⟩) (by assumption) ?_
  rotate_left 1
  · (intro wq hSw; (try dsimp only at hSw); go_simp; try with_reducible rfl)
  try simp only [Act.put, ly1, ly2, ly3]
  refine wpAnyH_take (i := 6) (oi := { dst := some 11, op := Op.move (Operand.tmp 10), type := 4, pos := "l11_role.go:7", after := #[{ on := 5, ground := Ground.data }, { on := 4, ground := Ground.chain }], guard := none }) (v := ?_) rfl (by kernel_rfl) (by kernel_rfl) (by kernel_rfl) (fun _ _ _ h => h) (Or.inl ⟨by rfl, ?_⟩) (by assumption) ?_
  rotate_left 1
  · (intro wq hSw; (try dsimp only at hSw); go_simp; try with_reducible rfl)
  try simp only [Act.put, ly1, ly2, ly3]
  refine wpAnyH_take (i := 7) (oi := { dst := some 12, op := Op.fieldAddr 31 (Operand.tmp 2) 0, type := 0, pos := "l11_role.go:7", after := #[{ on := 6, ground := Ground.guard }], guard := some (6, true) }) (v := ?_) rfl (by kernel_rfl) (by kernel_rfl) (by kernel_rfl) (fun _ _ _ h => h) (Or.inl ⟨by rfl, ?_⟩) (by assumption) ?_
  rotate_left 1
  · (intro wq hSw; (try dsimp only at hSw); go_simp; try with_reducible rfl)
  try simp only [Act.put, ly1, ly2, ly3]
  refine wpAnyH_take (i := 8) (oi := { dst := some 13, op := Op.load 3 (Operand.tmp 12), type := 3, pos := "l11_role.go:7", after := #[{ on := 7, ground := Ground.data }, { on := 6, ground := Ground.guard }], guard := some (6, true) }) (v := .int .i64 d1.id) rfl (by kernel_rfl) (by kernel_rfl) (by kernel_rfl) (fun _ _ _ h => h) (Or.inl ⟨by rfl, ?_⟩) (by assumption) ?_
  · (intro wq hSw; have hpc := hSw.1.cells.1; go_simp <;> first | rfl | exact hpc)
  try simp only [Act.put, ly1, ly2, ly3]
  refine wpAnyH_take (i := 10) (oi := { dst := some 15, op := Op.fieldAddr 31 (Operand.tmp 3) 0, type := 0, pos := "l11_role.go:7", after := #[{ on := 6, ground := Ground.guard }], guard := some (6, true) }) (v := ?_) rfl (by kernel_rfl) (by kernel_rfl) (by kernel_rfl) (fun _ _ _ h => h) (Or.inl ⟨by rfl, ?_⟩) (by assumption) ?_
  rotate_left 1
  · (intro wq hSw; (try dsimp only at hSw); go_simp; try with_reducible rfl)
  try simp only [Act.put, ly1, ly2, ly3]
  refine wpAnyH_take (i := 11) (oi := { dst := some 16, op := Op.load 3 (Operand.tmp 15), type := 3, pos := "l11_role.go:7", after := #[{ on := 10, ground := Ground.data }, { on := 6, ground := Ground.guard }], guard := some (6, true) }) (v := .int .i64 d2.id) rfl (by kernel_rfl) (by kernel_rfl) (by kernel_rfl) (fun _ _ _ h => h) (Or.inl ⟨by rfl, ?_⟩) (by assumption) ?_
  · (intro wq hSw; have hpc := hSw.2.cells.1; go_simp <;> first | rfl | exact hpc)
  try simp only [Act.put, ly1, ly2, ly3]
  refine wpAnyH_ready (rs := [9]) (by kernel_rfl) (by simp) ?_
  refine AllReadyH.cons (o := { dst := some 14, op := Op.call { callee := Callee.value (Operand.func 110), args := #[Operand.tmp 13], argTypes := #[3] }, type := 3, pos := "l11_role.go:7", after := #[{ on := 8, ground := Ground.data }, { on := 6, ground := Ground.chain }, { on := 6, ground := Ground.guard }], guard := some (6, true) }) rfl (fun K hK => ?_) AllReadyH.nil
  go_simp
  refine (mate_s d1.id w2).mono ?_
  rintro e w3 ⟨rfl, hw⟩
  rw [hw, show mateX d1.id = mateOf d1.id from rfl]
  clear hw w3
  go_wp2_with fail
  refine hK.out _ _ ?_ (fun hHeld => ?_)
  · exact H2.out.2
  clear hK K
  try simp only [Act.put, ly1, ly2, ly3]
  obtain ⟨t, ht⟩ : ∃ t : Bool, t = (mateOf d1.id == d2.id) := ⟨_, rfl⟩
  have HT : Hid (t = true ↔ PairC d1 d2) := (show _ ↔ _ from by rw [HP.out, ht]; simp; exact eq_comm)
  refine wpAnyH_take (i := 12) (oi := { dst := some 17, op := Op.binOp BinOp.eql 3 (Operand.tmp 14) (Operand.tmp 16) 3, type := 4, pos := "l11_role.go:7", after := #[{ on := 9, ground := Ground.data }, { on := 11, ground := Ground.data }, { on := 6, ground := Ground.guard }], guard := some (6, true) }) (v := .bool t) rfl (by kernel_rfl) (by kernel_rfl) (by kernel_rfl) (fun _ _ _ h => h) (Or.inl ⟨by rfl, ?_⟩) (by assumption) ?_
  · (intro wq hSw; rw [ht]; go_simp <;> rfl)
  try simp only [Act.put, ly1, ly2, ly3]
  clear ht
  refine wpAnyH_take (i := 13) (oi := { dst := some 18, op := Op.pick (Operand.tmp 11) (Operand.tmp 17) (Operand.const (Value.bool false)), type := 4, pos := "l11_role.go:7", after := #[{ on := 6, ground := Ground.data }, { on := 12, ground := Ground.data }], guard := none }) (v := ?_) rfl (by kernel_rfl) (by kernel_rfl) (by kernel_rfl) (fun _ _ _ h => h) (Or.inl ⟨by rfl, ?_⟩) (by assumption) ?_
  rotate_left 1
  · (intro wq hSw; (try dsimp only at hSw); go_simp; try with_reducible rfl)
  try simp only [Act.put, ly1, ly2, ly3]
  refine wpAnyH_take (i := 14) (oi := { dst := some 4, op := Op.assign (Operand.tmp 18), type := 4, pos := "l11_role.go:7", after := #[{ on := 13, ground := Ground.data }, { on := 9, ground := Ground.chain }, { on := 0, ground := Ground.phase }, { on := 1, ground := Ground.phase }, { on := 2, ground := Ground.phase }, { on := 3, ground := Ground.phase }, { on := 4, ground := Ground.phase }, { on := 5, ground := Ground.phase }, { on := 6, ground := Ground.phase }, { on := 7, ground := Ground.phase }, { on := 8, ground := Ground.phase }, { on := 9, ground := Ground.phase }, { on := 10, ground := Ground.phase }, { on := 11, ground := Ground.phase }, { on := 12, ground := Ground.phase }, { on := 13, ground := Ground.phase }], guard := none }) (v := ?_) rfl (by kernel_rfl) (by kernel_rfl) (by kernel_rfl) (fun _ _ _ h => h) (Or.inl ⟨by rfl, ?_⟩) (by assumption) ?_
  rotate_left 1
  · (intro wq hSw; (try dsimp only at hSw); go_simp; try with_reducible rfl)
  try simp only [Act.put, ly1, ly2, ly3]
  refine wpAnyH_done (by kernel_rfl) ?_ _
  go_wp2
  go_ret
  exact tells_of HT.out H2.out.1

set_option maxHeartbeats 100000000 in
theorem fit_i (a : Na) (d : Nd) (w : World) :
    Calls Tryz.prog 192 #[nv a d] w fun e w' => Tells w w' e (FitC d) := by
  obtain ⟨W, hW⟩ : ∃ W, W = w.alloc (.cells (nds a d) 31) := ⟨_, rfl⟩
  have H0 : Hid (Below w.heap.size w W ∧ NB W w.heap.size 31 a d) := by rw [hW]; exact ⟨bal1 _ _, NB.new _ _ _ _⟩
  have p1 := H0.out.2.cells.2.1
  have p6 := H0.out.2.cells.2.2.2.2.2.2.1
  have p7 := H0.out.2.cells.2.2.2.2.2.2.2.1
  have HC : Hid (FitC d ↔ d.up = true ∧ d.fi = true ∧ d.ol = false) := (show _ ↔ _ from Iff.rfl)
  unfold nv
  unfold nds at hW ⊢
  go_enter Tryz.func192, Tryz.ntmps192
  go_upto_region 1 with fail
  rw [← hW]
  clear hW
  generalize Value.agg #[.int .i64 d.id, .bool d.up, .bool d.pr, .slice a.im d.im.length a.imc, .slice a.go d.g.length a.gc, .slice a.bo d.n a.bc, .bool d.fi, .bool d.ol, .bool d.he, .int .i64 d.la, .slice a.aA d.A.length a.cA, .slice a.aB d.C.length a.cB, .slice a.co d.co.length a.coc, .slice a.so d.m a.sc, .slice a.cp d.cp.length a.cpc, .slice a.wt d.wt.length a.wtc] = vn at *
  obtain ⟨u, hu⟩ : ∃ u, u = d.up := ⟨_, rfl⟩
  obtain ⟨f, hf⟩ : ∃ f, f = d.fi := ⟨_, rfl⟩
  obtain ⟨o, ho⟩ : ∃ o, o = d.ol := ⟨_, rfl⟩
  rw [← hu] at p1 HC
  rw [← hf] at p6 HC
  rw [← ho] at p7 HC
  clear hu hf ho
  cases u <;> cases f <;> cases o
  case true.true.false =>
    go_wp2
    go_ret
    exact Tells.yes (HC.out.2 (by simp)) H0.out.1
  all_goals
    go_wp2
    go_ret
    exact Tells.no (fun h => by have := HC.out.1 h; simp at this) H0.out.1

set_option maxHeartbeats 100000000 in
theorem mayhold_s (a1 a2 : Na) (d1 d2 : Nd) (w : World) (hd1 : NBd d1) (hd2 : NBd d2) (hv1 : NV w a1 d1) (hv2 : NV w a2 d2) :
    Calls Tryz.prog 39 #[nv a1 d1, nv a2 d2] w fun e w' => Tells w w' e (MhC d1 d2) := by
  obtain ⟨W, hW⟩ : ∃ W, W = (w.alloc (.cells (nds a1 d1) 31)).alloc (.cells (nds a2 d2) 31) := ⟨_, rfl⟩
  have HS0 : Hid (I2 w W a1 a2 d1 d2) := by rw [hW]; exact I2.new _ _ _ _ _
  have HV : Hid (∀ V, Below w.heap.size w V → NV V a1 d1 ∧ NV V a2 d2) := fun V hb => ⟨hv1.below hb, hv2.below hb⟩
  have HD : Hid (NBd d1 ∧ NBd d2) := ⟨hd1, hd2⟩
  clear hd1 hd2 hv1 hv2
  unfold nv
  unfold nds at hW ⊢
  go_enter Tryz.func39, Tryz.ntmps39
  go_upto_region 1 with fail
  rw [← hW]
  clear hW
  generalize Value.agg #[.int .i64 d1.id, .bool d1.up, .bool d1.pr, .slice a1.im d1.im.length a1.imc, .slice a1.go d1.g.length a1.gc, .slice a1.bo d1.n a1.bc, .bool d1.fi, .bool d1.ol, .bool d1.he, .int .i64 d1.la, .slice a1.aA d1.A.length a1.cA, .slice a1.aB d1.C.length a1.cB, .slice a1.co d1.co.length a1.coc, .slice a1.so d1.m a1.sc, .slice a1.cp d1.cp.length a1.cpc, .slice a1.wt d1.wt.length a1.wtc] = vn1 at *
  generalize Value.agg #[.int .i64 d2.id, .bool d2.up, .bool d2.pr, .slice a2.im d2.im.length a2.imc, .slice a2.go d2.g.length a2.gc, .slice a2.bo d2.n a2.bc, .bool d2.fi, .bool d2.ol, .bool d2.he, .int .i64 d2.la, .slice a2.aA d2.A.length a2.cA, .slice a2.aB d2.C.length a2.cB, .slice a2.co d2.co.length a2.coc, .slice a2.so d2.m a2.sc, .slice a2.cp d2.cp.length a2.cpc, .slice a2.wt d2.wt.length a2.wtc] = vn2 at *
  go_wp2_with (first | (refine ld_node rfl _ rfl w.heap.size rfl HS0.out.2.1 ?_) | (refine ld_node rfl _ rfl (w.heap.size + 1) rfl HS0.out.2.2 ?_))
  refine (pair_s a1 a2 d1 d2 W HD.out.1 HD.out.2 (HV.out _ HS0.out.1).1 (HV.out _ HS0.out.1).2).mono ?_
  rintro e w1 ⟨h, c1⟩
  have H1 := hide (HS0.out.b c1)
  clear c1 HS0
  rcases h with ⟨hp, rfl⟩ | ⟨hp, rfl⟩
  case inr =>
    have HN : Hid (¬ MhC d1 d2) := fun h => hp h.1
    clear hp
    go_wp2
    go_ret
    exact Tells.no HN.out H1.out.1
  have HP := hide hp
  clear hp
  obtain ⟨k, hk3, hk, hkn⟩ := NOk.ids' HP.out.2.1
  obtain ⟨ib, io, e1, _, hic⟩ := (HV.out _ H1.out.1).1.2.2.2.1.1 k (by have := HP.out.1.2.2.2.1.1; omega)
  have hl3 : d1.co.length = 3 := HP.out.1.2.2.2.1.1
  have q12 : w1.cell? ⟨w.heap.size, 12, none⟩ = some (.slice (some ⟨ib, io, none⟩) 3 a1.coc) := by
    have h := H1.out.2.1.cells.2.2.2.2.2.2.2.2.2.2.2.2.1
    rw [e1, hl3] at h
    exact h
  have r0 : w1.cell? ⟨w.heap.size + 1, 0, none⟩ = some (.int .i64 (k : Int)) := by
    have h := H1.out.2.2.cells.1
    rw [hk] at h
    exact h
  have hk0 : (0 : Int) ≤ (k : Int) := by omega
  have hk1 : (k : Int) < 3 := by omega
  obtain ⟨c, hc⟩ : ∃ c, c = d1.co.getD k false := ⟨_, rfl⟩
  have hic' : w1.cell? ⟨ib, io + k, none⟩ = some (.bool c) := by rw [hc]; exact hic
  have q1 := H1.out.2.1.cells.2.1
  have q6 := H1.out.2.1.cells.2.2.2.2.2.2.1
  have q7 := H1.out.2.1.cells.2.2.2.2.2.2.2.1
  have q8 := H1.out.2.1.cells.2.2.2.2.2.2.2.2.1
  have r2 := H1.out.2.2.cells.2.2.1
  obtain ⟨u, hu⟩ : ∃ u, u = d1.up := ⟨_, rfl⟩
  obtain ⟨f, hf⟩ : ∃ f, f = d1.fi := ⟨_, rfl⟩
  obtain ⟨o, ho⟩ : ∃ o, o = d1.ol := ⟨_, rfl⟩
  obtain ⟨h, hh⟩ : ∃ h, h = d1.he := ⟨_, rfl⟩
  obtain ⟨r, hr⟩ : ∃ r, r = d2.pr := ⟨_, rfl⟩
  have HC : Hid (MhC d1 d2 ↔ (u = true ∧ f = true ∧ o = false) ∧ h = false ∧ c = false ∧ r = false) := (show _ ↔ _ from by
    rw [hu, hf, ho, hh, hr, hc]
    unfold MhC FitC
    rw [hkn]
    exact ⟨fun x => x.2, fun x => ⟨HP.out, x⟩⟩)
  rw [← hu] at q1
  rw [← hf] at q6
  rw [← ho] at q7
  rw [← hh] at q8
  rw [← hr] at r2
  clear hu hf ho hh hr hc hic e1 hl3 hk hkn hk3 HP
  cases u
  case false =>
    have HN : Hid (¬ MhC d1 d2) := fun x => by have := HC.out.1 x; simp at this
    clear HC
    go_wp2
    go_ret
    exact Tells.no HN.out H1.out.1
  cases f
  case false =>
    have HN : Hid (¬ MhC d1 d2) := fun x => by have := HC.out.1 x; simp at this
    clear HC
    go_wp2
    go_ret
    exact Tells.no HN.out H1.out.1
  cases o
  case true =>
    have HN : Hid (¬ MhC d1 d2) := fun x => by have := HC.out.1 x; simp at this
    clear HC
    go_wp2
    go_ret
    exact Tells.no HN.out H1.out.1
  cases h
  case true =>
    have HN : Hid (¬ MhC d1 d2) := fun x => by have := HC.out.1 x; simp at this
    clear HC
    go_wp2
    go_ret
    exact Tells.no HN.out H1.out.1
  cases c
  case true =>
    have HN : Hid (¬ MhC d1 d2) := fun x => by have := HC.out.1 x; simp at this
    clear HC
    go_wp2
    go_ret
    exact Tells.no HN.out H1.out.1
  cases r
  case true =>
    have HN : Hid (¬ MhC d1 d2) := fun x => by have := HC.out.1 x; simp at this
    clear HC
    go_wp2
    go_ret
    exact Tells.no HN.out H1.out.1
  have HY : Hid (MhC d1 d2) := HC.out.2 (by simp)
  clear HC
  go_wp2
  go_ret
  exact Tells.yes HY.out H1.out.1

set_option maxHeartbeats 100000000 in
theorem whyhold_i (a1 a2 : Na) (d1 d2 : Nd) (w : World) (hg : ErrH w) (hd1 : NBd d1) (hd2 : NBd d2) (hv1 : NV w a1 d1) (hv2 : NV w a2 d2) :
    Calls Tryz.prog 121 #[nv a1 d1, nv a2 d2] w fun e w' => ∃ x, e = .returned x ∧ WhyP (MhC d1 d2) x ∧ Below w.heap.size w w' := by
  obtain ⟨W, hW⟩ : ∃ W, W = (w.alloc (.cells (nds a1 d1) 31)).alloc (.cells (nds a2 d2) 31) := ⟨_, rfl⟩
  have HS0 : Hid (I2 w W a1 a2 d1 d2) := by rw [hW]; exact I2.new _ _ _ _ _
  have HV : Hid (∀ V, Below w.heap.size w V → NV V a1 d1 ∧ NV V a2 d2 ∧ ErrH V) := fun V hb => ⟨hv1.below hb, hv2.below hb, hg.below hb⟩
  have HD : Hid (NBd d1 ∧ NBd d2) := ⟨hd1, hd2⟩
  clear hd1 hd2 hv1 hv2 hg
  unfold nv
  unfold nds at hW ⊢
  go_enter Tryz.func121, Tryz.ntmps121
  go_upto_region 1 with fail
  rw [← hW]
  clear hW
  generalize Value.agg #[.int .i64 d1.id, .bool d1.up, .bool d1.pr, .slice a1.im d1.im.length a1.imc, .slice a1.go d1.g.length a1.gc, .slice a1.bo d1.n a1.bc, .bool d1.fi, .bool d1.ol, .bool d1.he, .int .i64 d1.la, .slice a1.aA d1.A.length a1.cA, .slice a1.aB d1.C.length a1.cB, .slice a1.co d1.co.length a1.coc, .slice a1.so d1.m a1.sc, .slice a1.cp d1.cp.length a1.cpc, .slice a1.wt d1.wt.length a1.wtc] = vn1 at *
  generalize Value.agg #[.int .i64 d2.id, .bool d2.up, .bool d2.pr, .slice a2.im d2.im.length a2.imc, .slice a2.go d2.g.length a2.gc, .slice a2.bo d2.n a2.bc, .bool d2.fi, .bool d2.ol, .bool d2.he, .int .i64 d2.la, .slice a2.aA d2.A.length a2.cA, .slice a2.aB d2.C.length a2.cB, .slice a2.co d2.co.length a2.coc, .slice a2.so d2.m a2.sc, .slice a2.cp d2.cp.length a2.cpc, .slice a2.wt d2.wt.length a2.wtc] = vn2 at *
  go_wp2_with (first | (refine ld_node rfl _ rfl w.heap.size rfl HS0.out.2.1 ?_) | (refine ld_node rfl _ rfl (w.heap.size + 1) rfl HS0.out.2.2 ?_))
  refine (pair_i a1 a2 d1 d2 W (HV.out _ HS0.out.1).2.2.1 HD.out.1 HD.out.2 (HV.out _ HS0.out.1).1 (HV.out _ HS0.out.1).2.1).mono ?_
  rintro e wp ⟨h, c1⟩
  have HA := hide (HS0.out.b c1)
  clear c1 HS0
  rcases h with ⟨hp, rfl⟩ | ⟨hp, rfl⟩
  case inr =>
    have HN : Hid (¬ MhC d1 d2) := fun h => hp h.1
    obtain ⟨q, hq⟩ := (HV.out _ HA.out.1).2.2.2.1
    clear hp
    go_wp2
    go_ret
    exact ⟨_, rfl, .inr ⟨HN.out, q, rfl⟩, HA.out.1⟩
  have HP := hide hp
  clear hp
  as_aux_lemma =>
    go_wp2_with (refine ld_node rfl _ rfl w.heap.size rfl HA.out.2.1 ?_)
    refine (fit_i a1 d1 wp).mono ?_
    rintro e w1 ⟨h, c1⟩
    have H1 := hide (HA.out.b c1)
    clear c1 HA
    rcases h with ⟨hp, rfl⟩ | ⟨hp, rfl⟩
    case inr =>
      have HN : Hid (¬ MhC d1 d2) := fun h => hp h.2.1
      obtain ⟨q, hq⟩ := (HV.out _ H1.out.1).2.2.2.2.1
      clear hp
      go_wp2
      go_ret
      exact ⟨_, rfl, .inr ⟨HN.out, q, rfl⟩, H1.out.1⟩
    have HF := hide hp
    clear hp
    obtain ⟨k, hk3, hk, hkn⟩ := NOk.ids' HP.out.2.1
    obtain ⟨ib, io, e1, _, hic⟩ := (HV.out _ H1.out.1).1.2.2.2.1.1 k (by have := HP.out.1.2.2.2.1.1; omega)
    have hl3 : d1.co.length = 3 := HP.out.1.2.2.2.1.1
    have q12 : w1.cell? ⟨w.heap.size, 12, none⟩ = some (.slice (some ⟨ib, io, none⟩) 3 a1.coc) := by
      have h := H1.out.2.1.cells.2.2.2.2.2.2.2.2.2.2.2.2.1
      rw [e1, hl3] at h
      exact h
    have r0 : w1.cell? ⟨w.heap.size + 1, 0, none⟩ = some (.int .i64 (k : Int)) := by
      have h := H1.out.2.2.cells.1
      rw [hk] at h
      exact h
    have hk0 : (0 : Int) ≤ (k : Int) := by omega
    have hk1 : (k : Int) < 3 := by omega
    obtain ⟨c, hc⟩ : ∃ c, c = d1.co.getD k false := ⟨_, rfl⟩
    have hic' : w1.cell? ⟨ib, io + k, none⟩ = some (.bool c) := by rw [hc]; exact hic
    have q8 := H1.out.2.1.cells.2.2.2.2.2.2.2.2.1
    have r2 := H1.out.2.2.cells.2.2.1
    obtain ⟨h, hh⟩ : ∃ h, h = d1.he := ⟨_, rfl⟩
    obtain ⟨r, hr⟩ : ∃ r, r = d2.pr := ⟨_, rfl⟩
    have HC : Hid (MhC d1 d2 ↔ h = false ∧ c = false ∧ r = false) := (show _ ↔ _ from by
      rw [hh, hr, hc]
      unfold MhC
      rw [hkn]
      exact ⟨fun x => x.2.2, fun x => ⟨HP.out, HF.out, x⟩⟩)
    rw [← hh] at q8
    rw [← hr] at r2
    clear hh hr hc hic e1 hl3 hk hkn hk3 HP HF
    obtain ⟨z1, hz1⟩ := (HV.out _ H1.out.1).2.2.2.2.2.1
    obtain ⟨z2, hz2⟩ := (HV.out _ H1.out.1).2.2.2.2.2.2.1
    obtain ⟨z3, hz3⟩ := (HV.out _ H1.out.1).2.2.2.2.2.2.2
    cases h
    case true =>
      have HN : Hid (¬ MhC d1 d2) := fun x => by have := HC.out.1 x; simp at this
      clear HC
      go_wp2
      go_ret
      exact ⟨_, rfl, .inr ⟨HN.out, z1, rfl⟩, H1.out.1⟩
    cases c
    case true =>
      have HN : Hid (¬ MhC d1 d2) := fun x => by have := HC.out.1 x; simp at this
      clear HC
      go_wp2
      go_ret
      exact ⟨_, rfl, .inr ⟨HN.out, z2, rfl⟩, H1.out.1⟩
    cases r
    case true =>
      have HN : Hid (¬ MhC d1 d2) := fun x => by have := HC.out.1 x; simp at this
      clear HC
      go_wp2
      go_ret
      exact ⟨_, rfl, .inr ⟨HN.out, z3, rfl⟩, H1.out.1⟩
    have HY : Hid (MhC d1 d2) := HC.out.2 (by simp)
    clear HC
    go_wp2
    go_ret
    exact ⟨_, rfl, .inl ⟨HY.out, rfl⟩, H1.out.1⟩

set_option maxHeartbeats 100000000 in
theorem mayhold_i (a1 a2 : Na) (d1 d2 : Nd) (w : World) (hg : ErrH w) (hd1 : NBd d1) (hd2 : NBd d2) (hv1 : NV w a1 d1) (hv2 : NV w a2 d2) :
    Calls Tryz.prog 40 #[nv a1 d1, nv a2 d2] w fun e w' => Tells w w' e (MhC d1 d2) := by
  obtain ⟨W, hW⟩ : ∃ W, W = (w.alloc (.cells (nds a1 d1) 31)).alloc (.cells (nds a2 d2) 31) := ⟨_, rfl⟩
  have HS0 : Hid (I2 w W a1 a2 d1 d2) := by rw [hW]; exact I2.new _ _ _ _ _
  have HV : Hid (∀ V, Below w.heap.size w V → NV V a1 d1 ∧ NV V a2 d2 ∧ ErrH V) := fun V hb => ⟨hv1.below hb, hv2.below hb, hg.below hb⟩
  have HD : Hid (NBd d1 ∧ NBd d2) := ⟨hd1, hd2⟩
  clear hd1 hd2 hv1 hv2 hg
  unfold nv
  unfold nds at hW ⊢
  go_enter Tryz.func40, Tryz.ntmps40
  go_upto_region 1 with fail
  rw [← hW]
  clear hW
  generalize Value.agg #[.int .i64 d1.id, .bool d1.up, .bool d1.pr, .slice a1.im d1.im.length a1.imc, .slice a1.go d1.g.length a1.gc, .slice a1.bo d1.n a1.bc, .bool d1.fi, .bool d1.ol, .bool d1.he, .int .i64 d1.la, .slice a1.aA d1.A.length a1.cA, .slice a1.aB d1.C.length a1.cB, .slice a1.co d1.co.length a1.coc, .slice a1.so d1.m a1.sc, .slice a1.cp d1.cp.length a1.cpc, .slice a1.wt d1.wt.length a1.wtc] = vn1 at *
  generalize Value.agg #[.int .i64 d2.id, .bool d2.up, .bool d2.pr, .slice a2.im d2.im.length a2.imc, .slice a2.go d2.g.length a2.gc, .slice a2.bo d2.n a2.bc, .bool d2.fi, .bool d2.ol, .bool d2.he, .int .i64 d2.la, .slice a2.aA d2.A.length a2.cA, .slice a2.aB d2.C.length a2.cB, .slice a2.co d2.co.length a2.coc, .slice a2.so d2.m a2.sc, .slice a2.cp d2.cp.length a2.cpc, .slice a2.wt d2.wt.length a2.wtc] = vn2 at *
  go_wp2_with (first | (refine ld_node rfl _ rfl w.heap.size rfl HS0.out.2.1 ?_) | (refine ld_node rfl _ rfl (w.heap.size + 1) rfl HS0.out.2.2 ?_))
  refine (whyhold_i a1 a2 d1 d2 W (HV.out _ HS0.out.1).2.2 HD.out.1 HD.out.2 (HV.out _ HS0.out.1).1 (HV.out _ HS0.out.1).2.1).mono ?_
  rintro e w1 ⟨x, rfl, hx, c1⟩
  have H1 := hide (HS0.out.b c1)
  clear c1 HS0
  rcases hx with ⟨hy, rfl⟩ | ⟨hn, p, rfl⟩
  · have HY := hide hy
    clear hy
    go_wp2
    go_ret
    exact Tells.yes HY.out H1.out.1
  · have HN := hide hn
    clear hn
    go_wp2
    go_ret
    exact Tells.no HN.out H1.out.1
end Go.Proofs.YtkndnndildnbpaaGreatDoor
namespace Go.Proofs.YtkndnndildnbpaaGreatDoor
open Go.ChangeShapes Go.WideShapes Go.ChangeAt Go.RowKit
set_option linter.unusedVariables false
set_option linter.unusedSimpArgs false
open Go.Extern.Stop Go.Stop Go.Extern
set_option maxRecDepth 100000

theorem es_typeOf (v : Value) (w : World) : (Extern.ReflectliteType.typeOf #[.iface 258 v]).run Tryz.prog w = .ok (.iface 194 (.agg #[.pointer (some ⟨12, 258, none⟩)])) w := by kernel_rfl
theorem es_comparable (w : World) : ((Extern.ReflectliteType.method fun t => do Rtype.noPackHeld "Comparable" t; pure (.bool (← typeInfo t).comparable)) #[.agg #[.pointer (some ⟨12, 258, none⟩)]]).run Tryz.prog w = .ok (.bool true) w := by kernel_rfl
theorem es_call (w : World) : (callFunc 307 #[.agg #[.pointer (some ⟨12, 258, none⟩)]]).run Tryz.prog w = .ok (.value (.bool true)) w := by
  have h := @run_callFunc_extern Tryz.prog 307 _ (Extern.ReflectliteType.method fun t => do Rtype.noPackHeld "Comparable" t; pure (.bool (← typeInfo t).comparable)) Tryz.func307 (by kernel_rfl) (by kernel_rfl) (by kernel_rfl) (by kernel_rfl)
  rw [h, es_comparable]
  rfl
theorem es_method (v : Value) (w : World) : (Go.method 393 194 v "Comparable").run Tryz.prog w = .ok (307, v) w := by kernel_rfl
theorem es_comp : (Tryz.prog.info? 258).map (·.comparable) = some true := by kernel_rfl
theorem es_size : (Tryz.prog.info? 281).map (·.size) = some 1 := by kernel_rfl
theorem es_noIs (v : Value) (xT : TypeId) (w : World) : (Instr.typeAssert (.iface 258 v) xT 196 true).run Tryz.prog w = .ok (.tuple #[.nilIface, .bool false]) w := run_typeAssert_lacksB Tryz.underlying196 (by kernel_rfl) (by kernel_rfl) v xT w
theorem es_noUnwrap (v : Value) (xT : TypeId) (w : World) : (Instr.typeAssert (.iface 258 v) xT 199 true).run Tryz.prog w = .ok (.tuple #[.nilIface, .bool false]) w := run_typeAssert_lacksB Tryz.underlying199 (by kernel_rfl) (by kernel_rfl) v xT w
theorem es_noUnwraps (v : Value) (xT : TypeId) (w : World) : (Instr.typeAssert (.iface 258 v) xT 201 true).run Tryz.prog w = .ok (.tuple #[.nilIface, .bool false]) w := run_typeAssert_lacksB Tryz.underlying201 (by kernel_rfl) (by kernel_rfl) v xT w

set_option maxHeartbeats 4000000 in
theorem is_same (a : Addr) (w : World) :
    Calls Tryz.prog 129 #[.iface 258 (.pointer (some a)), .iface 258 (.pointer (some a))] w fun e w' => e = .returned (.bool true) ∧ w' = w := by
  obtain ⟨i, hi, hcmp⟩ := Option.map_eq_some_iff.1 es_comp
  obtain ⟨j, hj, hjs⟩ := Option.map_eq_some_iff.1 es_size
  have h8 := @run_callFunc_extern Tryz.prog 195 _ Extern.ReflectliteType.typeOf Tryz.func195 (by kernel_rfl) (by kernel_rfl) (by kernel_rfl) (by kernel_rfl)
  have h32 := es_call
  have tT := es_typeOf
  have mR := es_method
  have heq := run_eql_iface_ptr_same (P := Tryz.prog) w a Tryz.underlying129 Tryz.underlying258 hi hcmp hj
  go_enter Tryz.func129, Tryz.ntmps129
  go_wp2
  refine wp_loop_rounds 1 ?_
  rw [rounds_succ]
  go_wp2
  go_ret
  exact ⟨rfl, rfl⟩

theorem is_nil (b : Addr) (w : World) :
    Calls Tryz.prog 129 #[.nilIface, .iface 258 (.pointer (some b))] w fun e w' => e = .returned (.bool false) ∧ w' = w := by
  have hn := run_eql_iface_nil_left (P := Tryz.prog) w 258 (.pointer (some b)) Tryz.underlying129
  go_enter Tryz.func129, Tryz.ntmps129
  go_wp2
  go_ret
  exact ⟨rfl, rfl⟩

set_option maxHeartbeats 4000000 in
theorem is_other (a b : Addr) (ca cb : Array Value) (ta tb : TypeId) (w : World) (hne : a ≠ b) (ha : w.heap[a.block]? = some (.cells ca ta (0, 0))) (hb : w.heap[b.block]? = some (.cells cb tb (0, 0))) :
    Calls Tryz.prog 129 #[.iface 258 (.pointer (some a)), .iface 258 (.pointer (some b))] w fun e w' => e = .returned (.bool false) ∧ w' = w := by
  obtain ⟨i, hi, hcmp⟩ := Option.map_eq_some_iff.1 es_comp
  obtain ⟨j, hj, hjs⟩ := Option.map_eq_some_iff.1 es_size
  have h8 := @run_callFunc_extern Tryz.prog 195 _ Extern.ReflectliteType.typeOf Tryz.func195 (by kernel_rfl) (by kernel_rfl) (by kernel_rfl) (by kernel_rfl)
  have h32 := es_call
  have tT := es_typeOf
  have mR := es_method
  have nE := es_noIs
  have uE := es_noUnwrap
  have vE := es_noUnwraps
  have heq := run_eql_iface_ptr_other (P := Tryz.prog) w Tryz.underlying129 Tryz.underlying258 hi hcmp hj (by rw [hjs]; decide) hne ha hb
  go_enter Tryz.func129, Tryz.ntmps129
  go_wp2
  refine wp_loop_rounds 1 ?_
  rw [rounds_succ]
  go_wp2
  go_ret
  exact ⟨rfl, rfl⟩
/-- What both ways to lead ask; what the second one asks besides; who may lead. -/
def AlB (d1 d2 : Nd) : Prop := PairC d1 d2 ∧ FitC d1 ∧ d1.pr = false
def TgC (d1 d2 : Nd) (q : Bool) : Prop := d1.co.getD d2.id.toNat false = true ∧ d2.co.getD d1.id.toNat false = true ∧ d1.cp.getD d2.id.toNat false = false ∧ d2.cp.getD d1.id.toNat false = false ∧ d2.pr = false ∧ d1.la = d2.la ∧ q = true
def MlC (d1 d2 : Nd) (q : Bool) : Prop := AlB d1 d2 ∧ (d1.he = true ∨ TgC d1 d2 q)
theorem cell_below {w V : World} {g : Nat} {v : Value} (hb : Below w.heap.size w V) (h : w.cell? ⟨g, 0, none⟩ = some v) : V.cell? ⟨g, 0, none⟩ = some v := by
  have hlt : g < w.heap.size := by
    rcases Nat.lt_or_ge g w.heap.size with h1 | h1
    · exact h1
    · simp [World.cell?, Array.getElem?_eq_none h1] at h
  exact (hb.cell (p := ⟨g, 0, none⟩) hlt).trans h
/-- A variable that holds an error at a place. -/
def ErrP (g : Nat) (p : Addr) (w : World) : Prop := w.cell? ⟨g, 0, none⟩ = some (.iface 258 (.pointer (some p))) ∧ ∃ c t, w.heap[p.block]? = some (.cells c t (0, 0))
theorem ErrP.below {g : Nat} {p : Addr} {w V : World} (h : ErrP g p w) (hb : Below w.heap.size w V) : ErrP g p V := by
  obtain ⟨h1, c, t, h2⟩ := h
  exact ⟨cell_below hb h1, c, t, (hb.block _ (Array.getElem?_eq_some_iff.1 h2).1).trans h2⟩
def ErrQ (g : Nat) (p0 : Addr) (w : World) : Prop := ∃ p, w.cell? ⟨g, 0, none⟩ = some (.iface 258 (.pointer (some p))) ∧ p ≠ p0 ∧ ∃ c t, w.heap[p.block]? = some (.cells c t (0, 0))
theorem ErrQ.below {g : Nat} {p0 : Addr} {w V : World} (h : ErrQ g p0 w) (hb : Below w.heap.size w V) : ErrQ g p0 V := by
  obtain ⟨p, h1, hne, c, t, h2⟩ := h
  exact ⟨p, cell_below hb h1, hne, c, t, (hb.block _ (Array.getElem?_eq_some_iff.1 h2).1).trans h2⟩
def ErrS (p0 : Addr) (w : World) : Prop := ErrP 0 p0 w ∧ ErrQ 1 p0 w ∧ ErrQ 2 p0 w ∧ ErrQ 6 p0 w
theorem ErrS.below {p0 : Addr} {w V : World} (h : ErrS p0 w) (hb : Below w.heap.size w V) : ErrS p0 V := ⟨h.1.below hb, h.2.1.below hb, h.2.2.1.below hb, h.2.2.2.below hb⟩
def ErrL (w : World) : Prop := ErrT w ∧ ErrV 7 w ∧ ErrV 8 w ∧ ErrV 5 w ∧ ErrV 9 w ∧ ErrV 10 w ∧ ∃ p0, ErrS p0 w
theorem ErrL.below {w V : World} (h : ErrL w) (hb : Below w.heap.size w V) : ErrL V := by
  obtain ⟨h1, h2, h3, h4, h5, h6, p0, h7⟩ := h
  exact ⟨h1.below hb, h2.below hb, h3.below hb, h4.below hb, h5.below hb, h6.below hb, p0, h7.below hb⟩
/-- What the first look tells. -/
def AlP (P Q : Prop) (p0 : Addr) (w : World) (x : Value) : Prop := (P ∧ x = .nilIface) ∨ (¬ P ∧ Q ∧ x = .iface 258 (.pointer (some p0))) ∨ (¬ P ∧ ¬ Q ∧ ∃ q, x = .iface 258 (.pointer (some q)) ∧ q ≠ p0 ∧ ∃ c t, w.heap[q.block]? = some (.cells c t (0, 0)))

set_option maxHeartbeats 100000000 in
theorem whyalone_i (a1 a2 : Na) (d1 d2 : Nd) (w : World) (hg : ErrL w) (hd1 : NBd d1) (hd2 : NBd d2) (hv1 : NV w a1 d1) (hv2 : NV w a2 d2) (p0 : Addr) (h0 : ErrS p0 w) :
    Calls Tryz.prog 128 #[nv a1 d1, nv a2 d2] w fun e w' => ∃ x, e = .returned x ∧ AlP (AlB d1 d2 ∧ d1.he = true) (AlB d1 d2 ∧ d1.he = false) p0 w x ∧ Below w.heap.size w w' := by
  obtain ⟨W, hW⟩ : ∃ W, W = (w.alloc (.cells (nds a1 d1) 31)).alloc (.cells (nds a2 d2) 31) := ⟨_, rfl⟩
  have HS0 : Hid (I2 w W a1 a2 d1 d2) := by rw [hW]; exact I2.new _ _ _ _ _
  have HV : Hid (∀ V, Below w.heap.size w V → NV V a1 d1 ∧ NV V a2 d2 ∧ ErrL V) := fun V hb => ⟨hv1.below hb, hv2.below hb, hg.below hb⟩
  have HD : Hid (NBd d1 ∧ NBd d2) := ⟨hd1, hd2⟩
  have HE := hide h0
  have HES : Hid (∀ V, Below w.heap.size w V → ErrS p0 V) := fun V hb => h0.below hb
  clear hd1 hd2 hv1 hv2 h0
  unfold nv
  unfold nds at hW ⊢
  go_enter Tryz.func128, Tryz.ntmps128
  go_upto_region 1 with fail
  rw [← hW]
  clear hW
  generalize Value.agg #[.int .i64 d1.id, .bool d1.up, .bool d1.pr, .slice a1.im d1.im.length a1.imc, .slice a1.go d1.g.length a1.gc, .slice a1.bo d1.n a1.bc, .bool d1.fi, .bool d1.ol, .bool d1.he, .int .i64 d1.la, .slice a1.aA d1.A.length a1.cA, .slice a1.aB d1.C.length a1.cB, .slice a1.co d1.co.length a1.coc, .slice a1.so d1.m a1.sc, .slice a1.cp d1.cp.length a1.cpc, .slice a1.wt d1.wt.length a1.wtc] = vn1 at *
  generalize Value.agg #[.int .i64 d2.id, .bool d2.up, .bool d2.pr, .slice a2.im d2.im.length a2.imc, .slice a2.go d2.g.length a2.gc, .slice a2.bo d2.n a2.bc, .bool d2.fi, .bool d2.ol, .bool d2.he, .int .i64 d2.la, .slice a2.aA d2.A.length a2.cA, .slice a2.aB d2.C.length a2.cB, .slice a2.co d2.co.length a2.coc, .slice a2.so d2.m a2.sc, .slice a2.cp d2.cp.length a2.cpc, .slice a2.wt d2.wt.length a2.wtc] = vn2 at *
  go_wp2_with (first | (refine ld_node rfl _ rfl w.heap.size rfl HS0.out.2.1 ?_) | (refine ld_node rfl _ rfl (w.heap.size + 1) rfl HS0.out.2.2 ?_))
  refine (pair_i a1 a2 d1 d2 W (HV.out _ HS0.out.1).2.2.1 HD.out.1 HD.out.2 (HV.out _ HS0.out.1).1 (HV.out _ HS0.out.1).2.1).mono ?_
  rintro e wp ⟨h, c1⟩
  have HA := hide (HS0.out.b c1)
  clear c1 HS0
  obtain ⟨p1, g1, q1⟩ := HE.out.2.1
  obtain ⟨p2, g2, q2⟩ := HE.out.2.2.1
  obtain ⟨p3, g3, q3⟩ := HE.out.2.2.2
  have Q1 : Hid (∃ q, Value.iface 258 (.pointer (some p1)) = .iface 258 (.pointer (some q)) ∧ q ≠ p0 ∧ ∃ c t, w.heap[q.block]? = some (.cells c t (0, 0))) := ⟨p1, rfl, q1⟩
  have Q2 : Hid (∃ q, Value.iface 258 (.pointer (some p2)) = .iface 258 (.pointer (some q)) ∧ q ≠ p0 ∧ ∃ c t, w.heap[q.block]? = some (.cells c t (0, 0))) := ⟨p2, rfl, q2⟩
  have Q3 : Hid (∃ q, Value.iface 258 (.pointer (some p3)) = .iface 258 (.pointer (some q)) ∧ q ≠ p0 ∧ ∃ c t, w.heap[q.block]? = some (.cells c t (0, 0))) := ⟨p3, rfl, q3⟩
  have G1 : Hid (∀ V, Below w.heap.size w V → V.cell? ⟨1, 0, none⟩ = some (.iface 258 (.pointer (some p1)))) := fun V hb => cell_below hb g1
  have G2 : Hid (∀ V, Below w.heap.size w V → V.cell? ⟨2, 0, none⟩ = some (.iface 258 (.pointer (some p2)))) := fun V hb => cell_below hb g2
  have G3 : Hid (∀ V, Below w.heap.size w V → V.cell? ⟨6, 0, none⟩ = some (.iface 258 (.pointer (some p3)))) := fun V hb => cell_below hb g3
  have G0 : Hid (∀ V, Below w.heap.size w V → V.cell? ⟨0, 0, none⟩ = some (.iface 258 (.pointer (some p0)))) := fun V hb => cell_below hb HE.out.1.1
  clear g1 g2 g3 q1 q2 q3 HE HES
  rcases h with ⟨hp, rfl⟩ | ⟨hp, rfl⟩
  case inr =>
    have HN : Hid (¬ AlB d1 d2) := fun h => hp h.1
    have g := G1.out _ HA.out.1
    clear hp
    go_wp2
    go_ret
    exact ⟨_, rfl, .inr (.inr ⟨fun h => HN.out h.1, fun h => HN.out h.1, Q1.out⟩), HA.out.1⟩
  have HP := hide hp
  clear hp
  as_aux_lemma =>
    go_wp2_with (refine ld_node rfl _ rfl w.heap.size rfl HA.out.2.1 ?_)
    refine (fit_i a1 d1 wp).mono ?_
    rintro e w1 ⟨h, c1⟩
    have H1 := hide (HA.out.b c1)
    clear c1 HA
    rcases h with ⟨hp, rfl⟩ | ⟨hp, rfl⟩
    case inr =>
      have HN : Hid (¬ AlB d1 d2) := fun h => hp h.2.1
      have g := G2.out _ H1.out.1
      clear hp
      go_wp2
      go_ret
      exact ⟨_, rfl, .inr (.inr ⟨fun h => HN.out h.1, fun h => HN.out h.1, Q2.out⟩), H1.out.1⟩
    have HF := hide hp
    have m1 := H1.out.2.1.cells.2.2.1
    have m8 := H1.out.2.1.cells.2.2.2.2.2.2.2.2.1
    obtain ⟨r, hr⟩ : ∃ r, r = d1.pr := ⟨_, rfl⟩
    obtain ⟨h, hh⟩ : ∃ h, h = d1.he := ⟨_, rfl⟩
    have HC : Hid ((AlB d1 d2 ↔ r = false) ∧ d1.he = h) := ⟨by rw [hr]; exact ⟨fun x => x.2.2, fun x => ⟨HP.out, HF.out, x⟩⟩, hh.symm⟩
    rw [← hr] at m1
    rw [← hh] at m8
    have g0 := G0.out _ H1.out.1
    have g3 := G3.out _ H1.out.1
    clear hp hr hh HP HF
    cases r
    case true =>
      have HN : Hid (¬ AlB d1 d2) := fun x => by have := HC.out.1.1 x; simp at this
      clear HC
      go_wp2
      go_ret
      exact ⟨_, rfl, .inr (.inr ⟨fun h => HN.out h.1, fun h => HN.out h.1, Q3.out⟩), H1.out.1⟩
    have HB : Hid (AlB d1 d2) := HC.out.1.2 rfl
    cases h
    case true =>
      have HE2 : Hid (d1.he = true) := HC.out.2
      clear HC
      go_wp2
      go_ret
      exact ⟨_, rfl, .inl ⟨⟨HB.out, HE2.out⟩, rfl⟩, H1.out.1⟩
    have HE2 : Hid (d1.he = false) := HC.out.2
    clear HC
    go_wp2
    go_ret
    exact ⟨_, rfl, .inr (.inl ⟨(fun h => by have := h.2; rw [HE2.out] at this; cases this), ⟨HB.out, HE2.out⟩, rfl⟩), H1.out.1⟩

set_option maxHeartbeats 100000000 in
theorem whytog_i (a1 a2 : Na) (d1 d2 : Nd) (q1 : Bool) (w : World) (hg : ErrL w) (hd1 : NBd d1) (hd2 : NBd d2) (hv1 : NV w a1 d1) (hv2 : NV w a2 d2) (hp : PairC d1 d2) :
    Calls Tryz.prog 130 #[nv a1 d1, nv a2 d2, .bool q1] w fun e w' => ∃ x, e = .returned x ∧ WhyP (TgC d1 d2 q1) x ∧ Below w.heap.size w w' := by
  obtain ⟨W, hW⟩ : ∃ W, W = (w.alloc (.cells (nds a1 d1) 31)).alloc (.cells (nds a2 d2) 31) := ⟨_, rfl⟩
  have HS0 : Hid (I2 w W a1 a2 d1 d2) := by rw [hW]; exact I2.new _ _ _ _ _
  have HV : Hid (∀ V, Below w.heap.size w V → NV V a1 d1 ∧ NV V a2 d2 ∧ ErrL V) := fun V hb => ⟨hv1.below hb, hv2.below hb, hg.below hb⟩
  have HD : Hid (NBd d1 ∧ NBd d2) := ⟨hd1, hd2⟩
  have HP := hide hp
  clear hd1 hd2 hv1 hv2 hp
  unfold nv
  unfold nds at hW ⊢
  go_enter Tryz.func130, Tryz.ntmps130
  go_upto_region 1 with fail
  rw [← hW]
  clear hW
  generalize Value.agg #[.int .i64 d1.id, .bool d1.up, .bool d1.pr, .slice a1.im d1.im.length a1.imc, .slice a1.go d1.g.length a1.gc, .slice a1.bo d1.n a1.bc, .bool d1.fi, .bool d1.ol, .bool d1.he, .int .i64 d1.la, .slice a1.aA d1.A.length a1.cA, .slice a1.aB d1.C.length a1.cB, .slice a1.co d1.co.length a1.coc, .slice a1.so d1.m a1.sc, .slice a1.cp d1.cp.length a1.cpc, .slice a1.wt d1.wt.length a1.wtc] = vn1 at *
  generalize Value.agg #[.int .i64 d2.id, .bool d2.up, .bool d2.pr, .slice a2.im d2.im.length a2.imc, .slice a2.go d2.g.length a2.gc, .slice a2.bo d2.n a2.bc, .bool d2.fi, .bool d2.ol, .bool d2.he, .int .i64 d2.la, .slice a2.aA d2.A.length a2.cA, .slice a2.aB d2.C.length a2.cB, .slice a2.co d2.co.length a2.coc, .slice a2.so d2.m a2.sc, .slice a2.cp d2.cp.length a2.cpc, .slice a2.wt d2.wt.length a2.wtc] = vn2 at *
  obtain ⟨zA, hzA⟩ := (HV.out _ HS0.out.1).2.2.2.1
  obtain ⟨zC, hzC⟩ := (HV.out _ HS0.out.1).2.2.2.2.1
  obtain ⟨zr, hzr⟩ := (HV.out _ HS0.out.1).2.2.2.2.2.1
  obtain ⟨zl, hzl⟩ := (HV.out _ HS0.out.1).2.2.2.2.2.2.1
  obtain ⟨zq, hzq⟩ := (HV.out _ HS0.out.1).2.2.2.2.2.2.2.1
  obtain ⟨k1, hk31, hi1, hn1⟩ := NOk.ids' HP.out.1
  obtain ⟨k2, hk32, hi2, hn2⟩ := NOk.ids' HP.out.2.1
  have hlA : d1.co.length = 3 := HP.out.1.2.2.2.1.1
  obtain ⟨bA, oA, eA, _, hcA⟩ := (HV.out _ HS0.out.1).1.2.2.2.1.1 k2 (by omega)
  have sA : W.cell? ⟨w.heap.size, 12, none⟩ = some (.slice (some ⟨bA, oA, none⟩) 3 a1.coc) := by
    have h := HS0.out.2.1.cells.2.2.2.2.2.2.2.2.2.2.2.2.1
    rw [eA, hlA] at h
    exact h
  obtain ⟨xA, hxA⟩ : ∃ x, x = d1.co.getD k2 false := ⟨_, rfl⟩
  have vA : W.cell? ⟨bA, oA + k2, none⟩ = some (.bool xA) := by rw [hxA]; exact hcA
  have hlB : d2.co.length = 3 := HP.out.2.1.2.2.2.1.1
  obtain ⟨bB, oB, eB, _, hcB⟩ := (HV.out _ HS0.out.1).2.1.2.2.2.1.1 k1 (by omega)
  have sB : W.cell? ⟨w.heap.size + 1, 12, none⟩ = some (.slice (some ⟨bB, oB, none⟩) 3 a2.coc) := by
    have h := HS0.out.2.2.cells.2.2.2.2.2.2.2.2.2.2.2.2.1
    rw [eB, hlB] at h
    exact h
  obtain ⟨xB, hxB⟩ : ∃ x, x = d2.co.getD k1 false := ⟨_, rfl⟩
  have vB : W.cell? ⟨bB, oB + k1, none⟩ = some (.bool xB) := by rw [hxB]; exact hcB
  have hlC : d1.cp.length = 3 := HP.out.1.2.2.2.1.2.2.1
  obtain ⟨bC, oC, eC, _, hcC⟩ := (HV.out _ HS0.out.1).1.2.2.2.2.2.1.1 k2 (by omega)
  have sC : W.cell? ⟨w.heap.size, 14, none⟩ = some (.slice (some ⟨bC, oC, none⟩) 3 a1.cpc) := by
    have h := HS0.out.2.1.cells.2.2.2.2.2.2.2.2.2.2.2.2.2.2.1
    rw [eC, hlC] at h
    exact h
  obtain ⟨xC, hxC⟩ : ∃ x, x = d1.cp.getD k2 false := ⟨_, rfl⟩
  have vC : W.cell? ⟨bC, oC + k2, none⟩ = some (.bool xC) := by rw [hxC]; exact hcC
  have hlD : d2.cp.length = 3 := HP.out.2.1.2.2.2.1.2.2.1
  obtain ⟨bD, oD, eD, _, hcD⟩ := (HV.out _ HS0.out.1).2.1.2.2.2.2.2.1.1 k1 (by omega)
  have sD : W.cell? ⟨w.heap.size + 1, 14, none⟩ = some (.slice (some ⟨bD, oD, none⟩) 3 a2.cpc) := by
    have h := HS0.out.2.2.cells.2.2.2.2.2.2.2.2.2.2.2.2.2.2.1
    rw [eD, hlD] at h
    exact h
  obtain ⟨xD, hxD⟩ : ∃ x, x = d2.cp.getD k1 false := ⟨_, rfl⟩
  have vD : W.cell? ⟨bD, oD + k1, none⟩ = some (.bool xD) := by rw [hxD]; exact hcD
  have i1 : W.cell? ⟨w.heap.size, 0, none⟩ = some (.int .i64 (k1 : Int)) := by
    have h := HS0.out.2.1.cells.1
    rw [hi1] at h
    exact h
  have hk10 : (0 : Int) ≤ (k1 : Int) := by omega
  have hk11 : (k1 : Int) < 3 := by omega
  have l1 := HS0.out.2.1.cells.2.2.2.2.2.2.2.2.2.1
  have i2 : W.cell? ⟨w.heap.size + 1, 0, none⟩ = some (.int .i64 (k2 : Int)) := by
    have h := HS0.out.2.2.cells.1
    rw [hi2] at h
    exact h
  have hk20 : (0 : Int) ≤ (k2 : Int) := by omega
  have hk21 : (k2 : Int) < 3 := by omega
  have l2 := HS0.out.2.2.cells.2.2.2.2.2.2.2.2.2.1
  have m2 := HS0.out.2.2.cells.2.2.1
  obtain ⟨r, hr⟩ : ∃ r, r = d2.pr := ⟨_, rfl⟩
  obtain ⟨la1, hla1⟩ : ∃ x, x = d1.la := ⟨_, rfl⟩
  obtain ⟨la2, hla2⟩ : ∃ x, x = d2.la := ⟨_, rfl⟩
  have HC : Hid (TgC d1 d2 q1 ↔ xA = true ∧ xB = true ∧ xC = false ∧ xD = false ∧ r = false ∧ la1 = la2 ∧ q1 = true) := (show _ ↔ _ from by
    rw [hxA, hxB, hxC, hxD, hr, hla1, hla2]
    unfold TgC
    rw [hn1, hn2])
  rw [← hr] at m2
  rw [← hla1] at l1
  rw [← hla2] at l2
  clear hr hla1 hla2 hxA hxB hxC hxD hcA hcB hcC hcD eA eB eC eD hlA hlB hlC hlD hi1 hi2 hn1 hn2 hk31 hk32 HP
  cases xA
  case false =>
    have HN : Hid (¬ TgC d1 d2 q1) := fun x => by have := HC.out.1 x; simp at this
    clear HC
    go_wp2
    go_ret
    exact ⟨_, rfl, .inr ⟨HN.out, zA, rfl⟩, HS0.out.1⟩
  cases xB
  case false =>
    have HN : Hid (¬ TgC d1 d2 q1) := fun x => by have := HC.out.1 x; simp at this
    clear HC
    go_wp2
    go_ret
    exact ⟨_, rfl, .inr ⟨HN.out, zA, rfl⟩, HS0.out.1⟩
  cases xC
  case true =>
    have HN : Hid (¬ TgC d1 d2 q1) := fun x => by have := HC.out.1 x; simp at this
    clear HC
    go_wp2
    go_ret
    exact ⟨_, rfl, .inr ⟨HN.out, zC, rfl⟩, HS0.out.1⟩
  cases xD
  case true =>
    have HN : Hid (¬ TgC d1 d2 q1) := fun x => by have := HC.out.1 x; simp at this
    clear HC
    go_wp2
    go_ret
    exact ⟨_, rfl, .inr ⟨HN.out, zC, rfl⟩, HS0.out.1⟩
  cases r
  case true =>
    have HN : Hid (¬ TgC d1 d2 q1) := fun x => by have := HC.out.1 x; simp at this
    clear HC
    go_wp2
    go_ret
    exact ⟨_, rfl, .inr ⟨HN.out, zr, rfl⟩, HS0.out.1⟩
  by_cases hla : la1 = la2
  case neg =>
    have hq : (la1 == la2) = false := by simpa using hla
    have hq2 : (la1 != la2) = true := by simpa using hla
    have HN : Hid (¬ TgC d1 d2 q1) := fun x => hla (HC.out.1 x).2.2.2.2.2.1
    clear HC hla
    go_wp2
    go_ret
    exact ⟨_, rfl, .inr ⟨HN.out, zl, rfl⟩, HS0.out.1⟩
  have hq : (la1 == la2) = true := by simpa using hla
  have hq2 : (la1 != la2) = false := by simpa using hla
  have HLA := hide hla
  clear hla
  cases q1
  case false =>
    have HN : Hid (¬ TgC d1 d2 false) := fun x => by have := HC.out.1 x; simp at this
    clear HC
    go_wp2
    go_ret
    exact ⟨_, rfl, .inr ⟨HN.out, zq, rfl⟩, HS0.out.1⟩
  have HY : Hid (TgC d1 d2 true) := HC.out.2 (by simp [HLA.out])
  clear HC
  go_wp2
  go_ret
  exact ⟨_, rfl, .inl ⟨HY.out, rfl⟩, HS0.out.1⟩

set_option maxHeartbeats 100000000 in
theorem maylead_i (a1 a2 : Na) (d1 d2 : Nd) (q1 : Bool) (w : World) (hg : ErrL w) (hd1 : NBd d1) (hd2 : NBd d2) (hv1 : NV w a1 d1) (hv2 : NV w a2 d2) :
    Calls Tryz.prog 44 #[nv a1 d1, nv a2 d2, .bool q1] w fun e w' => Tells w w' e (MlC d1 d2 q1) := by
  obtain ⟨W, hW⟩ : ∃ W, W = (w.alloc (.cells (nds a1 d1) 31)).alloc (.cells (nds a2 d2) 31) := ⟨_, rfl⟩
  have HS0 : Hid (I2 w W a1 a2 d1 d2) := by rw [hW]; exact I2.new _ _ _ _ _
  have HV : Hid (∀ V, Below w.heap.size w V → NV V a1 d1 ∧ NV V a2 d2 ∧ ErrL V) := fun V hb => ⟨hv1.below hb, hv2.below hb, hg.below hb⟩
  have HD : Hid (NBd d1 ∧ NBd d2) := ⟨hd1, hd2⟩
  obtain ⟨p0, h0⟩ := hg.2.2.2.2.2.2
  have HE : Hid (∀ V, Below w.heap.size w V → ErrS p0 V) := fun V hb => h0.below hb
  clear hd1 hd2 hv1 hv2 h0
  unfold nv
  unfold nds at hW ⊢
  go_enter Tryz.func44, Tryz.ntmps44
  go_upto_region 1 with fail
  rw [← hW]
  clear hW
  generalize Value.agg #[.int .i64 d1.id, .bool d1.up, .bool d1.pr, .slice a1.im d1.im.length a1.imc, .slice a1.go d1.g.length a1.gc, .slice a1.bo d1.n a1.bc, .bool d1.fi, .bool d1.ol, .bool d1.he, .int .i64 d1.la, .slice a1.aA d1.A.length a1.cA, .slice a1.aB d1.C.length a1.cB, .slice a1.co d1.co.length a1.coc, .slice a1.so d1.m a1.sc, .slice a1.cp d1.cp.length a1.cpc, .slice a1.wt d1.wt.length a1.wtc] = vn1 at *
  generalize Value.agg #[.int .i64 d2.id, .bool d2.up, .bool d2.pr, .slice a2.im d2.im.length a2.imc, .slice a2.go d2.g.length a2.gc, .slice a2.bo d2.n a2.bc, .bool d2.fi, .bool d2.ol, .bool d2.he, .int .i64 d2.la, .slice a2.aA d2.A.length a2.cA, .slice a2.aB d2.C.length a2.cB, .slice a2.co d2.co.length a2.coc, .slice a2.so d2.m a2.sc, .slice a2.cp d2.cp.length a2.cpc, .slice a2.wt d2.wt.length a2.wtc] = vn2 at *
  go_wp2_with (first | (refine ld_node rfl _ rfl w.heap.size rfl HS0.out.2.1 ?_) | (refine ld_node rfl _ rfl (w.heap.size + 1) rfl HS0.out.2.2 ?_))
  refine (whyalone_i a1 a2 d1 d2 W (HV.out _ HS0.out.1).2.2 HD.out.1 HD.out.2 (HV.out _ HS0.out.1).1 (HV.out _ HS0.out.1).2.1 p0 (HE.out _ HS0.out.1)).mono ?_
  rintro e w1 ⟨x, rfl, hx, c1⟩
  have hbk : ∀ (j : Nat) (c : Array Value) (t : TypeId), W.heap[j]? = some (.cells c t (0, 0)) → w1.heap[j]? = some (.cells c t (0, 0)) := fun j c t h => (c1.block j (Array.getElem?_eq_some_iff.1 h).1).trans h
  have H1 := hide (HS0.out.b c1)
  have g0 := (HE.out _ H1.out.1).1.1
  have HB0 := hide (HE.out _ H1.out.1).1.2
  clear c1
  rcases hx with ⟨hy, rfl⟩ | ⟨hn, hq, rfl⟩ | ⟨hn, hq, q, rfl, hne, hb⟩
  · have HY : Hid (MlC d1 d2 q1) := ⟨hy.1, .inl hy.2⟩
    clear hy HS0 HB0 hbk
    go_wp2_with fail
    refine (is_nil p0 w1).mono ?_
    rintro e w2 ⟨rfl, hw⟩
    rw [hw]
    clear hw w2
    go_wp2
    go_ret
    exact Tells.yes HY.out H1.out.1
  · have HQ := hide hq
    clear hn hq HS0 HB0 hbk
    as_aux_lemma =>
      go_wp2_with fail
      refine (is_same p0 w1).mono ?_
      rintro e w2 ⟨rfl, hw⟩
      rw [hw]
      clear hw w2
      go_wp2_with (first | (refine ld_node rfl _ rfl w.heap.size rfl H1.out.2.1 ?_) | (refine ld_node rfl _ rfl (w.heap.size + 1) rfl H1.out.2.2 ?_))
      refine (whytog_i a1 a2 d1 d2 q1 w1 (HV.out _ H1.out.1).2.2 HD.out.1 HD.out.2 (HV.out _ H1.out.1).1 (HV.out _ H1.out.1).2.1 HQ.out.1.1).mono ?_
      rintro e w2 ⟨x, rfl, hx, c1⟩
      have H2 := hide (H1.out.b c1)
      clear c1 H1 g0
      rcases hx with ⟨hy, rfl⟩ | ⟨hn, p, rfl⟩
      · have HY : Hid (MlC d1 d2 q1) := ⟨HQ.out.1, .inr hy⟩
        clear hy
        go_wp2
        go_ret
        exact Tells.yes HY.out H2.out.1
      · have HN : Hid (¬ MlC d1 d2 q1) := fun h => by
          rcases h.2 with h1 | h1
          · have := HQ.out.2; rw [h1] at this; cases this
          · exact hn h1
        clear hn
        go_wp2
        go_ret
        exact Tells.no HN.out H2.out.1
  · have HN : Hid (¬ MlC d1 d2 q1) := fun h => by
      rcases hh : d1.he with _ | _
      · exact hq ⟨h.1, hh⟩
      · exact hn ⟨h.1, hh⟩
    obtain ⟨c, t, hb'⟩ := hb
    obtain ⟨c0, t0, hb0⟩ := HB0.out
    have his := hide (is_other q p0 c c0 t t0 w1 hne (hbk _ _ _ hb') hb0)
    clear hn hq HS0 HB0 hbk hb' hb0
    go_wp2_with fail
    refine his.out.mono ?_
    rintro e w2 ⟨rfl, hw⟩
    rw [hw]
    clear hw w2 his
    go_wp2
    go_ret
    exact Tells.no HN.out H1.out.1

set_option maxHeartbeats 100000000 in
theorem maylead_s (a1 a2 : Na) (d1 d2 : Nd) (q1 : Bool) (w : World) (hd1 : NBd d1) (hd2 : NBd d2) (hv1 : NV w a1 d1) (hv2 : NV w a2 d2) :
    Calls Tryz.prog 43 #[nv a1 d1, nv a2 d2, .bool q1] w fun e w' => Tells w w' e (MlC d1 d2 q1) := by
  obtain ⟨W, hW⟩ : ∃ W, W = (w.alloc (.cells (nds a1 d1) 31)).alloc (.cells (nds a2 d2) 31) := ⟨_, rfl⟩
  have HS0 : Hid (I2 w W a1 a2 d1 d2) := by rw [hW]; exact I2.new _ _ _ _ _
  have HV : Hid (∀ V, Below w.heap.size w V → NV V a1 d1 ∧ NV V a2 d2) := fun V hb => ⟨hv1.below hb, hv2.below hb⟩
  have HD : Hid (NBd d1 ∧ NBd d2) := ⟨hd1, hd2⟩
  clear hd1 hd2 hv1 hv2
  unfold nv
  unfold nds at hW ⊢
  go_enter Tryz.func43, Tryz.ntmps43
  go_upto_region 1 with fail
  rw [← hW]
  clear hW
  generalize Value.agg #[.int .i64 d1.id, .bool d1.up, .bool d1.pr, .slice a1.im d1.im.length a1.imc, .slice a1.go d1.g.length a1.gc, .slice a1.bo d1.n a1.bc, .bool d1.fi, .bool d1.ol, .bool d1.he, .int .i64 d1.la, .slice a1.aA d1.A.length a1.cA, .slice a1.aB d1.C.length a1.cB, .slice a1.co d1.co.length a1.coc, .slice a1.so d1.m a1.sc, .slice a1.cp d1.cp.length a1.cpc, .slice a1.wt d1.wt.length a1.wtc] = vn1 at *
  generalize Value.agg #[.int .i64 d2.id, .bool d2.up, .bool d2.pr, .slice a2.im d2.im.length a2.imc, .slice a2.go d2.g.length a2.gc, .slice a2.bo d2.n a2.bc, .bool d2.fi, .bool d2.ol, .bool d2.he, .int .i64 d2.la, .slice a2.aA d2.A.length a2.cA, .slice a2.aB d2.C.length a2.cB, .slice a2.co d2.co.length a2.coc, .slice a2.so d2.m a2.sc, .slice a2.cp d2.cp.length a2.cpc, .slice a2.wt d2.wt.length a2.wtc] = vn2 at *
  go_wp2_with (first | (refine ld_node rfl _ rfl w.heap.size rfl HS0.out.2.1 ?_) | (refine ld_node rfl _ rfl (w.heap.size + 1) rfl HS0.out.2.2 ?_))
  refine (pair_s a1 a2 d1 d2 W HD.out.1 HD.out.2 (HV.out _ HS0.out.1).1 (HV.out _ HS0.out.1).2).mono ?_
  rintro e w1 ⟨h, c1⟩
  have H1 := hide (HS0.out.b c1)
  clear c1 HS0
  rcases h with ⟨hp, rfl⟩ | ⟨hp, rfl⟩
  case inr =>
    have HN : Hid (¬ MlC d1 d2 q1) := fun h => hp h.1.1
    clear hp
    go_wp2
    go_ret
    exact Tells.no HN.out H1.out.1
  have HP := hide hp
  clear hp
  have q1_ := H1.out.2.1.cells.2.1
  have q2_ := H1.out.2.1.cells.2.2.1
  have q6_ := H1.out.2.1.cells.2.2.2.2.2.2.1
  have q7_ := H1.out.2.1.cells.2.2.2.2.2.2.2.1
  have q8_ := H1.out.2.1.cells.2.2.2.2.2.2.2.2.1
  obtain ⟨u, hu⟩ : ∃ u, u = d1.up := ⟨_, rfl⟩
  obtain ⟨f, hf⟩ : ∃ f, f = d1.fi := ⟨_, rfl⟩
  obtain ⟨o, ho⟩ : ∃ o, o = d1.ol := ⟨_, rfl⟩
  obtain ⟨p, hp⟩ : ∃ p, p = d1.pr := ⟨_, rfl⟩
  obtain ⟨h, hh⟩ : ∃ h, h = d1.he := ⟨_, rfl⟩
  have HC0 : Hid ((MlC d1 d2 q1 ↔ (u = true ∧ f = true ∧ o = false ∧ p = false) ∧ (h = true ∨ TgC d1 d2 q1))) := (show _ ↔ _ from by
    rw [hu, hf, ho, hp, hh]
    exact ⟨fun x => ⟨⟨x.1.2.1.1, x.1.2.1.2.1, x.1.2.1.2.2, x.1.2.2⟩, x.2⟩, fun x => ⟨⟨HP.out, ⟨x.1.1, x.1.2.1, x.1.2.2.1⟩, x.1.2.2.2⟩, x.2⟩⟩)
  rw [← hu] at q1_
  rw [← hf] at q6_
  rw [← ho] at q7_
  rw [← hp] at q2_
  rw [← hh] at q8_
  clear hu hf ho hp hh
  cases u
  case false =>
    have HN : Hid (¬ MlC d1 d2 q1) := fun x => by have := HC0.out.1 x; simp at this
    clear HC0
    go_wp2
    go_ret
    exact Tells.no HN.out H1.out.1
  cases f
  case false =>
    have HN : Hid (¬ MlC d1 d2 q1) := fun x => by have := HC0.out.1 x; simp at this
    clear HC0
    go_wp2
    go_ret
    exact Tells.no HN.out H1.out.1
  cases o
  case true =>
    have HN : Hid (¬ MlC d1 d2 q1) := fun x => by have := HC0.out.1 x; simp at this
    clear HC0
    go_wp2
    go_ret
    exact Tells.no HN.out H1.out.1
  cases p
  case true =>
    have HN : Hid (¬ MlC d1 d2 q1) := fun x => by have := HC0.out.1 x; simp at this
    clear HC0
    go_wp2
    go_ret
    exact Tells.no HN.out H1.out.1
  cases h
  case true =>
    have HY : Hid (MlC d1 d2 q1) := HC0.out.2 (by simp)
    clear HC0
    go_wp2
    go_ret
    exact Tells.yes HY.out H1.out.1
  have HM : Hid (TgC d1 d2 q1 ↔ MlC d1 d2 q1) := (show _ ↔ _ from ⟨fun x => HC0.out.2 ⟨by simp, .inr x⟩, fun x => (HC0.out.1 x).2.resolve_left (by simp)⟩)
  clear HC0
  obtain ⟨k1, hk31, hi1, hn1⟩ := NOk.ids' HP.out.1
  obtain ⟨k2, hk32, hi2, hn2⟩ := NOk.ids' HP.out.2.1
  have hlA : d1.co.length = 3 := HP.out.1.2.2.2.1.1
  obtain ⟨bA, oA, eA, _, hcA⟩ := (HV.out _ H1.out.1).1.2.2.2.1.1 k2 (by omega)
  have sA : w1.cell? ⟨w.heap.size, 12, none⟩ = some (.slice (some ⟨bA, oA, none⟩) 3 a1.coc) := by
    have h := H1.out.2.1.cells.2.2.2.2.2.2.2.2.2.2.2.2.1
    rw [eA, hlA] at h
    exact h
  obtain ⟨xA, hxA⟩ : ∃ x, x = d1.co.getD k2 false := ⟨_, rfl⟩
  have vA : w1.cell? ⟨bA, oA + k2, none⟩ = some (.bool xA) := by rw [hxA]; exact hcA
  have hlB : d2.co.length = 3 := HP.out.2.1.2.2.2.1.1
  obtain ⟨bB, oB, eB, _, hcB⟩ := (HV.out _ H1.out.1).2.2.2.2.1.1 k1 (by omega)
  have sB : w1.cell? ⟨w.heap.size + 1, 12, none⟩ = some (.slice (some ⟨bB, oB, none⟩) 3 a2.coc) := by
    have h := H1.out.2.2.cells.2.2.2.2.2.2.2.2.2.2.2.2.1
    rw [eB, hlB] at h
    exact h
  obtain ⟨xB, hxB⟩ : ∃ x, x = d2.co.getD k1 false := ⟨_, rfl⟩
  have vB : w1.cell? ⟨bB, oB + k1, none⟩ = some (.bool xB) := by rw [hxB]; exact hcB
  have hlC : d1.cp.length = 3 := HP.out.1.2.2.2.1.2.2.1
  obtain ⟨bC, oC, eC, _, hcC⟩ := (HV.out _ H1.out.1).1.2.2.2.2.2.1.1 k2 (by omega)
  have sC : w1.cell? ⟨w.heap.size, 14, none⟩ = some (.slice (some ⟨bC, oC, none⟩) 3 a1.cpc) := by
    have h := H1.out.2.1.cells.2.2.2.2.2.2.2.2.2.2.2.2.2.2.1
    rw [eC, hlC] at h
    exact h
  obtain ⟨xC, hxC⟩ : ∃ x, x = d1.cp.getD k2 false := ⟨_, rfl⟩
  have vC : w1.cell? ⟨bC, oC + k2, none⟩ = some (.bool xC) := by rw [hxC]; exact hcC
  have hlD : d2.cp.length = 3 := HP.out.2.1.2.2.2.1.2.2.1
  obtain ⟨bD, oD, eD, _, hcD⟩ := (HV.out _ H1.out.1).2.2.2.2.2.2.1.1 k1 (by omega)
  have sD : w1.cell? ⟨w.heap.size + 1, 14, none⟩ = some (.slice (some ⟨bD, oD, none⟩) 3 a2.cpc) := by
    have h := H1.out.2.2.cells.2.2.2.2.2.2.2.2.2.2.2.2.2.2.1
    rw [eD, hlD] at h
    exact h
  obtain ⟨xD, hxD⟩ : ∃ x, x = d2.cp.getD k1 false := ⟨_, rfl⟩
  have vD : w1.cell? ⟨bD, oD + k1, none⟩ = some (.bool xD) := by rw [hxD]; exact hcD
  have i1 : w1.cell? ⟨w.heap.size, 0, none⟩ = some (.int .i64 (k1 : Int)) := by
    have h := H1.out.2.1.cells.1
    rw [hi1] at h
    exact h
  have hk10 : (0 : Int) ≤ (k1 : Int) := by omega
  have hk11 : (k1 : Int) < 3 := by omega
  have l1 := H1.out.2.1.cells.2.2.2.2.2.2.2.2.2.1
  have i2 : w1.cell? ⟨w.heap.size + 1, 0, none⟩ = some (.int .i64 (k2 : Int)) := by
    have h := H1.out.2.2.cells.1
    rw [hi2] at h
    exact h
  have hk20 : (0 : Int) ≤ (k2 : Int) := by omega
  have hk21 : (k2 : Int) < 3 := by omega
  have l2 := H1.out.2.2.cells.2.2.2.2.2.2.2.2.2.1
  have m2 := H1.out.2.2.cells.2.2.1
  obtain ⟨r, hr⟩ : ∃ r, r = d2.pr := ⟨_, rfl⟩
  obtain ⟨la1, hla1⟩ : ∃ x, x = d1.la := ⟨_, rfl⟩
  obtain ⟨la2, hla2⟩ : ∃ x, x = d2.la := ⟨_, rfl⟩
  have HC : Hid (TgC d1 d2 q1 ↔ xA = true ∧ xB = true ∧ xC = false ∧ xD = false ∧ r = false ∧ la1 = la2 ∧ q1 = true) := (show _ ↔ _ from by
    rw [hxA, hxB, hxC, hxD, hr, hla1, hla2]
    unfold TgC
    rw [hn1, hn2])
  rw [← hr] at m2
  rw [← hla1] at l1
  rw [← hla2] at l2
  clear hr hla1 hla2 hxA hxB hxC hxD hcA hcB hcC hcD eA eB eC eD hlA hlB hlC hlD hi1 hi2 hn1 hn2 hk31 hk32 HP
  cases xA
  case false =>
    have HN : Hid (¬ TgC d1 d2 q1) := fun x => by have := HC.out.1 x; simp at this
    clear HC
    go_wp2
    go_ret
    exact Tells.no (fun h => HN.out (HM.out.2 h)) H1.out.1
  cases xB
  case false =>
    have HN : Hid (¬ TgC d1 d2 q1) := fun x => by have := HC.out.1 x; simp at this
    clear HC
    go_wp2
    go_ret
    exact Tells.no (fun h => HN.out (HM.out.2 h)) H1.out.1
  cases xC
  case true =>
    have HN : Hid (¬ TgC d1 d2 q1) := fun x => by have := HC.out.1 x; simp at this
    clear HC
    go_wp2
    go_ret
    exact Tells.no (fun h => HN.out (HM.out.2 h)) H1.out.1
  cases xD
  case true =>
    have HN : Hid (¬ TgC d1 d2 q1) := fun x => by have := HC.out.1 x; simp at this
    clear HC
    go_wp2
    go_ret
    exact Tells.no (fun h => HN.out (HM.out.2 h)) H1.out.1
  cases r
  case true =>
    have HN : Hid (¬ TgC d1 d2 q1) := fun x => by have := HC.out.1 x; simp at this
    clear HC
    go_wp2
    go_ret
    exact Tells.no (fun h => HN.out (HM.out.2 h)) H1.out.1
  by_cases hla : la1 = la2
  case neg =>
    have hq : (la1 == la2) = false := by simpa using hla
    have hq2 : (la1 != la2) = true := by simpa using hla
    have HN : Hid (¬ TgC d1 d2 q1) := fun x => hla (HC.out.1 x).2.2.2.2.2.1
    clear HC hla
    go_wp2
    go_ret
    exact Tells.no (fun h => HN.out (HM.out.2 h)) H1.out.1
  have hq : (la1 == la2) = true := by simpa using hla
  have hq2 : (la1 != la2) = false := by simpa using hla
  have HLA := hide hla
  clear hla
  cases q1
  case false =>
    have HN : Hid (¬ TgC d1 d2 false) := fun x => by have := HC.out.1 x; simp at this
    clear HC
    go_wp2
    go_ret
    exact Tells.no (fun h => HN.out (HM.out.2 h)) H1.out.1
  have HY : Hid (TgC d1 d2 true) := HC.out.2 (by simp [HLA.out])
  clear HC
  go_wp2
  go_ret
  exact Tells.yes (HM.out.1 HY.out) H1.out.1
end Go.Proofs.YtkndnndildnbpaaGreatDoor

/- A node that came in, a node that is handed back: where all lies while a law looks at it. -/
import Derived.Test.YtkndnndildnbpaaGreatDoorGu
import Derived.Test.YtkndnndildnbpaaGreatDoorNdOZ
import Derived.Test.YtkndnndildnbpaaGreatDoorHa
import Derived.Test.YtkndnndildnbpaaGreatDoorHb
import Derived.Test.YtkndnndildnbpaaGreatDoorGw
import Derived.Test.YtkndnndildnbpaaGreatDoorNdDr1Z
import Derived.Test.YtkndnndildnbpaaGreatDoorGq

namespace Go.Proofs.YtkndnndildnbpaaGreatDoor
open Go.ChangeShapes Go.WideShapes Go.ChangeAt Go.RowKit
set_option linter.unusedVariables false
set_option linter.unusedSimpArgs false
set_option maxRecDepth 100000

/-- The node as it came in. -/
def Y0 (w V : World) (a : Na) (d : Nd) : Prop := Below w.heap.size w V ∧ NB V w.heap.size 39 a d
theorem Y0.onb {w V V' : World} {a : Na} {d : Nd} {B T : Nat} (h : Y0 w V a d) (ho : OnB B T V V') (hB : w.heap.size < B) : Y0 w V' a d := ⟨h.1.trans (ho.1.mono (by omega)), h.2.below ho.1 hB⟩
theorem Y0.b {w V V' : World} {a : Na} {d : Nd} (h : Y0 w V a d) (hb : Below V.heap.size V V') : Y0 w V' a d := ⟨h.1.trans (hb.mono h.1.size), h.2.b hb⟩
/-- A node of the law's own: the block of its variable, where its rows lie, what they hold. -/
def GN (V : World) (X B : Nat) (b : Na) (d dm : Nd) : Prop := NB V X 31 b d ∧ ON V B X b dm
theorem GN.kept {V V' : World} {X B : Nat} {b : Na} {d dm : Nd} (h : GN V X B b d dm) (hk : ∀ j, B ≤ j → j ≤ X → V'.heap[j]? = V.heap[j]?) (hs : V.heap.size ≤ V'.heap.size) : GN V' X B b d dm :=
  ⟨(hk X h.2.1.1 (Nat.le_refl _)).trans h.1, h.2.kept (fun j h1 h2 => hk j h1 (by omega)) hs⟩
theorem GN.onb {V V' : World} {X B B' T' : Nat} {b : Na} {d dm : Nd} (h : GN V X B b d dm) (ho : OnB B' T' V V') (hT : X < B' ∨ T' ≤ B) : GN V' X B b d dm :=
  h.kept (fun j h1 h2 => by
    have hlt := h.1.lt
    rcases hT with hT | hT
    · exact ho.1.block j (by omega)
    · exact ho.2 j (by omega) (by omega)) ho.1.size
theorem GN.b {V V' : World} {X B : Nat} {b : Na} {d dm : Nd} (h : GN V X B b d dm) (hb : Below V.heap.size V V') : GN V' X B b d dm :=
  h.onb (OnB.of_below (B := V.heap.size) (T := V.heap.size) hb (Nat.le_refl _)) (.inl h.1.lt)
theorem GN.new {w1 : World} {B : Nat} {b : Na} {d : Nd} (h : ON w1 B w1.heap.size b d) : GN (w1.alloc (.cells (nds b d) 31)) w1.heap.size B b d d :=
  ⟨NB.new _ _ _ _, h.below (bal1 w1 _) (Nat.le_refl _)⟩
/-- .. marked. -/
theorem GN.mk {V V' : World} {X B : Nat} {b : Na} {d dm : Nd} (h : GN V X B b d d) (ho : OnB B X V V') (hn : ON V' B X b dm) : GN V' X B b d dm := ⟨(ho.2 X h.1.lt (Nat.le_refl _)).trans h.1, hn⟩
/-- The model's answer. -/
def MN (V : World) (X B : Nat) (b : Na) (d : Nd) : Prop := NB V X 31 b d ∧ RN V B X b d
theorem MN.onb {V V' : World} {X B B' T' : Nat} {b : Na} {d : Nd} (h : MN V X B b d) (ho : OnB B' T' V V') (hT : X < B') : MN V' X B b d :=
  ⟨(ho.1.block X hT).trans h.1, h.2.kept (fun j _ h2 => ho.1.block j (by omega)) ho.1.size⟩
theorem MN.b {V V' : World} {X B : Nat} {b : Na} {d : Nd} (h : MN V X B b d) (hb : Below V.heap.size V V') : MN V' X B b d :=
  h.onb (OnB.of_below (B := V.heap.size) (T := V.heap.size) hb (Nat.le_refl _)) h.1.lt
theorem MN.new {w1 : World} {B : Nat} {b : Na} {d : Nd} (h : RN w1 B w1.heap.size b d) : MN (w1.alloc (.cells (nds b d) 31)) w1.heap.size B b d :=
  ⟨NB.new _ _ _ _, h.below (bal1 w1 _) (Nat.le_refl _)⟩
theorem kdrew (V : World) : Below V.heap.size V V.drew := Below.drawn (Below.refl _ _) 1
theorem kncnt_nn (d : Nd) : 0 ≤ ncnt d := by unfold ncnt; omega
theorem kncnt_le (d : Nd) : ncnt d ≤ ntot d := by unfold ncnt ntot; omega
/-- The two nodes as they came in. -/
def Y2 (w V : World) (a1 a2 : Na) (d1 d2 : Nd) : Prop := Below w.heap.size w V ∧ NB V w.heap.size 39 a1 d1 ∧ NB V (w.heap.size + 1) 39 a2 d2
theorem Y2.onb {w V V' : World} {a1 a2 : Na} {d1 d2 : Nd} {B T : Nat} (h : Y2 w V a1 a2 d1 d2) (ho : OnB B T V V') (hB : w.heap.size + 1 < B) : Y2 w V' a1 a2 d1 d2 :=
  ⟨h.1.trans (ho.1.mono (by omega)), h.2.1.below ho.1 (by omega), h.2.2.below ho.1 hB⟩
theorem Y2.b {w V V' : World} {a1 a2 : Na} {d1 d2 : Nd} (h : Y2 w V a1 a2 d1 d2) (hb : Below V.heap.size V V') : Y2 w V' a1 a2 d1 d2 := ⟨h.1.trans (hb.mono h.1.size), h.2.1.b hb, h.2.2.b hb⟩
theorem Y2.new (w : World) (a1 a2 : Na) (d1 d2 : Nd) : Y2 w ((w.alloc (.cells (nds a1 d1) 39)).alloc (.cells (nds a2 d2) 39)) a1 a2 d1 d2 := by
  have h1 := NB.new w 39 a1 d1
  have h2 := NB.new (w.alloc (.cells (nds a1 d1) 39)) 39 a2 d2
  have e : (w.alloc (.cells (nds a1 d1) 39)).heap.size = w.heap.size + 1 := by simp
  have b := bal1 (w.alloc (.cells (nds a1 d1) 39)) (.cells (nds a2 d2) 39)
  rw [e] at h2 b
  exact ⟨(bal1 w _).trans (b.mono (by omega)), h1.below b (by omega), h2⟩
theorem kntot_nn (d : Nd) : 0 ≤ ntot d := by unfold ntot; omega
/-- Told by a proposition. -/
def dcd (D : (p : Prop) → Decidable p) (p : Prop) : Bool := @decide p (D p)
theorem dcd_yes {p : Prop} (h : p) : dcd Classical.propDecidable p = true := @decide_eq_true p (Classical.propDecidable p) h
theorem dcd_no {p : Prop} (h : ¬ p) : dcd Classical.propDecidable p = false := @decide_eq_false p (Classical.propDecidable p) h
theorem tells_dcd {w w' : World} {e : Ending} {p : Prop} (h : Tells w w' e p) : e = .returned (.bool (dcd Classical.propDecidable p)) ∧ Below w.heap.size w w' := by
  obtain ⟨⟨hp, rfl⟩ | ⟨hp, rfl⟩, hb⟩ := h
  · exact ⟨by rw [dcd_yes hp], hb⟩
  · exact ⟨by rw [dcd_no hp], hb⟩
end Go.Proofs.YtkndnndildnbpaaGreatDoor
namespace Go.Proofs.YtkndnndildnbpaaGreatDoor
open Go.ChangeShapes Go.WideShapes Go.ChangeAt Go.RowKit
set_option linter.unusedVariables false
set_option linter.unusedSimpArgs false
set_option maxRecDepth 100000

theorem ir_set (M : List Int) (k : Nat) (x : Int) : (ir M).set k (.int .i64 x) = ir (M.set k x) := by simp [ir, List.map_set]
set_option maxHeartbeats 4000000 in
theorem putk_impl (ad : Addr) (cap : Nat) (M : List Int) (k : Nat) (x : Int) (w : World) (hk : k < M.length) (hn : M.length ≤ 1048576) (hs : SL .i64 w (some ad) M.length (fun i => M.getD i 0)) :
    Calls Tryz.prog 158 #[.slice (some ad) M.length cap, .int .i64 (k : Int), .int .i64 x] w fun e w' => ∃ p c, e = .returned (.slice p (M.set k x).length c) ∧ RS w' w.heap.size w'.heap.size [⟨3, p, c, ir (M.set k x)⟩] ∧ Below w.heap.size w w' := by
  have HC : Hid (Calls Tryz.prog 215 #[.slice (some ad) M.length cap] w fun e w' => ∃ p c, e = .returned (.slice p M.length c) ∧ RS w' w.heap.size w'.heap.size [⟨3, p, c, ir M⟩] ∧ Below w.heap.size w w') := (clone_any ad M.length cap (fun i => M.getD i 0) w (by omega) hs).mono fun e w' ⟨v, h1, h2, h3⟩ => by
    have h2' : w'.ownsRow w.heap.size 3 1 v M.length (M.map (.int .i64)) := by rw [lst_of] at h2; exact h2
    obtain ⟨p, c, rfl, hr⟩ := int_row h2'
    exact ⟨p, c, h1, hr, h3⟩
  have HK := hide hk
  have hk0 : (0 : Int) ≤ (k : Int) := by omega
  have hk1 : (k : Int) < (M.length : Int) := by omega
  have HE : Hid ((M.set k x).length = M.length) := List.length_set
  generalize hml : M.length = m at *
  have HML := hide hml
  clear hs hk hml hn
  go_enter Tryz.func158, Tryz.ntmps158
  go_wp2_with fail
  refine HC.out.mono ?_
  rintro e w1 ⟨p, c, rfl, r1, b1⟩
  obtain ⟨γ, rfl, g2, _, g4, g5, g6⟩ := wr_cell (i := k) r1.head (ir_get M k (by rw [HML.out]; exact HK.out))
  have hr2 := RS.wr (xs := []) (ys := []) r1 (g6 (.int .i64 x))
  have hb2 : Below w.heap.size w (w1.setCell ⟨γ, k, none⟩ (.int .i64 x)) := b1.trans (((Only.refl γ w1).setCell _).1.mono g2.1)
  have hsz := ((Only.refl γ w1).setCell (i := k) (.int .i64 x)).2.1
  have HF : Hid (RS (w1.setCell ⟨γ, k, none⟩ (.int .i64 x)) w.heap.size (w1.setCell ⟨γ, k, none⟩ (.int .i64 x)).heap.size [⟨3, some ⟨γ, 0, none⟩, c, ir (M.set k x)⟩] ∧ Below w.heap.size w (w1.setCell ⟨γ, k, none⟩ (.int .i64 x))) := by
    refine ⟨?_, hb2⟩
    rw [hsz, ← ir_set]
    exact hr2
  clear r1 b1 g6 hr2 hb2 hsz HC
  go_wp2
  go_ret
  exact ⟨_, c, (by rw [HE.out]; rfl), HF.out.1, HF.out.2⟩
theorem markc_impl (ao : Option Addr) (cap : Nat) (M : List Int) (x : Int) (w : World) (hA : Asc M) (hx07 : 0 ≤ x ∧ x ≤ 7) (hs : SL .i64 w ao M.length (fun i => M.getD i 0)) :
    Calls Tryz.prog 224 #[.slice ao M.length cap, .int .i64 x] w fun e w' => ∃ v', e = .returned v' ∧ w'.ownsRow w.heap.size 3 1 v' (mk M x).length ((mk M x).map (.int .i64)) ∧ Below w.heap.size w w' := by
  have hlen := hA.len
  have hx := nocell_any x w
  rw [show decide (x < 0 ∨ 8 ≤ x) = false by simp; omega] at hx
  have hK : kept (fun i => M.getD i 0) x M.length = M.filter (fun y => decide (y ≠ x)) := by rw [kept_filter M x M.length (Nat.le_refl _), List.take_of_length_le (Nat.le_refl _)]
  have hw := hide (with_any ao M.length cap (fun i => M.getD i 0) x w (by omega) hs)
  have HX : Hid (∀ p, Place (kept (fun i => M.getD i 0) x M.length) x p → ins (kept (fun i => M.getD i 0) x M.length) p x = mk M x ∧ (kept (fun i => M.getD i 0) x M.length).length + 1 = (mk M x).length) := by
    intro p hp
    rw [hK] at hp ⊢
    have e := mk_impl hA.1 hp.1 hp.2.1 hp.2.2
    exact ⟨e, by rw [← e, ins_len]⟩
  clear hA hlen hs hK
  go_enter Tryz.func224, Tryz.ntmps224
  go_wp2_with fail
  refine hx.mono ?_
  rintro e w' ⟨rfl, hw'⟩
  rw [hw']
  clear hw'
  go_wp2_with fail
  refine hw.out.mono ?_
  rintro e w1 ⟨v1, p, rfl, hp, ho1, b1⟩
  obtain ⟨e1, e2⟩ := HX.out p hp
  rw [e1, e2] at ho1
  have R := hide (And.intro ho1 b1)
  clear ho1 b1 e1 e2 hp HX
  go_wp2
  go_ret
  exact ⟨_, rfl, R.out⟩
set_option maxHeartbeats 100000000 in
theorem mark_i (X B k : Nat) (am : Na) (dm : Nd) (b : Na) (d : Nd) (x : Int) (w : World) (h : DR w X B am dm b d) (hn3 : dm.n = 3) (hk : k < 3) (hA : Asc (dm.L k)) (hx : 0 ≤ x ∧ x ≤ 7) :
    Calls Tryz.prog 171 #[.pointer (some ⟨X, 0, none⟩), .int .i64 (k : Int), .int .i64 x] w fun e w' => e = .returned (.tuple #[]) ∧ DR w' X B am { dm with L := updL dm.L k (mk (dm.L k) x) } b d ∧ Below B w w' := by
  have hd0 : DR w.drew X B am dm b d := h.below (Below.drawn (Below.refl _ _) 1)
  have hB : B ≤ w.heap.size := Nat.le_trans h.2.1 (Nat.le_of_lt h.1.lt)
  obtain ⟨γ, r, g1, g2, g3, g4, g5, _, _, _⟩ := DR.line (p := none) (c := 0) (M := []) hd0 hn3 hk (Below.refl _ _) (RS.one ⟨Nat.zero_le _, .inl rfl⟩)
  have HLN : Hid (∀ (w1 : World) (p : Option Addr) (c : Nat) (M : List Int), Below w.drew.heap.size w.drew w1 → RS w1 w.drew.heap.size w1.heap.size [⟨3, p, c, ir M⟩] → ((w1.cell? ⟨γ, k, none⟩).isSome = true ∧ w1.frozen? ⟨γ, k, none⟩ = false) ∧ DR (w1.setCell ⟨γ, k, none⟩ (.slice p M.length c)) X B am { dm with L := updL dm.L k M } b d) := fun w1 p c M hb hr => by
    obtain ⟨γ2, _, k1, _, _, _, _, k6, k7, k8⟩ := DR.line hd0 hn3 hk hb hr
    have e : γ2 = γ := by rw [g1] at k1; simpa using k1.symm
    rw [e] at k6 k7 k8
    exact ⟨⟨k6, k7⟩, k8⟩
  have HX : Hid (∀ (V : World) (dm' : Nd), dm'.n = 3 → DB V X am dm' b d → V.cell? ⟨X, 1, none⟩ = some (.slice (some ⟨γ, 0, none⟩) 3 am.bc)) := fun V dm' h3 h => by
    have h1 : V.cell? ⟨X, 1, none⟩ = some (.slice am.bo dm'.n am.bc) := h.cell (i := 1) rfl
    rw [g1, h3] at h1
    exact h1
  have cX1 : w.drew.cell? ⟨X, 1, none⟩ = some (.slice (some ⟨γ, 0, none⟩) 3 am.bc) := HX.out _ dm hn3 hd0.1
  have HD0 := hide hd0.1
  have HN3 := hide hn3
  have HG : Hid (B ≤ γ ∧ B ≤ w.heap.size) := ⟨g2, hB⟩
  have HC : Hid (Calls Tryz.prog 224 #[.slice r.1 (dm.L k).length r.2, .int .i64 x] w.drew fun e w' => ∃ p c, e = .returned (.slice p (mk (dm.L k) x).length c) ∧ RS w' w.drew.heap.size w'.heap.size [⟨3, p, c, ir (mk (dm.L k) x)⟩] ∧ Below w.drew.heap.size w.drew w') := (markc_impl r.1 r.2 (dm.L k) x w.drew hA hx g5).mono fun e w' ⟨v, h1, h2, h3⟩ => by
    obtain ⟨p, c, rfl, hr⟩ := int_row h2
    exact ⟨p, c, h1, hr, h3⟩
  have hk0 : (0 : Int) ≤ (k : Int) := by omega
  have hk1 : (k : Int) < 3 := by omega
  clear h hd0 hn3 hB g1 g2 g3 g5 hk
  go_enter Tryz.func171, Tryz.ntmps171
  refine wp_region_held_drew (S := (fun w' => w'.cell? ⟨X, 1, none⟩ = some (.slice (some ⟨γ, 0, none⟩) 3 am.bc))) (by kernel_rfl) ?_ (fun hHeld => ?_)
  · exact cX1
  refine wpAnyH_take (i := 0) (oi := { dst := some 6, op := Op.move (Operand.tmp 0), type := 175, pos := "l08_node.go:197", after := #[], guard := none }) (v := ?_) rfl (by kernel_rfl) (by kernel_rfl) (by kernel_rfl) (fun _ _ _ h => h) (Or.inl ⟨by rfl, ?_⟩) (by assumption) ?_
  rotate_left 1
  · (intro wq hSw; (try dsimp only at hSw); go_simp; try with_reducible rfl)
  try simp only [Act.put, ly1, ly2, ly3]
  refine wpAnyH_take (i := 1) (oi := { dst := some 7, op := Op.nilCheck (Operand.tmp 6), type := 0, pos := "l08_node.go:197", after := #[{ on := 0, ground := Ground.data }], guard := none }) (v := ?_) rfl (by kernel_rfl) (by kernel_rfl) (by kernel_rfl) (fun _ _ _ h => h) (Or.inl ⟨by rfl, ?_⟩) (by assumption) ?_
  rotate_left 1
  · (intro wq hSw; (try dsimp only at hSw); go_simp; try with_reducible rfl)
  try simp only [Act.put, ly1, ly2, ly3]
  refine wpAnyH_take (i := 2) (oi := { dst := some 8, op := Op.fieldAddr 25 (Operand.tmp 7) 1, type := 0, pos := "l08_node.go:197", after := #[{ on := 1, ground := Ground.data }], guard := none }) (v := ?_) rfl (by kernel_rfl) (by kernel_rfl) (by kernel_rfl) (fun _ _ _ h => h) (Or.inl ⟨by rfl, ?_⟩) (by assumption) ?_
  rotate_left 1
  · (intro wq hSw; (try dsimp only at hSw); go_simp; try with_reducible rfl)
  try simp only [Act.put, ly1, ly2, ly3]
  refine wpAnyH_take (i := 3) (oi := { dst := some 9, op := Op.load 23 (Operand.tmp 8), type := 23, pos := "l08_node.go:197", after := #[{ on := 2, ground := Ground.data }], guard := none }) (v := ?_) rfl (by kernel_rfl) (by kernel_rfl) (by kernel_rfl) (fun _ _ _ h => h) (Or.inl ⟨by rfl, ?_⟩) (by assumption) ?_
  rotate_left 1
  · (intro wq hSw; (try dsimp only at hSw); go_simp; try with_reducible rfl)
  try simp only [Act.put, ly1, ly2, ly3]
  refine wpAnyH_take (i := 4) (oi := { dst := some 10, op := Op.move (Operand.tmp 1), type := 3, pos := "l08_node.go:197", after := #[], guard := none }) (v := ?_) rfl (by kernel_rfl) (by kernel_rfl) (by kernel_rfl) (fun _ _ _ h => h) (Or.inl ⟨by rfl, ?_⟩) (by assumption) ?_
  rotate_left 1
  · (intro wq hSw; (try dsimp only at hSw); go_simp; try with_reducible rfl)
  try simp only [Act.put, ly1, ly2, ly3]
  refine wpAnyH_take (i := 5) (oi := { dst := some 11, op := Op.move (Operand.tmp 0), type := 175, pos := "l08_node.go:197", after := #[], guard := none }) (v := ?_) rfl (by kernel_rfl) (by kernel_rfl) (by kernel_rfl) (fun _ _ _ h => h) (Or.inl ⟨by rfl, ?_⟩) (by assumption) ?_
  rotate_left 1
  · (intro wq hSw; (try dsimp only at hSw); go_simp; try with_reducible rfl)
  try simp only [Act.put, ly1, ly2, ly3]
  refine wpAnyH_take (i := 6) (oi := { dst := some 12, op := Op.nilCheck (Operand.tmp 11), type := 0, pos := "l08_node.go:197", after := #[{ on := 5, ground := Ground.data }], guard := none }) (v := ?_) rfl (by kernel_rfl) (by kernel_rfl) (by kernel_rfl) (fun _ _ _ h => h) (Or.inl ⟨by rfl, ?_⟩) (by assumption) ?_
  rotate_left 1
  · (intro wq hSw; (try dsimp only at hSw); go_simp; try with_reducible rfl)
  try simp only [Act.put, ly1, ly2, ly3]
  refine wpAnyH_take (i := 7) (oi := { dst := some 13, op := Op.fieldAddr 25 (Operand.tmp 12) 1, type := 0, pos := "l08_node.go:197", after := #[{ on := 6, ground := Ground.data }], guard := none }) (v := ?_) rfl (by kernel_rfl) (by kernel_rfl) (by kernel_rfl) (fun _ _ _ h => h) (Or.inl ⟨by rfl, ?_⟩) (by assumption) ?_
  rotate_left 1
  · (intro wq hSw; (try dsimp only at hSw); go_simp; try with_reducible rfl)
  try simp only [Act.put, ly1, ly2, ly3]
  refine wpAnyH_take (i := 8) (oi := { dst := some 14, op := Op.load 23 (Operand.tmp 13), type := 23, pos := "l08_node.go:197", after := #[{ on := 7, ground := Ground.data }], guard := none }) (v := ?_) rfl (by kernel_rfl) (by kernel_rfl) (by kernel_rfl) (fun _ _ _ h => h) (Or.inl ⟨by rfl, ?_⟩) (by assumption) ?_
  rotate_left 1
  · (intro wq hSw; (try dsimp only at hSw); go_simp; try with_reducible rfl)
  try simp only [Act.put, ly1, ly2, ly3]
  refine wpAnyH_take (i := 9) (oi := { dst := some 15, op := Op.move (Operand.tmp 1), type := 3, pos := "l08_node.go:197", after := #[], guard := none }) (v := ?_) rfl (by kernel_rfl) (by kernel_rfl) (by kernel_rfl) (fun _ _ _ h => h) (Or.inl ⟨by rfl, ?_⟩) (by assumption) ?_
  rotate_left 1
  · (intro wq hSw; (try dsimp only at hSw); go_simp; try with_reducible rfl)
  try simp only [Act.put, ly1, ly2, ly3]
  refine wpAnyH_take (i := 10) (oi := { dst := some 16, op := Op.indexAddr 23 (Operand.tmp 14) (Operand.tmp 15), type := 0, pos := "l08_node.go:197", after := #[{ on := 8, ground := Ground.data }, { on := 9, ground := Ground.data }], guard := none }) (v := ?_) rfl (by kernel_rfl) (by kernel_rfl) (by kernel_rfl) (fun _ _ _ h => h) (Or.inl ⟨by rfl, ?_⟩) (by assumption) ?_
  rotate_left 1
  · (intro wq hSw; (try dsimp only at hSw); go_simp; try with_reducible rfl)
  try simp only [Act.put, ly1, ly2, ly3]
  refine wpAnyH_take (i := 12) (oi := { dst := some 18, op := Op.move (Operand.tmp 2), type := 3, pos := "l08_node.go:197", after := #[], guard := none }) (v := ?_) rfl (by kernel_rfl) (by kernel_rfl) (by kernel_rfl) (fun _ _ _ h => h) (Or.inl ⟨by rfl, ?_⟩) (by assumption) ?_
  rotate_left 1
  · (intro wq hSw; (try dsimp only at hSw); go_simp; try with_reducible rfl)
  try simp only [Act.put, ly1, ly2, ly3]
  refine wpAnyH_ready (rs := [11]) (by kernel_rfl) (by simp) ?_
  refine AllReadyH.cons (o := { dst := some 17, op := Op.load 22 (Operand.tmp 16), type := 22, pos := "l08_node.go:197", after := #[{ on := 10, ground := Ground.data }], guard := none }) rfl (fun K hK => ?_) AllReadyH.nil
  go_simp
  refine hK.out _ _ ?_ (fun hHeld => ?_)
  · exact cX1
  clear hK K
  try simp only [Act.put, ly1, ly2, ly3]
  clear g4
  refine wpAnyH_ready (rs := [13]) (by kernel_rfl) (by simp) ?_
  refine AllReadyH.cons (o := { dst := some 19, op := Op.call { callee := Callee.value (Operand.func 224), args := #[Operand.tmp 17, Operand.tmp 18], argTypes := #[22, 3] }, type := 22, pos := "l08_node.go:197", after := #[{ on := 11, ground := Ground.data }, { on := 12, ground := Ground.data }], guard := none }) rfl (fun K hK => ?_) AllReadyH.nil
  go_simp
  refine HC.out.mono ?_
  rintro e w1 ⟨p, c, rfl, r1, b1⟩
  obtain ⟨⟨hs1, hz1⟩, hdr⟩ := HLN.out w1 _ _ _ b1 r1
  have HF : Hid (DR (w1.setCell ⟨γ, k, none⟩ (.slice p (mk (dm.L k) x).length c)) X B am { dm with L := updL dm.L k (mk (dm.L k) x) } b d ∧ Below B w (w1.setCell ⟨γ, k, none⟩ (.slice p (mk (dm.L k) x).length c))) := ⟨hdr, ((Below.drawn (Below.refl B w) 1).trans (b1.mono HG.out.2)).trans (((Only.refl γ w1).setCell _).1.mono HG.out.1)⟩
  have cX2 : w1.cell? ⟨X, 1, none⟩ = some (.slice (some ⟨γ, 0, none⟩) 3 am.bc) := HX.out _ dm HN3.out (HD0.out.b b1)
  obtain ⟨u1, hu1⟩ := Option.isSome_iff_exists.1 hs1
  clear hs1 hdr r1 b1
  generalize mk (dm.L k) x = M at *
  go_wp2_with fail
  refine hK.out _ _ ?_ (fun hHeld => ?_)
  · exact cX2
  clear hK K
  try simp only [Act.put, ly1, ly2, ly3]
  refine wpAnyH_take (i := 14) (oi := { dst := some 20, op := Op.indexAddr 23 (Operand.tmp 9) (Operand.tmp 10), type := 0, pos := "l08_node.go:197", after := #[{ on := 3, ground := Ground.data }, { on := 4, ground := Ground.data }, { on := 0, ground := Ground.phase }, { on := 1, ground := Ground.phase }, { on := 2, ground := Ground.phase }, { on := 3, ground := Ground.phase }, { on := 4, ground := Ground.phase }, { on := 5, ground := Ground.phase }, { on := 6, ground := Ground.phase }, { on := 7, ground := Ground.phase }, { on := 8, ground := Ground.phase }, { on := 9, ground := Ground.phase }, { on := 10, ground := Ground.phase }, { on := 11, ground := Ground.phase }, { on := 12, ground := Ground.phase }, { on := 13, ground := Ground.phase }], guard := none }) (v := ?_) rfl (by kernel_rfl) (by kernel_rfl) (by kernel_rfl) (fun _ _ _ h => h) (Or.inl ⟨by rfl, ?_⟩) (by assumption) ?_
  rotate_left 1
  · (intro wq hSw; (try dsimp only at hSw); go_simp; try with_reducible rfl)
  try simp only [Act.put, ly1, ly2, ly3]
  refine wpAnyH_ready (rs := [15]) (by kernel_rfl) (by simp) ?_
  refine AllReadyH.cons (o := { dst := none, op := Op.store 22 (Operand.tmp 20) (Operand.tmp 19), type := 0, pos := "l08_node.go:197", after := #[{ on := 14, ground := Ground.data }, { on := 13, ground := Ground.data }, { on := 13, ground := Ground.chain }, { on := 0, ground := Ground.phase }, { on := 1, ground := Ground.phase }, { on := 2, ground := Ground.phase }, { on := 3, ground := Ground.phase }, { on := 4, ground := Ground.phase }, { on := 5, ground := Ground.phase }, { on := 6, ground := Ground.phase }, { on := 7, ground := Ground.phase }, { on := 8, ground := Ground.phase }, { on := 9, ground := Ground.phase }, { on := 10, ground := Ground.phase }, { on := 11, ground := Ground.phase }, { on := 12, ground := Ground.phase }, { on := 13, ground := Ground.phase }], guard := none }) rfl (fun K hK => ?_) AllReadyH.nil
  go_simp
  refine hK.out _ _ ?_ (fun hHeld => ?_)
  · exact (HX.out _ { dm with L := updL dm.L k M } HN3.out HF.out.1.1)
  clear hK K
  try simp only [Act.put, ly1, ly2, ly3]
  refine wpAnyH_done (by kernel_rfl) ?_ _
  go_wp2_with fail
  go_end0
  exact ⟨rfl, HF.out⟩

/-- A line of marks where a cell came from a node. -/
def lnm (id from_ x : Int) (L : Nat → List Int) (i : Nat) : List Int := if (i : Int) = from_ then kept (fun j => (L i).getD j 0) x (L i).length else if (i : Int) = id then L i else mk (L i) x
/-- .. of the first k. -/
def mfo (id from_ x : Int) (L : Nat → List Int) (k : Nat) (i : Nat) : List Int := if i < k then lnm id from_ x L i else L i
theorem mfo_0 (id f x : Int) (L : Nat → List Int) : mfo id f x L 0 = L := funext fun i => if_neg (Nat.not_lt_zero _)
theorem mfo_step (id f x : Int) (L : Nat → List Int) (k : Nat) (M : List Int) (h : M = lnm id f x L k) : updL (mfo id f x L k) k M = mfo id f x L (k + 1) := funext fun i => by
  unfold updL mfo
  by_cases e : i = k
  · subst e; rw [if_pos rfl, if_pos (Nat.lt_succ_self _), h]
  · rw [if_neg e]
    by_cases e2 : i < k
    · rw [if_pos e2, if_pos (by omega)]
    · rw [if_neg e2, if_neg (by omega)]
theorem mfo_same (id f x : Int) (L : Nat → List Int) (k : Nat) (h : lnm id f x L k = L k) : mfo id f x L k = mfo id f x L (k + 1) := funext fun i => by
  unfold mfo
  by_cases e : i = k
  · subst e; rw [if_neg (Nat.lt_irrefl _), if_pos (Nat.lt_succ_self _), h]
  · by_cases e2 : i < k
    · rw [if_pos e2, if_pos (by omega)]
    · rw [if_neg e2, if_neg (by omega)]
theorem mfo_k (id f x : Int) (L : Nat → List Int) (k : Nat) : mfo id f x L k k = L k := if_neg (Nat.lt_irrefl _)
set_option maxHeartbeats 100000000 in
theorem mfo_i (X B : Nat) (am : Na) (dm : Nd) (b : Na) (d : Nd) (f x : Int) (w : World) (h : DR w X B am dm b d) (hn3 : dm.n = 3) (hA : ∀ i, i < 3 → Asc (dm.L i)) (hx : 0 ≤ x ∧ x ≤ 7) :
    Calls Tryz.prog 159 #[.pointer (some ⟨X, 0, none⟩), .int .i64 f, .int .i64 x] w fun e w' => e = .returned (.tuple #[]) ∧ DR w' X B am { dm with L := mfo d.id f x dm.L 3 } b d ∧ Below B w w' := by
  have H0 : Hid (DR w X B am { dm with L := mfo d.id f x dm.L 0 } b d) := by rw [mfo_0]; exact h
  have HN := hide hn3
  have HA := hide hA
  have HX := hide hx
  clear h hn3 hA hx
  go_enter Tryz.func159, Tryz.ntmps159
  go_wp2_with fail
  go_loopw [6, 7] (fun _ i wr => ∃ k : Nat, k ≤ 3 ∧ i = .int .i64 k ∧ Hid (DR wr X B am { dm with L := mfo d.id f x dm.L k } b d ∧ Below B w wr)) (fun _ i _ => 3 - (intOf i).toNat)
  case atStart => exact ⟨0, by omega, rfl, H0.out, Below.refl _ _⟩
  case round =>
    obtain ⟨k, hk, rfl, HI⟩ := hrel
    clear H0
    by_cases hlt : k < 3
    · have hlt2 : (k : Int) < 3 := by omega
      have p6 : wr.cell? ⟨X, 6, none⟩ = some (.int .i64 d.id) := HI.out.1.1.cell (i := 6) rfl
      by_cases hf : (k : Int) = f
      · have hfe : ((k : Int) == f) = true := by simpa using hf
        have HL : Hid (lnm d.id f x dm.L k = kept (fun j => (dm.L k).getD j 0) x (dm.L k).length) := if_pos hf
        clear hf p6
        go_wp2_with fail
        refine (unmark_i X B k am { dm with L := mfo d.id f x dm.L k } b d x wr HI.out.1 HN.out hlt (by show (mfo d.id f x dm.L k k).length ≤ _; rw [mfo_k]; have := (HA.out k hlt).len; omega)).mono ?_
        rintro e w1 ⟨rfl, h1, b1⟩
        have H1 : Hid (DR w1 X B am { dm with L := mfo d.id f x dm.L (k + 1) } b d ∧ Below B w w1) := ⟨by
          rw [← mfo_step d.id f x dm.L k _ rfl, HL.out]
          have h2 := h1
          simp only [mfo_k] at h2
          exact h2, HI.out.2.trans b1⟩
        clear h1 b1 HI
        go_wp2
        go_roundw
        case rel => exact ⟨k + 1, by omega, by go_num, H1.out⟩
        case measure => simp [intOf]; omega
      · have hfe : ((k : Int) == f) = false := by simpa using hf
        by_cases hi : (k : Int) = d.id
        · have hie : ((k : Int) == d.id) = true := by simpa using hi
          have H1 : Hid (DR wr X B am { dm with L := mfo d.id f x dm.L (k + 1) } b d ∧ Below B w wr) := ⟨by rw [← mfo_same d.id f x dm.L k (by unfold lnm; rw [if_neg hf, if_pos hi])]; exact HI.out.1, HI.out.2⟩
          clear hf hi HI
          go_wp2
          go_roundw
          case rel => exact ⟨k + 1, by omega, by go_num, H1.out⟩
          case measure => simp [intOf]; omega
        · have hie : ((k : Int) == d.id) = false := by simpa using hi
          have HL : Hid (lnm d.id f x dm.L k = mk (dm.L k) x) := (show _ = _ from by unfold lnm; rw [if_neg hf, if_neg hi])
          clear hf hi
          go_wp2_with fail
          refine (mark_i X B k am { dm with L := mfo d.id f x dm.L k } b d x wr HI.out.1 HN.out hlt (by show Asc (mfo d.id f x dm.L k k); rw [mfo_k]; exact HA.out k hlt) HX.out).mono ?_
          rintro e w1 ⟨rfl, h1, b1⟩
          have H1 : Hid (DR w1 X B am { dm with L := mfo d.id f x dm.L (k + 1) } b d ∧ Below B w w1) := ⟨by
            rw [← mfo_step d.id f x dm.L k _ rfl, HL.out]
            have h2 := h1
            simp only [mfo_k] at h2
            exact h2, HI.out.2.trans b1⟩
          clear h1 b1 HI
          go_wp2
          go_roundw
          case rel => exact ⟨k + 1, by omega, by go_num, H1.out⟩
          case measure => simp [intOf]; omega
    · obtain rfl : k = 3 := by omega
      go_wp2
      go_end0
      exact ⟨rfl, HI.out⟩
/-- What a node knows where a cell is put, marked for the others. -/
def apd (D : (p : Prop) → Decidable p) (d : Nd) (f y v : Int) : Nd := kpd D { d with im := d.im.set y.toNat v } { d with la := v, L := mfo d.id f y d.L 3 }
theorem ntot_apply {d : Nd} {f y v : Int} (h : ntot d ≤ 1048576) : ntot (pick Classical.propDecidable (NOk d ∧ (0 ≤ y ∧ y ≤ 7) ∧ NOk (apd Classical.propDecidable d f y v)) (apd Classical.propDecidable d f y v) d) ≤ 1048576 := by
  by_cases hp : NOk d ∧ (0 ≤ y ∧ y ≤ 7) ∧ NOk (apd Classical.propDecidable d f y v)
  · rw [pick_yes hp]; exact ntot_kpd hp.1 rfl hp.2.2 h
  · rw [pick_no hp]; exact h
theorem asc_kok {l : List Int} (h : KOk l) : Asc l := by
  have hk : ∀ i j, i < j → j < l.length → l.getD i 0 < l.getD j 0 := fun i j hij => by
    induction j with
    | zero => omega
    | succ j ih =>
      intro hj
      have h1 : l.getD (j + 1 - 1) 0 < l.getD (j + 1) 0 := h.2 (j + 1) (by omega) hj
      rw [Nat.add_sub_cancel] at h1
      by_cases e : i = j
      · subst e; exact h1
      · have := ih (by omega) (by omega); omega
  refine ⟨List.pairwise_iff_getElem.2 fun i j hi hj hij => ?_, kok_mem h⟩
  have := hk i j hij hj
  simpa [List.getD, hi, hj] using this
theorem lnm_len {id f x : Int} {L : Nat → List Int} {i : Nat} (hA : Asc (L i)) (hx : 0 ≤ x ∧ x ≤ 7) : (lnm id f x L i).length ≤ 8 := by
  unfold lnm
  split
  · exact Nat.le_trans (kept_len _ _ _) hA.len
  · split
    · exact hA.len
    · exact (mk_asc hA hx.1 hx.2).len
theorem DR.newim {w w2 : World} {X B : Nat} {am b : Na} {dm d : Nd} {p : Option Addr} {c : Nat} {M : List Int} (h : DR w X B am dm b d) (hb : Below w.heap.size w w2) (hr : RS w2 w.heap.size w2.heap.size [⟨3, p, c, ir M⟩]) : DR (w2.setCell ⟨X, 9, none⟩ (.slice p M.length c)) X B am dm { b with im := p, imc := c } { d with im := M } := by
  have hd2 := h.1.b hb
  obtain ⟨h1, h2, h3, h4, R', R, Q, h5⟩ := h
  have hB : B ≤ w.heap.size := Nat.le_trans h2 (Nat.le_of_lt h1.lt)
  have ho : Only X w2 (w2.setCell ⟨X, 9, none⟩ (.slice p M.length c)) := (Only.refl _ _).setCell _
  have h6 : RS w2 B w.heap.size (mrows am.go am.gc am.bo am.bc R' dm.g dm.n dm.L ++ ([⟨3, b.im, b.imc, ir d.im⟩] ++ (mrows b.go b.gc b.bo b.bc R d.g d.n d.L ++ (⟨5, b.aA, b.cA, yr d.A⟩ :: ⟨5, b.aB, b.cB, yr d.C⟩ :: ⟨4, b.co, b.coc, br d.co⟩ :: (srows b.so b.sc Q d.m d.S ++ [⟨4, b.cp, b.cpc, br d.cp⟩, ⟨3, b.wt, b.wtc, ir d.wt⟩]))))) := h5.below hb (Nat.le_refl _)
  have h7 := h6.renew hr hB hb.size
  refine ⟨DB.set (i := 9) (v := .slice p M.length c) hd2 rfl, h2, h3, h4, R', R, Q, ?_⟩
  rw [ho.2.1]
  exact rs_beside (rs := drows am R' dm { b with im := p, imc := c } R Q { d with im := M }) h7 hd2 (fun r hr => drow_ne (drows_t hr)) ho
set_option maxHeartbeats 100000000 in
theorem putfrom_i (X B j : Nat) (am : Na) (dm : Nd) (b : Na) (d : Nd) (f v : Int) (w : World) (h : DR w X B am dm b d) (hn3 : dm.n = 3) (hA : ∀ i, i < 3 → Asc (dm.L i)) (hj : j < 8) (hl : d.im.length = 8) :
    Calls Tryz.prog 91 #[.pointer (some ⟨X, 0, none⟩), .int .i64 f, .int .i64 (j : Int), .int .i64 v] w fun e w' => e = .returned (.tuple #[]) ∧ (∃ b', DR w' X B am { dm with L := mfo d.id f (j : Int) dm.L 3 } b' { d with im := d.im.set j v }) ∧ Below B w w' := by
  have H0 := hide h
  have HB : Hid (B ≤ w.heap.size ∧ B ≤ X) := ⟨Nat.le_trans h.2.1 (Nat.le_of_lt h.1.lt), h.2.1⟩
  obtain ⟨ib, io, e1, _, _⟩ := h.nv.1.1 j (by omega)
  have HP : Hid (Calls Tryz.prog 158 #[.slice b.im d.im.length b.imc, .int .i64 (j : Int), .int .i64 v] w fun e w' => ∃ p c, e = .returned (.slice p (d.im.set j v).length c) ∧ RS w' w.heap.size w'.heap.size [⟨3, p, c, ir (d.im.set j v)⟩] ∧ Below w.heap.size w w') := by
    have hs := h.nv.1.1
    rw [e1] at hs ⊢
    exact putk_impl ⟨ib, io, none⟩ b.imc d.im j v w (by omega) (by omega) hs
  have p9 : w.cell? ⟨X, 9, none⟩ = some (.slice b.im d.im.length b.imc) := h.1.cell (i := 9) rfl
  have HN := hide hn3
  have HA := hide hA
  have HJ := hide hj
  clear h hn3 hA hj hl e1
  go_enter Tryz.func91, Tryz.ntmps91
  go_wp2_with fail
  refine HP.out.mono ?_
  rintro e w1 ⟨p, c, rfl, r1, b1⟩
  have q9 : w1.cell? ⟨X, 9, none⟩ = some (.slice b.im d.im.length b.imc) := (H0.out.1.b b1).cell (i := 9) rfl
  have zX := (H0.out.1.b b1).froz
  obtain ⟨w2, hw2⟩ : ∃ w2, w2 = w1.setCell ⟨X, 9, none⟩ (.slice p d.im.length c) := ⟨_, rfl⟩
  have H2 : Hid (DR w2 X B am dm { b with im := p, imc := c } { d with im := d.im.set j v } ∧ Below B w w2) := by
    have e : (d.im.set j v).length = d.im.length := List.length_set
    rw [hw2, ← e]
    exact ⟨DR.newim H0.out b1 r1, (b1.mono HB.out.1).trans (((Only.refl X w1).setCell _).1.mono HB.out.2)⟩
  clear r1 b1 HP H0 p9
  go_upto_region 1 with fail
  rw [← hw2]
  clear hw2 q9 zX
  go_wp2_with fail
  refine (mfo_i X B am dm { b with im := p, imc := c } { d with im := d.im.set j v } f (j : Int) w2 H2.out.1 HN.out HA.out (by have := HJ.out; omega)).mono ?_
  rintro e w3 ⟨rfl, h3, b3⟩
  have H3 : Hid ((∃ b', DR w3 X B am { dm with L := mfo d.id f (j : Int) dm.L 3 } b' { d with im := d.im.set j v }) ∧ Below B w w3) := ⟨⟨_, h3⟩, H2.out.2.trans b3⟩
  clear h3 b3 H2
  go_wp2
  go_end0
  exact ⟨rfl, H3.out⟩
set_option maxHeartbeats 100000000 in
theorem apply_i (a : Na) (d : Nd) (y1 y2 y3 : Int) (w : World) (hy1 : (-9223372036854775808 ≤ y1 ∧ y1 ≤ 9223372036854775807)) (hy2 : (-9223372036854775808 ≤ y2 ∧ y2 ≤ 9223372036854775807)) (hy3 : (-9223372036854775808 ≤ y3 ∧ y3 ≤ 9223372036854775807)) (hg : ErrT w) (hd : NBd d) (hv : NV w a d) (hn : NNC a) :
    Calls Tryz.prog 23 #[nv a d, .int .i64 y1, .int .i64 y2, .int .i64 y3] w fun e w' => ∃ b, e = .returned (nv b (pick Classical.propDecidable (NOk d ∧ (0 ≤ y2 ∧ y2 ≤ 7) ∧ NOk (apd Classical.propDecidable d y1 y2 y3)) (apd Classical.propDecidable d y1 y2 y3) d)) ∧ ON w' w.heap.size w'.heap.size b (pick Classical.propDecidable (NOk d ∧ (0 ≤ y2 ∧ y2 ≤ 7) ∧ NOk (apd Classical.propDecidable d y1 y2 y3)) (apd Classical.propDecidable d y1 y2 y3) d) ∧ Below w.heap.size w w' := by
  obtain ⟨W, hW⟩ : ∃ W, W = (w.alloc (.cells (nds a d) 31)).alloc (.cells (nds Na.zero Nd.zero) 31) := ⟨_, rfl⟩
  have T0 : Hid (CS w W a d []) := by rw [hW]; exact cs_new w a d
  have HV : Hid (∀ V, Below w.heap.size w V → NV V a d ∧ ErrT V) := fun V hb => ⟨hv.below hb, hg.below hb⟩
  have HD := hide hd
  have HNN := hide hn
  obtain ⟨r, hr⟩ : ∃ r, r = pick Classical.propDecidable (NOk d ∧ (0 ≤ y2 ∧ y2 ≤ 7) ∧ NOk (apd Classical.propDecidable d y1 y2 y3)) (apd Classical.propDecidable d y1 y2 y3) d := ⟨_, rfl⟩
  have HR : Hid ((NOk d → (0 ≤ y2 ∧ y2 ≤ 7) → NOk (apd Classical.propDecidable d y1 y2 y3) → r = apd Classical.propDecidable d y1 y2 y3) ∧ (¬ (NOk d ∧ (0 ≤ y2 ∧ y2 ≤ 7) ∧ NOk (apd Classical.propDecidable d y1 y2 y3)) → r = d)) := by rw [hr]; exact ⟨fun h1 h2 h3 => pick_yes ⟨h1, h2, h3⟩, fun h => pick_no h⟩
  rw [← hr]
  clear hd hv hn hg hr hy3 hy1
  unfold nv
  unfold nds Na.zero Nd.zero at hW
  dsimp only [List.length_nil] at hW
  unfold nds
  go_enter Tryz.func23, Tryz.ntmps23
  go_upto_region 1 with fail
  rw [← hW]
  clear hW
  generalize Value.agg #[.int .i64 d.id, .bool d.up, .bool d.pr, .slice a.im d.im.length a.imc, .slice a.go d.g.length a.gc, .slice a.bo d.n a.bc, .bool d.fi, .bool d.ol, .bool d.he, .int .i64 d.la, .slice a.aA d.A.length a.cA, .slice a.aB d.C.length a.cB, .slice a.co d.co.length a.coc, .slice a.so d.m a.sc, .slice a.cp d.cp.length a.cpc, .slice a.wt d.wt.length a.wtc] = vn at *
  go_wp2_with (refine ld_node rfl _ rfl w.heap.size rfl T0.out.2.1 ?_)
  refine (node_impl a d W (HV.out _ T0.out.1).2 HD.out (HV.out _ T0.out.1).1).mono ?_
  rintro e w1 ⟨h, c1⟩
  have H1 : Hid (CS w w1 a d []) := T0.out.call (ys := []) c1 RS.nil
  clear c1 T0
  rcases h with ⟨hok, rfl⟩ | ⟨hok, rfl⟩
  case inr =>
    have HE : Hid (r = d) := HR.out.2 (fun h => hok h.1)
    clear HR hok
    go_upto_region 2 with fail
    go_wp2_with (refine ld_node rfl _ rfl w.heap.size rfl H1.out.2.1 ?_)
    refine (copyn_impl a d w1 HD.out (HV.out _ H1.out.1).1 HNN.out).mono ?_
    rintro e w2 ⟨b, rfl, o2, c2⟩
    have H2 : Hid (NB w2 (w.heap.size + 1) 31 Na.zero Nd.zero ∧ ∀ F : World, Only (w.heap.size + 1) w2 F → ON F w.heap.size F.heap.size b r ∧ Below w.heap.size w F) := ⟨H1.out.2.2.1.b c2, fun F hF => by
      have hs := hF.2.1
      have hz := H1.out.2.2.2.1
      refine ⟨?_, (H1.out.1.trans (c2.mono H1.out.1.size)).trans (hF.1.mono (by omega))⟩
      rw [HE.out]
      exact (o2.only hF (.inr (by omega))).wider (by omega) (by omega) (Nat.le_refl _)⟩
    have HE2 : Hid (nv b r = nv b d) := (show _ = _ from by rw [HE.out])
    clear o2 c2 H1
    go_wp2_with (first
      | (refine st_node rfl _ _ rfl rfl (w.heap.size + 1) b d rfl rfl H2.out.1 (fun F hF1 hF2 => ?_))
      | (refine bodyPost_ret (v := nv b d) (res_node Tryz.results23 rfl hF2) rfl ⟨b, (show Ending.returned (nv b d) = Ending.returned (nv b r) from by rw [HE2.out]), H2.out.2 F hF1⟩))
  go_wp2_with fail
  by_cases hw2 : 0 ≤ y2 ∧ y2 ≤ 7
  case neg =>
    have hq := nocell_any y2 w1
    rw [show decide (y2 < 0 ∨ 8 ≤ y2) = true by simp; omega] at hq
    have HE : Hid (r = d) := HR.out.2 (fun h => hw2 h.2.1)
    clear HR hok hw2
    refine hq.mono ?_
    rintro e w' ⟨rfl, hw'⟩
    rw [hw']
    clear hw' hq
    go_upto_region 2 with fail
    go_wp2_with (refine ld_node rfl _ rfl w.heap.size rfl H1.out.2.1 ?_)
    refine (copyn_impl a d w1 HD.out (HV.out _ H1.out.1).1 HNN.out).mono ?_
    rintro e w2 ⟨b, rfl, o2, c2⟩
    have H2 : Hid (NB w2 (w.heap.size + 1) 31 Na.zero Nd.zero ∧ ∀ F : World, Only (w.heap.size + 1) w2 F → ON F w.heap.size F.heap.size b r ∧ Below w.heap.size w F) := ⟨H1.out.2.2.1.b c2, fun F hF => by
      have hs := hF.2.1
      have hz := H1.out.2.2.2.1
      refine ⟨?_, (H1.out.1.trans (c2.mono H1.out.1.size)).trans (hF.1.mono (by omega))⟩
      rw [HE.out]
      exact (o2.only hF (.inr (by omega))).wider (by omega) (by omega) (Nat.le_refl _)⟩
    have HE2 : Hid (nv b r = nv b d) := (show _ = _ from by rw [HE.out])
    clear o2 c2 H1
    go_wp2_with (first
      | (refine st_node rfl _ _ rfl rfl (w.heap.size + 1) b d rfl rfl H2.out.1 (fun F hF1 hF2 => ?_))
      | (refine bodyPost_ret (v := nv b d) (res_node Tryz.results23 rfl hF2) rfl ⟨b, (show Ending.returned (nv b d) = Ending.returned (nv b r) from by rw [HE2.out]), H2.out.2 F hF1⟩))
  have hq := nocell_any y2 w1
  rw [show decide (y2 < 0 ∨ 8 ≤ y2) = false by simp; omega] at hq
  obtain ⟨j, rfl⟩ : ∃ j : Nat, y2 = (j : Int) := ⟨y2.toNat, by omega⟩
  refine hq.mono ?_
  rintro e w' ⟨rfl, hw'⟩
  rw [hw']
  clear hw' hq
  have HKD : Hid (kpd Classical.propDecidable { d with im := d.im.set j y3 } { d with la := y3, L := mfo d.id y1 (j : Int) d.L 3 } = apd Classical.propDecidable d y1 (j : Int) y3) := (show _ = _ from by unfold apd; rw [Int.toNat_natCast])
  have HY : Hid ((NOk (kpd Classical.propDecidable { d with im := d.im.set j y3 } { d with la := y3, L := mfo d.id y1 (j : Int) d.L 3 }) → r = kpd Classical.propDecidable { d with im := d.im.set j y3 } { d with la := y3, L := mfo d.id y1 (j : Int) d.L 3 }) ∧ (¬ NOk (kpd Classical.propDecidable { d with im := d.im.set j y3 } { d with la := y3, L := mfo d.id y1 (j : Int) d.L 3 }) → r = d)) := by
    rw [HKD.out]
    exact ⟨HR.out.1 hok hw2, fun h => HR.out.2 (fun h2 => h h2.2.2)⟩
  have HM3 : Hid (d.n = 3 ∧ j < 8 ∧ d.im.length = 8 ∧ ∀ i, i < 3 → Asc (d.L i)) := ⟨hok.2.2.1.2.1.1, by omega, hok.2.1.1, fun i hi => asc_kok (hok.2.2.1.2.1.2 i (by rw [hok.2.2.1.2.1.1]; exact hi))⟩
  have hj07 : Hid (0 ≤ (j : Int) ∧ (j : Int) ≤ 7) := hw2
  clear HR HKD hok hw2 hy2
  as_aux_lemma =>
    go_upto_region 3 with fail
    go_wp2_with (refine ld_node rfl _ rfl w.heap.size rfl H1.out.2.1 ?_)
    refine (draft_i a d w1 HD.out (HV.out _ H1.out.1).1 HNN.out).mono ?_
    rintro e w2 ⟨X, am, b, rfl, hdr, hX, c2⟩
    have H2 : Hid (CS w w2 a d [] ∧ DR w2 X w1.heap.size am d b d ∧ w1.heap.size < X ∧ w.heap.size + 1 < w1.heap.size) := ⟨H1.out.call (ys := []) c2 RS.nil, hdr, hX, by have := H1.out.2.2.2.1; omega⟩
    clear hdr hX c2 H1
    have q5 : w2.cell? ⟨X, 5, none⟩ = some (.int .i64 d.la) := H2.out.2.1.1.cell (i := 5) rfl
    have zX := H2.out.2.1.1.froz
    obtain ⟨w3, hw3⟩ : ∃ w3, w3 = w2.setCell ⟨X, 5, none⟩ (.int .i64 y3) := ⟨_, rfl⟩
    have H3 : Hid (CS w w3 a d [] ∧ DR w3 X w1.heap.size am { d with la := y3 } b d ∧ w1.heap.size < X ∧ w.heap.size + 1 < w1.heap.size) := by
      have ho : Only X w2 w3 := by rw [hw3]; exact (Only.refl _ _).setCell _
      refine ⟨H2.out.1.far (ho.1.mono (Nat.le_of_lt H2.out.2.2.1)) H2.out.2.2.2, ?_, H2.out.2.2⟩
      refine DR.only H2.out.2.1 ho ?_ (fun _ _ _ => rfl) H2.out.2.1.2.2.1 H2.out.2.1.2.2.2.1
      rw [hw3]
      exact DB.set (i := 5) (v := .int .i64 y3) H2.out.2.1.1 rfl
    clear H2
    go_upto_region 5 with fail
    rw [← hw3]
    clear hw3 q5 zX
    go_wp2_with fail
    refine (putfrom_i X w1.heap.size j am { d with la := y3 } b d y1 y3 w3 H3.out.2.1 HM3.out.1 HM3.out.2.2.2 HM3.out.2.1 HM3.out.2.2.1).mono ?_
    rintro e w4 ⟨rfl, ⟨b4, hdr⟩, c4⟩
    have H4 : Hid (CS w w4 a d [] ∧ DR w4 X w1.heap.size am { d with la := y3, L := mfo d.id y1 (j : Int) d.L 3 } b4 { d with im := d.im.set j y3 } ∧ w1.heap.size < X ∧ w.heap.size + 1 < w1.heap.size) := ⟨H3.out.1.far c4 H3.out.2.2.2, hdr, H3.out.2.2⟩
    have HBm : Hid (Bd ({ d with la := y3, L := mfo d.id y1 (j : Int) d.L 3 } : Nd).g ({ d with la := y3, L := mfo d.id y1 (j : Int) d.L 3 } : Nd).n ({ d with la := y3, L := mfo d.id y1 (j : Int) d.L 3 } : Nd).L) := ⟨HD.out.2.1.1, HD.out.2.1.2.1, fun i hi => by
      have hi3 : i < 3 := by rw [← HM3.out.1]; exact hi
      show (mfo d.id y1 (j : Int) d.L 3 i).length ≤ 1048576
      unfold mfo
      rw [if_pos hi3]
      exact Nat.le_trans (lnm_len (HM3.out.2.2.2 i hi3) hj07.out) (by omega)⟩
    have HD2 : Hid (NBd { d with im := d.im.set j y3 }) := ⟨by show (d.im.set j y3).length ≤ _; rw [List.length_set]; exact HD.out.1, HD.out.2⟩
    clear hdr c4 H3
    generalize w1.heap.size = B at *
    generalize ({ d with la := y3, L := mfo d.id y1 (j : Int) d.L 3 } : Nd) = dm at *
    generalize ({ d with im := d.im.set j y3 } : Nd) = di at *
    as_aux_lemma =>
      go_wp2_with (refine ld_node rfl _ rfl w.heap.size rfl H4.out.1.2.1 ?_)
      refine (keptor_i X B am dm b4 di a d r w4 (HV.out _ H4.out.1.1).2 H4.out.2.1 HD2.out HBm.out HD.out HNN.out (fun V hb => (HV.out V (H4.out.1.1.trans (hb.mono (by have := H4.out.2.2; omega)))).1) HY.out.1 HY.out.2).mono ?_
      rintro e w5 ⟨b5, rfl, o5, ho5⟩
      have H5 : Hid (NB w5 (w.heap.size + 1) 31 Na.zero Nd.zero ∧ ∀ F : World, Only (w.heap.size + 1) w5 F → ON F w.heap.size F.heap.size b5 r ∧ Below w.heap.size w F) := by
        have hk := H4.out.1.far (ho5.bel (Nat.le_of_lt H4.out.2.2.1)) H4.out.2.2.2
        refine ⟨hk.2.2.1, fun F hF => ?_⟩
        have hs := hF.2.1
        have hz := H4.out.2.2.2
        exact ⟨(o5.only hF (.inr (by omega))).wider (by omega) (by omega) (Nat.le_refl _), hk.1.trans (hF.1.mono (by omega))⟩
      clear o5 ho5 H4 HY
      go_wp2_with (first
        | (refine st_node rfl _ _ rfl rfl (w.heap.size + 1) b5 r rfl rfl H5.out.1 (fun F hF1 hF2 => ?_))
        | (refine bodyPost_ret (v := nv b5 r) (res_node Tryz.results23 rfl hF2) rfl ⟨b5, rfl, H5.out.2 F hF1⟩))
end Go.Proofs.YtkndnndildnbpaaGreatDoor
namespace Go.Proofs.YtkndnndildnbpaaGreatDoor
open Go.ChangeShapes Go.WideShapes Go.ChangeAt Go.RowKit
set_option linter.unusedVariables false
set_option linter.unusedSimpArgs false
set_option maxRecDepth 100000

theorem rn_up {w w' : World} {B : Nat} {a : Na} {d : Nd} (h : RN w B w.heap.size a d) (hb : Below w.heap.size w w') : RN w' B w'.heap.size a d := (h.below hb (Nat.le_refl _)).wider (Nat.le_refl _) hb.size (Nat.le_refl _)
theorem rn_beside {w w' : World} {B T g : Nat} {c : Array Value} {b : Na} {d : Nd} (h : RN w B T b d) (hc : w.heap[g]? = some (.cells c 31 (0, 0))) (ho : Only g w w') : RN w' B T b d := by
  obtain ⟨h1, h2, h3, R, Q, h5⟩ := h
  refine ⟨by rw [ho.2.1]; exact h1, h2, h3, R, Q, ra_beside h5 hc (fun r hr => ?_) ho⟩
  rcases drows_t (am := b) (R' := R) (dm := d) (List.mem_append_right _ hr) with h | h | h | h <;> rw [h] <;> decide
theorem markr_spec (g cap r : Nat) (M : List Int) (x : Int) (w : World) (hr : r = M.length) (hgw : g < w.heap.size) (hnc : r ≤ cap) (hcell : ∀ j, j < M.length → w.cell? ⟨g, j, none⟩ = some (.int .i64 (M.getD j 0))) (hA : Asc M) :
    Calls Tryz.prog 209 #[.slice (some ⟨g, 0, none⟩) r cap, .int .i64 x] w fun e w' => ∃ v, e = .returned v ∧ Fresh w w' v (mkr M x) := by
  obtain ⟨i0, hi, hz0, hz1, hz2⟩ := info_parts Tryz.info3
  have hlen : r ≤ 8 := by have := hA.len; omega
  have hs : SL .i64 w (some ⟨g, 0, none⟩) r (fun i => M.getD i 0) := fun i hi => ⟨g, 0, rfl, hgw, by rw [Nat.zero_add]; exact hcell i (by omega)⟩
  have hhas := hide (has_any (some ⟨g, 0, none⟩) r cap (fun i => M.getD i 0) x w (by omega) hs)
  have hmem : (∃ i, i < r ∧ M.getD i 0 = x) ↔ x ∈ M := by
    rw [List.mem_iff_getElem]
    constructor
    · rintro ⟨i, hi, e⟩
      exact ⟨i, by omega, by rw [← e]; simp [List.getD, show i < M.length by omega]⟩
    · rintro ⟨i, hi, e⟩
      exact ⟨i, by omega, by rw [← e]; simp [List.getD, hi]⟩
  have HR := hide hr
  have HM := hide hmem
  have HB0 := hide ((Below.refl w.heap.size w).alloc (Nat.le_refl _) (.cells #[] 3))
  have HA := hide hA
  have HC := hide hcell
  have HS := hide hs
  clear hs hcell hA hmem hr
  by_cases hstay : x ∈ M ∨ (x < 0 ∨ 7 < x)
  · have hm : mkr M x = M := by
      unfold mkr
      split
      · rfl
      · exact mk_has HA.out.1 (by rcases hstay with h | h; exact h; omega)
    rw [hm]
    have hnews := hide (news_at (L := M) (off := 0) (fun j hj => by rw [Nat.zero_add]; exact HC.out j hj) (fun _ => hgw) HB0.out)
    have hone := hide (app_ones .i64 M)
    have hst := hide hstay
    clear hstay hm
    go_enter Tryz.func209, Tryz.ntmps209
    go_wp2_with fail
    refine hhas.out.mono ?_
    rintro e w' ⟨⟨b, rfl, hb0⟩, hw⟩
    have hb := hide hb0
    rw [hw]
    clear hw hb0
    cases b with
    | true =>
      go_wp2_with (first
        | (at_builtin; refine wpList_append_own _ rfl _ _ 22 rfl w.heap.size 3 i0 (.int .i64 0) 1 8 Tryz.underlying22 hi hz0 hz1 hz2 rfl (by decide) _ _ _ rfl (owns_empty (Nat.le_refl _)) ⟨g, 0, none⟩ r cap (M.map (.int .i64)) rfl (by simp [HR.out]) hnews.out hone.out (app_lens (by omega)) (by omega) (by simp) ?_; intro v' w1 hown' hgrow hnn))
      have hb1 := grown_below ((Below.refl w.heap.size w).alloc (Nat.le_refl _) _) (by simp) (owns_empty (Nat.le_refl _)) hgrow
      have hv1 : v' ≠ .slice none 0 0 := fun e => by
        have h : Value.slice (some ⟨w.heap.size, 0, none⟩) 0 0 = .slice none 0 0 := (hnn.1 e).1
        cases h
      have R := hide (fresh_of (L := M) (by simpa [HR.out] using hown') hv1 hb1)
      clear hown' hgrow hnn hb1 hv1
      go_wp2
      go_ret
      exact ⟨_, rfl, R.out⟩
    | false =>
      have hno : x < 0 ∨ 7 < x := by
        rcases hst.out with h | h
        · exact absurd (hb.out.2 (HM.out.2 h)) (by simp)
        · exact h
      go_wp2_with (first
        | (go_at_call 51; refine (in_no _ _ _ _ hno).mono ?_; rintro e w9 ⟨rfl, hw9⟩; rw [hw9]; clear hw9)
        | (at_builtin; refine wpList_append_own _ rfl _ _ 22 rfl w.heap.size 3 i0 (.int .i64 0) 1 8 Tryz.underlying22 hi hz0 hz1 hz2 rfl (by decide) _ _ _ rfl (owns_empty (Nat.le_refl _)) ⟨g, 0, none⟩ r cap (M.map (.int .i64)) rfl (by simp [HR.out]) hnews.out hone.out (app_lens (by omega)) (by omega) (by simp) ?_; intro v' w1 hown' hgrow hnn))
      have hb1 := grown_below ((Below.refl w.heap.size w).alloc (Nat.le_refl _) _) (by simp) (owns_empty (Nat.le_refl _)) hgrow
      have hv1 : v' ≠ .slice none 0 0 := fun e => by
        have h : Value.slice (some ⟨w.heap.size, 0, none⟩) 0 0 = .slice none 0 0 := (hnn.1 e).1
        cases h
      have R := hide (fresh_of (L := M) (by simpa [HR.out] using hown') hv1 hb1)
      clear hown' hgrow hnn hb1 hv1
      go_wp2
      go_ret
      exact ⟨_, rfl, R.out⟩
  · have hx0 : 0 ≤ x := by omega
    have hx7 : x ≤ 7 := by omega
    have hxM : Hid (x ∉ M) := fun h => hstay (.inl h)
    have hm : mkr M x = mk M x := by unfold mkr; rw [if_neg (by omega)]
    rw [hm]
    clear hstay hm
    go_enter Tryz.func209, Tryz.ntmps209
    go_wp2_with fail
    refine hhas.out.mono ?_
    rintro e w' ⟨⟨b, rfl, hb0⟩, hw⟩
    obtain rfl : b = false := by
      cases b with
      | false => rfl
      | true => exact absurd (HM.out.1 (hb0.1 rfl)) hxM.out
    rw [hw]
    clear hw hb0 hhas
    go_wp2_with (go_at_call 51; refine (in_yes _ _ _ _ hx0 hx7).mono ?_; rintro e w9 ⟨rfl, hw9⟩; rw [hw9]; clear hw9)
    go_loop [5] (fun i => ∃ k : Nat, k ≤ r ∧ i = .int .i64 k ∧ Hid (∀ j, j < k → M.getD j 0 < x)) (fun i => r - (intOf i).toNat)
    case atStart => exact ⟨0, by omega, rfl, fun j hj => absurd hj (by omega)⟩
    case round =>
      obtain ⟨k, hk, rfl, A⟩ := hrel
      have hnews1 := hide (news_at (L := M.take k) (off := 0) (fun j hj => by rw [Nat.zero_add]; exact cells_take HC.out j hj) (fun _ => hgw) HB0.out)
      have hone1 := hide (app_ones .i64 (M.take k))
      have hone3 := hide (app_ones .i64 (M.drop k))
      have hl1 : Hid (((M.take k).map (Value.int .i64)).length = k * 1) := (show _ = _ by have := HR.out; simp; omega)
      have hl3 : Hid (((M.drop k).map (Value.int .i64)).length = (r - k) * 1) := (show _ = _ by have := HR.out; simp; omega)
      have hk0 : (0 : Int) ≤ (k : Int) := by omega
      have hkc : (k : Int) ≤ (cap : Int) := by omega
      have hkr : (k : Int) ≤ (r : Int) := by omega
      by_cases hlt : k < r
      · have hc0 : w.cell? ⟨g, k, none⟩ = some (.int .i64 (M.getD k 0)) := HC.out k (by have := HR.out; omega)
        generalize hy : M.getD k 0 = y at hc0
        have HY := hide hy
        clear hy
        by_cases hyx : y < x
        · clear hnews1 hone1 hone3 hl1 hl3
          go_wp2
          go_round
          case rel =>
            refine ⟨k + 1, by omega, by go_num, fun j hj => ?_⟩
            by_cases e : j = k
            · subst e; rw [HY.out]; exact hyx
            · exact A.out j (by omega)
          case measure => simp [intOf]; omega
        · have hex : Hid (k < M.length → ¬ M.getD k 0 < x) := fun _ => by rw [HY.out]; exact hyx
          have hd : decide (y < x) = false := by simpa using hyx
          have hck : ¬ (cap = k) := by omega
          go_upto_region 7 with (first
            | (at_builtin; refine wpList_append_own _ rfl _ _ 22 rfl w.heap.size 3 i0 (.int .i64 0) 1 8 Tryz.underlying22 hi hz0 hz1 hz2 rfl (by decide) _ _ _ rfl (owns_empty (Nat.le_refl _)) ⟨g, 0, none⟩ k cap ((M.take k).map (.int .i64)) rfl hl1.out hnews1.out hone1.out (app_lens (by omega)) (by omega) (by simp) ?_; intro v1 w1 hown1 hgrow1 hnn1))
          have hb1 := grown_below ((Below.refl w.heap.size w).alloc (Nat.le_refl _) _) (by simp) (owns_empty (Nat.le_refl _)) hgrow1
          clear hgrow1 hnn1
          rw [Nat.zero_add] at hown1
          go_upto_region 8 with (first
            | (at_builtin; refine wpList_append_own _ rfl _ _ 22 rfl w.heap.size 3 i0 (.int .i64 0) 1 8 Tryz.underlying22 hi hz0 hz1 hz2 rfl (by decide) _ _ _ rfl (hown1.alloc _) ⟨w1.heap.size, 0, none⟩ 1 1 [.int .i64 x] rfl rfl (app_cell8 _ _ _) (app_one8 _ _) (app_len8 (by omega)) (by omega) (by have := hb1.size; simp; omega) ?_; intro v2 w2 hown2 hgrow2 hnn2))
          have hb2 := grown_below (hb1.alloc hb1.size _) (by have := hb1.size; simp; omega) hown1 hgrow2
          clear hgrow2 hnn2 hown1
          have hnews3 := hide (news_at (L := M.drop k) (off := k) (fun j hj => cells_drop HC.out j hj) (fun _ => hgw) hb2)
          go_wp2_with (first
            | (at_builtin; refine wpList_append_own _ rfl _ _ 22 rfl w.heap.size 3 i0 (.int .i64 0) 1 8 Tryz.underlying22 hi hz0 hz1 hz2 rfl (by decide) _ _ _ rfl hown2 ⟨g, k, none⟩ (r - k) (cap - k) ((M.drop k).map (.int .i64)) rfl hl3.out hnews3.out hone3.out (app_lens (by omega)) (by omega) hb2.size ?_; intro v3 w3 hown3 hgrow3 hnn3))
          have hb3 := grown_below hb2 hb2.size hown2 hgrow3
          clear hgrow3 hnn3 hown2
          have R : Hid (Fresh w w3 v3 (mk M x)) := by
            have e := mk_spec hxM.out (by have := HR.out; omega) A.out (fun h => by have := hex.out h; omega)
            have hrr := HR.out
            have hlen3 : (mk M x).length = k + 1 + (r - k) := by rw [← e, ins_len]; omega
            refine fresh_of (by rw [hlen3, ← e, ← ins3]; simpa using hown3) (fun h => ?_) hb3
            rw [h] at hown3
            rcases hown3.2 with ⟨_, h0⟩ | ⟨_, _, _, h0, _⟩
            · omega
            · cases h0
          clear hown3 hb3
          go_wp2
          go_ret
          exact ⟨_, rfl, R.out⟩
      · obtain rfl : k = r := by omega
        have hex : Hid (k < M.length → ¬ M.getD k 0 < x) := fun h => by have := HR.out; omega
        have hdn : Hid (M.drop k = []) := List.drop_of_length_le (by have := HR.out; omega)
        have hl0 : Hid (((M.drop k).map (Value.int .i64)).length = 0 * 1) := (show _ = _ by rw [hdn.out]; rfl)
        by_cases hck : k = cap
        · subst hck
          go_upto_region 7 with (first
            | (at_builtin; refine wpList_append_own _ rfl _ _ 22 rfl w.heap.size 3 i0 (.int .i64 0) 1 8 Tryz.underlying22 hi hz0 hz1 hz2 rfl (by decide) _ _ _ rfl (owns_empty (Nat.le_refl _)) ⟨g, 0, none⟩ k k ((M.take k).map (.int .i64)) rfl hl1.out hnews1.out hone1.out (app_lens (by omega)) (by omega) (by simp) ?_; intro v1 w1 hown1 hgrow1 hnn1))
          have hb1 := grown_below ((Below.refl w.heap.size w).alloc (Nat.le_refl _) _) (by simp) (owns_empty (Nat.le_refl _)) hgrow1
          clear hgrow1 hnn1
          rw [Nat.zero_add] at hown1
          go_upto_region 8 with (first
            | (at_builtin; refine wpList_append_own _ rfl _ _ 22 rfl w.heap.size 3 i0 (.int .i64 0) 1 8 Tryz.underlying22 hi hz0 hz1 hz2 rfl (by decide) _ _ _ rfl (hown1.alloc _) ⟨w1.heap.size, 0, none⟩ 1 1 [.int .i64 x] rfl rfl (app_cell8 _ _ _) (app_one8 _ _) (app_len8 (by omega)) (by omega) (by have := hb1.size; simp; omega) ?_; intro v2 w2 hown2 hgrow2 hnn2))
          have hb2 := grown_below (hb1.alloc hb1.size _) (by have := hb1.size; simp; omega) hown1 hgrow2
          clear hgrow2 hnn2 hown1
          have hnews3 : Hid (∀ j u, ((M.drop k).map (Value.int .i64))[j]? = some u → w2.cell? ((⟨g, 0, none⟩ : Addr).add j) = some u) := fun j u h => by rw [hdn.out] at h; simp at h
          go_wp2_with (first
            | (at_builtin; refine wpList_append_own _ rfl _ _ 22 rfl w.heap.size 3 i0 (.int .i64 0) 1 8 Tryz.underlying22 hi hz0 hz1 hz2 rfl (by decide) _ _ _ rfl hown2 ⟨g, 0, none⟩ 0 0 ((M.drop k).map (.int .i64)) rfl hl0.out hnews3.out hone3.out (app_lens (by omega)) (by omega) hb2.size ?_; intro v3 w3 hown3 hgrow3 hnn3))
          have hb3 := grown_below hb2 hb2.size hown2 hgrow3
          clear hgrow3 hnn3 hown2
          have R : Hid (Fresh w w3 v3 (mk M x)) := by
            have e := mk_spec hxM.out (by have := HR.out; omega) A.out (fun h => by have := hex.out h; omega)
            have hrr := HR.out
            have hlen3 : (mk M x).length = k + 1 + 0 := by rw [← e, ins_len]; omega
            refine fresh_of (by rw [hlen3, ← e, ← ins3]; simpa using hown3) (fun h => ?_) hb3
            rw [h] at hown3
            rcases hown3.2 with ⟨_, h0⟩ | ⟨_, _, _, h0, _⟩
            · omega
            · cases h0
          clear hown3 hb3
          go_wp2
          go_ret
          exact ⟨_, rfl, R.out⟩
        · skip
          go_upto_region 7 with (first
            | (at_builtin; refine wpList_append_own _ rfl _ _ 22 rfl w.heap.size 3 i0 (.int .i64 0) 1 8 Tryz.underlying22 hi hz0 hz1 hz2 rfl (by decide) _ _ _ rfl (owns_empty (Nat.le_refl _)) ⟨g, 0, none⟩ k cap ((M.take k).map (.int .i64)) rfl hl1.out hnews1.out hone1.out (app_lens (by omega)) (by omega) (by simp) ?_; intro v1 w1 hown1 hgrow1 hnn1))
          have hb1 := grown_below ((Below.refl w.heap.size w).alloc (Nat.le_refl _) _) (by simp) (owns_empty (Nat.le_refl _)) hgrow1
          clear hgrow1 hnn1
          rw [Nat.zero_add] at hown1
          go_upto_region 8 with (first
            | (at_builtin; refine wpList_append_own _ rfl _ _ 22 rfl w.heap.size 3 i0 (.int .i64 0) 1 8 Tryz.underlying22 hi hz0 hz1 hz2 rfl (by decide) _ _ _ rfl (hown1.alloc _) ⟨w1.heap.size, 0, none⟩ 1 1 [.int .i64 x] rfl rfl (app_cell8 _ _ _) (app_one8 _ _) (app_len8 (by omega)) (by omega) (by have := hb1.size; simp; omega) ?_; intro v2 w2 hown2 hgrow2 hnn2))
          have hb2 := grown_below (hb1.alloc hb1.size _) (by have := hb1.size; simp; omega) hown1 hgrow2
          clear hgrow2 hnn2 hown1
          have hnews3 : Hid (∀ j u, ((M.drop k).map (Value.int .i64))[j]? = some u → w2.cell? ((⟨g, k, none⟩ : Addr).add j) = some u) := fun j u h => by rw [hdn.out] at h; simp at h
          go_wp2_with (first
            | (at_builtin; refine wpList_append_own _ rfl _ _ 22 rfl w.heap.size 3 i0 (.int .i64 0) 1 8 Tryz.underlying22 hi hz0 hz1 hz2 rfl (by decide) _ _ _ rfl hown2 ⟨g, k, none⟩ 0 (cap - k) ((M.drop k).map (.int .i64)) rfl hl0.out hnews3.out hone3.out (app_lens (by omega)) (by omega) hb2.size ?_; intro v3 w3 hown3 hgrow3 hnn3))
          have hb3 := grown_below hb2 hb2.size hown2 hgrow3
          clear hgrow3 hnn3 hown2
          have R : Hid (Fresh w w3 v3 (mk M x)) := by
            have e := mk_spec hxM.out (by have := HR.out; omega) A.out (fun h => by have := hex.out h; omega)
            have hrr := HR.out
            have hlen3 : (mk M x).length = k + 1 + 0 := by rw [← e, ins_len]; omega
            refine fresh_of (by rw [hlen3, ← e, ← ins3]; simpa using hown3) (fun h => ?_) hb3
            rw [h] at hown3
            rcases hown3.2 with ⟨_, h0⟩ | ⟨_, _, _, h0, _⟩
            · omega
            · cases h0
          clear hown3 hb3
          go_wp2
          go_ret
          exact ⟨_, rfl, R.out⟩

/-- The two, one behind the other. -/

theorem cs_none (w : World) (p : Option Addr) : Cs w p [] := ⟨fun i hi => absurd hi (by simp), by simp⟩
set_option maxHeartbeats 4000000 in
theorem marke_spec (ao : Option Addr) (cap : Nat) (x : Int) (w : World) (hx0 : 0 ≤ x) (hx7 : x ≤ 7) :
    Calls Tryz.prog 209 #[.slice ao 0 cap, .int .i64 x] w fun e w' => ∃ v, e = .returned v ∧ w'.ownsRow w.heap.size 3 1 v 1 [.int .i64 x] ∧ Below w.heap.size w w' := by
  obtain ⟨i0, hi, hz0, hz1, hz2⟩ := info_parts Tryz.info3
  have hhas := hide (has_any ao 0 cap (fun _ => 0) x w (by omega) (fun i hi => absurd hi (by omega)))
  have hE : Hid ((w.alloc (.cells #[] 3)).ownsRow w.heap.size 3 1 (.slice (some ⟨w.heap.size, 0, none⟩) 0 0) ([] : List Value).length ([] : List Value)) := rempty
  have HCs : Hid (∀ V p, Cs V p []) := fun V p => cs_none V p
  go_enter Tryz.func209, Tryz.ntmps209
  go_wp2_with fail
  refine hhas.out.mono ?_
  rintro e w' ⟨⟨b, rfl, hb0⟩, hw⟩
  obtain rfl : b = false := by
    cases b with
    | false => rfl
    | true => obtain ⟨i, hi, _⟩ := hb0.1 rfl; omega
  rw [hw]
  clear hw hb0 hhas
  go_wp2_with (go_at_call 51; refine (in_yes _ _ _ _ hx0 hx7).mono ?_; rintro e w9 ⟨rfl, hw9⟩; rw [hw9]; clear hw9)
  go_loop [5] (fun i => i = .int .i64 0) (fun i => 0)
  case atStart => rfl
  case round =>
    obtain rfl := hrel
    cases ao with
    | none =>
      go_upto_region 7 with (first
        | (at_builtin; refine wpList_append_cs rfl _ _ 22 rfl w.heap.size 3 i0 (.int .i64 0) 8 Tryz.underlying22 hi hz0 hz1 hz2 rfl _ [] rfl hE.out _ 0 _ [] rfl rfl (HCs.out _ _) (by unfold maxLen; simp) (by simp) (by simp) ?_; intro v1 w1 ho1 hg1))
      have ho1' : Hid (w1.ownsRow w.heap.size 3 1 v1 ([] : List Value).length ([] : List Value)) := ho1
      have hg1' : (w.alloc (.cells #[] 3)).grownBy w1 (Value.slice (some ⟨w.heap.size, 0, none⟩) 0 0).ownBlock := hg1
      have hb1 : Hid (Below w.heap.size w w1) := (bal1 w _).grown hg1' (by simp) (fun j hj => by simp [Value.ownBlock] at hj; omega)
      clear ho1 hg1 hg1' hE
      have hx1 : Hid (Cs (w1.alloc (.cells #[.int .i64 x] 3)) (some ⟨w1.heap.size, 0, none⟩) [.int .i64 x]) := ⟨fun i hi => ⟨w1.heap.size, 0, rfl, by simp, by
        obtain rfl : i = 0 := by simpa using hi
        exact mblk (Deep.blk_alloc_new _ _) rfl⟩, fun v hv => by rw [List.mem_singleton.1 hv]; rfl⟩
      go_upto_region 8 with (first
        | (at_builtin; refine wpList_append_cs rfl _ _ 22 rfl w.heap.size 3 i0 (.int .i64 0) 8 Tryz.underlying22 hi hz0 hz1 hz2 rfl _ [] rfl (owns_below ho1'.out (bal1 w1 _)) _ 1 _ [.int .i64 x] rfl rfl hx1.out (by unfold maxLen; simp) (by simp) (by have := hb1.out.size; simp; omega) ?_; intro v2 w2 ho2 hg2))
      have ho2' : Hid (w2.ownsRow w.heap.size 3 1 v2 ([.int .i64 x] : List Value).length ([.int .i64 x] : List Value)) := ho2
      have hg2' : (w1.alloc (.cells #[.int .i64 x] 3)).grownBy w2 v1.ownBlock := hg2
      have hb2 : Hid (Below w.heap.size w w2) := (hb1.out.alloc hb1.out.size _).grown hg2' (by have := hb1.out.size; simp; omega) (fun j hj => ((ho1'.out.lt j hj).1))
      clear ho2 hg2 hg2' hx1 ho1'
      go_wp2_with (first
        | (at_builtin; refine wpList_append_cs rfl _ _ 22 rfl w.heap.size 3 i0 (.int .i64 0) 8 Tryz.underlying22 hi hz0 hz1 hz2 rfl _ [.int .i64 x] rfl ho2'.out _ 0 _ [] rfl rfl (HCs.out _ _) (by unfold maxLen; simp) (by simp) hb2.out.size ?_; intro v3 w3 ho3 hg3))
      have hg3' : w2.grownBy w3 v2.ownBlock := hg3
      have HF : Hid (w3.ownsRow w.heap.size 3 1 v3 1 [.int .i64 x] ∧ Below w.heap.size w w3) := ⟨ho3, hb2.out.grown hg3' hb2.out.size (fun j hj => (ho2'.out.lt j hj).1)⟩
      clear ho3 hg3 hg3'
      go_wp2
      go_ret
      exact ⟨_, rfl, HF.out⟩
    | some ad =>
      go_upto_region 7 with (first
        | (at_builtin; refine wpList_append_cs rfl _ _ 22 rfl w.heap.size 3 i0 (.int .i64 0) 8 Tryz.underlying22 hi hz0 hz1 hz2 rfl _ [] rfl hE.out _ 0 _ [] rfl rfl (HCs.out _ _) (by unfold maxLen; simp) (by simp) (by simp) ?_; intro v1 w1 ho1 hg1))
      have ho1' : Hid (w1.ownsRow w.heap.size 3 1 v1 ([] : List Value).length ([] : List Value)) := ho1
      have hg1' : (w.alloc (.cells #[] 3)).grownBy w1 (Value.slice (some ⟨w.heap.size, 0, none⟩) 0 0).ownBlock := hg1
      have hb1 : Hid (Below w.heap.size w w1) := (bal1 w _).grown hg1' (by simp) (fun j hj => by simp [Value.ownBlock] at hj; omega)
      clear ho1 hg1 hg1' hE
      have hx1 : Hid (Cs (w1.alloc (.cells #[.int .i64 x] 3)) (some ⟨w1.heap.size, 0, none⟩) [.int .i64 x]) := ⟨fun i hi => ⟨w1.heap.size, 0, rfl, by simp, by
        obtain rfl : i = 0 := by simpa using hi
        exact mblk (Deep.blk_alloc_new _ _) rfl⟩, fun v hv => by rw [List.mem_singleton.1 hv]; rfl⟩
      go_upto_region 8 with (first
        | (at_builtin; refine wpList_append_cs rfl _ _ 22 rfl w.heap.size 3 i0 (.int .i64 0) 8 Tryz.underlying22 hi hz0 hz1 hz2 rfl _ [] rfl (owns_below ho1'.out (bal1 w1 _)) _ 1 _ [.int .i64 x] rfl rfl hx1.out (by unfold maxLen; simp) (by simp) (by have := hb1.out.size; simp; omega) ?_; intro v2 w2 ho2 hg2))
      have ho2' : Hid (w2.ownsRow w.heap.size 3 1 v2 ([.int .i64 x] : List Value).length ([.int .i64 x] : List Value)) := ho2
      have hg2' : (w1.alloc (.cells #[.int .i64 x] 3)).grownBy w2 v1.ownBlock := hg2
      have hb2 : Hid (Below w.heap.size w w2) := (hb1.out.alloc hb1.out.size _).grown hg2' (by have := hb1.out.size; simp; omega) (fun j hj => ((ho1'.out.lt j hj).1))
      clear ho2 hg2 hg2' hx1 ho1'
      go_wp2_with (first
        | (at_builtin; refine wpList_append_cs rfl _ _ 22 rfl w.heap.size 3 i0 (.int .i64 0) 8 Tryz.underlying22 hi hz0 hz1 hz2 rfl _ [.int .i64 x] rfl ho2'.out _ 0 _ [] rfl rfl (HCs.out _ _) (by unfold maxLen; simp) (by simp) hb2.out.size ?_; intro v3 w3 ho3 hg3))
      have hg3' : w2.grownBy w3 v2.ownBlock := hg3
      have HF : Hid (w3.ownsRow w.heap.size 3 1 v3 1 [.int .i64 x] ∧ Below w.heap.size w w3) := ⟨ho3, hb2.out.grown hg3' hb2.out.size (fun j hj => (ho2'.out.lt j hj).1)⟩
      clear ho3 hg3 hg3'
      go_wp2
      go_ret
      exact ⟨_, rfl, HF.out⟩
theorem ra_line {w w1 : World} {B T : Nat} {go bo : Option Addr} {gc bc k : Nat} {R : Nat → Option Addr × Nat} {g : List Int} {L : Nat → List Int} {p : Option Addr} {c : Nat} {M : List Int} (h : RA w B T (mrows go gc bo bc R g 3 L)) (hT : T ≤ w.heap.size) (hk : k < 3) (hb : Below w.heap.size w w1) (hn : RA w1 w.heap.size w1.heap.size [⟨3, p, c, ir M⟩]) (hB : B ≤ w.heap.size) :
    ∃ γ, bo = some ⟨γ, 0, none⟩ ∧ (B ≤ γ ∧ γ < T) ∧ w.cell? ⟨γ, k, none⟩ = some (.slice (R k).1 (L k).length (R k).2) ∧ SL .i64 w (R k).1 (L k).length (fun i => (L k).getD i 0) ∧ (w1.cell? ⟨γ, k, none⟩).isSome = true ∧ w1.frozen? ⟨γ, k, none⟩ = false ∧
      RA (w1.setCell ⟨γ, k, none⟩ (.slice p M.length c)) B w1.heap.size (mrows go gc bo bc (setr R k (p, c)) g 3 (updL L k M)) := by
  have ho : RwOk w B T ⟨22, bo, bc, outer R 3 L⟩ := h _ (List.mem_cons_of_mem _ (List.mem_cons_self ..))
  have hg : RwOk w B T ⟨3, go, gc, ir g⟩ := h _ (List.mem_cons_self ..)
  have hi : ∀ i, i < 3 → RwOk w B T ⟨3, (R i).1, (R i).2, ir (L i)⟩ := fun i hi => h _ (List.mem_cons_of_mem _ (List.mem_cons_of_mem _ (inner_mem hi)))
  have up : ∀ r, RwOk w B T r → RwOk w1 B w1.heap.size r := fun r hr => (hr.kept (fun j _ hj => hb.block j (by omega))).wide (Nat.le_refl _) (by have := hb.size; omega)
  obtain ⟨γ0, k1, k2, _, k4, _, _⟩ := wr_cell (i := k) ho (outer_get R 3 L k hk)
  obtain ⟨γ, g1, g2, ⟨cs, g3⟩, g4, g5, g6⟩ := wr_cell (i := k) (up _ ho) (outer_get R 3 L k hk)
  have e : γ = γ0 := by
    have k1' : bo = some ⟨γ0, 0, none⟩ := k1
    have g1' : bo = some ⟨γ, 0, none⟩ := g1
    rw [k1'] at g1'
    simpa using g1'.symm
  have hon : Only γ w1 (w1.setCell ⟨γ, k, none⟩ (.slice p M.length c)) := (Only.refl _ _).setCell _
  have int : ∀ r, r.t = 3 → RwOk w1 B w1.heap.size r → RwOk (w1.setCell ⟨γ, k, none⟩ (.slice p M.length c)) B w1.heap.size r := fun r ht hr =>
    ra_beside (rs := [r]) (fun s hs => by rw [List.mem_singleton.1 hs]; exact hr) g3 (fun s hs => by rw [List.mem_singleton.1 hs, ht]; exact (show (3 : Nat) ≠ 22 by decide)) hon r (by simp)
  refine ⟨γ, g1, by rw [e]; exact k2, by rw [e]; exact k4, (hi k hk).sl, by rw [g4]; rfl, g5, fun r hr => ?_⟩
  rcases List.mem_cons.1 hr with rfl | hr
  · exact int _ rfl (up _ hg)
  · rcases List.mem_cons.1 hr with rfl | hr
    · rw [← outer_set R L k hk]
      rcases g6 (.slice p M.length c) with ⟨h0, _, _⟩ | ⟨γ3, _, _, _, _, _, h3⟩
      · have hl : (outer R 3 L).length = 3 := outer_len _ _ _
        rw [show outer R 3 L = [] from h0] at hl
        cases hl
      · exact h3
    · obtain ⟨i, hi', rfl⟩ := List.mem_map.1 hr
      have hi3 := List.mem_range.1 hi'
      by_cases e2 : i = k
      · subst e2
        rw [setr_at, updL_at]
        exact int _ rfl ((hn _ (by simp)).wide hB (Nat.le_refl _))
      · rw [setr_ne _ _ _ e2, updL_ne _ _ _ e2]
        exact int _ rfl (up _ (hi i hi3))
theorem markl_spec (w : World) (B T : Nat) (ao : Option Addr) (cap : Nat) (M : List Int) (x : Int) (h : RwOk w B T ⟨3, ao, cap, ir M⟩) (hA : Asc M) (hx : 0 ≤ x ∧ x ≤ 7) :
    Calls Tryz.prog 209 #[.slice ao M.length cap, .int .i64 x] w fun e w' => ∃ p c, e = .returned (.slice p (mk M x).length c) ∧ RS w' w.heap.size w'.heap.size [⟨3, p, c, ir (mk M x)⟩] ∧ Below w.heap.size w w' := by
  cases M with
  | nil =>
    refine (marke_spec ao cap x w hx.1 hx.2).mono fun e w' ⟨v, h1, h2, h3⟩ => ?_
    obtain ⟨p, c, rfl, hr⟩ := int_row (M := [x]) h2
    exact ⟨p, c, h1, hr, h3⟩
  | cons y M =>
    rcases h.2 with h0 | ⟨g, e, hg, c, hc, hs, hf⟩
    · cases h0
    · have e' : ao = some ⟨g, 0, none⟩ := e
      rw [e']
      have hl : (ir (y :: M)).length = (y :: M).length := ir_len _
      have hm : mkr (y :: M) x = mk (y :: M) x := by unfold mkr; rw [if_neg (by omega)]
      refine (markr_spec g cap (y :: M).length (y :: M) x w rfl (Array.getElem?_eq_some_iff.1 hc).1 (by have := h.1; rw [show (Rw.mk 3 ao cap (ir (y :: M))).vs.length = _ from hl] at this; exact this) (fun j hj => mblk hc ((hf j (by rw [show (Rw.mk 3 ao cap (ir (y :: M))).vs.length = _ from hl]; exact hj)).trans (ir_get _ _ hj))) hA).mono fun e w' ⟨v, h1, h2⟩ => ?_
      rw [hm] at h2
      obtain ⟨p, c, rfl, hr⟩ := int_row h2.1
      exact ⟨p, c, h1, hr, h2.2.2⟩
set_option maxHeartbeats 4000000 in
theorem putk_spec (ad : Addr) (cap : Nat) (M : List Int) (k : Nat) (x : Int) (w : World) (hk : k < M.length) (hn : M.length ≤ 1048576) (hs : SL .i64 w (some ad) M.length (fun i => M.getD i 0)) :
    Calls Tryz.prog 208 #[.slice (some ad) M.length cap, .int .i64 (k : Int), .int .i64 x] w fun e w' => ∃ p c, e = .returned (.slice p (M.set k x).length c) ∧ RS w' w.heap.size w'.heap.size [⟨3, p, c, ir (M.set k x)⟩] ∧ Below w.heap.size w w' := by
  obtain ⟨i0, hi, hz0, hz1, hz2⟩ := info_parts Tryz.info3
  have hE : Hid ((w.alloc (.cells #[] 3)).ownsRow w.heap.size 3 1 (.slice (some ⟨w.heap.size, 0, none⟩) 0 0) ([] : List Value).length ([] : List Value)) := rempty
  have hS : Hid (Cs (w.alloc (.cells #[] 3)) (some ad) (ir M)) := (Cs.ints hs).below (bal1 _ _)
  have hst : Hid (∀ v1 w1, w1.ownsRow w.heap.size 3 1 v1 (([] : List Value).length + M.length) (([] : List Value) ++ ir M) → (w.alloc (.cells #[] 3)).grownBy w1 (Value.slice (some ⟨w.heap.size, 0, none⟩) 0 0).ownBlock → ∃ p c, v1 = .slice p M.length c ∧ RS w1 w.heap.size w1.heap.size [⟨3, p, c, ir M⟩] ∧ Below w.heap.size w w1) := fun v1 w1 h1 h2 => by
    have h1' : w1.ownsRow w.heap.size 3 1 v1 (ir M).length (ir M) := by rw [ir_len]; simpa using h1
    obtain ⟨p, c, e, hr⟩ := rs_owns h1'
    rw [ir_len] at e
    exact ⟨p, c, e, hr, (bal1 w _).grown h2 (by simp) (fun j hj => by simp [Value.ownBlock] at hj; omega)⟩
  have HK := hide hk
  have hk0 : (0 : Int) ≤ (k : Int) := by omega
  have hk1 : (k : Int) < (M.length : Int) := by omega
  have HE : Hid ((M.set k x).length = M.length) := List.length_set
  have HIR : Hid ((ir M).length = M.length) := ir_len M
  generalize hml : M.length = m at *
  have HML := hide hml
  clear hs hk hml
  go_enter Tryz.func208, Tryz.ntmps208
  go_wp2_with (first
    | (at_builtin; refine wpList_append_cs rfl _ _ 22 rfl w.heap.size 3 i0 (.int .i64 0) 8 Tryz.underlying22 hi hz0 hz1 hz2 rfl _ [] rfl hE.out _ m _ (ir M) HIR.out rfl hS.out (by unfold maxLen; simp; omega) (by simp; omega) (by simp) ?_; intro v1 w1 ho1 hg1; obtain ⟨p, c, rfl, r1, b1⟩ := hst.out v1 w1 ho1 hg1; clear ho1 hg1 hst)
    | (go_at_call 51; fail))
  obtain ⟨γ, rfl, g2, _, g4, g5, g6⟩ := wr_cell (i := k) r1.head (ir_get M k (by rw [HML.out]; exact HK.out))
  have hr2 := RS.wr (xs := []) (ys := []) r1 (g6 (.int .i64 x))
  have hb2 : Below w.heap.size w (w1.setCell ⟨γ, k, none⟩ (.int .i64 x)) := b1.trans (((Only.refl γ w1).setCell _).1.mono g2.1)
  have hsz := ((Only.refl γ w1).setCell (i := k) (.int .i64 x)).2.1
  have HF : Hid (RS (w1.setCell ⟨γ, k, none⟩ (.int .i64 x)) w.heap.size (w1.setCell ⟨γ, k, none⟩ (.int .i64 x)).heap.size [⟨3, some ⟨γ, 0, none⟩, c, ir (M.set k x)⟩] ∧ Below w.heap.size w (w1.setCell ⟨γ, k, none⟩ (.int .i64 x))) := by
    refine ⟨?_, hb2⟩
    rw [hsz, ← ir_set]
    exact hr2
  clear r1 b1 g6 hr2 hb2 hsz hE hS
  go_wp2_with (go_at_call 51; refine (in_yes _ _ _ _ (by omega) (by omega)).mono ?_; rintro e w' ⟨rfl, rfl⟩)
  go_ret
  exact ⟨_, c, (by rw [HE.out]; rfl), HF.out.1, HF.out.2⟩
/-- The node at its block, the copy of its meta at block Y, its rows from B2 on. -/
def PSt (w V : World) (B T1 B2 Y : Nat) (a1 : Na) (d1 : Nd) (am : Na) (d : Nd) (L : Nat → List Int) : Prop :=
  Below w.heap.size w V ∧ NB V w.heap.size 31 a1 d1 ∧ NB V (w.heap.size + 1) 31 Na.zero Nd.zero ∧ MBk V Y 25 am d ∧ RN V B T1 a1 d1 ∧ (w.heap.size + 1 < B2 ∧ T1 ≤ B2 ∧ B2 ≤ Y) ∧ ∃ R, RA V B2 V.heap.size (mrows am.go am.gc am.bo am.bc R d.g 3 L)
theorem PSt.b {w V V' : World} {B T1 B2 Y : Nat} {a1 am : Na} {d1 d : Nd} {L : Nat → List Int} (h : PSt w V B T1 B2 Y a1 d1 am d L) (hb : Below V.heap.size V V') : PSt w V' B T1 B2 Y a1 d1 am d L := by
  obtain ⟨h1, h2, h3, h4, h5, h6, R, h7⟩ := h
  exact ⟨h1.trans (hb.mono h1.size), h2.b hb, h3.b hb, h4.b hb, h5.below hb h5.1.2, h6, R, (h7.kept (fun j _ hj => hb.block j hj)).wide (Nat.le_refl _) hb.size⟩
theorem PSt.line {w V : World} {B T1 B2 Y k : Nat} {a1 am : Na} {d1 d : Nd} {L : Nat → List Int} (h : PSt w V B T1 B2 Y a1 d1 am d L) (hn : d.n = 3) (hk : k < 3) :
    ∃ (γ : Nat) (r : Option Addr × Nat), V.cell? ⟨Y, 1, none⟩ = some (.slice (some ⟨γ, 0, none⟩) 3 am.bc) ∧ V.cell? ⟨γ, k, none⟩ = some (.slice r.1 (L k).length r.2) ∧ RwOk V B2 V.heap.size ⟨3, r.1, r.2, ir (L k)⟩ ∧
      ∀ (w5 : World) (p : Option Addr) (c : Nat) (M : List Int), Below V.heap.size V w5 → RS w5 V.heap.size w5.heap.size [⟨3, p, c, ir M⟩] → ((w5.cell? ⟨γ, k, none⟩).isSome = true ∧ w5.frozen? ⟨γ, k, none⟩ = false) ∧ w5.cell? ⟨Y, 1, none⟩ = some (.slice (some ⟨γ, 0, none⟩) 3 am.bc) ∧
        PSt w (w5.setCell ⟨γ, k, none⟩ (.slice p M.length c)) B T1 B2 Y a1 d1 am d (updL L k M) ∧ (w5.setCell ⟨γ, k, none⟩ (.slice p M.length c)).cell? ⟨Y, 1, none⟩ = some (.slice (some ⟨γ, 0, none⟩) 3 am.bc) := by
  obtain ⟨h1, h2, h3, h4, h5, h6, R, h7⟩ := h
  have hY := h4.lt
  have hBV : B2 ≤ V.heap.size := by omega
  have hout : RwOk V B2 V.heap.size ⟨22, am.bo, am.bc, outer R 3 L⟩ := h7 _ (List.mem_cons_of_mem _ (List.mem_cons_self ..))
  obtain ⟨γ, g1, g2, ⟨cs, g3⟩, g4, _, _⟩ := wr_cell (i := k) hout (outer_get R 3 L k hk)
  have g1' : am.bo = some ⟨γ, 0, none⟩ := g1
  have hne : Y ≠ γ := fun e => by
    rw [← e, show V.heap[Y]? = _ from h4] at g3
    simp only [Option.some.injEq, Obj.cells.injEq] at g3
    exact absurd g3.2.1 (show (25 : Nat) ≠ 22 by decide)
  have hmd : ∀ U : World, MBk U Y 25 am d → U.cell? ⟨Y, 1, none⟩ = some (.slice (some ⟨γ, 0, none⟩) 3 am.bc) := fun U hU => by
    have e1 : U.cell? ⟨Y, 1, none⟩ = some (.slice am.bo d.n am.bc) := mblk hU rfl
    rw [g1', hn] at e1
    exact e1
  refine ⟨γ, R k, hmd V h4, g4, h7 _ (List.mem_cons_of_mem _ (List.mem_cons_of_mem _ (inner_mem hk))), fun w5 p c M hb hr => ?_⟩
  obtain ⟨γ2, k1, k2, _, _, k6, k7, k8⟩ := ra_line h7 (Nat.le_refl _) hk hb hr.ra hBV
  have e : γ2 = γ := by rw [g1'] at k1; simpa using k1.symm
  rw [e] at k6 k7 k8 k2
  have hon : Only γ w5 (w5.setCell ⟨γ, k, none⟩ (.slice p M.length c)) := (Only.refl _ _).setCell _
  have h4' := (h4.b hb).far hon hne
  refine ⟨⟨k6, k7⟩, hmd w5 (h4.b hb), ⟨(h1.trans (hb.mono h1.size)).trans (hon.1.mono (by omega)), (h2.b hb).far hon (by omega), (h3.b hb).far hon (by omega), h4', (h5.below hb h5.1.2).only hon (.inl (by omega)), h6, setr R k (p, c), by rw [hon.2.1]; exact k8⟩, hmd _ h4'⟩
/-- A node's rows with another meta's. -/
theorem rn_meta {V : World} {B T : Nat} {a am : Na} {d dm : Nd} {R' : Nat → Option Addr × Nat} (h : RN V B T a d) (hm : RA V B V.heap.size (mrows am.go am.gc am.bo am.bc R' dm.g dm.n dm.L)) :
    RN V B V.heap.size { a with go := am.go, gc := am.gc, bo := am.bo, bc := am.bc } { d with g := dm.g, n := dm.n, L := dm.L, fi := dm.fi, ol := dm.ol, he := dm.he, la := dm.la } := by
  have h' : RN V B V.heap.size a d := h.wider (Nat.le_refl _) h.1.2 (Nat.le_refl _)
  have h0 := h'
  obtain ⟨h1, h2, h3, R, Q, h5⟩ := h0
  exact rn_keep (w := V) (w1 := V) (w2 := V) (A := d.A) (C := d.C) (bA := a.aA) (cA := a.cA) (bB := a.aB) (cB := a.cB) (am := am) (dm := dm) (R' := R') h' (Nat.le_refl _) h1.1 (Below.refl _ _) (Below.refl _ _) hm (fun r hr => h5 r (by
    simp only [List.mem_cons, List.not_mem_nil, or_false] at hr
    simp only [nrows, List.mem_cons, List.mem_append, List.not_mem_nil, or_false]
    rcases hr with e | e
    · exact .inr (.inr (.inl e))
    · exact .inr (.inr (.inr (.inl e))))) h2.1 h2.2 h3
set_option maxHeartbeats 100000000 in
theorem l8put_s (B j : Nat) (a : Na) (d : Nd) (f v : Int) (w : World) (hr : RN w B w.heap.size a d) (hd : NBd d) (hn3 : d.n = 3) (hA : ∀ i, i < 3 → Asc (d.L i)) (hj : j < 8) (hl : d.im.length = 8) :
    Calls Tryz.prog 147 #[nv a d, .int .i64 f, .int .i64 (j : Int), .int .i64 v] w fun e w' => ∃ b, e = .returned (nv b { d with im := d.im.set j v, L := mfo d.id f (j : Int) d.L 3 }) ∧ RN w' B w'.heap.size b { d with im := d.im.set j v, L := mfo d.id f (j : Int) d.L 3 } ∧ Below w.heap.size w w' := by
  obtain ⟨W, hW⟩ : ∃ W, W = (w.alloc (.cells (nds a d) 31)).alloc (.cells (nds Na.zero Nd.zero) 31) := ⟨_, rfl⟩
  have T0 : Hid (CS w W a d []) := by rw [hW]; exact cs_new w a d
  have HR : Hid (RN w B w.heap.size a d) := hr
  have HV : Hid (∀ V, Below w.heap.size w V → NV V a d) := fun V hb => hr.nv.below hb
  have HD := hide hd
  have HN3 := hide hn3
  have HA := hide hA
  have HJ : Hid (0 ≤ (j : Int) ∧ (j : Int) ≤ 7) := ⟨by omega, by omega⟩
  obtain ⟨ib, io, e1, _, _⟩ := hr.nv.1.1 j (by omega)
  have HP : Hid (∀ V, Below w.heap.size w V → Calls Tryz.prog 208 #[.slice a.im d.im.length a.imc, .int .i64 (j : Int), .int .i64 v] V fun e w' => ∃ p c, e = .returned (.slice p (d.im.set j v).length c) ∧ RS w' V.heap.size w'.heap.size [⟨3, p, c, ir (d.im.set j v)⟩] ∧ Below V.heap.size V w') := fun V hb => by
    have hs := (hr.nv.below hb).1.1
    rw [e1] at hs ⊢
    exact putk_spec ⟨ib, io, none⟩ a.imc d.im j v V (by omega) (by omega) hs
  clear hr hd hn3 hA hj hl e1
  unfold nv
  unfold nds Na.zero Nd.zero at hW
  dsimp only [List.length_nil] at hW
  unfold nds
  go_enter Tryz.func147, Tryz.ntmps147
  go_upto_region 1 with fail
  rw [← hW]
  clear hW
  generalize Value.agg #[.int .i64 d.id, .bool d.up, .bool d.pr, .slice a.im d.im.length a.imc, .slice a.go d.g.length a.gc, .slice a.bo d.n a.bc, .bool d.fi, .bool d.ol, .bool d.he, .int .i64 d.la, .slice a.aA d.A.length a.cA, .slice a.aB d.C.length a.cB, .slice a.co d.co.length a.coc, .slice a.so d.m a.sc, .slice a.cp d.cp.length a.cpc, .slice a.wt d.wt.length a.wtc] = vn at *
  have p3 : W.cell? ⟨w.heap.size, 3, none⟩ = some (.slice a.im d.im.length a.imc) := T0.out.2.1.cells.2.2.2.1
  go_wp2_with fail
  refine (HP.out W T0.out.1).mono ?_
  rintro e w1 ⟨p, c, rfl, r1, b1⟩
  have q3 : w1.cell? ⟨w.heap.size, 3, none⟩ = some (.slice a.im d.im.length a.imc) := (T0.out.2.1.b b1).cells.2.2.2.1
  have zz := (T0.out.2.1.b b1).froz
  obtain ⟨w2, hw2⟩ : ∃ w2, w2 = w1.setCell ⟨w.heap.size, 3, none⟩ (.slice p d.im.length c) := ⟨_, rfl⟩
  obtain ⟨a1, ha1⟩ : ∃ a1 : Na, a1 = { a with im := p, imc := c } := ⟨_, rfl⟩
  obtain ⟨d1, hd1⟩ : ∃ d1 : Nd, d1 = { d with im := d.im.set j v } := ⟨_, rfl⟩
  have H2 : Hid (Below w.heap.size w w2 ∧ NB w2 w.heap.size 31 a1 d1 ∧ NB w2 (w.heap.size + 1) 31 Na.zero Nd.zero ∧ RN w2 B w2.heap.size a1 d1 ∧ w.heap.size + 1 < w2.heap.size) := by
    have e : (d.im.set j v).length = d.im.length := List.length_set
    have ho : Only w.heap.size w1 w2 := by rw [hw2]; exact (Only.refl _ _).setCell _
    have c1 := T0.out.1.trans (b1.mono T0.out.1.size)
    have hz := T0.out.2.2.2.1
    have hnb : NB w1 w.heap.size 31 a d := T0.out.2.1.b b1
    refine ⟨c1.trans ho.1, ?_, (T0.out.2.2.1.b b1).far ho (by omega), ?_, by rw [ho.2.1]; have := b1.size; omega⟩
    · rw [hw2, ha1, hd1, ← e]
      exact nset (i := 3) (v := .slice p (d.im.set j v).length c) hnb rfl
    · rw [ho.2.1]
      refine rn_beside ?_ hnb ho
      obtain ⟨⟨h1, h2⟩, h3, h4, R, Q, h5⟩ := HR.out
      rw [ha1, hd1]
      refine ⟨⟨by have := c1.size; omega, Nat.le_refl _⟩, h3, h4, R, Q, fun r hr' => ?_⟩
      have k5 : ∀ r ∈ nrows a R Q d, RwOk w1 B w1.heap.size r := fun r hr => ((h5 r hr).kept (fun j _ hj => c1.block j hj)).wide (Nat.le_refl _) c1.size
      rcases List.mem_cons.1 hr' with rfl | hr'
      · exact r1.head.wide (by have := T0.out.1.size; omega) (Nat.le_refl _)
      · exact k5 r (List.mem_cons_of_mem _ hr')
  clear r1 b1 HP T0 HR
  go_upto_region 2 with fail
  rw [← hw2]
  clear hw2 q3 zz p3
  have HE : Hid (a1.go = a.go ∧ a1.gc = a.gc ∧ a1.bo = a.bo ∧ a1.bc = a.bc ∧ d1 = { d with im := d.im.set j v }) := by rw [ha1]; exact ⟨rfl, rfl, rfl, rfl, hd1⟩
  have HMV : Hid (mvv a1 d1 = .agg #[.slice a.go d.g.length a.gc, .slice a.bo d.n a.bc, .bool d.fi, .bool d.ol, .bool d.he, .int .i64 d.la]) := by rw [ha1, hd1]; rfl
  clear ha1 hd1
  as_aux_lemma =>
    go_wp2_with (refine ld_nm rfl _ rfl w.heap.size rfl H2.out.2.1 ?_)
    rw [HMV.out]
    refine (copy5g a.go a.bo a.gc a.bc d.n d.g d.L d.fi d.ol d.he d.la w2 HD.out.2.1 (HV.out _ H2.out.1).2.1).mono ?_
    rintro e w3 ⟨go', bo', gc', bc', rfl, ⟨R, ra⟩, c3⟩
    obtain ⟨am, ham⟩ : ∃ am : Na, am = { a with go := go', gc := gc', bo := bo', bc := bc' } := ⟨_, rfl⟩
    obtain ⟨W3, hW3⟩ : ∃ W3, W3 = w3.alloc (.cells #[.slice am.go d.g.length am.gc, .slice am.bo d.n am.bc, .bool d.fi, .bool d.ol, .bool d.he, .int .i64 d.la] 25) := ⟨_, rfl⟩
    have H3 : Hid (PSt w W3 B w2.heap.size (w2.heap.size + 3) w3.heap.size a1 d1 am d (mfo d.id f (j : Int) d.L 0)) := by
      have bx := bal1 w3 (.cells #[.slice am.go d.g.length am.gc, .slice am.bo d.n am.bc, .bool d.fi, .bool d.ol, .bool d.he, .int .i64 d.la] 25)
      have hlt3 : w2.heap.size + 3 ≤ w3.heap.size := by
        rw [HN3.out] at ra
        have h := ra _ (List.mem_cons_of_mem _ (List.mem_cons_self ..))
        obtain ⟨γ, _, hg, _⟩ := wr_cell (i := 0) h (outer_get R 3 d.L 0 (by omega))
        omega
      have ra2 : RA w3 (w2.heap.size + 3) w3.heap.size (mrows am.go am.gc am.bo am.bc R d.g 3 d.L) := by rw [HN3.out] at ra; rw [ham]; exact ra
      rw [mfo_0, hW3]
      refine ⟨(H2.out.1.trans (c3.mono H2.out.1.size)).trans (bx.mono (by have := H2.out.1.size; have := c3.size; omega)), (H2.out.2.1.b c3).b bx, (H2.out.2.2.1.b c3).b bx, MBk.new _ _ _ _, (H2.out.2.2.2.1.below c3 (Nat.le_refl _)).below bx c3.size, ⟨by have := H2.out.2.2.2.2; omega, by omega, hlt3⟩, R, ?_⟩
      exact (ra2.kept (fun j _ hj => bx.block j hj)).wide (Nat.le_refl _) bx.size
    clear ra c3 H2
    have hW3' : W3 = w3.alloc (.cells #[.slice go' d.g.length gc', .slice bo' d.n bc', .bool d.fi, .bool d.ol, .bool d.he, .int .i64 d.la] 25) := by rw [hW3, ham]
    go_upto_region 3 with fail
    rw [← hW3']
    clear hW3 hW3' ham
    generalize w3.heap.size = Y at *
    generalize w2.heap.size + 3 = B2 at *
    generalize w2.heap.size = T1 at *
    as_aux_lemma =>
      go_wp2_with fail
      go_loopw [10] (fun i wr => ∃ k : Nat, k ≤ 3 ∧ i = .int .i64 k ∧ Hid (PSt w wr B T1 B2 Y a1 d1 am d (mfo d.id f (j : Int) d.L k))) (fun i _ => 3 - (intOf i).toNat)
      case atStart => exact ⟨0, by omega, rfl, H3.out⟩
      case round =>
        obtain ⟨k, hk, rfl, HI⟩ := hrel
        clear H3
        by_cases hlt : k < 3
        · have hlt2 : (k : Int) < 3 := by omega
          have p0 : wr.cell? ⟨w.heap.size, 0, none⟩ = some (.int .i64 d.id) := by
            have h := HI.out.2.1.cells.1
            rw [HE.out.2.2.2.2] at h
            exact h
          by_cases hf : (k : Int) = f
          · have hfe : ((k : Int) == f) = true := by simpa using hf
            go_upto_region 7 with fail
            clear p0 hfe
            have hps := HI.out.b (Below.drawn (Below.refl wr.heap.size wr) 1 : Below wr.heap.size wr wr.drew)
            obtain ⟨γ, r, cX1, g4, hrw, hln⟩ := PSt.line hps HN3.out hlt
            rw [mfo_k] at g4 hrw
            have g4b : wr.cell? ⟨γ, k, none⟩ = some (.slice r.1 (d.L k).length r.2) := g4
            have HLN := hide hln
            have HML : Hid (kept (fun i => (d.L k).getD i 0) (j : Int) (d.L k).length = lnm d.id f (j : Int) d.L k) := (show _ = _ from (if_pos hf).symm)
            have HC : Hid (Calls Tryz.prog 111 #[.slice r.1 (d.L k).length r.2, .int .i64 (j : Int)] wr.drew fun e w' => ∃ p c, e = .returned (.slice p (kept (fun i => (d.L k).getD i 0) (j : Int) (d.L k).length).length c) ∧ RS w' wr.drew.heap.size w'.heap.size [⟨3, p, c, ir (kept (fun i => (d.L k).getD i 0) (j : Int) (d.L k).length)⟩] ∧ Below wr.drew.heap.size wr.drew w') := (clear_spec r.1 (d.L k).length r.2 (fun i => (d.L k).getD i 0) (j : Int) wr.drew (by have := (HA.out k hlt).len; omega) hrw.sl).mono fun e w' ⟨v, h1, h2, h3⟩ => by
                obtain ⟨p, c, rfl, hr⟩ := int_row h2
                exact ⟨p, c, h1, hr, h3⟩
            have hk0 : (0 : Int) ≤ (k : Int) := by omega
            clear hps hrw hln HI
            clear hf
            refine wp_region_held_drew (S := (fun w' => w'.cell? ⟨Y, 1, none⟩ = some (.slice (some ⟨γ, 0, none⟩) 3 am.bc))) (by kernel_rfl) ?_ (fun hHeld => ?_)
            · exact cX1
            refine wpAnyH_take (i := 0) (oi := { dst := some 27, op := Op.fieldAddr 25 (Operand.tmp 9) 1, type := 0, pos := "l08_node.go:114", after := #[], guard := none }) (v := ?_) rfl (by kernel_rfl) (by kernel_rfl) (by kernel_rfl) (fun _ _ _ h => h) (Or.inl ⟨by rfl, ?_⟩) (by assumption) ?_
            rotate_left 1
            · (intro wq hSw; (try dsimp only at hSw); go_simp; try with_reducible rfl)
            try simp only [Act.put, ly1, ly2, ly3]
            refine wpAnyH_take (i := 1) (oi := { dst := some 28, op := Op.load 23 (Operand.tmp 27), type := 23, pos := "l08_node.go:114", after := #[{ on := 0, ground := Ground.data }], guard := none }) (v := ?_) rfl (by kernel_rfl) (by kernel_rfl) (by kernel_rfl) (fun _ _ _ h => h) (Or.inl ⟨by rfl, ?_⟩) (by assumption) ?_
            rotate_left 1
            · (intro wq hSw; (try dsimp only at hSw); go_simp; try with_reducible rfl)
            try simp only [Act.put, ly1, ly2, ly3]
            refine wpAnyH_take (i := 2) (oi := { dst := some 29, op := Op.move (Operand.tmp 10), type := 3, pos := "l08_node.go:114", after := #[], guard := none }) (v := ?_) rfl (by kernel_rfl) (by kernel_rfl) (by kernel_rfl) (fun _ _ _ h => h) (Or.inl ⟨by rfl, ?_⟩) (by assumption) ?_
            rotate_left 1
            · (intro wq hSw; (try dsimp only at hSw); go_simp; try with_reducible rfl)
            try simp only [Act.put, ly1, ly2, ly3]
            refine wpAnyH_take (i := 3) (oi := { dst := some 30, op := Op.fieldAddr 25 (Operand.tmp 9) 1, type := 0, pos := "l08_node.go:114", after := #[], guard := none }) (v := ?_) rfl (by kernel_rfl) (by kernel_rfl) (by kernel_rfl) (fun _ _ _ h => h) (Or.inl ⟨by rfl, ?_⟩) (by assumption) ?_
            rotate_left 1
            · (intro wq hSw; (try dsimp only at hSw); go_simp; try with_reducible rfl)
            try simp only [Act.put, ly1, ly2, ly3]
            refine wpAnyH_take (i := 4) (oi := { dst := some 31, op := Op.load 23 (Operand.tmp 30), type := 23, pos := "l08_node.go:114", after := #[{ on := 3, ground := Ground.data }], guard := none }) (v := ?_) rfl (by kernel_rfl) (by kernel_rfl) (by kernel_rfl) (fun _ _ _ h => h) (Or.inl ⟨by rfl, ?_⟩) (by assumption) ?_
            rotate_left 1
            · (intro wq hSw; (try dsimp only at hSw); go_simp; try with_reducible rfl)
            try simp only [Act.put, ly1, ly2, ly3]
            refine wpAnyH_take (i := 5) (oi := { dst := some 32, op := Op.move (Operand.tmp 10), type := 3, pos := "l08_node.go:114", after := #[], guard := none }) (v := ?_) rfl (by kernel_rfl) (by kernel_rfl) (by kernel_rfl) (fun _ _ _ h => h) (Or.inl ⟨by rfl, ?_⟩) (by assumption) ?_
            rotate_left 1
            · (intro wq hSw; (try dsimp only at hSw); go_simp; try with_reducible rfl)
            try simp only [Act.put, ly1, ly2, ly3]
            refine wpAnyH_take (i := 6) (oi := { dst := some 33, op := Op.indexAddr 23 (Operand.tmp 31) (Operand.tmp 32), type := 0, pos := "l08_node.go:114", after := #[{ on := 4, ground := Ground.data }, { on := 5, ground := Ground.data }], guard := none }) (v := ?_) rfl (by kernel_rfl) (by kernel_rfl) (by kernel_rfl) (fun _ _ _ h => h) (Or.inl ⟨by rfl, ?_⟩) (by assumption) ?_
            rotate_left 1
            · (intro wq hSw; (try dsimp only at hSw); go_simp; try with_reducible rfl)
            try simp only [Act.put, ly1, ly2, ly3]
            refine wpAnyH_take (i := 8) (oi := { dst := some 35, op := Op.move (Operand.tmp 2), type := 3, pos := "l08_node.go:114", after := #[], guard := none }) (v := ?_) rfl (by kernel_rfl) (by kernel_rfl) (by kernel_rfl) (fun _ _ _ h => h) (Or.inl ⟨by rfl, ?_⟩) (by assumption) ?_
            rotate_left 1
            · (intro wq hSw; (try dsimp only at hSw); go_simp; try with_reducible rfl)
            try simp only [Act.put, ly1, ly2, ly3]
            refine wpAnyH_ready (rs := [7]) (by kernel_rfl) (by simp) ?_
            refine AllReadyH.cons (o := { dst := some 34, op := Op.load 22 (Operand.tmp 33), type := 22, pos := "l08_node.go:114", after := #[{ on := 6, ground := Ground.data }], guard := none }) rfl (fun K hK => ?_) AllReadyH.nil
            go_simp
            refine hK.out _ _ ?_ (fun hHeld => ?_)
            · exact cX1
            clear hK K
            try simp only [Act.put, ly1, ly2, ly3]
            clear g4 g4b
            refine wpAnyH_ready (rs := [9]) (by kernel_rfl) (by simp) ?_
            refine AllReadyH.cons (o := { dst := some 36, op := Op.call { callee := Callee.value (Operand.func 111), args := #[Operand.tmp 34, Operand.tmp 35], argTypes := #[22, 3] }, type := 22, pos := "l08_node.go:114", after := #[{ on := 7, ground := Ground.data }, { on := 8, ground := Ground.data }], guard := none }) rfl (fun K hK => ?_) AllReadyH.nil
            go_simp
            refine HC.out.mono ?_
            rintro e w5 ⟨p, c, rfl, r1, b1⟩
            obtain ⟨⟨hs1, hz1⟩, cX2, hps, cX3⟩ := HLN.out w5 _ _ _ b1 r1
            obtain ⟨u1, hu1⟩ := Option.isSome_iff_exists.1 hs1
            have HF := hide hps
            clear hs1 hps r1 b1
            generalize kept (fun i => (d.L k).getD i 0) (j : Int) (d.L k).length = M at *
            go_wp2_with fail
            refine hK.out _ _ ?_ (fun hHeld => ?_)
            · exact cX2
            clear hK K
            try simp only [Act.put, ly1, ly2, ly3]
            refine wpAnyH_take (i := 10) (oi := { dst := some 37, op := Op.indexAddr 23 (Operand.tmp 28) (Operand.tmp 29), type := 0, pos := "l08_node.go:114", after := #[{ on := 1, ground := Ground.data }, { on := 2, ground := Ground.data }, { on := 0, ground := Ground.phase }, { on := 1, ground := Ground.phase }, { on := 2, ground := Ground.phase }, { on := 3, ground := Ground.phase }, { on := 4, ground := Ground.phase }, { on := 5, ground := Ground.phase }, { on := 6, ground := Ground.phase }, { on := 7, ground := Ground.phase }, { on := 8, ground := Ground.phase }, { on := 9, ground := Ground.phase }], guard := none }) (v := ?_) rfl (by kernel_rfl) (by kernel_rfl) (by kernel_rfl) (fun _ _ _ h => h) (Or.inl ⟨by rfl, ?_⟩) (by assumption) ?_
            rotate_left 1
            · (intro wq hSw; (try dsimp only at hSw); go_simp; try with_reducible rfl)
            try simp only [Act.put, ly1, ly2, ly3]
            refine wpAnyH_ready (rs := [11]) (by kernel_rfl) (by simp) ?_
            refine AllReadyH.cons (o := { dst := none, op := Op.store 22 (Operand.tmp 37) (Operand.tmp 36), type := 0, pos := "l08_node.go:114", after := #[{ on := 10, ground := Ground.data }, { on := 9, ground := Ground.data }, { on := 9, ground := Ground.chain }, { on := 0, ground := Ground.phase }, { on := 1, ground := Ground.phase }, { on := 2, ground := Ground.phase }, { on := 3, ground := Ground.phase }, { on := 4, ground := Ground.phase }, { on := 5, ground := Ground.phase }, { on := 6, ground := Ground.phase }, { on := 7, ground := Ground.phase }, { on := 8, ground := Ground.phase }, { on := 9, ground := Ground.phase }], guard := none }) rfl (fun K hK => ?_) AllReadyH.nil
            go_simp
            refine hK.out _ _ ?_ (fun hHeld => ?_)
            · exact cX3
            clear hK K
            try simp only [Act.put, ly1, ly2, ly3]
            refine wpAnyH_done (by kernel_rfl) ?_ _
            clear cX1 cX2 cX3 hu1 hz1
            have H1 : Hid (PSt w (w5.setCell ⟨γ, k, none⟩ (.slice p M.length c)) B T1 B2 Y a1 d1 am d (mfo d.id f (j : Int) d.L (k + 1))) := by rw [← mfo_step d.id f (j : Int) d.L k M HML.out]; exact HF.out
            clear HF HC HLN
            go_wp2_with fail
            go_roundw
            case rel => exact ⟨k + 1, by omega, by go_num, H1.out⟩
            case measure => simp [intOf]; omega
          · have hfe : ((k : Int) == f) = false := by simpa using hf
            by_cases hi : (k : Int) = d.id
            · have hie : ((k : Int) == d.id) = true := by simpa using hi
              have H1 : Hid (PSt w wr B T1 B2 Y a1 d1 am d (mfo d.id f (j : Int) d.L (k + 1))) := by rw [← mfo_same d.id f (j : Int) d.L k (by unfold lnm; rw [if_neg hf, if_pos hi])]; exact HI.out
              clear hf hi HI
              go_wp2
              go_roundw
              case rel => exact ⟨k + 1, by omega, by go_num, H1.out⟩
              case measure => simp [intOf]; omega
            · have hie : ((k : Int) == d.id) = false := by simpa using hi
              go_upto_region 9 with fail
              clear p0 hfe hie
              have hps := HI.out.b (Below.drawn (Below.refl wr.heap.size wr) 1 : Below wr.heap.size wr wr.drew)
              obtain ⟨γ, r, cX1, g4, hrw, hln⟩ := PSt.line hps HN3.out hlt
              rw [mfo_k] at g4 hrw
              have g4b : wr.cell? ⟨γ, k, none⟩ = some (.slice r.1 (d.L k).length r.2) := g4
              have HLN := hide hln
              have HML : Hid (mk (d.L k) (j : Int) = lnm d.id f (j : Int) d.L k) := (show _ = _ from by unfold lnm; rw [if_neg hf, if_neg hi])
              have HC : Hid (Calls Tryz.prog 209 #[.slice r.1 (d.L k).length r.2, .int .i64 (j : Int)] wr.drew fun e w' => ∃ p c, e = .returned (.slice p (mk (d.L k) (j : Int)).length c) ∧ RS w' wr.drew.heap.size w'.heap.size [⟨3, p, c, ir (mk (d.L k) (j : Int))⟩] ∧ Below wr.drew.heap.size wr.drew w') := markl_spec wr.drew B2 wr.drew.heap.size r.1 r.2 (d.L k) (j : Int) hrw (HA.out k hlt) HJ.out
              have hk0 : (0 : Int) ≤ (k : Int) := by omega
              clear hps hrw hln HI
              clear hf hi
              refine wp_region_held_drew (S := (fun w' => w'.cell? ⟨Y, 1, none⟩ = some (.slice (some ⟨γ, 0, none⟩) 3 am.bc))) (by kernel_rfl) ?_ (fun hHeld => ?_)
              · exact cX1
              refine wpAnyH_take (i := 0) (oi := { dst := some 42, op := Op.fieldAddr 25 (Operand.tmp 9) 1, type := 0, pos := "l08_node.go:116", after := #[], guard := none }) (v := ?_) rfl (by kernel_rfl) (by kernel_rfl) (by kernel_rfl) (fun _ _ _ h => h) (Or.inl ⟨by rfl, ?_⟩) (by assumption) ?_
              rotate_left 1
              · (intro wq hSw; (try dsimp only at hSw); go_simp; try with_reducible rfl)
              try simp only [Act.put, ly1, ly2, ly3]
              refine wpAnyH_take (i := 1) (oi := { dst := some 43, op := Op.load 23 (Operand.tmp 42), type := 23, pos := "l08_node.go:116", after := #[{ on := 0, ground := Ground.data }], guard := none }) (v := ?_) rfl (by kernel_rfl) (by kernel_rfl) (by kernel_rfl) (fun _ _ _ h => h) (Or.inl ⟨by rfl, ?_⟩) (by assumption) ?_
              rotate_left 1
              · (intro wq hSw; (try dsimp only at hSw); go_simp; try with_reducible rfl)
              try simp only [Act.put, ly1, ly2, ly3]
              refine wpAnyH_take (i := 2) (oi := { dst := some 44, op := Op.move (Operand.tmp 10), type := 3, pos := "l08_node.go:116", after := #[], guard := none }) (v := ?_) rfl (by kernel_rfl) (by kernel_rfl) (by kernel_rfl) (fun _ _ _ h => h) (Or.inl ⟨by rfl, ?_⟩) (by assumption) ?_
              rotate_left 1
              · (intro wq hSw; (try dsimp only at hSw); go_simp; try with_reducible rfl)
              try simp only [Act.put, ly1, ly2, ly3]
              refine wpAnyH_take (i := 3) (oi := { dst := some 45, op := Op.fieldAddr 25 (Operand.tmp 9) 1, type := 0, pos := "l08_node.go:116", after := #[], guard := none }) (v := ?_) rfl (by kernel_rfl) (by kernel_rfl) (by kernel_rfl) (fun _ _ _ h => h) (Or.inl ⟨by rfl, ?_⟩) (by assumption) ?_
              rotate_left 1
              · (intro wq hSw; (try dsimp only at hSw); go_simp; try with_reducible rfl)
              try simp only [Act.put, ly1, ly2, ly3]
              refine wpAnyH_take (i := 4) (oi := { dst := some 46, op := Op.load 23 (Operand.tmp 45), type := 23, pos := "l08_node.go:116", after := #[{ on := 3, ground := Ground.data }], guard := none }) (v := ?_) rfl (by kernel_rfl) (by kernel_rfl) (by kernel_rfl) (fun _ _ _ h => h) (Or.inl ⟨by rfl, ?_⟩) (by assumption) ?_
              rotate_left 1
              · (intro wq hSw; (try dsimp only at hSw); go_simp; try with_reducible rfl)
              try simp only [Act.put, ly1, ly2, ly3]
              refine wpAnyH_take (i := 5) (oi := { dst := some 47, op := Op.move (Operand.tmp 10), type := 3, pos := "l08_node.go:116", after := #[], guard := none }) (v := ?_) rfl (by kernel_rfl) (by kernel_rfl) (by kernel_rfl) (fun _ _ _ h => h) (Or.inl ⟨by rfl, ?_⟩) (by assumption) ?_
              rotate_left 1
              · (intro wq hSw; (try dsimp only at hSw); go_simp; try with_reducible rfl)
              try simp only [Act.put, ly1, ly2, ly3]
              refine wpAnyH_take (i := 6) (oi := { dst := some 48, op := Op.indexAddr 23 (Operand.tmp 46) (Operand.tmp 47), type := 0, pos := "l08_node.go:116", after := #[{ on := 4, ground := Ground.data }, { on := 5, ground := Ground.data }], guard := none }) (v := ?_) rfl (by kernel_rfl) (by kernel_rfl) (by kernel_rfl) (fun _ _ _ h => h) (Or.inl ⟨by rfl, ?_⟩) (by assumption) ?_
              rotate_left 1
              · (intro wq hSw; (try dsimp only at hSw); go_simp; try with_reducible rfl)
              try simp only [Act.put, ly1, ly2, ly3]
              refine wpAnyH_take (i := 8) (oi := { dst := some 50, op := Op.move (Operand.tmp 2), type := 3, pos := "l08_node.go:116", after := #[], guard := none }) (v := ?_) rfl (by kernel_rfl) (by kernel_rfl) (by kernel_rfl) (fun _ _ _ h => h) (Or.inl ⟨by rfl, ?_⟩) (by assumption) ?_
              rotate_left 1
              · (intro wq hSw; (try dsimp only at hSw); go_simp; try with_reducible rfl)
              try simp only [Act.put, ly1, ly2, ly3]
              refine wpAnyH_ready (rs := [7]) (by kernel_rfl) (by simp) ?_
              refine AllReadyH.cons (o := { dst := some 49, op := Op.load 22 (Operand.tmp 48), type := 22, pos := "l08_node.go:116", after := #[{ on := 6, ground := Ground.data }], guard := none }) rfl (fun K hK => ?_) AllReadyH.nil
              go_simp
              refine hK.out _ _ ?_ (fun hHeld => ?_)
              · exact cX1
              clear hK K
              try simp only [Act.put, ly1, ly2, ly3]
              clear g4 g4b
              refine wpAnyH_ready (rs := [9]) (by kernel_rfl) (by simp) ?_
              refine AllReadyH.cons (o := { dst := some 51, op := Op.call { callee := Callee.value (Operand.func 209), args := #[Operand.tmp 49, Operand.tmp 50], argTypes := #[22, 3] }, type := 22, pos := "l08_node.go:116", after := #[{ on := 7, ground := Ground.data }, { on := 8, ground := Ground.data }], guard := none }) rfl (fun K hK => ?_) AllReadyH.nil
              go_simp
              refine HC.out.mono ?_
              rintro e w5 ⟨p, c, rfl, r1, b1⟩
              obtain ⟨⟨hs1, hz1⟩, cX2, hps, cX3⟩ := HLN.out w5 _ _ _ b1 r1
              obtain ⟨u1, hu1⟩ := Option.isSome_iff_exists.1 hs1
              have HF := hide hps
              clear hs1 hps r1 b1
              generalize mk (d.L k) (j : Int) = M at *
              go_wp2_with fail
              refine hK.out _ _ ?_ (fun hHeld => ?_)
              · exact cX2
              clear hK K
              try simp only [Act.put, ly1, ly2, ly3]
              refine wpAnyH_take (i := 10) (oi := { dst := some 52, op := Op.indexAddr 23 (Operand.tmp 43) (Operand.tmp 44), type := 0, pos := "l08_node.go:116", after := #[{ on := 1, ground := Ground.data }, { on := 2, ground := Ground.data }, { on := 0, ground := Ground.phase }, { on := 1, ground := Ground.phase }, { on := 2, ground := Ground.phase }, { on := 3, ground := Ground.phase }, { on := 4, ground := Ground.phase }, { on := 5, ground := Ground.phase }, { on := 6, ground := Ground.phase }, { on := 7, ground := Ground.phase }, { on := 8, ground := Ground.phase }, { on := 9, ground := Ground.phase }], guard := none }) (v := ?_) rfl (by kernel_rfl) (by kernel_rfl) (by kernel_rfl) (fun _ _ _ h => h) (Or.inl ⟨by rfl, ?_⟩) (by assumption) ?_
              rotate_left 1
              · (intro wq hSw; (try dsimp only at hSw); go_simp; try with_reducible rfl)
              try simp only [Act.put, ly1, ly2, ly3]
              refine wpAnyH_ready (rs := [11]) (by kernel_rfl) (by simp) ?_
              refine AllReadyH.cons (o := { dst := none, op := Op.store 22 (Operand.tmp 52) (Operand.tmp 51), type := 0, pos := "l08_node.go:116", after := #[{ on := 10, ground := Ground.data }, { on := 9, ground := Ground.data }, { on := 9, ground := Ground.chain }, { on := 0, ground := Ground.phase }, { on := 1, ground := Ground.phase }, { on := 2, ground := Ground.phase }, { on := 3, ground := Ground.phase }, { on := 4, ground := Ground.phase }, { on := 5, ground := Ground.phase }, { on := 6, ground := Ground.phase }, { on := 7, ground := Ground.phase }, { on := 8, ground := Ground.phase }, { on := 9, ground := Ground.phase }], guard := none }) rfl (fun K hK => ?_) AllReadyH.nil
              go_simp
              refine hK.out _ _ ?_ (fun hHeld => ?_)
              · exact cX3
              clear hK K
              try simp only [Act.put, ly1, ly2, ly3]
              refine wpAnyH_done (by kernel_rfl) ?_ _
              clear cX1 cX2 cX3 hu1 hz1
              have H1 : Hid (PSt w (w5.setCell ⟨γ, k, none⟩ (.slice p M.length c)) B T1 B2 Y a1 d1 am d (mfo d.id f (j : Int) d.L (k + 1))) := by rw [← mfo_step d.id f (j : Int) d.L k M HML.out]; exact HF.out
              clear HF HC HLN
              go_wp2_with fail
              go_roundw
              case rel => exact ⟨k + 1, by omega, by go_num, H1.out⟩
              case measure => simp [intOf]; omega
        · obtain rfl : k = 3 := by omega
          have H4 := hide HI.out
          clear HI
          go_upto_region 11 with (first
            | (refine ld_mb rfl _ rfl Y rfl H4.out.2.2.2.1 ?_)
            | (refine st_nm rfl _ _ rfl rfl w.heap.size am { d with L := mfo d.id f (j : Int) d.L 3 } rfl rfl H4.out.2.1 (fun w6 ho6 hn6 => ?_)))
          obtain ⟨b6, hb6⟩ : ∃ b6 : Na, b6 = { a1 with go := am.go, gc := am.gc, bo := am.bo, bc := am.bc } := ⟨_, rfl⟩
          obtain ⟨d6, hd6⟩ : ∃ d6 : Nd, d6 = { d with im := d.im.set j v, L := mfo d.id f (j : Int) d.L 3 } := ⟨_, rfl⟩
          have HM : Hid (NB w6 w.heap.size 31 b6 d6 ∧ NB w6 (w.heap.size + 1) 31 Na.zero Nd.zero ∧ ∀ F, Only (w.heap.size + 1) w6 F → RN F B F.heap.size b6 d6 ∧ Below w.heap.size w F) := by
            obtain ⟨y1, y2, y3, y4, y5, y6, R, y7⟩ := H4.out
            have hzr := y3.far ho6 (by omega)
            refine ⟨by rw [hb6, hd6]; have h := hn6; rw [HE.out.2.2.2.2] at h; exact h, hzr, fun F hF => ⟨?_, (y1.trans ho6.1).trans (hF.1.mono (by omega))⟩⟩
            have h8 : RN wr B wr.heap.size b6 d6 := by
              rw [hb6, hd6]
              have h := rn_meta (am := am) (dm := { d with L := mfo d.id f (j : Int) d.L 3 }) (R' := R) y5 (by
                show RA wr B wr.heap.size (mrows am.go am.gc am.bo am.bc R d.g d.n (mfo d.id f (j : Int) d.L 3))
                rw [HN3.out]
                exact y7.wide (by have := y5.1.1; omega) (Nat.le_refl _))
              rw [HE.out.2.2.2.2] at h
              exact h
            have h9 := rn_beside (rn_beside h8 y2 ho6) hzr hF
            rw [hF.2.1, ho6.2.1]
            exact h9
          clear H4 ho6 hn6 hb6
          go_wp2_with (first
            | (refine ld_node rfl _ rfl w.heap.size rfl HM.out.1 ?_)
            | (refine st_node rfl _ _ rfl rfl (w.heap.size + 1) b6 d6 rfl rfl HM.out.2.1 (fun F hF1 hF2 => ?_))
            | (refine bodyPost_ret (v := nv b6 d6) (res_node Tryz.results147 rfl hF2) rfl ⟨b6, (show Ending.returned (nv b6 d6) = Ending.returned (nv b6 { d with im := d.im.set j v, L := mfo d.id f (j : Int) d.L 3 }) from by rw [hd6]), by rw [← hd6]; exact HM.out.2.2 F hF1⟩))
theorem rn_up2 {w w' : World} {B : Nat} {a : Na} {d : Nd} (h : RN w B w.heap.size a d) (hb : Below w.heap.size w w') : RN w' B w'.heap.size a d := rn_up h hb
set_option maxHeartbeats 100000000 in
theorem l8apply_s (B j : Nat) (a : Na) (d : Nd) (f v : Int) (w : World) (hr : RN w B w.heap.size a d) (hd : NBd d) (hn3 : d.n = 3) (hA : ∀ i, i < 3 → Asc (d.L i)) (hj : j < 8) (hl : d.im.length = 8) :
    Calls Tryz.prog 81 #[nv a d, .int .i64 f, .int .i64 (j : Int), .int .i64 v] w fun e w' => ∃ b, e = .returned (nv b (apd Classical.propDecidable d f (j : Int) v)) ∧ RN w' B w'.heap.size b (apd Classical.propDecidable d f (j : Int) v) ∧ Below w.heap.size w w' := by
  obtain ⟨W, hW⟩ : ∃ W, W = (w.alloc (.cells (nds a d) 31)).alloc (.cells (nds Na.zero Nd.zero) 31) := ⟨_, rfl⟩
  have T0 : Hid (CS w W a d []) := by rw [hW]; exact cs_new w a d
  have HPut : Hid (∀ V, RN V B V.heap.size a d → Calls Tryz.prog 147 #[nv a d, .int .i64 f, .int .i64 (j : Int), .int .i64 v] V fun e w' => ∃ b, e = .returned (nv b { d with im := d.im.set j v, L := mfo d.id f (j : Int) d.L 3 }) ∧ RN w' B w'.heap.size b { d with im := d.im.set j v, L := mfo d.id f (j : Int) d.L 3 } ∧ Below V.heap.size V w') := fun V h => l8put_s B j a d f v V h hd hn3 hA hj hl
  have HR : Hid (RN w B w.heap.size a d) := hr
  have HBm : Hid (Bd d.g d.n (mfo d.id f (j : Int) d.L 3)) := ⟨hd.2.1.1, hd.2.1.2.1, fun i hi => by
    have hi3 : i < 3 := by rw [← hn3]; exact hi
    unfold mfo
    rw [if_pos hi3]
    exact Nat.le_trans (lnm_len (hA i hi3) (by omega)) (by omega)⟩
  have HD2 : Hid (NBd { d with im := d.im.set j v, L := mfo d.id f (j : Int) d.L 3, la := v }) := ⟨by show (d.im.set j v).length ≤ _; rw [List.length_set]; exact hd.1, HBm.out, hd.2.2⟩
  have HK : Hid (kpd Classical.propDecidable { d with im := d.im.set j v, L := mfo d.id f (j : Int) d.L 3, la := v } { d with im := d.im.set j v, L := mfo d.id f (j : Int) d.L 3, la := v } = apd Classical.propDecidable d f (j : Int) v) := (show _ = _ from by unfold apd; rw [Int.toNat_natCast]; rfl)
  generalize apd Classical.propDecidable d f (j : Int) v = k at *
  clear hr hd hn3 hA hj hl
  unfold nv
  unfold nds Na.zero Nd.zero at hW
  dsimp only [List.length_nil] at hW
  unfold nds
  go_enter Tryz.func81, Tryz.ntmps81
  go_upto_region 1 with fail
  rw [← hW]
  clear hW
  generalize Value.agg #[.int .i64 d.id, .bool d.up, .bool d.pr, .slice a.im d.im.length a.imc, .slice a.go d.g.length a.gc, .slice a.bo d.n a.bc, .bool d.fi, .bool d.ol, .bool d.he, .int .i64 d.la, .slice a.aA d.A.length a.cA, .slice a.aB d.C.length a.cB, .slice a.co d.co.length a.coc, .slice a.so d.m a.sc, .slice a.cp d.cp.length a.cpc, .slice a.wt d.wt.length a.wtc] = vn at *
  go_wp2_with (refine ld_node rfl _ rfl w.heap.size rfl T0.out.2.1 ?_)
  refine (HPut.out W (rn_up2 HR.out T0.out.1)).mono ?_
  rintro e w1 ⟨b1, rfl, o1, c1⟩
  have H1 : Hid (CS w w1 a d [] ∧ RN w1 B w1.heap.size b1 { d with im := d.im.set j v, L := mfo d.id f (j : Int) d.L 3 }) := ⟨T0.out.call (ys := []) c1 RS.nil, o1⟩
  clear o1 c1 T0 HPut HR
  go_upto_region 2 with (refine st_node rfl _ _ rfl rfl w.heap.size b1 { d with im := d.im.set j v, L := mfo d.id f (j : Int) d.L 3 } rfl rfl H1.out.1.2.1 (fun w2 ho2 hn2 => ?_))
  have q9 : w2.cell? ⟨w.heap.size, 9, none⟩ = some (.int .i64 d.la) := hn2.cells.2.2.2.2.2.2.2.2.2.1
  have zz := hn2.froz
  obtain ⟨w3, hw3⟩ : ∃ w3, w3 = w2.setCell ⟨w.heap.size, 9, none⟩ (.int .i64 v) := ⟨_, rfl⟩
  have H3 : Hid (Below w.heap.size w w3 ∧ NB w3 w.heap.size 31 b1 { d with im := d.im.set j v, L := mfo d.id f (j : Int) d.L 3, la := v } ∧ NB w3 (w.heap.size + 1) 31 Na.zero Nd.zero ∧ RN w3 B w3.heap.size b1 { d with im := d.im.set j v, L := mfo d.id f (j : Int) d.L 3, la := v } ∧ w.heap.size + 1 < w3.heap.size) := by
    have ho3 : Only w.heap.size w2 w3 := by rw [hw3]; exact (Only.refl _ _).setCell _
    have hnb : NB w3 w.heap.size 31 b1 { d with im := d.im.set j v, L := mfo d.id f (j : Int) d.L 3, la := v } := by rw [hw3]; exact nset (i := 9) (v := .int .i64 v) hn2 rfl
    have hrn : RN w2 B w2.heap.size b1 { d with im := d.im.set j v, L := mfo d.id f (j : Int) d.L 3 } := by rw [ho2.2.1]; exact rn_beside H1.out.2 H1.out.1.2.1 ho2
    have hrn3 : RN w3 B w3.heap.size b1 { d with im := d.im.set j v, L := mfo d.id f (j : Int) d.L 3 } := by rw [ho3.2.1]; exact rn_beside hrn hn2 ho3
    exact ⟨(H1.out.1.1.trans ho2.1).trans ho3.1, hnb, (H1.out.1.2.2.1.far ho2 (by omega)).far ho3 (by omega), hrn3, by rw [ho3.2.1, ho2.2.1]; have := H1.out.1.2.2.2.1; omega⟩
  clear H1 ho2 hn2
  go_upto_region 3 with fail
  rw [← hw3]
  clear hw3 q9 zz
  have hkeep : Hid (Calls Tryz.prog 96 #[nv b1 { d with im := d.im.set j v, L := mfo d.id f (j : Int) d.L 3, la := v }, mvv b1 { d with im := d.im.set j v, L := mfo d.id f (j : Int) d.L 3, la := v }] w3 fun e w' => ∃ b, e = .returned (nv b k) ∧ RN w' B w'.heap.size b k ∧ Below w3.heap.size w3 w') := by
    have h := l8keep_s B b1 { d with im := d.im.set j v, L := mfo d.id f (j : Int) d.L 3, la := v } b1 { d with im := d.im.set j v, L := mfo d.id f (j : Int) d.L 3, la := v } w3 H3.out.2.2.2.1 HD2.out HBm.out H3.out.2.2.2.1.nv.2.1
    rw [HK.out] at h
    exact h
  clear HK HD2 HBm
  generalize ({ d with im := d.im.set j v, L := mfo d.id f (j : Int) d.L 3, la := v } : Nd) = d2 at *
  as_aux_lemma =>
    go_wp2_with (first
      | (refine ld_node rfl _ rfl w.heap.size rfl H3.out.2.1 ?_)
      | (refine ld_nm rfl _ rfl w.heap.size rfl H3.out.2.1 ?_))
    refine hkeep.out.mono ?_
    rintro e w4 ⟨b4, rfl, o4, c4⟩
    have HM : Hid (NB w4 (w.heap.size + 1) 31 Na.zero Nd.zero ∧ ∀ F, Only (w.heap.size + 1) w4 F → RN F B F.heap.size b4 k ∧ Below w.heap.size w F) := by
      have hz := H3.out.2.2.1.b c4
      exact ⟨hz, fun F hF => ⟨by rw [hF.2.1]; exact rn_beside o4 hz hF, (H3.out.1.trans (c4.mono H3.out.1.size)).trans (hF.1.mono (by omega))⟩⟩
    clear o4 c4 H3 hkeep
    go_wp2_with (first
      | (refine st_node rfl _ _ rfl rfl (w.heap.size + 1) b4 k rfl rfl HM.out.1 (fun F hF1 hF2 => ?_))
      | (refine bodyPost_ret (v := nv b4 k) (res_node Tryz.results81 rfl hF2) rfl ⟨b4, rfl, HM.out.2 F hF1⟩))
set_option maxHeartbeats 100000000 in
theorem apply_s (a : Na) (d : Nd) (y1 y2 y3 : Int) (w : World) (hy1 : (-9223372036854775808 ≤ y1 ∧ y1 ≤ 9223372036854775807)) (hy2 : (-9223372036854775808 ≤ y2 ∧ y2 ≤ 9223372036854775807)) (hy3 : (-9223372036854775808 ≤ y3 ∧ y3 ≤ 9223372036854775807)) (hd : NBd d) (hv : NV w a d) (hn : NNC a) :
    Calls Tryz.prog 21 #[nv a d, .int .i64 y1, .int .i64 y2, .int .i64 y3] w fun e w' => ∃ b, e = .returned (nv b (pick Classical.propDecidable (NOk d ∧ (0 ≤ y2 ∧ y2 ≤ 7) ∧ NOk (apd Classical.propDecidable d y1 y2 y3)) (apd Classical.propDecidable d y1 y2 y3) d)) ∧ RN w' w.heap.size w'.heap.size b (pick Classical.propDecidable (NOk d ∧ (0 ≤ y2 ∧ y2 ≤ 7) ∧ NOk (apd Classical.propDecidable d y1 y2 y3)) (apd Classical.propDecidable d y1 y2 y3) d) ∧ Below w.heap.size w w' := by
  obtain ⟨W, hW⟩ : ∃ W, W = (w.alloc (.cells (nds a d) 31)).alloc (.cells (nds Na.zero Nd.zero) 31) := ⟨_, rfl⟩
  have T0 : Hid (CS w W a d []) := by rw [hW]; exact cs_new w a d
  have HV : Hid (∀ V, Below w.heap.size w V → NV V a d) := fun V hb => hv.below hb
  have HD := hide hd
  have HNN := hide hn
  have HBY : Hid (Byr d.A ∧ Byr d.C) := ⟨hv.2.2.1.1.2.2, hv.2.2.1.2.2.2⟩
  obtain ⟨r, hr⟩ : ∃ r, r = pick Classical.propDecidable (NOk d ∧ (0 ≤ y2 ∧ y2 ≤ 7) ∧ NOk (apd Classical.propDecidable d y1 y2 y3)) (apd Classical.propDecidable d y1 y2 y3) d := ⟨_, rfl⟩
  have HR : Hid ((NOk d → (0 ≤ y2 ∧ y2 ≤ 7) → NOk (apd Classical.propDecidable d y1 y2 y3) → r = apd Classical.propDecidable d y1 y2 y3) ∧ (¬ (NOk d ∧ (0 ≤ y2 ∧ y2 ≤ 7) ∧ NOk (apd Classical.propDecidable d y1 y2 y3)) → r = d)) := by rw [hr]; exact ⟨fun h1 h2 h3 => pick_yes ⟨h1, h2, h3⟩, fun h => pick_no h⟩
  rw [← hr]
  clear hd hv hn hr hy3 hy1
  unfold nv
  unfold nds Na.zero Nd.zero at hW
  dsimp only [List.length_nil] at hW
  unfold nds
  go_enter Tryz.func21, Tryz.ntmps21
  go_upto_region 1 with fail
  rw [← hW]
  clear hW
  generalize Value.agg #[.int .i64 d.id, .bool d.up, .bool d.pr, .slice a.im d.im.length a.imc, .slice a.go d.g.length a.gc, .slice a.bo d.n a.bc, .bool d.fi, .bool d.ol, .bool d.he, .int .i64 d.la, .slice a.aA d.A.length a.cA, .slice a.aB d.C.length a.cB, .slice a.co d.co.length a.coc, .slice a.so d.m a.sc, .slice a.cp d.cp.length a.cpc, .slice a.wt d.wt.length a.wtc] = vn at *
  go_wp2_with (refine ld_node rfl _ rfl w.heap.size rfl T0.out.2.1 ?_)
  refine (node_spec a d W HD.out (HV.out _ T0.out.1)).mono ?_
  rintro e w1 ⟨h, c1⟩
  have H1 : Hid (CS w w1 a d []) := T0.out.call (ys := []) c1 RS.nil
  clear c1 T0
  rcases h with ⟨hok, rfl⟩ | ⟨hok, rfl⟩
  case inr =>
    have HE : Hid (r = d) := HR.out.2 (fun h => hok h.1)
    clear HR hok
    go_upto_region 2 with fail
    go_wp2_with (refine ld_node rfl _ rfl w.heap.size rfl H1.out.2.1 ?_)
    refine (copyn_spec a d w1 HD.out (HV.out _ H1.out.1) HNN.out).mono ?_
    rintro e w2 ⟨b, rfl, o2, c2⟩
    have H2 : Hid (NB w2 (w.heap.size + 1) 31 Na.zero Nd.zero ∧ ∀ F : World, Only (w.heap.size + 1) w2 F → RN F w.heap.size F.heap.size b r ∧ Below w.heap.size w F) := ⟨H1.out.2.2.1.b c2, fun F hF => by
      have hs := hF.2.1
      have hz := H1.out.2.2.2.1
      refine ⟨?_, (H1.out.1.trans (c2.mono H1.out.1.size)).trans (hF.1.mono (by omega))⟩
      rw [HE.out]
      exact (o2.only hF (.inr (by omega))).wider (by omega) (by omega) (Nat.le_refl _)⟩
    have HE2 : Hid (nv b r = nv b d) := (show _ = _ from by rw [HE.out])
    clear o2 c2 H1
    go_wp2_with (first
      | (refine st_node rfl _ _ rfl rfl (w.heap.size + 1) b d rfl rfl H2.out.1 (fun F hF1 hF2 => ?_))
      | (refine bodyPost_ret (v := nv b d) (res_node Tryz.results21 rfl hF2) rfl ⟨b, (show Ending.returned (nv b d) = Ending.returned (nv b r) from by rw [HE2.out]), H2.out.2 F hF1⟩))
  go_wp2_with fail
  by_cases hw2 : 0 ≤ y2 ∧ y2 ≤ 7
  case neg =>
    have HE : Hid (r = d) := HR.out.2 (fun h => hw2 h.2.1)
    clear HR hok
    refine (in_no y2 0 7 w1 (by omega)).mono ?_
    rintro e w' ⟨rfl, hw'⟩
    rw [hw']
    clear hw' hw2
    go_upto_region 2 with fail
    go_wp2_with (refine ld_node rfl _ rfl w.heap.size rfl H1.out.2.1 ?_)
    refine (copyn_spec a d w1 HD.out (HV.out _ H1.out.1) HNN.out).mono ?_
    rintro e w2 ⟨b, rfl, o2, c2⟩
    have H2 : Hid (NB w2 (w.heap.size + 1) 31 Na.zero Nd.zero ∧ ∀ F : World, Only (w.heap.size + 1) w2 F → RN F w.heap.size F.heap.size b r ∧ Below w.heap.size w F) := ⟨H1.out.2.2.1.b c2, fun F hF => by
      have hs := hF.2.1
      have hz := H1.out.2.2.2.1
      refine ⟨?_, (H1.out.1.trans (c2.mono H1.out.1.size)).trans (hF.1.mono (by omega))⟩
      rw [HE.out]
      exact (o2.only hF (.inr (by omega))).wider (by omega) (by omega) (Nat.le_refl _)⟩
    have HE2 : Hid (nv b r = nv b d) := (show _ = _ from by rw [HE.out])
    clear o2 c2 H1
    go_wp2_with (first
      | (refine st_node rfl _ _ rfl rfl (w.heap.size + 1) b d rfl rfl H2.out.1 (fun F hF1 hF2 => ?_))
      | (refine bodyPost_ret (v := nv b d) (res_node Tryz.results21 rfl hF2) rfl ⟨b, (show Ending.returned (nv b d) = Ending.returned (nv b r) from by rw [HE2.out]), H2.out.2 F hF1⟩))
  refine (in_yes y2 0 7 w1 hw2.1 hw2.2).mono ?_
  rintro e w' ⟨rfl, hw'⟩
  rw [hw']
  clear hw'
  obtain ⟨j, rfl⟩ : ∃ j : Nat, y2 = (j : Int) := ⟨y2.toNat, by omega⟩
  have HY : Hid ((NOk (apd Classical.propDecidable d y1 (j : Int) y3) → r = apd Classical.propDecidable d y1 (j : Int) y3) ∧ (¬ NOk (apd Classical.propDecidable d y1 (j : Int) y3) → r = d)) := ⟨HR.out.1 hok hw2, fun h => HR.out.2 (fun h2 => h h2.2.2)⟩
  have hn3 : d.n = 3 := hok.2.2.1.2.1.1
  have hA : ∀ i, i < 3 → Asc (d.L i) := fun i hi => asc_kok (hok.2.2.1.2.1.2 i (by rw [hn3]; exact hi))
  have happ : Hid (∀ (V : World) (B : Nat) (b : Na), RN V B V.heap.size b d → Calls Tryz.prog 81 #[nv b d, .int .i64 y1, .int .i64 (j : Int), .int .i64 y3] V fun e w' => ∃ b, e = .returned (nv b (apd Classical.propDecidable d y1 (j : Int) y3)) ∧ RN w' B w'.heap.size b (apd Classical.propDecidable d y1 (j : Int) y3) ∧ Below V.heap.size V w') := fun V B b h => l8apply_s B j b d y1 y3 V h HD.out hn3 hA (by omega) hok.2.1.1
  have HBK : Hid (NBd (apd Classical.propDecidable d y1 (j : Int) y3)) := by
    unfold apd
    rw [Int.toNat_natCast]
    refine nbd_kpd (d := { d with im := d.im.set j y3 }) ⟨by show (d.im.set j y3).length ≤ _; rw [List.length_set]; exact HD.out.1, HD.out.2⟩ HBY.out ⟨HD.out.2.1.1, HD.out.2.1.2.1, fun i hi => ?_⟩
    have hi3 : i < 3 := by rw [← hn3]; exact hi
    show (mfo d.id y1 (j : Int) d.L 3 i).length ≤ 1048576
    unfold mfo
    rw [if_pos hi3]
    exact Nat.le_trans (lnm_len (hA i hi3) hw2) (by omega)
  generalize apd Classical.propDecidable d y1 (j : Int) y3 = k at *
  clear HR hok hw2 hy2 hn3 hA
  as_aux_lemma =>
    go_upto_region 3 with fail
    go_wp2_with (refine ld_node rfl _ rfl w.heap.size rfl H1.out.2.1 ?_)
    refine (copyn_spec a d w1 HD.out (HV.out _ H1.out.1) HNN.out).mono ?_
    rintro e w2 ⟨b, rfl, o2, c2⟩
    have H2 : Hid (CS w w2 a d [] ∧ RN w2 w1.heap.size w2.heap.size b d ∧ w.heap.size + 1 < w1.heap.size) := ⟨H1.out.call (ys := []) c2 RS.nil, o2, by have := H1.out.2.2.2.1; omega⟩
    clear o2 c2 H1
    generalize w1.heap.size = B at *
    go_wp2_with fail
    refine (happ.out w2 B b H2.out.2.1).mono ?_
    rintro e w3 ⟨b3, rfl, o3, c3⟩
    obtain ⟨W3, hW3⟩ : ∃ W3, W3 = w3.alloc (.cells (nds b3 k) 31) := ⟨_, rfl⟩
    have H3 : Hid (CS w W3 a d [] ∧ NB W3 w3.heap.size 31 b3 k ∧ RN W3 B w3.heap.size b3 k ∧ w.heap.size + 1 < B) := by
      have bx := bal1 w3 (.cells (nds b3 k) 31)
      rw [hW3]
      exact ⟨(H2.out.1.call (ys := []) c3 RS.nil).call (ys := []) bx RS.nil, NB.new _ _ _ _, o3.below bx (Nat.le_refl _), H2.out.2.2⟩
    clear o3 c3 H2 happ
    unfold nds at hW3
    unfold nv nds
    go_upto_region 4 with fail
    rw [← hW3]
    clear hW3
    generalize w3.heap.size = Y at *
    as_aux_lemma =>
      go_wp2_with (refine ld_node rfl _ rfl Y rfl H3.out.2.1 ?_)
      refine (node_spec b3 k W3 HBK.out H3.out.2.2.1.nv).mono ?_
      rintro e w4 ⟨h, c4⟩
      have H4 : Hid (CS w w4 a d [] ∧ NB w4 Y 31 b3 k ∧ RN w4 B Y b3 k ∧ w.heap.size + 1 < B) := ⟨H3.out.1.call (ys := []) c4 RS.nil, H3.out.2.1.b c4, H3.out.2.2.1.below c4 H3.out.2.2.1.1.2, H3.out.2.2.2⟩
      clear c4 H3
      rcases h with ⟨hok, rfl⟩ | ⟨hok, rfl⟩
      · have HE : Hid (r = k) := HY.out.1 hok
        have HX1 : Hid (NB w4 Y 31 b3 k ∧ NB w4 (w.heap.size + 1) 31 Na.zero Nd.zero ∧ ∀ F : World, Only (w.heap.size + 1) w4 F → RN F w.heap.size F.heap.size b3 r ∧ Below w.heap.size w F) := ⟨H4.out.2.1, H4.out.1.2.2.1, fun F hF => by
          have hs := hF.2.1
          have hz := H4.out.2.2.2
          have hy := H4.out.2.1.lt
          refine ⟨?_, H4.out.1.1.trans (hF.1.mono (by omega))⟩
          rw [HE.out]
          exact (H4.out.2.2.1.only hF (.inr (by omega))).wider (by omega) (by omega) (Nat.le_refl _)⟩
        clear H4 HY hok
        go_wp2_with (first
          | (refine ld_node rfl _ rfl Y rfl HX1.out.1 ?_)
          | (refine st_node rfl _ _ rfl rfl (w.heap.size + 1) b3 k rfl rfl HX1.out.2.1 (fun F hF1 hF2 => ?_))
          | (refine bodyPost_ret (v := nv b3 k) (res_node Tryz.results21 rfl hF2) rfl ⟨b3, (show Ending.returned (nv b3 k) = Ending.returned (nv b3 r) from by rw [HE.out]), HX1.out.2.2 F hF1⟩))
      · have HE : Hid (r = d) := HY.out.2 hok
        have H1 : Hid (CS w w4 a d []) := H4.out.1
        clear H4 HY hok
        go_wp2_with (refine ld_node rfl _ rfl w.heap.size rfl H1.out.2.1 ?_)
        refine (copyn_spec a d w4 HD.out (HV.out _ H1.out.1) HNN.out).mono ?_
        rintro e w5 ⟨b, rfl, o2, c2⟩
        have H2 : Hid (NB w5 (w.heap.size + 1) 31 Na.zero Nd.zero ∧ ∀ F : World, Only (w.heap.size + 1) w5 F → RN F w.heap.size F.heap.size b r ∧ Below w.heap.size w F) := ⟨H1.out.2.2.1.b c2, fun F hF => by
          have hs := hF.2.1
          have hz := H1.out.2.2.2.1
          refine ⟨?_, (H1.out.1.trans (c2.mono H1.out.1.size)).trans (hF.1.mono (by omega))⟩
          rw [HE.out]
          exact (o2.only hF (.inr (by omega))).wider (by omega) (by omega) (Nat.le_refl _)⟩
        have HE2 : Hid (nv b r = nv b d) := (show _ = _ from by rw [HE.out])
        clear o2 c2 H1
        go_wp2_with (first
          | (refine st_node rfl _ _ rfl rfl (w.heap.size + 1) b d rfl rfl H2.out.1 (fun F hF1 hF2 => ?_))
          | (refine bodyPost_ret (v := nv b d) (res_node Tryz.results21 rfl hF2) rfl ⟨b, (show Ending.returned (nv b d) = Ending.returned (nv b r) from by rw [HE2.out]), H2.out.2 F hF1⟩))
end Go.Proofs.YtkndnndildnbpaaGreatDoor

/- A node and a meta that came in, a node that is handed back: where all lies while a law looks at it. -/
import Derived.Test.YtcffhjpdkdaaeaaGreatDoorGu
import Derived.Test.YtcffhjpdkdaaeaaGreatDoorNdKiZ
import Derived.Test.YtcffhjpdkdaaeaaGreatDoorNdKtZ

namespace Go.Proofs.YtcffhjpdkdaaeaaGreatDoor
open Go.ChangeShapes Go.WideShapes Go.ChangeAt Go.RowKit
set_option linter.unusedVariables false
set_option linter.unusedSimpArgs false
set_option maxRecDepth 100000

/-- The node and the meta as they came in. -/
def YM (w V : World) (a : Na) (d : Nd) (am : Na) (dm : Nd) : Prop := Below w.heap.size w V ∧ NB V w.heap.size 39 a d ∧ MBk V (w.heap.size + 1) 36 am dm
theorem YM.onb {w V V' : World} {a : Na} {d : Nd} {am : Na} {dm : Nd} {B T : Nat} (h : YM w V a d am dm) (ho : OnB B T V V') (hB : w.heap.size + 1 < B) : YM w V' a d am dm := ⟨h.1.trans (ho.1.mono (by omega)), h.2.1.below ho.1 (by omega), (ho.1.block _ hB).trans h.2.2⟩
theorem YM.b {w V V' : World} {a : Na} {d : Nd} {am : Na} {dm : Nd} (h : YM w V a d am dm) (hb : Below V.heap.size V V') : YM w V' a d am dm := ⟨h.1.trans (hb.mono h.1.size), h.2.1.b hb, h.2.2.b hb⟩
theorem YM.far {w V V' : World} {a : Na} {d : Nd} {am : Na} {dm : Nd} {X : Nat} (h : YM w V a d am dm) (ho : Only X V V') (hX : w.heap.size + 1 < X) : YM w V' a d am dm := ⟨h.1.trans (ho.1.mono (by omega)), h.2.1.far ho (by omega), h.2.2.far ho (by omega)⟩
theorem ym_new (w : World) (a : Na) (d : Nd) (am : Na) (dm : Nd) : YM w ((w.alloc (.cells (nds a d) 39)).alloc (.cells #[.slice am.go dm.g.length am.gc, .slice am.bo dm.n am.bc, .bool dm.fi, .bool dm.ol, .bool dm.he, .int .i64 dm.la] 36)) a d am dm := by
  have h2 := MBk.new (w.alloc (.cells (nds a d) 39)) 36 am dm
  rw [alsz] at h2
  exact ⟨(bal1 _ _).alloc (by simp) _, (NB.new w _ _ _).b (bal1 _ _), h2⟩
/-- A node that a call handed back, in a block among its rows. -/
def MT (V : World) (X B T : Nat) (b : Na) (d : Nd) : Prop := NB V X 31 b d ∧ RN V B T b d ∧ X < T
theorem MT.onb {V V' : World} {X B T B' T' : Nat} {b : Na} {d : Nd} (h : MT V X B T b d) (ho : OnB B' T' V V') (hT : T ≤ B') : MT V' X B T b d :=
  ⟨(ho.1.block X (Nat.lt_of_lt_of_le h.2.2 hT)).trans h.1, h.2.1.kept (fun j _ h2 => ho.1.block j (by omega)) ho.1.size, h.2.2⟩
theorem MT.b {V V' : World} {X B T : Nat} {b : Na} {d : Nd} (h : MT V X B T b d) (hb : Below V.heap.size V V') : MT V' X B T b d :=
  ⟨h.1.b hb, h.2.1.below hb h.2.1.1.2, h.2.2⟩
/-- A meta of the law's own. -/
def GM (V : World) (X B : Nat) (bm : Na) (dm : Nd) : Prop := MBk V X 25 bm dm ∧ OKm V B X bm.go bm.gc bm.bo bm.bc dm.g dm.n dm.L
theorem GM.onb {V V' : World} {X B B' T' : Nat} {bm : Na} {dm : Nd} (h : GM V X B bm dm) (ho : OnB B' T' V V') (hT : X < B' ∨ T' ≤ B) : GM V' X B bm dm := by
  have hB := h.2.1
  have hlt := h.1.lt
  have hk : ∀ j, B ≤ j → j ≤ X → V'.heap[j]? = V.heap[j]? := fun j h1 h2 => by
    rcases hT with hT | hT
    · exact ho.1.block j (by omega)
    · exact ho.2 j (by omega) (by omega)
  exact ⟨(hk X hB.1 (Nat.le_refl _)).trans h.1, h.2.kept (fun j h1 h2 => hk j h1 (by omega)) ho.1.size⟩
theorem GM.b {V V' : World} {X B : Nat} {bm : Na} {dm : Nd} (h : GM V X B bm dm) (hb : Below V.heap.size V V') : GM V' X B bm dm :=
  h.onb (OnB.of_below (B := V.heap.size) (T := V.heap.size) hb (Nat.le_refl _)) (.inl h.1.lt)
theorem GM.new {w1 : World} {B : Nat} {bm : Na} {dm : Nd} (h : OKm w1 B w1.heap.size bm.go bm.gc bm.bo bm.bc dm.g dm.n dm.L) : GM (w1.alloc (.cells #[.slice bm.go dm.g.length bm.gc, .slice bm.bo dm.n bm.bc, .bool dm.fi, .bool dm.ol, .bool dm.he, .int .i64 dm.la] 25)) w1.heap.size B bm dm :=
  ⟨MBk.new _ _ _ _, h.below (bal1 w1 _) (Nat.le_refl _)⟩
theorem ntot_keep {d dm : Nd} (h : ntot d ≤ 1048576) : ntot (pick Classical.propDecidable (NOk d ∧ NOk (kpd Classical.propDecidable d dm)) (kpd Classical.propDecidable d dm) d) ≤ 1048576 := by
  by_cases hp : NOk d ∧ NOk (kpd Classical.propDecidable d dm)
  · rw [pick_yes hp]; exact ntot_kpd hp.1 rfl hp.2 h
  · rw [pick_no hp]; exact h
theorem ld_mbl {ops : Array Oper} {rest : List Oper} {o : Oper} {a : Act} {w : World} {Q : Exit → Act → World → Prop} (hgd : o.guard = none) (x : Operand) (ho : o.op = .load 36 x) (g : Nat) (hx : a.eval x = .pointer (some ⟨g, 0, none⟩)) {t : TypeId} {am : Na} {dm : Nd} (h : MBk w g t am dm)
    (hK : wpList Tryz.prog ops Q rest (a.put o.dst (mvv am dm)) w) : wpList Tryz.prog ops Q (o :: rest) a w :=
  wpList_load_row hgd 36 x ho g hx t (mds am dm).toArray (0, 0) _ h Tryz.underlying36 rfl (by kernel_rfl) hK
end Go.Proofs.YtcffhjpdkdaaeaaGreatDoor

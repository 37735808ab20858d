/- A draft, of the program: made, kept, kept where it is right. -/
import Derived.Test.YtkndnndildnbpaaGreatDoorGu
import Derived.Test.YtkndnndildnbpaaGreatDoorSlPuZ
import Derived.Test.YtkndnndildnbpaaGreatDoorGy
import Derived.Lib.SliceRun

namespace Go.Proofs.YtkndnndildnbpaaGreatDoor
open Go.ChangeShapes Go.WideShapes Go.ChangeAt Go.RowKit
set_option linter.unusedVariables false
set_option linter.unusedSimpArgs false
set_option maxRecDepth 100000

theorem step_if {p : Bool} {A B : Prop} (hp : p = true) (h : A) : if p = true then A else B := by rw [if_pos hp]; exact h

theorem st_node_wp {o : Oper} {a : Act} {w : World} {K : Act → World → Prop} {Q : Exit → Act → World → Prop} (x y : Operand) (ho : o.op = .store 31 x y) (hd : o.dst = none) (g : Nat) (A : Na) (d : Nd) (hx : a.eval x = .pointer (some ⟨g, 0, none⟩)) (hy : a.eval y = nv A d) {t : TypeId} {A0 : Na} {d0 : Nd} (h : NB w g t A0 d0)
    (hK : ∀ F, Only g w F → NB F g t A d → K a F) : o.wp Tryz.prog a w K Q :=
  wp_store_row 31 x y ho g (nds A d) hx hy t (nds A0 d0) h (by kernel_rfl) rfl (by simp [nds, Value.oneCell'] <;> rfl) (by rw [hd]; exact hK _ (only_setRow h) (setRow_heap _ _ _ _ _ _ h))
theorem res_node_b {fn : Func} {F : World} {tmps : Array Value} {k m b : Nat} {a : Na} {d : Nd} {t : Bool} (hr : fn.results = #[ResultVar.cell k 31, ResultVar.tmp m]) (htm : tmps[k]? = some (.pointer (some ⟨b, 0, none⟩))) (htb : tmps[m]? = some (.bool t)) (h : NB F b 31 a d) : (results fn tmps).run Tryz.prog F = .ok (.tuple #[nv a d, .bool t]) F := by
  obtain ⟨x0, x1, x2, x3, x4, x5, x6, x7, x8, x9, x10, x11, x12, x13, x14, x15⟩ := h.cells
  simp [results, hr, htm, htb, go_sem, x0, x1, x2, x3, x4, x5, x6, x7, x8, x9, x10, x11, x12, x13, x14, x15, nv, nds]
theorem DR.size {w : World} {X B : Nat} {am : Na} {dm : Nd} {a : Na} {d : Nd} (h : DR w X B am dm a d) : B ≤ w.heap.size := Nat.le_trans h.2.1 (Nat.le_of_lt h.1.lt)
/-- A block that holds a meta. -/
def MBk (w : World) (g : Nat) (t : TypeId) (am : Na) (dm : Nd) : Prop := w.heap[g]? = some (.cells #[.slice am.go dm.g.length am.gc, .slice am.bo dm.n am.bc, .bool dm.fi, .bool dm.ol, .bool dm.he, .int .i64 dm.la] t (0, 0))
theorem MBk.lt {w : World} {g : Nat} {t : TypeId} {am : Na} {dm : Nd} (h : MBk w g t am dm) : g < w.heap.size := (Array.getElem?_eq_some_iff.1 h).1
theorem MBk.b {w w' : World} {g : Nat} {t : TypeId} {am : Na} {dm : Nd} (h : MBk w g t am dm) (hb : Below w.heap.size w w') : MBk w' g t am dm := (hb.block g h.lt).trans h
theorem MBk.far {w w' : World} {g X : Nat} {t : TypeId} {am : Na} {dm : Nd} (h : MBk w g t am dm) (ho : Only X w w') (hne : g ≠ X) : MBk w' g t am dm := (ho.2.2 g hne).trans h
theorem MBk.new (w : World) (t : TypeId) (am : Na) (dm : Nd) : MBk (w.alloc (.cells #[.slice am.go dm.g.length am.gc, .slice am.bo dm.n am.bc, .bool dm.fi, .bool dm.ol, .bool dm.he, .int .i64 dm.la] t)) w.heap.size t am dm := Deep.blk_alloc_new _ _
/-- The one, or the other. -/
def pick (D : (p : Prop) → Decidable p) (p : Prop) (k d : Nd) : Nd := @ite Nd p (D p) k d
theorem pick_yes {p : Prop} {k d : Nd} (h : p) : pick Classical.propDecidable p k d = k := by unfold pick; exact if_pos h
theorem pick_no {p : Prop} {k d : Nd} (h : ¬ p) : pick Classical.propDecidable p k d = d := by unfold pick; exact if_neg h
/-- A node and a meta came in, the result's block behind them. -/
def KS (w V : World) (a : Na) (d : Nd) (am : Na) (dm : Nd) : Prop := Below w.heap.size w V ∧ NB V w.heap.size 31 a d ∧ MBk V (w.heap.size + 1) 25 am dm ∧ NB V (w.heap.size + 1 + 1) 31 Na.zero Nd.zero ∧ w.heap.size + 1 + 1 < V.heap.size
theorem KS.b {w V V' : World} {a : Na} {d : Nd} {am : Na} {dm : Nd} (h : KS w V a d am dm) (hb : Below V.heap.size V V') : KS w V' a d am dm :=
  ⟨h.1.trans (hb.mono h.1.size), h.2.1.b hb, h.2.2.1.b hb, h.2.2.2.1.b hb, Nat.lt_of_lt_of_le h.2.2.2.2 hb.size⟩
theorem KS.far {w V V' : World} {a : Na} {d : Nd} {am : Na} {dm : Nd} {X : Nat} (h : KS w V a d am dm) (ho : OnlyG X V V') (hX : w.heap.size + 1 + 1 < X) : KS w V' a d am dm := by
  obtain ⟨h1, h2, h3, h4, h5⟩ := h
  exact ⟨h1.trans (ho.1.mono (by omega)), (ho.2 _ (by omega) (by omega)).trans h2, (ho.2 _ (by omega) (by omega)).trans h3, (ho.2 _ (by omega) (by omega)).trans h4, Nat.lt_of_lt_of_le h5 ho.1.size⟩
theorem none_row {w : World} {B T : Nat} : RwOk w B T ⟨3, none, 0, ir []⟩ := ⟨Nat.zero_le _, .inl rfl⟩
theorem apt_nil {r s : Rw} (h : r.vs = []) : Apt r s := fun h1 _ _ => h1 h
theorem ap_nil {xs ys : List Rw} (h : ∀ r ∈ xs, r.vs = []) : Ap xs ys := fun r hr _ _ => apt_nil (h r hr)
/-- .. with nothing that waits. -/
theorem ON.wt0 {w : World} {B T : Nat} {b : Na} {d : Nd} (h : ON w B T b d) (up' pr' : Bool) : ON w B T { b with wt := none, wtc := 0 } { d with up := up', pr := pr', wt := [] } := by
  obtain ⟨h1, h3, h4, R, Q, h5⟩ := h
  refine ⟨h1, h3, h4, R, Q, ?_⟩
  have h6 : RS w B T ((⟨3, b.im, b.imc, ir d.im⟩ :: (mrows b.go b.gc b.bo b.bc R d.g d.n d.L ++ (⟨5, b.aA, b.cA, yr d.A⟩ :: ⟨5, b.aB, b.cB, yr d.C⟩ :: ⟨4, b.co, b.coc, br d.co⟩ :: (srows b.so b.sc Q d.m d.S ++ [⟨4, b.cp, b.cpc, br d.cp⟩])))) ++ ([⟨3, b.wt, b.wtc, ir d.wt⟩] ++ [])) := by
    simpa [nrows] using h5
  have hN : RS w B T [⟨3, none, 0, ir []⟩] := RS.one none_row
  have h7 := h6.swap hN (ap_nil (fun r hr => by rw [List.mem_singleton.1 hr]; rfl)) (ap_nil (fun r hr => by rw [List.mem_singleton.1 hr]; rfl))
  simpa [nrows] using h7
end Go.Proofs.YtkndnndildnbpaaGreatDoor

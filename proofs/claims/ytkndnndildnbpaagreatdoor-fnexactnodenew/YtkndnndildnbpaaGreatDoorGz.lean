/- l8Copy of the model. -/
import Derived.Test.YtkndnndildnbpaaGreatDoorNdGZ
import Derived.Test.YtkndnndildnbpaaGreatDoorGr
import Derived.Deep.Cut

namespace Go.Proofs.YtkndnndildnbpaaGreatDoor
open Go.ChangeShapes Go.WideShapes Go.ChangeAt Go.RowKit
set_option linter.unusedVariables false
set_option linter.unusedSimpArgs false
set_option maxRecDepth 100000

/-- A node whose rows are right, each for itself. -/
def RN (w : World) (B T : Nat) (a : Na) (d : Nd) : Prop := (B ≤ T ∧ T ≤ w.heap.size) ∧ NNC a ∧ (Byr d.A ∧ Byr d.C) ∧ ∃ R Q, RA w B T (nrows a R Q d)
theorem ON.rn {w : World} {B T : Nat} {a : Na} {d : Nd} (h : ON w B T a d) : RN w B T a d := ⟨h.1, h.2.1, h.2.2.1, by obtain ⟨R, Q, h⟩ := h.2.2.2; exact ⟨R, Q, h.ra⟩⟩
theorem RN.nv {w : World} {B T : Nat} {a : Na} {d : Nd} (h : RN w B T a d) : NV w a d := by
  obtain ⟨_, _, hby, R, Q, h⟩ := h
  have h1 := RA.tail h
  have h2 := h1.right
  have h3 := RA.tail (RA.tail (RA.tail h2))
  have h4 := h3.right
  have k1 := h.head
  have k2 := h2.head
  have k3 := (RA.tail h2).head
  have k4 := (RA.tail (RA.tail h2)).head
  have k5 := h3.left.bv
  have k6 := h4.head
  have k7 := (RA.tail h4).head
  have e1 : ∀ (t : TypeId) (x : Option Addr) (c : Nat) (l : List Int), RwOk w B T ⟨t, x, c, ir l⟩ → l.length ≤ c := fun t x c l q => by have := q.1; rwa [show (Rw.mk t x c (ir l)).vs.length = l.length from ir_len _] at this
  have e2 : ∀ (t : TypeId) (x : Option Addr) (c : Nat) (l : List Int), RwOk w B T ⟨t, x, c, yr l⟩ → l.length ≤ c := fun t x c l q => by have := q.1; rwa [show (Rw.mk t x c (yr l)).vs.length = l.length from yr_len _] at this
  have e3 : ∀ (t : TypeId) (x : Option Addr) (c : Nat) (l : List Bool), RwOk w B T ⟨t, x, c, br l⟩ → l.length ≤ c := fun t x c l q => by have := q.1; rwa [show (Rw.mk t x c (br l)).vs.length = l.length from br_len _] at this
  exact ⟨⟨k1.sl, e1 _ _ _ _ k1⟩, h1.left.mv, ⟨⟨k2.sy, e2 _ _ _ _ k2, hby.1⟩, ⟨k3.sy, e2 _ _ _ _ k3, hby.2⟩⟩, ⟨k4.sb, e3 _ _ _ _ k4⟩, k5, ⟨k6.sb, e3 _ _ _ _ k6⟩, ⟨k7.sl, e1 _ _ _ _ k7⟩⟩
theorem RN.kept {w w' : World} {B T : Nat} {a : Na} {d : Nd} (h : RN w B T a d) (hk : ∀ j, B ≤ j → j < T → w'.heap[j]? = w.heap[j]?) (hs : w.heap.size ≤ w'.heap.size) : RN w' B T a d := by
  obtain ⟨⟨h1, h2⟩, h3, h4, R, Q, h5⟩ := h
  exact ⟨⟨h1, by omega⟩, h3, h4, R, Q, h5.kept hk⟩
theorem RN.below {w w' : World} {B T X : Nat} {a : Na} {d : Nd} (h : RN w B T a d) (hb : Below X w w') (hX : T ≤ X) : RN w' B T a d := h.kept (fun j _ hj => hb.block j (by omega)) hb.size

theorem rows_mem {α : Type} (x1 y1 y2 co cp wt : α) (M S : List α) (r : α) (h : r ∈ x1 :: (M ++ (y1 :: y2 :: co :: (S ++ [cp, wt])))) : r ∈ (((((([] ++ [x1]) ++ M) ++ [y1, y2]) ++ [co]) ++ [cp]) ++ [wt]) ++ S := by
  simp only [List.mem_append, List.mem_cons, List.not_mem_nil, or_false, false_or] at h ⊢
  grind
/-- All cells of a node set, one by one. -/
theorem nset16 {w : World} {b : Nat} {t : TypeId} {a0 : Na} {d0 : Nd} (h : NB w b t a0 d0) (a : Na) (d : Nd) : NB ((((((((((((((((w.setCell ⟨b, 0, none⟩ (.int .i64 d.id)).setCell ⟨b, 1, none⟩ (.bool d.up)).setCell ⟨b, 2, none⟩ (.bool d.pr)).setCell ⟨b, 3, none⟩ (.slice a.im d.im.length a.imc)).setCell ⟨b, 4, none⟩ (.slice a.go d.g.length a.gc)).setCell ⟨b, 5, none⟩ (.slice a.bo d.n a.bc)).setCell ⟨b, 6, none⟩ (.bool d.fi)).setCell ⟨b, 7, none⟩ (.bool d.ol)).setCell ⟨b, 8, none⟩ (.bool d.he)).setCell ⟨b, 9, none⟩ (.int .i64 d.la)).setCell ⟨b, 10, none⟩ (.slice a.aA d.A.length a.cA)).setCell ⟨b, 11, none⟩ (.slice a.aB d.C.length a.cB)).setCell ⟨b, 12, none⟩ (.slice a.co d.co.length a.coc)).setCell ⟨b, 13, none⟩ (.slice a.so d.m a.sc)).setCell ⟨b, 14, none⟩ (.slice a.cp d.cp.length a.cpc)).setCell ⟨b, 15, none⟩ (.slice a.wt d.wt.length a.wtc)) b t a d := by
  have h0 : w.heap[b]? = some (.cells #[.int .i64 d0.id, .bool d0.up, .bool d0.pr, .slice a0.im d0.im.length a0.imc, .slice a0.go d0.g.length a0.gc, .slice a0.bo d0.n a0.bc, .bool d0.fi, .bool d0.ol, .bool d0.he, .int .i64 d0.la, .slice a0.aA d0.A.length a0.cA, .slice a0.aB d0.C.length a0.cB, .slice a0.co d0.co.length a0.coc, .slice a0.so d0.m a0.sc, .slice a0.cp d0.cp.length a0.cpc, .slice a0.wt d0.wt.length a0.wtc] t (0, 0)) := h
  have h1 := kb_set (i := 0) (v := .int .i64 d.id) (c' := #[.int .i64 d.id, .bool d0.up, .bool d0.pr, .slice a0.im d0.im.length a0.imc, .slice a0.go d0.g.length a0.gc, .slice a0.bo d0.n a0.bc, .bool d0.fi, .bool d0.ol, .bool d0.he, .int .i64 d0.la, .slice a0.aA d0.A.length a0.cA, .slice a0.aB d0.C.length a0.cB, .slice a0.co d0.co.length a0.coc, .slice a0.so d0.m a0.sc, .slice a0.cp d0.cp.length a0.cpc, .slice a0.wt d0.wt.length a0.wtc]) h0 rfl
  have h2 := kb_set (i := 1) (v := .bool d.up) (c' := #[.int .i64 d.id, .bool d.up, .bool d0.pr, .slice a0.im d0.im.length a0.imc, .slice a0.go d0.g.length a0.gc, .slice a0.bo d0.n a0.bc, .bool d0.fi, .bool d0.ol, .bool d0.he, .int .i64 d0.la, .slice a0.aA d0.A.length a0.cA, .slice a0.aB d0.C.length a0.cB, .slice a0.co d0.co.length a0.coc, .slice a0.so d0.m a0.sc, .slice a0.cp d0.cp.length a0.cpc, .slice a0.wt d0.wt.length a0.wtc]) h1 rfl
  have h3 := kb_set (i := 2) (v := .bool d.pr) (c' := #[.int .i64 d.id, .bool d.up, .bool d.pr, .slice a0.im d0.im.length a0.imc, .slice a0.go d0.g.length a0.gc, .slice a0.bo d0.n a0.bc, .bool d0.fi, .bool d0.ol, .bool d0.he, .int .i64 d0.la, .slice a0.aA d0.A.length a0.cA, .slice a0.aB d0.C.length a0.cB, .slice a0.co d0.co.length a0.coc, .slice a0.so d0.m a0.sc, .slice a0.cp d0.cp.length a0.cpc, .slice a0.wt d0.wt.length a0.wtc]) h2 rfl
  have h4 := kb_set (i := 3) (v := .slice a.im d.im.length a.imc) (c' := #[.int .i64 d.id, .bool d.up, .bool d.pr, .slice a.im d.im.length a.imc, .slice a0.go d0.g.length a0.gc, .slice a0.bo d0.n a0.bc, .bool d0.fi, .bool d0.ol, .bool d0.he, .int .i64 d0.la, .slice a0.aA d0.A.length a0.cA, .slice a0.aB d0.C.length a0.cB, .slice a0.co d0.co.length a0.coc, .slice a0.so d0.m a0.sc, .slice a0.cp d0.cp.length a0.cpc, .slice a0.wt d0.wt.length a0.wtc]) h3 rfl
  have h5 := kb_set (i := 4) (v := .slice a.go d.g.length a.gc) (c' := #[.int .i64 d.id, .bool d.up, .bool d.pr, .slice a.im d.im.length a.imc, .slice a.go d.g.length a.gc, .slice a0.bo d0.n a0.bc, .bool d0.fi, .bool d0.ol, .bool d0.he, .int .i64 d0.la, .slice a0.aA d0.A.length a0.cA, .slice a0.aB d0.C.length a0.cB, .slice a0.co d0.co.length a0.coc, .slice a0.so d0.m a0.sc, .slice a0.cp d0.cp.length a0.cpc, .slice a0.wt d0.wt.length a0.wtc]) h4 rfl
  have h6 := kb_set (i := 5) (v := .slice a.bo d.n a.bc) (c' := #[.int .i64 d.id, .bool d.up, .bool d.pr, .slice a.im d.im.length a.imc, .slice a.go d.g.length a.gc, .slice a.bo d.n a.bc, .bool d0.fi, .bool d0.ol, .bool d0.he, .int .i64 d0.la, .slice a0.aA d0.A.length a0.cA, .slice a0.aB d0.C.length a0.cB, .slice a0.co d0.co.length a0.coc, .slice a0.so d0.m a0.sc, .slice a0.cp d0.cp.length a0.cpc, .slice a0.wt d0.wt.length a0.wtc]) h5 rfl
  have h7 := kb_set (i := 6) (v := .bool d.fi) (c' := #[.int .i64 d.id, .bool d.up, .bool d.pr, .slice a.im d.im.length a.imc, .slice a.go d.g.length a.gc, .slice a.bo d.n a.bc, .bool d.fi, .bool d0.ol, .bool d0.he, .int .i64 d0.la, .slice a0.aA d0.A.length a0.cA, .slice a0.aB d0.C.length a0.cB, .slice a0.co d0.co.length a0.coc, .slice a0.so d0.m a0.sc, .slice a0.cp d0.cp.length a0.cpc, .slice a0.wt d0.wt.length a0.wtc]) h6 rfl
  have h8 := kb_set (i := 7) (v := .bool d.ol) (c' := #[.int .i64 d.id, .bool d.up, .bool d.pr, .slice a.im d.im.length a.imc, .slice a.go d.g.length a.gc, .slice a.bo d.n a.bc, .bool d.fi, .bool d.ol, .bool d0.he, .int .i64 d0.la, .slice a0.aA d0.A.length a0.cA, .slice a0.aB d0.C.length a0.cB, .slice a0.co d0.co.length a0.coc, .slice a0.so d0.m a0.sc, .slice a0.cp d0.cp.length a0.cpc, .slice a0.wt d0.wt.length a0.wtc]) h7 rfl
  have h9 := kb_set (i := 8) (v := .bool d.he) (c' := #[.int .i64 d.id, .bool d.up, .bool d.pr, .slice a.im d.im.length a.imc, .slice a.go d.g.length a.gc, .slice a.bo d.n a.bc, .bool d.fi, .bool d.ol, .bool d.he, .int .i64 d0.la, .slice a0.aA d0.A.length a0.cA, .slice a0.aB d0.C.length a0.cB, .slice a0.co d0.co.length a0.coc, .slice a0.so d0.m a0.sc, .slice a0.cp d0.cp.length a0.cpc, .slice a0.wt d0.wt.length a0.wtc]) h8 rfl
  have h10 := kb_set (i := 9) (v := .int .i64 d.la) (c' := #[.int .i64 d.id, .bool d.up, .bool d.pr, .slice a.im d.im.length a.imc, .slice a.go d.g.length a.gc, .slice a.bo d.n a.bc, .bool d.fi, .bool d.ol, .bool d.he, .int .i64 d.la, .slice a0.aA d0.A.length a0.cA, .slice a0.aB d0.C.length a0.cB, .slice a0.co d0.co.length a0.coc, .slice a0.so d0.m a0.sc, .slice a0.cp d0.cp.length a0.cpc, .slice a0.wt d0.wt.length a0.wtc]) h9 rfl
  have h11 := kb_set (i := 10) (v := .slice a.aA d.A.length a.cA) (c' := #[.int .i64 d.id, .bool d.up, .bool d.pr, .slice a.im d.im.length a.imc, .slice a.go d.g.length a.gc, .slice a.bo d.n a.bc, .bool d.fi, .bool d.ol, .bool d.he, .int .i64 d.la, .slice a.aA d.A.length a.cA, .slice a0.aB d0.C.length a0.cB, .slice a0.co d0.co.length a0.coc, .slice a0.so d0.m a0.sc, .slice a0.cp d0.cp.length a0.cpc, .slice a0.wt d0.wt.length a0.wtc]) h10 rfl
  have h12 := kb_set (i := 11) (v := .slice a.aB d.C.length a.cB) (c' := #[.int .i64 d.id, .bool d.up, .bool d.pr, .slice a.im d.im.length a.imc, .slice a.go d.g.length a.gc, .slice a.bo d.n a.bc, .bool d.fi, .bool d.ol, .bool d.he, .int .i64 d.la, .slice a.aA d.A.length a.cA, .slice a.aB d.C.length a.cB, .slice a0.co d0.co.length a0.coc, .slice a0.so d0.m a0.sc, .slice a0.cp d0.cp.length a0.cpc, .slice a0.wt d0.wt.length a0.wtc]) h11 rfl
  have h13 := kb_set (i := 12) (v := .slice a.co d.co.length a.coc) (c' := #[.int .i64 d.id, .bool d.up, .bool d.pr, .slice a.im d.im.length a.imc, .slice a.go d.g.length a.gc, .slice a.bo d.n a.bc, .bool d.fi, .bool d.ol, .bool d.he, .int .i64 d.la, .slice a.aA d.A.length a.cA, .slice a.aB d.C.length a.cB, .slice a.co d.co.length a.coc, .slice a0.so d0.m a0.sc, .slice a0.cp d0.cp.length a0.cpc, .slice a0.wt d0.wt.length a0.wtc]) h12 rfl
  have h14 := kb_set (i := 13) (v := .slice a.so d.m a.sc) (c' := #[.int .i64 d.id, .bool d.up, .bool d.pr, .slice a.im d.im.length a.imc, .slice a.go d.g.length a.gc, .slice a.bo d.n a.bc, .bool d.fi, .bool d.ol, .bool d.he, .int .i64 d.la, .slice a.aA d.A.length a.cA, .slice a.aB d.C.length a.cB, .slice a.co d.co.length a.coc, .slice a.so d.m a.sc, .slice a0.cp d0.cp.length a0.cpc, .slice a0.wt d0.wt.length a0.wtc]) h13 rfl
  have h15 := kb_set (i := 14) (v := .slice a.cp d.cp.length a.cpc) (c' := #[.int .i64 d.id, .bool d.up, .bool d.pr, .slice a.im d.im.length a.imc, .slice a.go d.g.length a.gc, .slice a.bo d.n a.bc, .bool d.fi, .bool d.ol, .bool d.he, .int .i64 d.la, .slice a.aA d.A.length a.cA, .slice a.aB d.C.length a.cB, .slice a.co d.co.length a.coc, .slice a.so d.m a.sc, .slice a.cp d.cp.length a.cpc, .slice a0.wt d0.wt.length a0.wtc]) h14 rfl
  have h16 := kb_set (i := 15) (v := .slice a.wt d.wt.length a.wtc) (c' := #[.int .i64 d.id, .bool d.up, .bool d.pr, .slice a.im d.im.length a.imc, .slice a.go d.g.length a.gc, .slice a.bo d.n a.bc, .bool d.fi, .bool d.ol, .bool d.he, .int .i64 d.la, .slice a.aA d.A.length a.cA, .slice a.aB d.C.length a.cB, .slice a.co d.co.length a.coc, .slice a.so d.m a.sc, .slice a.cp d.cp.length a.cpc, .slice a.wt d.wt.length a.wtc]) h15 rfl
  exact h16
/-- A node as a result, in a block. -/
theorem res_node {fn : Func} {F : World} {tmps : Array Value} {k b : Nat} {a : Na} {d : Nd} (hr : fn.results = #[ResultVar.cell k 31]) (htm : tmps[k]? = some (.pointer (some ⟨b, 0, none⟩))) (h : NB F b 31 a d) : (results fn tmps).run Tryz.prog F = .ok (nv a d) F := by
  obtain ⟨x0, x1, x2, x3, x4, x5, x6, x7, x8, x9, x10, x11, x12, x13, x14, x15⟩ := h.cells
  simp [results, hr, htm, go_sem, x0, x1, x2, x3, x4, x5, x6, x7, x8, x9, x10, x11, x12, x13, x14, x15, nv, nds]
/-- Where a call hands back: of the world only what is wanted. -/
theorem ret_at {P : Program} {fn : Func} {R : Ending → World → Prop} {a : Act} {w : World} (S : World → Prop) (hS : S w) (h : ∀ F, S F → bodyPost P fn R .ret a F) : bodyPost P fn R .ret a w := h w hS
theorem rempty {V : World} {t : TypeId} : (V.alloc (.cells #[] t)).ownsRow V.heap.size t 1 (.slice (some ⟨V.heap.size, 0, none⟩) 0 0) ([] : List Value).length ([] : List Value) :=
  ⟨rfl, .inr ⟨_, _, #[], rfl, Nat.le_refl _, Deep.blk_alloc_new _ _, by simp, by simp, by simp, by simp⟩⟩
theorem app_new {V W1 : World} {t : TypeId} {v1 : Value} {n : Nat} {cs : List Value} (hn : cs.length = n) (ho : W1.ownsRow V.heap.size t 1 v1 (([] : List Value).length + n) (([] : List Value) ++ cs)) (hg : (V.alloc (.cells #[] t)).grownBy W1 (Value.slice (some ⟨V.heap.size, 0, none⟩) 0 0).ownBlock) :
    ∃ p c, v1 = .slice p n c ∧ RA W1 V.heap.size W1.heap.size [⟨t, p, c, cs⟩] ∧ Below V.heap.size V W1 := by
  have ho' : W1.ownsRow V.heap.size t 1 v1 cs.length cs := by subst hn; simpa using ho
  obtain ⟨p, c, e, hr⟩ := rs_owns ho'
  exact ⟨p, c, by rw [← hn]; exact e, hr.ra, (bal1 V _).grown hg (by simp) (fun j hj => by simp [Value.ownBlock] at hj; omega)⟩
theorem owns_below {w w' : World} {B n : Nat} {t : TypeId} {v : Value} {cs : List Value} (h : w.ownsRow B t 1 v n cs) (hb : Below w.heap.size w w') : w'.ownsRow B t 1 v n cs := by
  refine ⟨h.1, ?_⟩
  rcases h.2 with h | ⟨b, c, cur, e, hb', hh, q⟩
  · exact .inl h
  · exact .inr ⟨b, c, cur, e, hb', (hb.block b (Array.getElem?_eq_some_iff.1 hh).1).trans hh, q⟩

/-- The copy under way: the node at block w, the result's block, the copy's at the third; rows that are right from the fourth on. -/
def CS2 (w V : World) (a : Na) (d : Nd) (a' : Na) (d' : Nd) (rs : List Rw) : Prop :=
  Below w.heap.size w V ∧ NB V w.heap.size 31 a d ∧ NB V (w.heap.size + 1) 31 Na.zero Nd.zero ∧ NB V (w.heap.size + 1 + 1) 31 a' d' ∧ w.heap.size + 1 + 1 + 1 ≤ V.heap.size ∧ RA V (w.heap.size + 1 + 1 + 1) V.heap.size rs
theorem CS2.call {w V V' : World} {a a' : Na} {d d' : Nd} {rs ys : List Rw} (h : CS2 w V a d a' d' rs) (hb : Below V.heap.size V V') (hr : RA V' V.heap.size V'.heap.size ys) : CS2 w V' a d a' d' (rs ++ ys) :=
  ⟨h.1.trans (hb.mono h.1.size), h.2.1.b hb, h.2.2.1.b hb, h.2.2.2.1.b hb, Nat.le_trans h.2.2.2.2.1 hb.size, ((h.2.2.2.2.2.kept (fun j _ hj => hb.block j hj)).wide (Nat.le_refl _) hb.size).app (hr.wide h.2.2.2.2.1 (Nat.le_refl _))⟩
theorem CS2.set {w V V' : World} {a a' a2 : Na} {d d' d2 : Nd} {rs : List Rw} (h : CS2 w V a d a' d' rs) (ho : Only (w.heap.size + 1 + 1) V V') (hn : NB V' (w.heap.size + 1 + 1) 31 a2 d2) : CS2 w V' a d a2 d2 rs :=
  ⟨h.1.trans (ho.1.mono (by omega)), h.2.1.far ho (by omega), h.2.2.1.far ho (by omega), hn, by rw [ho.2.1]; exact h.2.2.2.2.1, by rw [ho.2.1]; exact h.2.2.2.2.2.kept fun j h1 _ => ho.2.2 j (by omega)⟩
theorem cs2_new (w : World) (a : Na) (d : Nd) : CS2 w (((w.alloc (.cells (nds a d) 31)).alloc (.cells (nds Na.zero Nd.zero) 31)).alloc (.cells (nds a d) 31)) a d a d [] := by
  obtain ⟨s0, s1, s2, s4⟩ := bal3 w (.cells (nds a d) 31) (.cells (nds Na.zero Nd.zero) 31) (.cells (nds a d) 31)
  exact ⟨((bal1 _ _).alloc (by simp) _).alloc (by simp; omega) _, s0, s1, s2, by rw [s4]; exact Nat.le_refl _, fun _ h => absurd h (by simp)⟩

/-- .. while its lines are copied: i are. -/
def LS (w V : World) (a : Na) (d : Nd) (a6 : Na) (rs : List Rw) (Z i : Nat) (p : Option Addr) (c : Nat) (Q : Nat → Option Addr × Nat) : Prop :=
  (Below w.heap.size w V ∧ NB V w.heap.size 31 a d ∧ NB V (w.heap.size + 1) 31 Na.zero Nd.zero ∧ NB V (w.heap.size + 1 + 1) 31 { a6 with so := p, sc := c } { d with m := i }) ∧ (w.heap.size + 1 + 1 + 1 ≤ Z ∧ Z ≤ V.heap.size) ∧ RA V (w.heap.size + 1 + 1 + 1) Z rs ∧ V.ownsRow Z 22 1 (.slice p i c) i (outer Q i d.S) ∧ ∀ j, j < i → RwOk V Z V.heap.size ⟨3, (Q j).1, (Q j).2, ir (d.S j)⟩
theorem LS.below {w V V' : World} {a a6 : Na} {d : Nd} {rs : List Rw} {Z i : Nat} {p : Option Addr} {c : Nat} {Q : Nat → Option Addr × Nat} (h : LS w V a d a6 rs Z i p c Q) (hb : Below V.heap.size V V') : LS w V' a d a6 rs Z i p c Q := by
  obtain ⟨⟨h1, h2, h3, h4⟩, h5, h6, h7, h8⟩ := h
  exact ⟨⟨h1.trans (hb.mono h1.size), h2.b hb, h3.b hb, h4.b hb⟩, ⟨h5.1, Nat.le_trans h5.2 hb.size⟩, h6.kept (fun j _ hj => hb.block j (by omega)), owns_below h7 hb, fun j hj => ((h8 j hj).kept (fun k _ hk => hb.block k hk)).wide (Nat.le_refl _) hb.size⟩
theorem outer_push (Q : Nat → Option Addr × Nat) (k : Nat) (L : Nat → List Int) (r : Option Addr × Nat) : outer (setr Q k r) (k + 1) L = outer Q k L ++ [.slice r.1 (L k).length r.2] := by
  unfold outer
  rw [List.range_succ, List.map_append, List.map_cons, List.map_nil, setr_at]
  congr 1
  exact List.map_congr_left fun i hi => by rw [setr_ne _ _ _ (by have := List.mem_range.1 hi; omega)]
theorem LS.push {w V w4 : World} {a a6 : Na} {d : Nd} {rs : List Rw} {Z i : Nat} {p : Option Addr} {c : Nat} {Q : Nat → Option Addr × Nat} {ro : Option Addr} {rc t4 c4 : Nat} (h : LS w V a d a6 rs Z i p c Q) (hn : RwOk V Z V.heap.size ⟨3, ro, rc, ir (d.S i)⟩)
    (hown : w4.ownsRow Z 22 1 (.slice (some ⟨t4, 0, none⟩) (i + 1) c4) (i + 1) (outer Q i d.S ++ [.slice ro (d.S i).length rc])) (hg : V.grownBy w4 (Value.slice p i c).ownBlock) :
    LS w (w4.setCell ⟨w.heap.size + 1 + 1, 13, none⟩ (.slice (some ⟨t4, 0, none⟩) (i + 1) c4)) a d a6 rs Z (i + 1) (some ⟨t4, 0, none⟩) c4 (setr Q i (ro, rc)) ∧ (Below w.heap.size w w4 ∧ NB w4 w.heap.size 31 a d ∧ NB w4 (w.heap.size + 1 + 1) 31 { a6 with so := p, sc := c } { d with m := i }) := by
  obtain ⟨⟨h1, h2, h3, h4⟩, h5, h6, h7, h8⟩ := h
  have hlo : ∀ j, (Value.slice p i c).ownBlock = some j → Z ≤ j ∧ ∃ cc : Array Value, V.heap[j]? = some (.cells cc 22 (0, 0)) := fun j e => by
    rcases h7.2 with ⟨e1, _⟩ | ⟨b, cp, cur, e1, hb, hh, _⟩
    · rw [e1] at e; cases e
    · rw [e1] at e; simp [Value.ownBlock] at e; subst e; exact ⟨hb, cur, hh⟩
  have hB : Below w.heap.size w w4 := h1.grown hg h1.size (fun j hj => by have := (hlo j hj).1; omega)
  have hblk : ∀ k, k < Z → w4.heap[k]? = V.heap[k]? := fun k hk => hg.block k (by omega) (fun e => by have := (hlo k e.symm).1; omega)
  have hrow : ∀ s : Rw, s.t = 3 → RwOk V Z V.heap.size s → RwOk w4 Z w4.heap.size s := fun s hs hr => by
    refine ⟨hr.1, ?_⟩
    rcases hr.2 with h0 | ⟨g, e, hg2, cc, hc, q⟩
    · exact .inl h0
    · refine .inr ⟨g, e, ⟨hg2.1, Nat.lt_of_lt_of_le hg2.2 hg.size⟩, cc, (hg.block g hg2.2 (fun e2 => ?_)).trans hc, q⟩
      obtain ⟨_, cc', hc'⟩ := hlo g e2.symm
      rw [hc'] at hc
      simp only [Option.some.injEq, Obj.cells.injEq] at hc
      rw [hs] at hc
      exact absurd hc.2.1 (show (22 : Nat) ≠ 3 by decide)
  have n2 : NB w4 w.heap.size 31 a d := (hblk _ (by omega)).trans h2
  have n3 : NB w4 (w.heap.size + 1) 31 Na.zero Nd.zero := (hblk _ (by omega)).trans h3
  have n4 : NB w4 (w.heap.size + 1 + 1) 31 { a6 with so := p, sc := c } { d with m := i } := (hblk _ (by omega)).trans h4
  have hO : Only (w.heap.size + 1 + 1) w4 (w4.setCell ⟨w.heap.size + 1 + 1, 13, none⟩ (.slice (some ⟨t4, 0, none⟩) (i + 1) c4)) := (Only.refl _ _).setCell _
  refine ⟨⟨⟨hB.trans (hO.1.mono (by omega)), n2.far hO (by omega), n3.far hO (by omega), nset n4 rfl⟩, ⟨h5.1, by rw [hO.2.1]; exact Nat.le_trans h5.2 hg.size⟩, ?_, ?_, ?_⟩, hB, n2, n4⟩
  · exact (h6.kept (w' := w4) (fun j _ hj => hblk j hj)).kept fun j h1 h2 => hO.2.2 j (by omega)
  · rw [outer_push]
    refine ⟨hown.1, ?_⟩
    rcases hown.2 with h | ⟨b, cp, cur, e, hb', hh, q⟩
    · exact .inl h
    · exact .inr ⟨b, cp, cur, e, hb', (hO.2.2 b (by omega)).trans hh, q⟩
  · intro j hj
    rw [hO.2.1]
    refine RwOk.kept ?_ (fun k h1 _ => hO.2.2 k (by omega))
    by_cases e : j = i
    · subst e; rw [setr_at]; exact hrow _ rfl hn
    · rw [setr_ne _ _ _ e]; exact hrow _ rfl (h8 j (by omega))
/-- Handed back. -/
theorem LS.ret {w V F : World} {a a6 : Na} {d : Nd} {rs : List Rw} {Z : Nat} {p : Option Addr} {c : Nat} {Q : Nat → Option Addr × Nat} (h : LS w V a d a6 rs Z d.m p c Q) (hF : Only (w.heap.size + 1) V F) : Below w.heap.size w F ∧ RA F w.heap.size F.heap.size (rs ++ srows p c Q d.m d.S) := by
  obtain ⟨⟨h1, h2, h3, h4⟩, h5, h6, h7, h8⟩ := h
  refine ⟨h1.trans (hF.1.mono (by omega)), ?_⟩
  rw [hF.2.1]
  have h7' : V.ownsRow Z 22 1 (.slice p d.m c) (outer Q d.m d.S).length (outer Q d.m d.S) := by rw [outer_len]; exact h7
  obtain ⟨p', c', e, hr⟩ := rs_owns h7'
  rw [outer_len] at e
  injection e with e1 _ e3
  subst e1 e3
  refine RA.app ((h6.kept (fun j h1 h2 => hF.2.2 j (by omega))).wide (by omega) (by omega)) (fun s hs => ?_)
  rcases List.mem_cons.1 hs with rfl | hs
  · exact (hr.head.kept (fun j h1 _ => hF.2.2 j (by omega))).wide (by omega) (Nat.le_refl _)
  · obtain ⟨i, hi, rfl⟩ := List.mem_map.1 hs
    exact ((h8 i (List.mem_range.1 hi)).kept (fun j h1 _ => hF.2.2 j (by omega))).wide (by omega) (Nat.le_refl _)

set_option maxHeartbeats 16000000 in
theorem copyn_spec (a : Na) (d : Nd) (w : World) (hd : NBd d) (hv : NV w a d) (hn : NNC a) :
    Calls Tryz.prog 80 #[nv a d] w fun e w' => ∃ b, e = .returned (nv b d) ∧ RN w' w.heap.size w'.heap.size b d ∧ Below w.heap.size w w' := by
  obtain ⟨i0, hi, hz0, hz1, hz2⟩ := info_parts Tryz.info3
  obtain ⟨k0, hk, hkz0, hkz1, hkz2⟩ := info_parts Tryz.info4
  obtain ⟨j0, hj, hjz0, hjz1, hjz2⟩ := info_parts Tryz.infoSl
  obtain ⟨W, hW⟩ : ∃ W, W = ((w.alloc (.cells (nds a d) 31)).alloc (.cells (nds Na.zero Nd.zero) 31)).alloc (.cells (nds a d) 31) := ⟨_, rfl⟩
  have T0 : Hid (CS2 w W a d a d []) := by rw [hW]; exact cs2_new w a d
  have HV : Hid (∀ V, Below w.heap.size w V → NV V a d) := fun V hb => hv.below hb
  have HD := hide hd
  have HN := hide hn
  have HY : Hid (Byr d.A ∧ Byr d.C) := ⟨hv.2.2.1.1.2.2, hv.2.2.1.2.2.2⟩
  have l0 := hd.1
  have l1 := hd.2.2.2.1
  have l2 := hd.2.2.2.2.2.1
  have l3 := hd.2.2.2.2.2.2
  have l4 := hd.2.2.2.2.1.1
  have HL8 := hide hd.2.2.2.2.1.2
  clear hd hv hn
  unfold nv
  unfold nds Na.zero Nd.zero at hW
  dsimp only [List.length_nil] at hW
  unfold nds
  go_enter Tryz.func80, Tryz.ntmps80
  go_upto_region 2 with fail
  rw [← hW]
  clear hW
  obtain ⟨p0, p1, p2, p3, p4, p5, p6, p7, p8, p9, p10, p11, p12, p13, p14, p15⟩ := T0.out.2.1.cells
  have hlw := T0.out.2.1.lt
  have hbe := T0.out.1.trans ((bal1 W (.cells #[] 3)).mono T0.out.1.size)
  have hS := hide (Cs.ints (HV.out _ hbe).1.1)
  have hE := hide (rempty (V := W) (t := 3))
  clear hbe
  go_upto_region 3 with (first
    | (at_builtin; refine wpList_append_cs rfl _ _ 22 rfl W.heap.size 3 i0 (.int .i64 0) 8 Tryz.underlying22 hi hz0 hz1 hz2 rfl _ [] rfl hE.out a.im d.im.length a.imc (ir d.im) (ir_len _) rfl hS.out (by unfold maxLen; simp; omega) (by simp; omega) (by simp) ?_; intro v1 w1 ho1 hg1; obtain ⟨q1, c1, rfl, r1, b1⟩ := app_new (ir_len _) ho1 hg1; have C1 : Hid (CS2 w w1 a d a d ([] ++ [⟨3, q1, c1, ir d.im⟩])) := T0.out.call b1 r1; have o3 := C1.out.2.2.2.1.cells; have z2 := C1.out.2.2.2.1.froz; clear ho1 hg1 r1 b1 hS hE hlw T0 p0 p1 p2 p3 p4 p5 p6 p7 p8 p9 p10 p11 p12 p13 p14 p15))
  clear o3 z2
  have T1 : Hid (CS2 w (w1.setCell ⟨w.heap.size + 1 + 1, 3, none⟩ (.slice q1 d.im.length c1)) a d { a with im := q1, imc := c1 } d ([] ++ [⟨3, q1, c1, ir d.im⟩])) := by
    have h := C1.out
    refine h.set ((Only.refl _ _).setCell _) ?_
    have n0 : NB (w1.setCell ⟨w.heap.size + 1 + 1, 3, none⟩ (.slice q1 d.im.length c1)) (w.heap.size + 1 + 1) 31 { a with im := q1, imc := c1 } d := nset h.2.2.2.1 rfl
    exact n0
  clear C1
  generalize (w1.setCell ⟨w.heap.size + 1 + 1, 3, none⟩ (.slice q1 d.im.length c1)) = V1 at *
  obtain ⟨p0, p1, p2, p3, p4, p5, p6, p7, p8, p9, p10, p11, p12, p13, p14, p15⟩ := T1.out.2.1.cells
  go_wp2_with fail
  refine (copy5g a.go a.bo a.gc a.bc d.n d.g d.L d.fi d.ol d.he d.la V1 HD.out.2.1 (HV.out _ T1.out.1).2.1).mono ?_
  rintro e w2 ⟨q2, q3, c2, c3, rfl, ⟨R, r1⟩, b1⟩
  have C2 : Hid (CS2 w w2 a d { a with im := q1, imc := c1 } d (([] ++ [⟨3, q1, c1, ir d.im⟩]) ++ (mrows q2 c2 q3 c3 R d.g d.n d.L))) := T1.out.call b1 (r1.wide (by omega) (Nat.le_refl _))
  clear r1 b1 T1 p0 p1 p2 p3 p4 p5 p6 p7 p8 p9 p10 p11 p12 p13 p14 p15
  obtain ⟨o0, o1, o2, o3, o4, o5, o6, o7, o8, o9, o10, o11, o12, o13, o14, o15⟩ := C2.out.2.2.2.1.cells
  have z2 := C2.out.2.2.2.1.froz
  go_upto_region 4 with fail
  clear o0 o1 o2 o3 o4 o5 o6 o7 o8 o9 o10 o11 o12 o13 o14 o15 z2
  have T2 : Hid (CS2 w ((((((w2.setCell ⟨w.heap.size + 1 + 1, 4, none⟩ (.slice q2 d.g.length c2)).setCell ⟨w.heap.size + 1 + 1, 5, none⟩ (.slice q3 d.n c3)).setCell ⟨w.heap.size + 1 + 1, 6, none⟩ (.bool d.fi)).setCell ⟨w.heap.size + 1 + 1, 7, none⟩ (.bool d.ol)).setCell ⟨w.heap.size + 1 + 1, 8, none⟩ (.bool d.he)).setCell ⟨w.heap.size + 1 + 1, 9, none⟩ (.int .i64 d.la)) a d { a with im := q1, imc := c1, go := q2, gc := c2, bo := q3, bc := c3 } d (([] ++ [⟨3, q1, c1, ir d.im⟩]) ++ (mrows q2 c2 q3 c3 R d.g d.n d.L))) := by
    have h := C2.out
    refine h.set (((((((Only.refl _ _).setCell _).setCell _).setCell _).setCell _).setCell _).setCell _) ?_
    have n0 : NB (w2.setCell ⟨w.heap.size + 1 + 1, 4, none⟩ (.slice q2 d.g.length c2)) (w.heap.size + 1 + 1) 31 { a with im := q1, imc := c1, go := q2, gc := c2 } d := nset h.2.2.2.1 rfl
    have n1 : NB ((w2.setCell ⟨w.heap.size + 1 + 1, 4, none⟩ (.slice q2 d.g.length c2)).setCell ⟨w.heap.size + 1 + 1, 5, none⟩ (.slice q3 d.n c3)) (w.heap.size + 1 + 1) 31 { a with im := q1, imc := c1, go := q2, gc := c2, bo := q3, bc := c3 } d := nset n0 rfl
    have n2 : NB (((w2.setCell ⟨w.heap.size + 1 + 1, 4, none⟩ (.slice q2 d.g.length c2)).setCell ⟨w.heap.size + 1 + 1, 5, none⟩ (.slice q3 d.n c3)).setCell ⟨w.heap.size + 1 + 1, 6, none⟩ (.bool d.fi)) (w.heap.size + 1 + 1) 31 { a with im := q1, imc := c1, go := q2, gc := c2, bo := q3, bc := c3 } d := nset n1 rfl
    have n3 : NB ((((w2.setCell ⟨w.heap.size + 1 + 1, 4, none⟩ (.slice q2 d.g.length c2)).setCell ⟨w.heap.size + 1 + 1, 5, none⟩ (.slice q3 d.n c3)).setCell ⟨w.heap.size + 1 + 1, 6, none⟩ (.bool d.fi)).setCell ⟨w.heap.size + 1 + 1, 7, none⟩ (.bool d.ol)) (w.heap.size + 1 + 1) 31 { a with im := q1, imc := c1, go := q2, gc := c2, bo := q3, bc := c3 } d := nset n2 rfl
    have n4 : NB (((((w2.setCell ⟨w.heap.size + 1 + 1, 4, none⟩ (.slice q2 d.g.length c2)).setCell ⟨w.heap.size + 1 + 1, 5, none⟩ (.slice q3 d.n c3)).setCell ⟨w.heap.size + 1 + 1, 6, none⟩ (.bool d.fi)).setCell ⟨w.heap.size + 1 + 1, 7, none⟩ (.bool d.ol)).setCell ⟨w.heap.size + 1 + 1, 8, none⟩ (.bool d.he)) (w.heap.size + 1 + 1) 31 { a with im := q1, imc := c1, go := q2, gc := c2, bo := q3, bc := c3 } d := nset n3 rfl
    have n5 : NB ((((((w2.setCell ⟨w.heap.size + 1 + 1, 4, none⟩ (.slice q2 d.g.length c2)).setCell ⟨w.heap.size + 1 + 1, 5, none⟩ (.slice q3 d.n c3)).setCell ⟨w.heap.size + 1 + 1, 6, none⟩ (.bool d.fi)).setCell ⟨w.heap.size + 1 + 1, 7, none⟩ (.bool d.ol)).setCell ⟨w.heap.size + 1 + 1, 8, none⟩ (.bool d.he)).setCell ⟨w.heap.size + 1 + 1, 9, none⟩ (.int .i64 d.la)) (w.heap.size + 1 + 1) 31 { a with im := q1, imc := c1, go := q2, gc := c2, bo := q3, bc := c3 } d := nset n4 rfl
    exact n5
  clear C2
  generalize ((((((w2.setCell ⟨w.heap.size + 1 + 1, 4, none⟩ (.slice q2 d.g.length c2)).setCell ⟨w.heap.size + 1 + 1, 5, none⟩ (.slice q3 d.n c3)).setCell ⟨w.heap.size + 1 + 1, 6, none⟩ (.bool d.fi)).setCell ⟨w.heap.size + 1 + 1, 7, none⟩ (.bool d.ol)).setCell ⟨w.heap.size + 1 + 1, 8, none⟩ (.bool d.he)).setCell ⟨w.heap.size + 1 + 1, 9, none⟩ (.int .i64 d.la)) = V2 at *
  obtain ⟨p0, p1, p2, p3, p4, p5, p6, p7, p8, p9, p10, p11, p12, p13, p14, p15⟩ := T2.out.2.1.cells
  go_wp2_with fail
  refine (copys_spec a.aA a.aB a.cA a.cB d.A d.C V2 ((HV.out _ T2.out.1).vA HD.out) ((HV.out _ T2.out.1).vC HD.out) HN.out.1 HN.out.2).mono ?_
  rintro e w3 ⟨q4, q5, c4, c5, rfl, r1, b1, m1, m2⟩
  have C3 : Hid (CS2 w w3 a d { a with im := q1, imc := c1, go := q2, gc := c2, bo := q3, bc := c3 } d ((([] ++ [⟨3, q1, c1, ir d.im⟩]) ++ (mrows q2 c2 q3 c3 R d.g d.n d.L)) ++ [⟨5, q4, c4, yr d.A⟩, ⟨5, q5, c5, yr d.C⟩])) := T2.out.call b1 (rs_osl r1).ra
  clear r1 b1 T2 p0 p1 p2 p3 p4 p5 p6 p7 p8 p9 p10 p11 p12 p13 p14 p15
  obtain ⟨o0, o1, o2, o3, o4, o5, o6, o7, o8, o9, o10, o11, o12, o13, o14, o15⟩ := C3.out.2.2.2.1.cells
  have z2 := C3.out.2.2.2.1.froz
  go_upto_region 5 with fail
  clear o0 o1 o2 o3 o4 o5 o6 o7 o8 o9 o10 o11 o12 o13 o14 o15 z2
  have T3 : Hid (CS2 w ((w3.setCell ⟨w.heap.size + 1 + 1, 10, none⟩ (.slice q4 d.A.length c4)).setCell ⟨w.heap.size + 1 + 1, 11, none⟩ (.slice q5 d.C.length c5)) a d { a with im := q1, imc := c1, go := q2, gc := c2, bo := q3, bc := c3, aA := q4, cA := c4, aB := q5, cB := c5 } d ((([] ++ [⟨3, q1, c1, ir d.im⟩]) ++ (mrows q2 c2 q3 c3 R d.g d.n d.L)) ++ [⟨5, q4, c4, yr d.A⟩, ⟨5, q5, c5, yr d.C⟩])) := by
    have h := C3.out
    refine h.set (((Only.refl _ _).setCell _).setCell _) ?_
    have n0 : NB (w3.setCell ⟨w.heap.size + 1 + 1, 10, none⟩ (.slice q4 d.A.length c4)) (w.heap.size + 1 + 1) 31 { a with im := q1, imc := c1, go := q2, gc := c2, bo := q3, bc := c3, aA := q4, cA := c4 } d := nset h.2.2.2.1 rfl
    have n1 : NB ((w3.setCell ⟨w.heap.size + 1 + 1, 10, none⟩ (.slice q4 d.A.length c4)).setCell ⟨w.heap.size + 1 + 1, 11, none⟩ (.slice q5 d.C.length c5)) (w.heap.size + 1 + 1) 31 { a with im := q1, imc := c1, go := q2, gc := c2, bo := q3, bc := c3, aA := q4, cA := c4, aB := q5, cB := c5 } d := nset n0 rfl
    exact n1
  clear C3
  generalize ((w3.setCell ⟨w.heap.size + 1 + 1, 10, none⟩ (.slice q4 d.A.length c4)).setCell ⟨w.heap.size + 1 + 1, 11, none⟩ (.slice q5 d.C.length c5)) = V3 at *
  obtain ⟨p0, p1, p2, p3, p4, p5, p6, p7, p8, p9, p10, p11, p12, p13, p14, p15⟩ := T3.out.2.1.cells
  have hlw := T3.out.2.1.lt
  have hbe := T3.out.1.trans ((bal1 V3 (.cells #[] 4)).mono T3.out.1.size)
  have hS := hide (Cs.bools (HV.out _ hbe).2.2.2.1.1)
  have hE := hide (rempty (V := V3) (t := 4))
  clear hbe
  go_upto_region 6 with (first
    | (at_builtin; refine wpList_append_cs rfl _ _ 29 rfl V3.heap.size 4 k0 (.bool false) 1 Tryz.underlying29 hk hkz0 hkz1 hkz2 rfl _ [] rfl hE.out a.co d.co.length a.coc (br d.co) (br_len _) rfl hS.out (by unfold maxLen; simp; omega) (by simp; omega) (by simp) ?_; intro v1 w4 ho1 hg1; obtain ⟨q6, c6, rfl, r1, b1⟩ := app_new (br_len _) ho1 hg1; have C4 : Hid (CS2 w w4 a d { a with im := q1, imc := c1, go := q2, gc := c2, bo := q3, bc := c3, aA := q4, cA := c4, aB := q5, cB := c5 } d (((([] ++ [⟨3, q1, c1, ir d.im⟩]) ++ (mrows q2 c2 q3 c3 R d.g d.n d.L)) ++ [⟨5, q4, c4, yr d.A⟩, ⟨5, q5, c5, yr d.C⟩]) ++ [⟨4, q6, c6, br d.co⟩])) := T3.out.call b1 r1; have o12 := C4.out.2.2.2.1.cells; have z2 := C4.out.2.2.2.1.froz; clear ho1 hg1 r1 b1 hS hE hlw T3 p0 p1 p2 p3 p4 p5 p6 p7 p8 p9 p10 p11 p12 p13 p14 p15))
  clear o12 z2
  have T4 : Hid (CS2 w (w4.setCell ⟨w.heap.size + 1 + 1, 12, none⟩ (.slice q6 d.co.length c6)) a d { a with im := q1, imc := c1, go := q2, gc := c2, bo := q3, bc := c3, aA := q4, cA := c4, aB := q5, cB := c5, co := q6, coc := c6 } d (((([] ++ [⟨3, q1, c1, ir d.im⟩]) ++ (mrows q2 c2 q3 c3 R d.g d.n d.L)) ++ [⟨5, q4, c4, yr d.A⟩, ⟨5, q5, c5, yr d.C⟩]) ++ [⟨4, q6, c6, br d.co⟩])) := by
    have h := C4.out
    refine h.set ((Only.refl _ _).setCell _) ?_
    have n0 : NB (w4.setCell ⟨w.heap.size + 1 + 1, 12, none⟩ (.slice q6 d.co.length c6)) (w.heap.size + 1 + 1) 31 { a with im := q1, imc := c1, go := q2, gc := c2, bo := q3, bc := c3, aA := q4, cA := c4, aB := q5, cB := c5, co := q6, coc := c6 } d := nset h.2.2.2.1 rfl
    exact n0
  clear C4
  generalize (w4.setCell ⟨w.heap.size + 1 + 1, 12, none⟩ (.slice q6 d.co.length c6)) = V4 at *
  obtain ⟨p0, p1, p2, p3, p4, p5, p6, p7, p8, p9, p10, p11, p12, p13, p14, p15⟩ := T4.out.2.1.cells
  have hlw := T4.out.2.1.lt
  have hbe := T4.out.1.trans ((bal1 V4 (.cells #[] 4)).mono T4.out.1.size)
  have hS := hide (Cs.bools (HV.out _ hbe).2.2.2.2.2.1.1)
  have hE := hide (rempty (V := V4) (t := 4))
  clear hbe
  go_upto_region 7 with (first
    | (at_builtin; refine wpList_append_cs rfl _ _ 29 rfl V4.heap.size 4 k0 (.bool false) 1 Tryz.underlying29 hk hkz0 hkz1 hkz2 rfl _ [] rfl hE.out a.cp d.cp.length a.cpc (br d.cp) (br_len _) rfl hS.out (by unfold maxLen; simp; omega) (by simp; omega) (by simp) ?_; intro v1 w5 ho1 hg1; obtain ⟨q7, c7, rfl, r1, b1⟩ := app_new (br_len _) ho1 hg1; have C5 : Hid (CS2 w w5 a d { a with im := q1, imc := c1, go := q2, gc := c2, bo := q3, bc := c3, aA := q4, cA := c4, aB := q5, cB := c5, co := q6, coc := c6 } d ((((([] ++ [⟨3, q1, c1, ir d.im⟩]) ++ (mrows q2 c2 q3 c3 R d.g d.n d.L)) ++ [⟨5, q4, c4, yr d.A⟩, ⟨5, q5, c5, yr d.C⟩]) ++ [⟨4, q6, c6, br d.co⟩]) ++ [⟨4, q7, c7, br d.cp⟩])) := T4.out.call b1 r1; have o14 := C5.out.2.2.2.1.cells; have z2 := C5.out.2.2.2.1.froz; clear ho1 hg1 r1 b1 hS hE hlw T4 p0 p1 p2 p3 p4 p5 p6 p7 p8 p9 p10 p11 p12 p13 p14 p15))
  clear o14 z2
  have T5 : Hid (CS2 w (w5.setCell ⟨w.heap.size + 1 + 1, 14, none⟩ (.slice q7 d.cp.length c7)) a d { a with im := q1, imc := c1, go := q2, gc := c2, bo := q3, bc := c3, aA := q4, cA := c4, aB := q5, cB := c5, co := q6, coc := c6, cp := q7, cpc := c7 } d ((((([] ++ [⟨3, q1, c1, ir d.im⟩]) ++ (mrows q2 c2 q3 c3 R d.g d.n d.L)) ++ [⟨5, q4, c4, yr d.A⟩, ⟨5, q5, c5, yr d.C⟩]) ++ [⟨4, q6, c6, br d.co⟩]) ++ [⟨4, q7, c7, br d.cp⟩])) := by
    have h := C5.out
    refine h.set ((Only.refl _ _).setCell _) ?_
    have n0 : NB (w5.setCell ⟨w.heap.size + 1 + 1, 14, none⟩ (.slice q7 d.cp.length c7)) (w.heap.size + 1 + 1) 31 { a with im := q1, imc := c1, go := q2, gc := c2, bo := q3, bc := c3, aA := q4, cA := c4, aB := q5, cB := c5, co := q6, coc := c6, cp := q7, cpc := c7 } d := nset h.2.2.2.1 rfl
    exact n0
  clear C5
  generalize (w5.setCell ⟨w.heap.size + 1 + 1, 14, none⟩ (.slice q7 d.cp.length c7)) = V5 at *
  obtain ⟨p0, p1, p2, p3, p4, p5, p6, p7, p8, p9, p10, p11, p12, p13, p14, p15⟩ := T5.out.2.1.cells
  have hlw := T5.out.2.1.lt
  have hbe := T5.out.1.trans ((bal1 V5 (.cells #[] 3)).mono T5.out.1.size)
  have hS := hide (Cs.ints (HV.out _ hbe).2.2.2.2.2.2.1)
  have hE := hide (rempty (V := V5) (t := 3))
  clear hbe
  go_upto_region 8 with (first
    | (at_builtin; refine wpList_append_cs rfl _ _ 22 rfl V5.heap.size 3 i0 (.int .i64 0) 8 Tryz.underlying22 hi hz0 hz1 hz2 rfl _ [] rfl hE.out a.wt d.wt.length a.wtc (ir d.wt) (ir_len _) rfl hS.out (by unfold maxLen; simp; omega) (by simp; omega) (by simp) ?_; intro v1 w6 ho1 hg1; obtain ⟨q8, c8, rfl, r1, b1⟩ := app_new (ir_len _) ho1 hg1; have C6 : Hid (CS2 w w6 a d { a with im := q1, imc := c1, go := q2, gc := c2, bo := q3, bc := c3, aA := q4, cA := c4, aB := q5, cB := c5, co := q6, coc := c6, cp := q7, cpc := c7 } d (((((([] ++ [⟨3, q1, c1, ir d.im⟩]) ++ (mrows q2 c2 q3 c3 R d.g d.n d.L)) ++ [⟨5, q4, c4, yr d.A⟩, ⟨5, q5, c5, yr d.C⟩]) ++ [⟨4, q6, c6, br d.co⟩]) ++ [⟨4, q7, c7, br d.cp⟩]) ++ [⟨3, q8, c8, ir d.wt⟩])) := T5.out.call b1 r1; have o15 := C6.out.2.2.2.1.cells; have z2 := C6.out.2.2.2.1.froz; clear ho1 hg1 r1 b1 hS hE hlw T5 p0 p1 p2 p3 p4 p5 p6 p7 p8 p9 p10 p11 p12 p13 p14 p15))
  clear o15 z2
  have T6 : Hid (CS2 w (w6.setCell ⟨w.heap.size + 1 + 1, 15, none⟩ (.slice q8 d.wt.length c8)) a d { a with im := q1, imc := c1, go := q2, gc := c2, bo := q3, bc := c3, aA := q4, cA := c4, aB := q5, cB := c5, co := q6, coc := c6, cp := q7, cpc := c7, wt := q8, wtc := c8 } d (((((([] ++ [⟨3, q1, c1, ir d.im⟩]) ++ (mrows q2 c2 q3 c3 R d.g d.n d.L)) ++ [⟨5, q4, c4, yr d.A⟩, ⟨5, q5, c5, yr d.C⟩]) ++ [⟨4, q6, c6, br d.co⟩]) ++ [⟨4, q7, c7, br d.cp⟩]) ++ [⟨3, q8, c8, ir d.wt⟩])) := by
    have h := C6.out
    refine h.set ((Only.refl _ _).setCell _) ?_
    have n0 : NB (w6.setCell ⟨w.heap.size + 1 + 1, 15, none⟩ (.slice q8 d.wt.length c8)) (w.heap.size + 1 + 1) 31 { a with im := q1, imc := c1, go := q2, gc := c2, bo := q3, bc := c3, aA := q4, cA := c4, aB := q5, cB := c5, co := q6, coc := c6, cp := q7, cpc := c7, wt := q8, wtc := c8 } d := nset h.2.2.2.1 rfl
    exact n0
  clear C6
  generalize (w6.setCell ⟨w.heap.size + 1 + 1, 15, none⟩ (.slice q8 d.wt.length c8)) = V6 at *
  obtain ⟨o0, o1, o2, o3, o4, o5, o6, o7, o8, o9, o10, o11, o12, o13, o14, o15⟩ := T6.out.2.2.2.1.cells
  have z2 := T6.out.2.2.2.1.froz
  have HI0 : Hid (LS w (V6.setCell ⟨w.heap.size + 1 + 1, 13, none⟩ (.slice none 0 0)) a d { a with im := q1, imc := c1, go := q2, gc := c2, bo := q3, bc := c3, aA := q4, cA := c4, aB := q5, cB := c5, co := q6, coc := c6, cp := q7, cpc := c7, wt := q8, wtc := c8 } (((((([] ++ [⟨3, q1, c1, ir d.im⟩]) ++ (mrows q2 c2 q3 c3 R d.g d.n d.L)) ++ [⟨5, q4, c4, yr d.A⟩, ⟨5, q5, c5, yr d.C⟩]) ++ [⟨4, q6, c6, br d.co⟩]) ++ [⟨4, q7, c7, br d.cp⟩]) ++ [⟨3, q8, c8, ir d.wt⟩]) V6.heap.size 0 none 0 (fun _ => (none, 0))) := by
    have hO : Only (w.heap.size + 1 + 1) V6 (V6.setCell ⟨w.heap.size + 1 + 1, 13, none⟩ (.slice none 0 0)) := (Only.refl _ _).setCell _
    have h := T6.out
    exact ⟨⟨h.1.trans (hO.1.mono (by omega)), h.2.1.far hO (by omega), h.2.2.1.far hO (by omega), nset h.2.2.2.1 rfl⟩, ⟨h.2.2.2.2.1, by rw [hO.2.1]; exact Nat.le_refl _⟩, h.2.2.2.2.2.kept (fun j h1 _ => hO.2.2 j (by omega)), ⟨rfl, .inl ⟨rfl, rfl⟩⟩, fun j hj => absurd hj (Nat.not_lt_zero _)⟩
  generalize hA6 : { a with im := q1, imc := c1, go := q2, gc := c2, bo := q3, bc := c3, aA := q4, cA := c4, aB := q5, cB := c5, co := q6, coc := c6, cp := q7, cpc := c7, wt := q8, wtc := c8 } = a6 at *
  have HA6 : Hid (a6 = { a with im := q1, imc := c1, go := q2, gc := c2, bo := q3, bc := c3, aA := q4, cA := c4, aB := q5, cB := c5, co := q6, coc := c6, cp := q7, cpc := c7, wt := q8, wtc := c8 }) := hA6.symm
  generalize hR6 : (((((([] ++ [⟨3, q1, c1, ir d.im⟩]) ++ (mrows q2 c2 q3 c3 R d.g d.n d.L)) ++ [⟨5, q4, c4, yr d.A⟩, ⟨5, q5, c5, yr d.C⟩]) ++ [⟨4, q6, c6, br d.co⟩]) ++ [⟨4, q7, c7, br d.cp⟩]) ++ [⟨3, q8, c8, ir d.wt⟩]) = rs6 at *
  have HR6 : Hid (rs6 = (((((([] ++ [⟨3, q1, c1, ir d.im⟩]) ++ (mrows q2 c2 q3 c3 R d.g d.n d.L)) ++ [⟨5, q4, c4, yr d.A⟩, ⟨5, q5, c5, yr d.C⟩]) ++ [⟨4, q6, c6, br d.co⟩]) ++ [⟨4, q7, c7, br d.cp⟩]) ++ [⟨3, q8, c8, ir d.wt⟩])) := hR6.symm
  clear hA6 hR6
  go_wp2_with fail
  clear o0 o1 o2 o3 o4 o5 o6 o7 o8 o9 o10 o11 o12 o13 o14 o15 z2
  generalize V6.heap.size = Z at *
  clear T6
  go_loopw [4] (fun iv wr => ∃ (i : Nat) (p : Option Addr) (c : Nat) (Q : Nat → Option Addr × Nat), i ≤ d.m ∧ iv = .int .i64 i ∧ Hid (LS w wr a d a6 rs6 Z i p c Q)) (fun iv _ => d.m - (intOf iv).toNat)
  case atStart => exact ⟨0, none, 0, _, by omega, rfl, HI0.out⟩
  case round =>
    obtain ⟨i, p, c, Q, hik, rfl, HI⟩ := hrel
    clear HI0
    obtain ⟨p0, p1, p2, p3, p4, p5, p6, p7, p8, p9, p10, p11, p12, p13, p14, p15⟩ := HI.out.1.2.1.cells
    by_cases hlt : i < d.m
    · have hlt2 : (i : Int) < (d.m : Int) := by omega
      have hi0 : (0 : Int) ≤ (i : Int) := by omega
      obtain ⟨b, off, qo, qc, hso, hcell, _, hsrc⟩ := (HV.out _ (Below.refl _ _)).2.2.2.2.1.1 i hlt
      rw [hso] at p13
      have HSr := hide hsrc
      have hl8 := HL8.out i hlt
      have rowc : Hid (∀ w', Below w.heap.size w w' → w'.cell? ⟨b, off + i, none⟩ = some (.slice qo (d.S i).length qc)) := fun w' hb => (hb.cell (lt_of_cell hcell)).trans hcell
      have sS : Hid (∀ w', Below w.heap.size w w' → NB w' w.heap.size 31 a d → (w'.cell? ⟨w.heap.size, 13, none⟩ = some (.slice (some ⟨b, off, none⟩) d.m a.sc) ∧ w'.cell? ⟨b, off + i, none⟩ = some (.slice qo (d.S i).length qc))) := fun w' hb hk => ⟨by have := hk.cells.2.2.2.2.2.2.2.2.2.2.2.2.2.1; rwa [hso] at this, rowc.out w' hb⟩
      clear hcell hsrc hso
      go_wp2_with fail
      have HId : Hid (LS w wr.drew a d a6 rs6 Z i p c Q) := HI.out.below (Below.drawn (Below.refl _ _) 1)
      have hS0 := sS.out wr.drew HId.out.1.1 HId.out.1.2.1
      have HIa := hide (HI.out.below (bal1 wr (.cells #[] 3)))
      have HIad : Hid (LS w (wr.alloc (.cells #[] 3)).drew a d a6 rs6 Z i p c Q) := HIa.out.below (Below.drawn (Below.refl _ _) 1)
      have hS1 := sS.out (wr.alloc (.cells #[] 3)).drew HIad.out.1.1 HIad.out.1.2.1
      have hx0 : wr.drew.cell? ⟨w.heap.size + 1 + 1, 13, none⟩ = some (.slice p i c) := HId.out.1.2.2.2.cells.2.2.2.2.2.2.2.2.2.2.2.2.2.1
      have hx0' : wr.cell? ⟨w.heap.size + 1 + 1, 13, none⟩ = some (.slice p i c) := HI.out.1.2.2.2.cells.2.2.2.2.2.2.2.2.2.2.2.2.2.1
      have hx1 : (wr.alloc (.cells #[] 3)).cell? ⟨w.heap.size + 1 + 1, 13, none⟩ = some (.slice p i c) := HIa.out.1.2.2.2.cells.2.2.2.2.2.2.2.2.2.2.2.2.2.1
      have hbz : Z ≤ wr.heap.size := HI.out.2.1.2
      have hEm : Hid ((wr.alloc (.cells #[] 3)).drew.ownsRow Z 3 1 (.slice (some ⟨wr.heap.size, 0, none⟩) 0 0) ([] : List Int).length (([] : List Int).map (.int .i64))) := gdrawn (gempty hbz) 1
      have hEm2 : Hid ((wr.alloc (.cells #[] 3)).drew.ownsRow wr.heap.size 3 1 (.slice (some ⟨wr.heap.size, 0, none⟩) 0 0) ([] : List Int).length (([] : List Int).map (.int .i64))) := gdrawn (gempty (Nat.le_refl _)) 1
      have hSr1 := hide (Cs.ints (HSr.out.below HIad.out.1.1))
      have hbd : Hid (Below wr.heap.size wr (wr.alloc (.cells #[] 3)).drew) := Below.drawn (bal1 _ _) 1
      clear p0 p1 p2 p3 p4 p5 p6 p7 p8 p9 p10 p11 p12 p13 p14 p15
      refine wp_region_held_drew (S := (fun w' => w'.cell? ⟨w.heap.size, 13, none⟩ = some (.slice (some ⟨b, off, none⟩) d.m a.sc) ∧ w'.cell? ⟨b, off + i, none⟩ = some (.slice qo (d.S i).length qc))) (by kernel_rfl) ?_ (fun hHeld => ?_)
      · exact hS0
      refine wpAnyH_take (i := 0) (oi := { dst := some 42, op := Op.fieldAddr 31 (Operand.tmp 3) 7, type := 0, pos := "l08_node.go:56", after := #[], guard := none }) (v := ?_) rfl (by kernel_rfl) (by kernel_rfl) (by kernel_rfl) (fun _ _ _ h => h) (Or.inl ⟨by rfl, ?_⟩) (by assumption) ?_
      rotate_left 1
      · (intro wq hSw; (try dsimp only at hSw); go_simp; try with_reducible rfl)
      try simp only [Act.put, ly1, ly2, ly3]
      refine wpAnyH_take (i := 3) (oi := { dst := some 45, op := Op.fieldAddr 31 (Operand.tmp 1) 7, type := 0, pos := "l08_node.go:56", after := #[], guard := none }) (v := ?_) rfl (by kernel_rfl) (by kernel_rfl) (by kernel_rfl) (fun _ _ _ h => h) (Or.inl ⟨by rfl, ?_⟩) (by assumption) ?_
      rotate_left 1
      · (intro wq hSw; (try dsimp only at hSw); go_simp; try with_reducible rfl)
      try simp only [Act.put, ly1, ly2, ly3]
      refine wpAnyH_take (i := 4) (oi := { dst := some 46, op := Op.load 23 (Operand.tmp 45), type := 23, pos := "l08_node.go:56", after := #[{ on := 3, ground := Ground.data }], guard := none }) (v := ?_) rfl (by kernel_rfl) (by kernel_rfl) (by kernel_rfl) (fun _ _ _ h => h) (Or.inl ⟨by rfl, ?_⟩) (by assumption) ?_
      rotate_left 1
      · (intro wq hSw; (try dsimp only at hSw); go_simp; try with_reducible rfl)
      try simp only [Act.put, ly1, ly2, ly3]
      refine wpAnyH_take (i := 5) (oi := { dst := some 47, op := Op.move (Operand.tmp 4), type := 3, pos := "l08_node.go:56", after := #[], guard := none }) (v := ?_) rfl (by kernel_rfl) (by kernel_rfl) (by kernel_rfl) (fun _ _ _ h => h) (Or.inl ⟨by rfl, ?_⟩) (by assumption) ?_
      rotate_left 1
      · (intro wq hSw; (try dsimp only at hSw); go_simp; try with_reducible rfl)
      try simp only [Act.put, ly1, ly2, ly3]
      refine wpAnyH_take (i := 6) (oi := { dst := some 48, op := Op.indexAddr 23 (Operand.tmp 46) (Operand.tmp 47), type := 0, pos := "l08_node.go:56", after := #[{ on := 4, ground := Ground.data }, { on := 5, ground := Ground.data }], guard := none }) (v := ?_) rfl (by kernel_rfl) (by kernel_rfl) (by kernel_rfl) (fun _ _ _ h => h) (Or.inl ⟨by rfl, ?_⟩) (by assumption) ?_
      rotate_left 1
      · (intro wq hSw; (try dsimp only at hSw); go_simp; try with_reducible rfl)
      try simp only [Act.put, ly1, ly2, ly3]
      refine wpAnyH_take (i := 7) (oi := { dst := some 49, op := Op.load 22 (Operand.tmp 48), type := 22, pos := "l08_node.go:56", after := #[{ on := 6, ground := Ground.data }], guard := none }) (v := ?_) rfl (by kernel_rfl) (by kernel_rfl) (by kernel_rfl) (fun _ _ _ h => h) (Or.inl ⟨by rfl, ?_⟩) (by assumption) ?_
      rotate_left 1
      · (intro wq hSw; (try dsimp only at hSw); go_simp; try with_reducible rfl)
      try simp only [Act.put, ly1, ly2, ly3]
      refine wpAnyH_ready (rs := [1, 2]) (by kernel_rfl) (by simp) ?_
      refine AllReadyH.cons (o := { dst := some 43, op := Op.load 23 (Operand.tmp 42), type := 23, pos := "l08_node.go:56", after := #[{ on := 0, ground := Ground.data }], guard := none }) rfl (fun K hK => ?_) ?_
      · skip
        go_simp
        refine hK.out _ _ ?_ (fun hHeld => ?_)
        · exact hS0
        clear hK K
        try simp only [Act.put, ly1, ly2, ly3]
        refine wpAnyH_ready (rs := [2]) (by kernel_rfl) (by simp) ?_
        refine AllReadyH.cons (o := { dst := some 44, op := Op.buildSlice 22 0 #[], type := 22, pos := "l08_node.go:56", after := #[], guard := none }) rfl (fun K hK => ?_) AllReadyH.nil
        go_simp
        refine hK.out _ _ ?_ (fun hHeld => ?_)
        · exact hS1
        clear hK K
        try simp only [Act.put, ly1, ly2, ly3]
        refine wpAnyH_ready (rs := [8]) (by kernel_rfl) (by simp) ?_
        refine AllReadyH.cons (o := { dst := some 50, op := Op.call { callee := Callee.builtin Builtin.append, args := #[Operand.tmp 44, Operand.tmp 49], argTypes := #[22, 22] }, type := 22, pos := "l08_node.go:56", after := #[{ on := 2, ground := Ground.data }, { on := 7, ground := Ground.data }], guard := none }) rfl (fun K hK => ?_) AllReadyH.nil
        refine step_append_cs rfl _ _ 22 rfl Z 3 i0 (.int .i64 0) 8 Tryz.underlying22 hi hz0 hz1 hz2 rfl _ [] rfl hEm.out qo (d.S i).length qc (ir (d.S i)) (ir_len _) rfl hSr1.out (by unfold maxLen; simp; omega) (by simp; omega) (by have := hbd.out.size; omega) ?_
        intro v8 w8 ho8 hg8
        have ho8 := cs_int ho8
        simp only [List.nil_append] at ho8
        obtain ⟨r8, c8, rfl⟩ := (Src.of_owns ho8).form
        have b8 : Below wr.heap.size wr w8 := hbd.out.grown hg8 hbd.out.size (fun j hj => (World.ownsRow.lt hEm2.out j hj).1)
        have H8 := hide (HI.out.below b8)
        have HO8 : Hid (RwOk (w8.alloc (.cells #[.slice r8 (d.S i).length c8] 22)) Z (w8.alloc (.cells #[.slice r8 (d.S i).length c8] 22)).heap.size ⟨3, r8, c8, ir (d.S i)⟩) := ((lw_row (r := (r8, c8)) ho8).kept (fun j _ hj => (bal1 w8 _).block j hj)).wide (Nat.le_refl _) (by simp)
        have hS8 := sS.out w8 H8.out.1.1 H8.out.1.2.1
        have hx8 : w8.cell? ⟨w.heap.size + 1 + 1, 13, none⟩ = some (.slice p i c) := H8.out.1.2.2.2.cells.2.2.2.2.2.2.2.2.2.2.2.2.2.1
        have H8a := hide (H8.out.below (bal1 w8 (.cells #[.slice r8 (d.S i).length c8] 22)))
        have hS9 := sS.out (w8.alloc (.cells #[.slice r8 (d.S i).length c8] 22)) H8a.out.1.1 H8a.out.1.2.1
        have hx9 : (w8.alloc (.cells #[.slice r8 (d.S i).length c8] 22)).cell? ⟨w.heap.size + 1 + 1, 13, none⟩ = some (.slice p i c) := H8a.out.1.2.2.2.cells.2.2.2.2.2.2.2.2.2.2.2.2.2.1
        clear ho8 hg8 b8
        refine hK.out _ _ ?_ (fun hHeld => ?_)
        · exact hS8
        clear hK K
        try simp only [Act.put, ly1, ly2, ly3]
        refine wpAnyH_ready (rs := [9]) (by kernel_rfl) (by simp) ?_
        refine AllReadyH.cons (o := { dst := some 51, op := Op.buildSlice 23 1 #[(0, Operand.tmp 50)], type := 23, pos := "l08_node.go:56", after := #[{ on := 8, ground := Ground.data }], guard := none }) rfl (fun K hK => ?_) AllReadyH.nil
        go_simp
        refine hK.out _ _ ?_ (fun hHeld => ?_)
        · exact hS9
        clear hK K
        try simp only [Act.put, ly1, ly2, ly3]
        refine wpAnyH_ready (rs := [10]) (by kernel_rfl) (by simp) ?_
        refine AllReadyH.cons (o := { dst := some 52, op := Op.call { callee := Callee.builtin Builtin.append, args := #[Operand.tmp 43, Operand.tmp 51], argTypes := #[23, 23] }, type := 23, pos := "l08_node.go:56", after := #[{ on := 1, ground := Ground.data }, { on := 9, ground := Ground.data }, { on := 8, ground := Ground.chain }], guard := none }) rfl (fun K hK => ?_) AllReadyH.nil
        refine step_append_lies _ rfl _ _ 23 rfl Z 22 j0 (.slice none 0 0) 1 24 Tryz.underlying23 hj hjz0 hjz1 hjz2 rfl (by decide) _ _ _ rfl H8a.out.2.2.2.1 ⟨w8.heap.size, 0, none⟩ 1 1 [.slice r8 (d.S i).length c8] rfl rfl (gcells w8 [.slice r8 (d.S i).length c8] 22) (fun u hu => by simp at hu; subst hu; rfl) (by decide) (glens (by omega)) (by omega) (by have := H8a.out.2.1.2; omega) _ rfl ?_
        intro t4 c4 w4 ho4 hg4 hat4 hlt4
        have H4 := hide (H8a.out.push HO8.out ho4 hg4)
        have hS4 := sS.out w4 H4.out.2.1 H4.out.2.2.1
        have hx4 : w4.cell? ⟨w.heap.size + 1 + 1, 13, none⟩ = some (.slice p i c) := H4.out.2.2.2.cells.2.2.2.2.2.2.2.2.2.2.2.2.2.1
        have zf4 := NB.froz H4.out.2.2.2
        have hS5 := sS.out _ H4.out.1.1.1 H4.out.1.1.2.1
        clear ho4 hg4 hat4 hlt4
        refine hK.out _ _ ?_ (fun hHeld => ?_)
        · exact hS4
        clear hK K
        try simp only [Act.put, ly1, ly2, ly3]
        refine wpAnyH_take (i := 11) (oi := { dst := some 53, op := Op.fieldAddr 31 (Operand.tmp 3) 7, type := 0, pos := "l08_node.go:56", after := #[{ on := 0, ground := Ground.phase }, { on := 1, ground := Ground.phase }, { on := 2, ground := Ground.phase }, { on := 3, ground := Ground.phase }, { on := 4, ground := Ground.phase }, { on := 5, ground := Ground.phase }, { on := 6, ground := Ground.phase }, { on := 7, ground := Ground.phase }, { on := 8, ground := Ground.phase }, { on := 9, ground := Ground.phase }, { on := 10, ground := Ground.phase }], guard := none }) (v := ?_) rfl (by kernel_rfl) (by kernel_rfl) (by kernel_rfl) (fun _ _ _ h => h) (Or.inl ⟨by rfl, ?_⟩) (by assumption) ?_
        rotate_left 1
        · (intro wq hSw; (try dsimp only at hSw); go_simp; try with_reducible rfl)
        try simp only [Act.put, ly1, ly2, ly3]
        refine wpAnyH_ready (rs := [12]) (by kernel_rfl) (by simp) ?_
        refine AllReadyH.cons (o := { dst := none, op := Op.store 23 (Operand.tmp 53) (Operand.tmp 52), type := 0, pos := "l08_node.go:56", after := #[{ on := 11, ground := Ground.data }, { on := 10, ground := Ground.data }, { on := 10, ground := Ground.chain }, { on := 0, ground := Ground.phase }, { on := 1, ground := Ground.phase }, { on := 2, ground := Ground.phase }, { on := 3, ground := Ground.phase }, { on := 4, ground := Ground.phase }, { on := 5, ground := Ground.phase }, { on := 6, ground := Ground.phase }, { on := 7, ground := Ground.phase }, { on := 8, ground := Ground.phase }, { on := 9, ground := Ground.phase }, { on := 10, ground := Ground.phase }], guard := none }) rfl (fun K hK => ?_) AllReadyH.nil
        go_simp
        refine hK.out _ _ ?_ (fun hHeld => ?_)
        · exact hS5
        clear hK K
        try simp only [Act.put, ly1, ly2, ly3]
        refine wpAnyH_done (by kernel_rfl) ?_ _
        go_wp2_with fail
        go_roundw
        case rel => exact ⟨i + 1, _, _, _, by omega, by go_num, H4.out.1⟩
        case measure => simp [intOf]; omega
      refine AllReadyH.cons (o := { dst := some 44, op := Op.buildSlice 22 0 #[], type := 22, pos := "l08_node.go:56", after := #[], guard := none }) rfl (fun K hK => ?_) AllReadyH.nil
      · skip
        go_simp
        refine hK.out _ _ ?_ (fun hHeld => ?_)
        · exact hS1
        clear hK K
        try simp only [Act.put, ly1, ly2, ly3]
        refine wpAnyH_ready (rs := [1, 8]) (by kernel_rfl) (by simp) ?_
        refine AllReadyH.cons (o := { dst := some 43, op := Op.load 23 (Operand.tmp 42), type := 23, pos := "l08_node.go:56", after := #[{ on := 0, ground := Ground.data }], guard := none }) rfl (fun K hK => ?_) ?_
        · skip
          go_simp
          refine hK.out _ _ ?_ (fun hHeld => ?_)
          · exact hS1
          clear hK K
          try simp only [Act.put, ly1, ly2, ly3]
          refine wpAnyH_ready (rs := [8]) (by kernel_rfl) (by simp) ?_
          refine AllReadyH.cons (o := { dst := some 50, op := Op.call { callee := Callee.builtin Builtin.append, args := #[Operand.tmp 44, Operand.tmp 49], argTypes := #[22, 22] }, type := 22, pos := "l08_node.go:56", after := #[{ on := 2, ground := Ground.data }, { on := 7, ground := Ground.data }], guard := none }) rfl (fun K hK => ?_) AllReadyH.nil
          refine step_append_cs rfl _ _ 22 rfl Z 3 i0 (.int .i64 0) 8 Tryz.underlying22 hi hz0 hz1 hz2 rfl _ [] rfl hEm.out qo (d.S i).length qc (ir (d.S i)) (ir_len _) rfl hSr1.out (by unfold maxLen; simp; omega) (by simp; omega) (by have := hbd.out.size; omega) ?_
          intro v8 w8 ho8 hg8
          have ho8 := cs_int ho8
          simp only [List.nil_append] at ho8
          obtain ⟨r8, c8, rfl⟩ := (Src.of_owns ho8).form
          have b8 : Below wr.heap.size wr w8 := hbd.out.grown hg8 hbd.out.size (fun j hj => (World.ownsRow.lt hEm2.out j hj).1)
          have H8 := hide (HI.out.below b8)
          have HO8 : Hid (RwOk (w8.alloc (.cells #[.slice r8 (d.S i).length c8] 22)) Z (w8.alloc (.cells #[.slice r8 (d.S i).length c8] 22)).heap.size ⟨3, r8, c8, ir (d.S i)⟩) := ((lw_row (r := (r8, c8)) ho8).kept (fun j _ hj => (bal1 w8 _).block j hj)).wide (Nat.le_refl _) (by simp)
          have hS8 := sS.out w8 H8.out.1.1 H8.out.1.2.1
          have hx8 : w8.cell? ⟨w.heap.size + 1 + 1, 13, none⟩ = some (.slice p i c) := H8.out.1.2.2.2.cells.2.2.2.2.2.2.2.2.2.2.2.2.2.1
          have H8a := hide (H8.out.below (bal1 w8 (.cells #[.slice r8 (d.S i).length c8] 22)))
          have hS9 := sS.out (w8.alloc (.cells #[.slice r8 (d.S i).length c8] 22)) H8a.out.1.1 H8a.out.1.2.1
          have hx9 : (w8.alloc (.cells #[.slice r8 (d.S i).length c8] 22)).cell? ⟨w.heap.size + 1 + 1, 13, none⟩ = some (.slice p i c) := H8a.out.1.2.2.2.cells.2.2.2.2.2.2.2.2.2.2.2.2.2.1
          clear ho8 hg8 b8
          refine hK.out _ _ ?_ (fun hHeld => ?_)
          · exact hS8
          clear hK K
          try simp only [Act.put, ly1, ly2, ly3]
          refine wpAnyH_ready (rs := [9]) (by kernel_rfl) (by simp) ?_
          refine AllReadyH.cons (o := { dst := some 51, op := Op.buildSlice 23 1 #[(0, Operand.tmp 50)], type := 23, pos := "l08_node.go:56", after := #[{ on := 8, ground := Ground.data }], guard := none }) rfl (fun K hK => ?_) AllReadyH.nil
          go_simp
          refine hK.out _ _ ?_ (fun hHeld => ?_)
          · exact hS9
          clear hK K
          try simp only [Act.put, ly1, ly2, ly3]
          refine wpAnyH_ready (rs := [10]) (by kernel_rfl) (by simp) ?_
          refine AllReadyH.cons (o := { dst := some 52, op := Op.call { callee := Callee.builtin Builtin.append, args := #[Operand.tmp 43, Operand.tmp 51], argTypes := #[23, 23] }, type := 23, pos := "l08_node.go:56", after := #[{ on := 1, ground := Ground.data }, { on := 9, ground := Ground.data }, { on := 8, ground := Ground.chain }], guard := none }) rfl (fun K hK => ?_) AllReadyH.nil
          refine step_append_lies _ rfl _ _ 23 rfl Z 22 j0 (.slice none 0 0) 1 24 Tryz.underlying23 hj hjz0 hjz1 hjz2 rfl (by decide) _ _ _ rfl H8a.out.2.2.2.1 ⟨w8.heap.size, 0, none⟩ 1 1 [.slice r8 (d.S i).length c8] rfl rfl (gcells w8 [.slice r8 (d.S i).length c8] 22) (fun u hu => by simp at hu; subst hu; rfl) (by decide) (glens (by omega)) (by omega) (by have := H8a.out.2.1.2; omega) _ rfl ?_
          intro t4 c4 w4 ho4 hg4 hat4 hlt4
          have H4 := hide (H8a.out.push HO8.out ho4 hg4)
          have hS4 := sS.out w4 H4.out.2.1 H4.out.2.2.1
          have hx4 : w4.cell? ⟨w.heap.size + 1 + 1, 13, none⟩ = some (.slice p i c) := H4.out.2.2.2.cells.2.2.2.2.2.2.2.2.2.2.2.2.2.1
          have zf4 := NB.froz H4.out.2.2.2
          have hS5 := sS.out _ H4.out.1.1.1 H4.out.1.1.2.1
          clear ho4 hg4 hat4 hlt4
          refine hK.out _ _ ?_ (fun hHeld => ?_)
          · exact hS4
          clear hK K
          try simp only [Act.put, ly1, ly2, ly3]
          refine wpAnyH_take (i := 11) (oi := { dst := some 53, op := Op.fieldAddr 31 (Operand.tmp 3) 7, type := 0, pos := "l08_node.go:56", after := #[{ on := 0, ground := Ground.phase }, { on := 1, ground := Ground.phase }, { on := 2, ground := Ground.phase }, { on := 3, ground := Ground.phase }, { on := 4, ground := Ground.phase }, { on := 5, ground := Ground.phase }, { on := 6, ground := Ground.phase }, { on := 7, ground := Ground.phase }, { on := 8, ground := Ground.phase }, { on := 9, ground := Ground.phase }, { on := 10, ground := Ground.phase }], guard := none }) (v := ?_) rfl (by kernel_rfl) (by kernel_rfl) (by kernel_rfl) (fun _ _ _ h => h) (Or.inl ⟨by rfl, ?_⟩) (by assumption) ?_
          rotate_left 1
          · (intro wq hSw; (try dsimp only at hSw); go_simp; try with_reducible rfl)
          try simp only [Act.put, ly1, ly2, ly3]
          refine wpAnyH_ready (rs := [12]) (by kernel_rfl) (by simp) ?_
          refine AllReadyH.cons (o := { dst := none, op := Op.store 23 (Operand.tmp 53) (Operand.tmp 52), type := 0, pos := "l08_node.go:56", after := #[{ on := 11, ground := Ground.data }, { on := 10, ground := Ground.data }, { on := 10, ground := Ground.chain }, { on := 0, ground := Ground.phase }, { on := 1, ground := Ground.phase }, { on := 2, ground := Ground.phase }, { on := 3, ground := Ground.phase }, { on := 4, ground := Ground.phase }, { on := 5, ground := Ground.phase }, { on := 6, ground := Ground.phase }, { on := 7, ground := Ground.phase }, { on := 8, ground := Ground.phase }, { on := 9, ground := Ground.phase }, { on := 10, ground := Ground.phase }], guard := none }) rfl (fun K hK => ?_) AllReadyH.nil
          go_simp
          refine hK.out _ _ ?_ (fun hHeld => ?_)
          · exact hS5
          clear hK K
          try simp only [Act.put, ly1, ly2, ly3]
          refine wpAnyH_done (by kernel_rfl) ?_ _
          go_wp2_with fail
          go_roundw
          case rel => exact ⟨i + 1, _, _, _, by omega, by go_num, H4.out.1⟩
          case measure => simp [intOf]; omega
        refine AllReadyH.cons (o := { dst := some 50, op := Op.call { callee := Callee.builtin Builtin.append, args := #[Operand.tmp 44, Operand.tmp 49], argTypes := #[22, 22] }, type := 22, pos := "l08_node.go:56", after := #[{ on := 2, ground := Ground.data }, { on := 7, ground := Ground.data }], guard := none }) rfl (fun K hK => ?_) AllReadyH.nil
        · skip
          refine step_append_cs rfl _ _ 22 rfl Z 3 i0 (.int .i64 0) 8 Tryz.underlying22 hi hz0 hz1 hz2 rfl _ [] rfl hEm.out qo (d.S i).length qc (ir (d.S i)) (ir_len _) rfl hSr1.out (by unfold maxLen; simp; omega) (by simp; omega) (by have := hbd.out.size; omega) ?_
          intro v8 w8 ho8 hg8
          have ho8 := cs_int ho8
          simp only [List.nil_append] at ho8
          obtain ⟨r8, c8, rfl⟩ := (Src.of_owns ho8).form
          have b8 : Below wr.heap.size wr w8 := hbd.out.grown hg8 hbd.out.size (fun j hj => (World.ownsRow.lt hEm2.out j hj).1)
          have H8 := hide (HI.out.below b8)
          have HO8 : Hid (RwOk (w8.alloc (.cells #[.slice r8 (d.S i).length c8] 22)) Z (w8.alloc (.cells #[.slice r8 (d.S i).length c8] 22)).heap.size ⟨3, r8, c8, ir (d.S i)⟩) := ((lw_row (r := (r8, c8)) ho8).kept (fun j _ hj => (bal1 w8 _).block j hj)).wide (Nat.le_refl _) (by simp)
          have hS8 := sS.out w8 H8.out.1.1 H8.out.1.2.1
          have hx8 : w8.cell? ⟨w.heap.size + 1 + 1, 13, none⟩ = some (.slice p i c) := H8.out.1.2.2.2.cells.2.2.2.2.2.2.2.2.2.2.2.2.2.1
          have H8a := hide (H8.out.below (bal1 w8 (.cells #[.slice r8 (d.S i).length c8] 22)))
          have hS9 := sS.out (w8.alloc (.cells #[.slice r8 (d.S i).length c8] 22)) H8a.out.1.1 H8a.out.1.2.1
          have hx9 : (w8.alloc (.cells #[.slice r8 (d.S i).length c8] 22)).cell? ⟨w.heap.size + 1 + 1, 13, none⟩ = some (.slice p i c) := H8a.out.1.2.2.2.cells.2.2.2.2.2.2.2.2.2.2.2.2.2.1
          clear ho8 hg8 b8
          refine hK.out _ _ ?_ (fun hHeld => ?_)
          · exact hS8
          clear hK K
          try simp only [Act.put, ly1, ly2, ly3]
          refine wpAnyH_ready (rs := [1, 9]) (by kernel_rfl) (by simp) ?_
          refine AllReadyH.cons (o := { dst := some 43, op := Op.load 23 (Operand.tmp 42), type := 23, pos := "l08_node.go:56", after := #[{ on := 0, ground := Ground.data }], guard := none }) rfl (fun K hK => ?_) ?_
          · skip
            go_simp
            refine hK.out _ _ ?_ (fun hHeld => ?_)
            · exact hS8
            clear hK K
            try simp only [Act.put, ly1, ly2, ly3]
            refine wpAnyH_ready (rs := [9]) (by kernel_rfl) (by simp) ?_
            refine AllReadyH.cons (o := { dst := some 51, op := Op.buildSlice 23 1 #[(0, Operand.tmp 50)], type := 23, pos := "l08_node.go:56", after := #[{ on := 8, ground := Ground.data }], guard := none }) rfl (fun K hK => ?_) AllReadyH.nil
            go_simp
            refine hK.out _ _ ?_ (fun hHeld => ?_)
            · exact hS9
            clear hK K
            try simp only [Act.put, ly1, ly2, ly3]
            refine wpAnyH_ready (rs := [10]) (by kernel_rfl) (by simp) ?_
            refine AllReadyH.cons (o := { dst := some 52, op := Op.call { callee := Callee.builtin Builtin.append, args := #[Operand.tmp 43, Operand.tmp 51], argTypes := #[23, 23] }, type := 23, pos := "l08_node.go:56", after := #[{ on := 1, ground := Ground.data }, { on := 9, ground := Ground.data }, { on := 8, ground := Ground.chain }], guard := none }) rfl (fun K hK => ?_) AllReadyH.nil
            refine step_append_lies _ rfl _ _ 23 rfl Z 22 j0 (.slice none 0 0) 1 24 Tryz.underlying23 hj hjz0 hjz1 hjz2 rfl (by decide) _ _ _ rfl H8a.out.2.2.2.1 ⟨w8.heap.size, 0, none⟩ 1 1 [.slice r8 (d.S i).length c8] rfl rfl (gcells w8 [.slice r8 (d.S i).length c8] 22) (fun u hu => by simp at hu; subst hu; rfl) (by decide) (glens (by omega)) (by omega) (by have := H8a.out.2.1.2; omega) _ rfl ?_
            intro t4 c4 w4 ho4 hg4 hat4 hlt4
            have H4 := hide (H8a.out.push HO8.out ho4 hg4)
            have hS4 := sS.out w4 H4.out.2.1 H4.out.2.2.1
            have hx4 : w4.cell? ⟨w.heap.size + 1 + 1, 13, none⟩ = some (.slice p i c) := H4.out.2.2.2.cells.2.2.2.2.2.2.2.2.2.2.2.2.2.1
            have zf4 := NB.froz H4.out.2.2.2
            have hS5 := sS.out _ H4.out.1.1.1 H4.out.1.1.2.1
            clear ho4 hg4 hat4 hlt4
            refine hK.out _ _ ?_ (fun hHeld => ?_)
            · exact hS4
            clear hK K
            try simp only [Act.put, ly1, ly2, ly3]
            refine wpAnyH_take (i := 11) (oi := { dst := some 53, op := Op.fieldAddr 31 (Operand.tmp 3) 7, type := 0, pos := "l08_node.go:56", after := #[{ on := 0, ground := Ground.phase }, { on := 1, ground := Ground.phase }, { on := 2, ground := Ground.phase }, { on := 3, ground := Ground.phase }, { on := 4, ground := Ground.phase }, { on := 5, ground := Ground.phase }, { on := 6, ground := Ground.phase }, { on := 7, ground := Ground.phase }, { on := 8, ground := Ground.phase }, { on := 9, ground := Ground.phase }, { on := 10, ground := Ground.phase }], guard := none }) (v := ?_) rfl (by kernel_rfl) (by kernel_rfl) (by kernel_rfl) (fun _ _ _ h => h) (Or.inl ⟨by rfl, ?_⟩) (by assumption) ?_
            rotate_left 1
            · (intro wq hSw; (try dsimp only at hSw); go_simp; try with_reducible rfl)
            try simp only [Act.put, ly1, ly2, ly3]
            refine wpAnyH_ready (rs := [12]) (by kernel_rfl) (by simp) ?_
            refine AllReadyH.cons (o := { dst := none, op := Op.store 23 (Operand.tmp 53) (Operand.tmp 52), type := 0, pos := "l08_node.go:56", after := #[{ on := 11, ground := Ground.data }, { on := 10, ground := Ground.data }, { on := 10, ground := Ground.chain }, { on := 0, ground := Ground.phase }, { on := 1, ground := Ground.phase }, { on := 2, ground := Ground.phase }, { on := 3, ground := Ground.phase }, { on := 4, ground := Ground.phase }, { on := 5, ground := Ground.phase }, { on := 6, ground := Ground.phase }, { on := 7, ground := Ground.phase }, { on := 8, ground := Ground.phase }, { on := 9, ground := Ground.phase }, { on := 10, ground := Ground.phase }], guard := none }) rfl (fun K hK => ?_) AllReadyH.nil
            go_simp
            refine hK.out _ _ ?_ (fun hHeld => ?_)
            · exact hS5
            clear hK K
            try simp only [Act.put, ly1, ly2, ly3]
            refine wpAnyH_done (by kernel_rfl) ?_ _
            go_wp2_with fail
            go_roundw
            case rel => exact ⟨i + 1, _, _, _, by omega, by go_num, H4.out.1⟩
            case measure => simp [intOf]; omega
          refine AllReadyH.cons (o := { dst := some 51, op := Op.buildSlice 23 1 #[(0, Operand.tmp 50)], type := 23, pos := "l08_node.go:56", after := #[{ on := 8, ground := Ground.data }], guard := none }) rfl (fun K hK => ?_) AllReadyH.nil
          · skip
            go_simp
            refine hK.out _ _ ?_ (fun hHeld => ?_)
            · exact hS9
            clear hK K
            try simp only [Act.put, ly1, ly2, ly3]
            refine wpAnyH_ready (rs := [1]) (by kernel_rfl) (by simp) ?_
            refine AllReadyH.cons (o := { dst := some 43, op := Op.load 23 (Operand.tmp 42), type := 23, pos := "l08_node.go:56", after := #[{ on := 0, ground := Ground.data }], guard := none }) rfl (fun K hK => ?_) AllReadyH.nil
            go_simp
            refine hK.out _ _ ?_ (fun hHeld => ?_)
            · exact hS9
            clear hK K
            try simp only [Act.put, ly1, ly2, ly3]
            refine wpAnyH_ready (rs := [10]) (by kernel_rfl) (by simp) ?_
            refine AllReadyH.cons (o := { dst := some 52, op := Op.call { callee := Callee.builtin Builtin.append, args := #[Operand.tmp 43, Operand.tmp 51], argTypes := #[23, 23] }, type := 23, pos := "l08_node.go:56", after := #[{ on := 1, ground := Ground.data }, { on := 9, ground := Ground.data }, { on := 8, ground := Ground.chain }], guard := none }) rfl (fun K hK => ?_) AllReadyH.nil
            refine step_append_lies _ rfl _ _ 23 rfl Z 22 j0 (.slice none 0 0) 1 24 Tryz.underlying23 hj hjz0 hjz1 hjz2 rfl (by decide) _ _ _ rfl H8a.out.2.2.2.1 ⟨w8.heap.size, 0, none⟩ 1 1 [.slice r8 (d.S i).length c8] rfl rfl (gcells w8 [.slice r8 (d.S i).length c8] 22) (fun u hu => by simp at hu; subst hu; rfl) (by decide) (glens (by omega)) (by omega) (by have := H8a.out.2.1.2; omega) _ rfl ?_
            intro t4 c4 w4 ho4 hg4 hat4 hlt4
            have H4 := hide (H8a.out.push HO8.out ho4 hg4)
            have hS4 := sS.out w4 H4.out.2.1 H4.out.2.2.1
            have hx4 : w4.cell? ⟨w.heap.size + 1 + 1, 13, none⟩ = some (.slice p i c) := H4.out.2.2.2.cells.2.2.2.2.2.2.2.2.2.2.2.2.2.1
            have zf4 := NB.froz H4.out.2.2.2
            have hS5 := sS.out _ H4.out.1.1.1 H4.out.1.1.2.1
            clear ho4 hg4 hat4 hlt4
            refine hK.out _ _ ?_ (fun hHeld => ?_)
            · exact hS4
            clear hK K
            try simp only [Act.put, ly1, ly2, ly3]
            refine wpAnyH_take (i := 11) (oi := { dst := some 53, op := Op.fieldAddr 31 (Operand.tmp 3) 7, type := 0, pos := "l08_node.go:56", after := #[{ on := 0, ground := Ground.phase }, { on := 1, ground := Ground.phase }, { on := 2, ground := Ground.phase }, { on := 3, ground := Ground.phase }, { on := 4, ground := Ground.phase }, { on := 5, ground := Ground.phase }, { on := 6, ground := Ground.phase }, { on := 7, ground := Ground.phase }, { on := 8, ground := Ground.phase }, { on := 9, ground := Ground.phase }, { on := 10, ground := Ground.phase }], guard := none }) (v := ?_) rfl (by kernel_rfl) (by kernel_rfl) (by kernel_rfl) (fun _ _ _ h => h) (Or.inl ⟨by rfl, ?_⟩) (by assumption) ?_
            rotate_left 1
            · (intro wq hSw; (try dsimp only at hSw); go_simp; try with_reducible rfl)
            try simp only [Act.put, ly1, ly2, ly3]
            refine wpAnyH_ready (rs := [12]) (by kernel_rfl) (by simp) ?_
            refine AllReadyH.cons (o := { dst := none, op := Op.store 23 (Operand.tmp 53) (Operand.tmp 52), type := 0, pos := "l08_node.go:56", after := #[{ on := 11, ground := Ground.data }, { on := 10, ground := Ground.data }, { on := 10, ground := Ground.chain }, { on := 0, ground := Ground.phase }, { on := 1, ground := Ground.phase }, { on := 2, ground := Ground.phase }, { on := 3, ground := Ground.phase }, { on := 4, ground := Ground.phase }, { on := 5, ground := Ground.phase }, { on := 6, ground := Ground.phase }, { on := 7, ground := Ground.phase }, { on := 8, ground := Ground.phase }, { on := 9, ground := Ground.phase }, { on := 10, ground := Ground.phase }], guard := none }) rfl (fun K hK => ?_) AllReadyH.nil
            go_simp
            refine hK.out _ _ ?_ (fun hHeld => ?_)
            · exact hS5
            clear hK K
            try simp only [Act.put, ly1, ly2, ly3]
            refine wpAnyH_done (by kernel_rfl) ?_ _
            go_wp2_with fail
            go_roundw
            case rel => exact ⟨i + 1, _, _, _, by omega, by go_num, H4.out.1⟩
            case measure => simp [intOf]; omega
    · obtain rfl : i = d.m := by omega
      have hlt2 : ¬ (d.m : Int) < (d.m : Int) := by omega
      have hN4 := HI.out.1.2.2.2
      rw [HA6.out] at hN4
      obtain ⟨o0, o1, o2, o3, o4, o5, o6, o7, o8, o9, o10, o11, o12, o13, o14, o15⟩ := hN4.cells
      obtain ⟨x0, x1, x2, x3, x4, x5, x6, x7, x8, x9, x10, x11, x12, x13, x14, x15⟩ := HI.out.1.2.2.1.cells
      have z1 := HI.out.1.2.2.1.froz
      simp only [Na.zero, Nd.zero, List.length_nil] at x0 x1 x2 x3 x4 x5 x6 x7 x8 x9 x10 x11 x12 x13 x14 x15
      clear hN4
      go_wp2_with fail
      have hN : ∀ F : World, Only (w.heap.size + 1) wr F → RN F w.heap.size F.heap.size ⟨q1, c1, q2, c2, q3, c3, q4, c4, q5, c5, q6, c6, p, c, q7, c7, q8, c8⟩ d ∧ Below w.heap.size w F := fun F hF => by
        obtain ⟨hB, hM⟩ := HI.out.ret hF
        refine ⟨⟨⟨hB.size, Nat.le_refl _⟩, ⟨m1, m2⟩, HY.out, R, Q, fun r hr => hM r ?_⟩, hB⟩
        rw [HR6.out]
        exact rows_mem _ _ _ _ _ _ _ _ _ hr
      have hB1 := HI.out.1.2.2.1
      clear o0 o1 o2 o3 o4 o5 o6 o7 o8 o9 o10 o11 o12 o13 o14 o15 x0 x1 x2 x3 x4 x5 x6 x7 x8 x9 x10 x11 x12 x13 x14 x15 z1
      refine ret_at (fun F => NB F (w.heap.size + 1) 31 ⟨q1, c1, q2, c2, q3, c3, q4, c4, q5, c5, q6, c6, p, c, q7, c7, q8, c8⟩ d ∧ Only (w.heap.size + 1) wr F) ⟨nset16 hB1 ⟨q1, c1, q2, c2, q3, c3, q4, c4, q5, c5, q6, c6, p, c, q7, c7, q8, c8⟩ d, ?_⟩ (fun F hF => ?_)
      · iterate 16 (refine Only.setCell ?_ _)
        exact Only.refl _ _
      refine bodyPost_ret (v := nv ⟨q1, c1, q2, c2, q3, c3, q4, c4, q5, c5, q6, c6, p, c, q7, c7, q8, c8⟩ d) (res_node Tryz.results80 rfl hF.1) rfl ⟨⟨q1, c1, q2, c2, q3, c3, q4, c4, q5, c5, q6, c6, p, c, q7, c7, q8, c8⟩, rfl, hN F hF.2⟩
theorem only_setRow {w : World} {g : Nat} {t : TypeId} {old cs : Array Value} (h : w.heap[g]? = some (.cells old t (0, 0))) : Only g w (w.setRow g cs) := by
  refine ⟨below_setRow (Below.refl _ _) (Nat.le_refl _) _, by simp [World.setRow], fun j hj => ?_⟩
  simp only [World.setRow, Array.getElem?_modify]
  rw [if_neg (fun e => hj e.symm)]
theorem ld_node {ops : Array Oper} {rest : List Oper} {o : Oper} {a : Act} {w : World} {Q : Exit → Act → World → Prop} (hgd : o.guard = none) (x : Operand) (ho : o.op = .load 31 x) (g : Nat) (hx : a.eval x = .pointer (some ⟨g, 0, none⟩)) {t : TypeId} {A : Na} {d : Nd} (h : NB w g t A d)
    (hK : wpList Tryz.prog ops Q rest (a.put o.dst (nv A d)) w) : wpList Tryz.prog ops Q (o :: rest) a w :=
  wpList_load_row hgd 31 x ho g hx t (nds A d) (0, 0) _ h Tryz.underlying31 rfl (by kernel_rfl) hK
theorem ld_nodel {ops : Array Oper} {rest : List Oper} {o : Oper} {a : Act} {w : World} {Q : Exit → Act → World → Prop} (hgd : o.guard = none) (x : Operand) (ho : o.op = .load 39 x) (g : Nat) (hx : a.eval x = .pointer (some ⟨g, 0, none⟩)) {t : TypeId} {A : Na} {d : Nd} (h : NB w g t A d)
    (hK : wpList Tryz.prog ops Q rest (a.put o.dst (nv A d)) w) : wpList Tryz.prog ops Q (o :: rest) a w :=
  wpList_load_row hgd 39 x ho g hx t (nds A d) (0, 0) _ h Tryz.underlying39 rfl (by kernel_rfl) hK
theorem st_node {ops : Array Oper} {rest : List Oper} {o : Oper} {a : Act} {w : World} {Q : Exit → Act → World → Prop} (hgd : o.guard = none) (x y : Operand) (ho : o.op = .store 31 x y) (hd : o.dst = none) (g : Nat) (A : Na) (d : Nd) (hx : a.eval x = .pointer (some ⟨g, 0, none⟩)) (hy : a.eval y = nv A d) {t : TypeId} {A0 : Na} {d0 : Nd} (h : NB w g t A0 d0)
    (hK : ∀ F, Only g w F → NB F g t A d → wpList Tryz.prog ops Q rest a F) : wpList Tryz.prog ops Q (o :: rest) a w :=
  wpList_store_row hgd 31 x y ho g (nds A d) hx hy t (nds A0 d0) h (by kernel_rfl) rfl (by simp [nds, Value.oneCell'] <;> rfl) (by rw [hd]; exact hK _ (only_setRow h) (setRow_heap _ _ _ _ _ _ h))
end Go.Proofs.YtkndnndildnbpaaGreatDoor

/- Rise, of the program and of its model. -/
import Derived.Test.YtkndnndildnbpaaGreatDoorNdNZ
import Derived.Test.YtkndnndildnbpaaGreatDoorGz
import Derived.Test.YtkndnndildnbpaaGreatDoorGy
import Derived.Deep.MidRow

namespace Go.Proofs.YtkndnndildnbpaaGreatDoor
open Go.ChangeShapes Go.WideShapes Go.ChangeAt Go.RowKit
set_option linter.unusedVariables false
set_option linter.unusedSimpArgs false
set_option maxRecDepth 100000

/-- A node's copy at block X while a node is at block w and the result's block behind it. -/
def FSt (w V : World) (X : Nat) (a : Na) (d : Nd) (b : Na) (d' : Nd) : Prop :=
  Below w.heap.size w V ∧ NB V w.heap.size 31 a d ∧ NB V (w.heap.size + 1) 31 Na.zero Nd.zero ∧ NB V X 31 b d' ∧ w.heap.size + 1 < X
theorem FSt.b {w V V' : World} {X : Nat} {a b : Na} {d d' : Nd} (h : FSt w V X a d b d') (hb : Below V.heap.size V V') : FSt w V' X a d b d' :=
  ⟨h.1.trans (hb.mono h.1.size), h.2.1.b hb, h.2.2.1.b hb, h.2.2.2.1.b hb, h.2.2.2.2⟩
theorem FSt.set {w V V' : World} {X : Nat} {a b b2 : Na} {d d' d2 : Nd} (h : FSt w V X a d b d') (ho : Only X V V') (hn : NB V' X 31 b2 d2) : FSt w V' X a d b2 d2 :=
  ⟨h.1.trans (ho.1.mono (by have := h.2.2.2.2; omega)), h.2.1.far ho (by have := h.2.2.2.2; omega), h.2.2.1.far ho (by have := h.2.2.2.2; omega), hn, h.2.2.2.2⟩
theorem fs_new {w W w1 : World} {a b : Na} {d : Nd} (h : CS w W a d []) (hb : Below W.heap.size W w1) : FSt w (w1.alloc (.cells (nds b d) 31)) w1.heap.size a d b d := by
  have bx := bal1 w1 (.cells (nds b d) 31)
  have cc := h.1.trans (hb.mono h.1.size)
  exact ⟨cc.trans (bx.mono cc.size), (h.2.1.b hb).b bx, (h.2.2.1.b hb).b bx, NB.new _ _ _ _, by have := hb.size; have := h.2.2.2.1; omega⟩
theorem ON.only {w w' : World} {B T X : Nat} {a : Na} {d : Nd} (h : ON w B T a d) (ho : Only X w w') (hX : T ≤ X ∨ X < B) : ON w' B T a d := h.kept (fun j h1 h2 => ho.2.2 j (by omega)) (by rw [ho.2.1]; exact Nat.le_refl _)
theorem ON.wider {w : World} {B T B' T' : Nat} {a : Na} {d : Nd} (h : ON w B T a d) (hB : B' ≤ B) (hT : T ≤ T') (hw : T' ≤ w.heap.size) : ON w B' T' a d := h.wide hB hT hw
theorem RN.only {w w' : World} {B T X : Nat} {a : Na} {d : Nd} (h : RN w B T a d) (ho : Only X w w') (hX : T ≤ X ∨ X < B) : RN w' B T a d := h.kept (fun j h1 h2 => ho.2.2 j (by omega)) (by rw [ho.2.1]; exact Nat.le_refl _)
theorem RN.wider {w : World} {B T B' T' : Nat} {a : Na} {d : Nd} (h : RN w B T a d) (hB : B' ≤ B) (hT : T ≤ T') (hw : T' ≤ w.heap.size) : RN w B' T' a d := by
  obtain ⟨⟨h1, h2⟩, h3, h4, R, Q, h5⟩ := h
  exact ⟨⟨by omega, hw⟩, h3, h4, R, Q, h5.wide hB hT⟩
/-- A meta as a value; the meta's and the node's cells, one behind the other. -/
def mds (am : Na) (dm : Nd) : List Value := [.slice am.go dm.g.length am.gc, .slice am.bo dm.n am.bc, .bool dm.fi, .bool dm.ol, .bool dm.he, .int .i64 dm.la]
def dds (am : Na) (dm : Nd) (a : Na) (d : Nd) : Array Value := #[.slice am.go dm.g.length am.gc, .slice am.bo dm.n am.bc, .bool dm.fi, .bool dm.ol, .bool dm.he, .int .i64 dm.la, .int .i64 d.id, .bool d.up, .bool d.pr, .slice a.im d.im.length a.imc, .slice a.go d.g.length a.gc, .slice a.bo d.n a.bc, .bool d.fi, .bool d.ol, .bool d.he, .int .i64 d.la, .slice a.aA d.A.length a.cA, .slice a.aB d.C.length a.cB, .slice a.co d.co.length a.coc, .slice a.so d.m a.sc, .slice a.cp d.cp.length a.cpc, .slice a.wt d.wt.length a.wtc]
def DB (w : World) (X : Nat) (am : Na) (dm : Nd) (a : Na) (d : Nd) : Prop := w.heap[X]? = some (.cells (dds am dm a d) 98 (0, 0))
theorem DB.lt {w : World} {X : Nat} {am : Na} {dm : Nd} {a : Na} {d : Nd} (h : DB w X am dm a d) : X < w.heap.size := (Array.getElem?_eq_some_iff.1 h).1
theorem DB.b {w w' : World} {X : Nat} {am : Na} {dm : Nd} {a : Na} {d : Nd} (h : DB w X am dm a d) (hb : Below w.heap.size w w') : DB w' X am dm a d := (hb.block X h.lt).trans h
theorem DB.far {w w' : World} {X g : Nat} {am : Na} {dm : Nd} {a : Na} {d : Nd} (h : DB w X am dm a d) (ho : Only g w w') (hne : X ≠ g) : DB w' X am dm a d := (ho.2.2 X hne).trans h
theorem DB.new (w : World) (am : Na) (dm : Nd) (a : Na) (d : Nd) : DB (w.alloc (.cells (dds am dm a d) 98)) w.heap.size am dm a d := Deep.blk_alloc_new _ _
theorem DB.froz {w : World} {X : Nat} {am : Na} {dm : Nd} {a : Na} {d : Nd} (h : DB w X am dm a d) : ∀ i, w.frozen? ⟨X, i, none⟩ = false := fun i => fblk h i
theorem DB.cell {w : World} {X : Nat} {am : Na} {dm : Nd} {a : Na} {d : Nd} (h : DB w X am dm a d) {i : Nat} {v : Value} (hv : (dds am dm a d)[i]? = some v) : w.cell? ⟨X, i, none⟩ = some v := mblk h hv
theorem DB.set {w : World} {X i : Nat} {am am' : Na} {dm dm' : Nd} {a a' : Na} {d d' : Nd} {v : Value} (h : DB w X am dm a d) (e : (dds am dm a d).setIfInBounds i v = dds am' dm' a' d') : DB (w.setCell ⟨X, i, none⟩ v) X am' dm' a' d' := kb_set h e
theorem range_of {w : World} {X o : Nat} {cs : Array Value} {t : TypeId} {vs : List Value} (h : w.heap[X]? = some (.cells cs t (0, 0))) (e : (cs.toList.drop o).take vs.length = vs) : w.rangeAt X o vs := fun j v hv => by
  have hj : j < vs.length := (List.getElem?_eq_some_iff.1 hv).1
  refine mblk h ?_
  rw [← hv, ← e, List.getElem?_take, if_pos hj, List.getElem?_drop, Array.getElem?_toList]
theorem DB.node {w : World} {X : Nat} {am : Na} {dm : Nd} {a : Na} {d : Nd} (h : DB w X am dm a d) : w.rangeAt X 6 (nds a d).toList := range_of h rfl
theorem DB.m0 {w : World} {X : Nat} {am : Na} {dm : Nd} {a : Na} {d : Nd} (h : DB w X am dm a d) : w.rangeAt X 0 (mds am dm) := range_of h rfl
/-- The rows of both, each in memory of its own; a draft in block X. -/
def drows (am : Na) (R' : Nat → Option Addr × Nat) (dm : Nd) (a : Na) (R Q : Nat → Option Addr × Nat) (d : Nd) : List Rw := mrows am.go am.gc am.bo am.bc R' dm.g dm.n dm.L ++ nrows a R Q d
def DR (w : World) (X B : Nat) (am : Na) (dm : Nd) (a : Na) (d : Nd) : Prop := DB w X am dm a d ∧ B ≤ X ∧ NNC a ∧ (Byr d.A ∧ Byr d.C) ∧ ∃ R' R Q, RS w B w.heap.size (drows am R' dm a R Q d)
theorem srows_t {bo : Option Addr} {bc : Nat} {R : Nat → Option Addr × Nat} {n : Nat} {L : Nat → List Int} {r : Rw} (h : r ∈ srows bo bc R n L) : r.t = 3 ∨ r.t = 22 := by
  rcases List.mem_cons.1 h with rfl | h
  · exact .inr rfl
  · obtain ⟨i, _, rfl⟩ := List.mem_map.1 h
    exact .inl rfl
theorem mrows_t {go bo : Option Addr} {gc bc : Nat} {R : Nat → Option Addr × Nat} {g : List Int} {n : Nat} {L : Nat → List Int} {r : Rw} (h : r ∈ mrows go gc bo bc R g n L) : r.t = 3 ∨ r.t = 22 := by
  rcases List.mem_cons.1 h with rfl | h
  · exact .inl rfl
  · exact srows_t h
theorem drows_t {am : Na} {R' : Nat → Option Addr × Nat} {dm : Nd} {a : Na} {R Q : Nat → Option Addr × Nat} {d : Nd} {r : Rw} (h : r ∈ drows am R' dm a R Q d) : r.t = 3 ∨ r.t = 22 ∨ r.t = 4 ∨ r.t = 5 := by
  rcases List.mem_append.1 h with h | h
  · rcases mrows_t h with h | h
    · exact .inl h
    · exact .inr (.inl h)
  · simp only [nrows, List.mem_cons, List.mem_append, List.not_mem_nil, or_false] at h
    rcases h with rfl | h | rfl | rfl | rfl | h | rfl | rfl
    · exact .inl rfl
    · rcases mrows_t h with h | h
      · exact .inl h
      · exact .inr (.inl h)
    · exact .inr (.inr (.inr rfl))
    · exact .inr (.inr (.inr rfl))
    · exact .inr (.inr (.inl rfl))
    · rcases srows_t h with h | h
      · exact .inl h
      · exact .inr (.inl h)
    · exact .inr (.inr (.inl rfl))
    · exact .inl rfl
theorem drow_ne {r : Rw} (h : r.t = 3 ∨ r.t = 22 ∨ r.t = 4 ∨ r.t = 5) : r.t ≠ 98 := by
  rcases h with h | h | h | h <;> rw [h] <;> decide
/-- Rows beside a block of another type that is written. -/
theorem rs_beside {w w' : World} {B T X : Nat} {t : TypeId} {c : Array Value} {rs : List Rw} (h : RS w B T rs) (hc : w.heap[X]? = some (.cells c t (0, 0))) (hne : ∀ r ∈ rs, r.t ≠ t) (ho : Only X w w') : RS w' B T rs :=
  ⟨fun r hr => (h.1 r hr).only ho fun hv e => by
    rcases (h.1 r hr).2 with h0 | ⟨g, e1, _, c', hc', _⟩
    · exact hv h0
    · rw [e] at e1
      cases e1
      rw [hc] at hc'
      simp only [Option.some.injEq, Obj.cells.injEq] at hc'
      exact hne r hr hc'.2.1.symm, h.2⟩
theorem ra_beside {w w' : World} {B T X : Nat} {t : TypeId} {c : Array Value} {rs : List Rw} (h : RA w B T rs) (hc : w.heap[X]? = some (.cells c t (0, 0))) (hne : ∀ r ∈ rs, r.t ≠ t) (ho : Only X w w') : RA w' B T rs :=
  fun r hr => (h r hr).only ho fun hv e => by
    rcases (h r hr).2 with h0 | ⟨g, e1, _, c', hc', _⟩
    · exact hv h0
    · rw [e] at e1
      cases e1
      rw [hc] at hc'
      simp only [Option.some.injEq, Obj.cells.injEq] at hc'
      exact hne r hr hc'.2.1.symm
theorem DR.below {w w' : World} {X B : Nat} {am : Na} {dm : Nd} {a : Na} {d : Nd} (h : DR w X B am dm a d) (hb : Below w.heap.size w w') : DR w' X B am dm a d := by
  obtain ⟨h1, h2, h3, h4, R', R, Q, h5⟩ := h
  exact ⟨h1.b hb, h2, h3, h4, R', R, Q, (h5.below hb (Nat.le_refl _)).wide (Nat.le_refl _) hb.size⟩
/-- The draft's block written, its rows as they were. -/
theorem DR.only {w w' : World} {X B : Nat} {am am2 : Na} {dm dm2 : Nd} {a a2 : Na} {d d2 : Nd} (h : DR w X B am dm a d) (ho : Only X w w') (hD : DB w' X am2 dm2 a2 d2) (e : ∀ R' R Q, drows am2 R' dm2 a2 R Q d2 = drows am R' dm a R Q d) (hn : NNC a2) (hy : Byr d2.A ∧ Byr d2.C) : DR w' X B am2 dm2 a2 d2 := by
  obtain ⟨h1, h2, h3, h4, R', R, Q, h5⟩ := h
  refine ⟨hD, h2, hn, hy, R', R, Q, ?_⟩
  rw [e, ho.2.1]
  exact rs_beside h5 h1 (fun r hr => drow_ne (drows_t hr)) ho
theorem DR.nv {w : World} {X B : Nat} {am : Na} {dm : Nd} {a : Na} {d : Nd} (h : DR w X B am dm a d) : NV w a d := by
  obtain ⟨h1, h2, h3, h4, R', R, Q, h5⟩ := h
  have hs : B ≤ w.heap.size := Nat.le_trans h2 (Nat.le_of_lt h1.lt)
  exact ON.nv (B := B) (T := w.heap.size) ⟨⟨hs, Nat.le_refl _⟩, h3, h4, R, Q, h5.right⟩
theorem DR.mv {w : World} {X B : Nat} {am : Na} {dm : Nd} {a : Na} {d : Nd} (h : DR w X B am dm a d) : MV w am.go am.gc am.bo am.bc dm.g dm.n dm.L := by
  obtain ⟨h1, h2, h3, h4, R', R, Q, h5⟩ := h
  exact h5.left.mv
end Go.Proofs.YtkndnndildnbpaaGreatDoor

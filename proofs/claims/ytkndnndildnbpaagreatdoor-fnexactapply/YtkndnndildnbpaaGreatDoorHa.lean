/- One line of marks set anew. -/
import Derived.Test.YtkndnndildnbpaaGreatDoorGu
import Derived.Test.YtkndnndildnbpaaGreatDoorGw
import Derived.Test.YtkndnndildnbpaaGreatDoorGy
import Derived.Test.YtkndnndildnbpaaGreatDoorNdDr1Z

namespace Go.Proofs.YtkndnndildnbpaaGreatDoor
open Go.ChangeShapes Go.WideShapes Go.ChangeAt Go.RowKit
set_option linter.unusedVariables false
set_option linter.unusedSimpArgs false
set_option maxRecDepth 100000

/-- One of the rows is another one. -/
def updL (L : Nat → List Int) (k : Nat) (M : List Int) (i : Nat) : List Int := if i = k then M else L i
theorem updL_at (L : Nat → List Int) (k : Nat) (M : List Int) : updL L k M k = M := if_pos rfl
theorem updL_ne (L : Nat → List Int) (k : Nat) (M : List Int) {i : Nat} (h : i ≠ k) : updL L k M i = L i := if_neg h
/-- A cell of a row that is written. -/
theorem wr_cell {w : World} {B T : Nat} {r : Rw} {i : Nat} {u : Value} (h : RwOk w B T r) (hi : r.vs[i]? = some u) :
    ∃ γ, r.ao = some ⟨γ, 0, none⟩ ∧ (B ≤ γ ∧ γ < T) ∧ (∃ c, w.heap[γ]? = some (.cells c r.t (0, 0))) ∧ w.cell? ⟨γ, i, none⟩ = some u ∧ w.frozen? ⟨γ, i, none⟩ = false ∧
      ∀ v, Wr w (w.setCell ⟨γ, i, none⟩ v) B T r { r with vs := r.vs.set i v } := by
  have hlt : i < r.vs.length := (List.getElem?_eq_some_iff.1 hi).1
  rcases h.2 with h0 | ⟨g, e, hg, c, hc, hs, hf⟩
  · rw [h0] at hlt; simp at hlt
  · have hn : r.vs ≠ [] := fun e0 => by rw [e0] at hlt; simp at hlt
    refine ⟨g, e, hg, ⟨c, hc⟩, mblk hc ((hf i hlt).trans hi), fblk hc i, fun v => .inr ⟨g, e, hn, (Only.refl _ _).setCell _, hg, rfl, ?_⟩⟩
    refine ⟨by simpa using h.1, .inr ⟨g, e, hg, c.setIfInBounds i v, sblk v hc, by simpa using hs, fun j hj => ?_⟩⟩
    have hj' : j < r.vs.length := by simpa using hj
    simp only [Array.getElem?_setIfInBounds, List.getElem?_set]
    by_cases e1 : i = j
    · subst e1
      rw [if_pos rfl, if_pos rfl, if_pos (by omega), if_pos (by omega)]
    · rw [if_neg e1, if_neg e1]
      exact hf j hj'
theorem inner3 (R : Nat → Option Addr × Nat) (L : Nat → List Int) : inner R 3 L = [⟨3, (R 0).1, (R 0).2, ir (L 0)⟩, ⟨3, (R 1).1, (R 1).2, ir (L 1)⟩, ⟨3, (R 2).1, (R 2).2, ir (L 2)⟩] := rfl
theorem outer3 (R : Nat → Option Addr × Nat) (L : Nat → List Int) : outer R 3 L = [.slice (R 0).1 (L 0).length (R 0).2, .slice (R 1).1 (L 1).length (R 1).2, .slice (R 2).1 (L 2).length (R 2).2] := rfl
theorem outer_set (R : Nat → Option Addr × Nat) (L : Nat → List Int) (k : Nat) (hk : k < 3) (p : Option Addr) (c : Nat) (M : List Int) : (outer R 3 L).set k (.slice p M.length c) = outer (setr R k (p, c)) 3 (updL L k M) := by
  rw [outer3, outer3]
  rcases (by omega : k = 0 ∨ k = 1 ∨ k = 2) with rfl | rfl | rfl <;> simp [setr, updL]
theorem inner_cut (R : Nat → Option Addr × Nat) (L : Nat → List Int) (k : Nat) (hk : k < 3) : ∃ xs ys, inner R 3 L = xs ++ ([⟨3, (R k).1, (R k).2, ir (L k)⟩] ++ ys) ∧ ∀ p c M, inner (setr R k (p, c)) 3 (updL L k M) = xs ++ ([⟨3, p, c, ir M⟩] ++ ys) := by
  rcases (by omega : k = 0 ∨ k = 1 ∨ k = 2) with rfl | rfl | rfl
  · exact ⟨[], [⟨3, (R 1).1, (R 1).2, ir (L 1)⟩, ⟨3, (R 2).1, (R 2).2, ir (L 2)⟩], rfl, fun p c M => by rw [inner3]; simp [setr, updL]⟩
  · exact ⟨[⟨3, (R 0).1, (R 0).2, ir (L 0)⟩], [⟨3, (R 2).1, (R 2).2, ir (L 2)⟩], rfl, fun p c M => by rw [inner3]; simp [setr, updL]⟩
  · exact ⟨[⟨3, (R 0).1, (R 0).2, ir (L 0)⟩, ⟨3, (R 1).1, (R 1).2, ir (L 1)⟩], [], rfl, fun p c M => by rw [inner3]; simp [setr, updL]⟩
/-- A meta's rows, one line of marks set anew: a fresh row, and the place that tells of it. -/
theorem rs_line {w w1 : World} {B : Nat} {xs ys : List Rw} {bo : Option Addr} {bc k : Nat} {R : Nat → Option Addr × Nat} {L : Nat → List Int} {p : Option Addr} {c : Nat} {M : List Int} (h : RS w B w.heap.size (xs ++ (srows bo bc R 3 L ++ ys))) (hk : k < 3) (hb : Below w.heap.size w w1) (hn : RS w1 w.heap.size w1.heap.size [⟨3, p, c, ir M⟩]) (hB : B ≤ w.heap.size) :
    ∃ γ, bo = some ⟨γ, 0, none⟩ ∧ B ≤ γ ∧ (∃ cs, w1.heap[γ]? = some (.cells cs 22 (0, 0))) ∧ w1.cell? ⟨γ, k, none⟩ = some (.slice (R k).1 (L k).length (R k).2) ∧ w1.frozen? ⟨γ, k, none⟩ = false ∧
      RS (w1.setCell ⟨γ, k, none⟩ (.slice p M.length c)) B w1.heap.size (xs ++ (srows bo bc (setr R k (p, c)) 3 (updL L k M) ++ ys)) := by
  obtain ⟨us, vs, e1, e2⟩ := inner_cut R L k hk
  have h1 := h.below hb (Nat.le_refl _)
  have h2 : RS w1 B w.heap.size ((xs ++ (⟨22, bo, bc, outer R 3 L⟩ :: us)) ++ ([⟨3, (R k).1, (R k).2, ir (L k)⟩] ++ (vs ++ ys))) := by
    have h1' := h1
    unfold srows at h1'
    rw [e1] at h1'
    simpa using h1'
  have h3 := h2.renew hn hB hb.size
  have h4 : RS w1 B w1.heap.size (xs ++ ⟨22, bo, bc, outer R 3 L⟩ :: (us ++ ([⟨3, p, c, ir M⟩] ++ (vs ++ ys)))) := by simpa using h3
  obtain ⟨γ, g1, g2, g3, g4, g5, g6⟩ := wr_cell (i := k) h4.right.head (outer_get R 3 L k hk)
  have h5 := h4.wr (g6 (.slice p M.length c))
  have h6 : RS (w1.setCell ⟨γ, k, none⟩ (.slice p M.length c)) B w1.heap.size (xs ++ ⟨22, bo, bc, outer (setr R k (p, c)) 3 (updL L k M)⟩ :: (us ++ ([⟨3, p, c, ir M⟩] ++ (vs ++ ys)))) := by
    rw [← outer_set R L k hk]; exact h5
  refine ⟨γ, g1, g2.1, g3, g4, g5, ?_⟩
  unfold srows
  rw [e2]
  simpa using h6
theorem CS.far {w V V' : World} {a : Na} {d : Nd} {B : Nat} (h : CS w V a d []) (hb : Below B V V') (hB : w.heap.size + 1 < B) : CS w V' a d [] :=
  ⟨h.1.trans (hb.mono (by omega)), h.2.1.below hb (by omega), h.2.2.1.below hb (by omega), Nat.le_trans h.2.2.2.1 hb.size, RS.nil⟩
theorem OnlyG.bel {X B : Nat} {w w' : World} (h : OnlyG X w w') (hB : B ≤ X) : Below B w w' := h.1.mono hB
/-- A draft, one line of its marks set anew. -/
theorem DR.line {w w1 : World} {X B k : Nat} {am b : Na} {dm d : Nd} {p : Option Addr} {c : Nat} {M : List Int} (h : DR w X B am dm b d) (hn3 : dm.n = 3) (hk : k < 3) (hb : Below w.heap.size w w1) (hn : RS w1 w.heap.size w1.heap.size [⟨3, p, c, ir M⟩]) :
    ∃ (γ : Nat) (r : Option Addr × Nat), am.bo = some ⟨γ, 0, none⟩ ∧ B ≤ γ ∧ γ ≠ X ∧ w.cell? ⟨γ, k, none⟩ = some (.slice r.1 (dm.L k).length r.2) ∧ SL .i64 w r.1 (dm.L k).length (fun i => (dm.L k).getD i 0) ∧ (w1.cell? ⟨γ, k, none⟩).isSome = true ∧ w1.frozen? ⟨γ, k, none⟩ = false ∧
      DR (w1.setCell ⟨γ, k, none⟩ (.slice p M.length c)) X B am { dm with L := updL dm.L k M } b d := by
  have hd1 := h.1.b hb
  obtain ⟨h1, h2, h3, h4, R', R, Q, h5⟩ := h
  have hB : B ≤ w.heap.size := Nat.le_trans h2 (Nat.le_of_lt h1.lt)
  have h6 : RS w B w.heap.size ([⟨3, am.go, am.gc, ir dm.g⟩] ++ (srows am.bo am.bc R' 3 dm.L ++ nrows b R Q d)) := by
    have h5' := h5
    unfold drows mrows at h5'
    rw [hn3] at h5'
    simpa using h5'
  obtain ⟨γ, g1, g2, ⟨cs, g3⟩, g4, g5, g6⟩ := rs_line h6 hk hb hn hB
  have hne : γ ≠ X := fun e => by
    rw [e, show w1.heap[X]? = _ from hd1] at g3
    simp only [Option.some.injEq, Obj.cells.injEq] at g3
    exact absurd g3.2.1.symm (show (22 : Nat) ≠ 98 by decide)
  have ho : Only γ w1 (w1.setCell ⟨γ, k, none⟩ (.slice p M.length c)) := (Only.refl _ _).setCell _
  obtain ⟨γ2, k1, _, _, k4, _, _⟩ := wr_cell (i := k) h6.right.head (outer_get R' 3 dm.L k hk)
  have e2 : γ2 = γ := by
    have k1' : am.bo = some ⟨γ2, 0, none⟩ := k1
    rw [g1] at k1'
    simpa using k1'.symm
  rw [e2] at k4
  have hin := h6.right.left.tail.1 _ (inner_mem (R := R') (L := dm.L) hk)
  refine ⟨γ, R' k, g1, g2, hne, k4, hin.sl, by rw [g4]; rfl, g5, hd1.far ho (fun e => hne e.symm), h2, h3, h4, setr R' k (p, c), R, Q, ?_⟩
  rw [ho.2.1]
  unfold drows mrows
  show RS _ B w1.heap.size ((⟨3, am.go, am.gc, ir dm.g⟩ :: srows am.bo am.bc (setr R' k (p, c)) dm.n (updL dm.L k M)) ++ nrows b R Q d)
  rw [hn3]
  simpa using g6
/-- The first k without x. -/
def kept (f : Nat → Int) (x : Int) : Nat → List Int
  | 0 => []
  | k + 1 => if f k = x then kept f x k else kept f x k ++ [f k]

theorem kept_len (f : Nat → Int) (x : Int) (k : Nat) : (kept f x k).length ≤ k := by
  induction k with
  | zero => simp [kept]
  | succ k ih =>
    simp only [kept]
    split
    · omega
    · simp; omega

theorem without_any (ao : Option Addr) (n cap : Nat) (f : Nat → Int) (x : Int) (w : World) (hn : n ≤ 2097152) (hs : SL .i64 w ao n f) :
    Calls Tryz.prog 186 #[.slice ao n cap, .int .i64 x] w fun e w' => ∃ v, e = .returned v ∧ w'.ownsRow w.heap.size 3 1 v (kept f x n).length ((kept f x n).map (.int .i64)) ∧ Below w.heap.size w w' := by
  obtain ⟨i0, hi, hz0, hz1, hz2⟩ := info_parts Tryz.info3
  go_enter Tryz.func186, Tryz.ntmps186
  go_wp2
  go_loopw [5, 7, 10] (fun v _ i wr => ∃ (k m : Nat) (L : List Int), k ≤ n ∧ i = .int .i64 k ∧ m ≤ k ∧ Hid (L = kept f x k ∧ L.length = m) ∧ wr.ownsRow w.heap.size 3 1 v m (L.map (.int .i64)) ∧ Below w.heap.size w wr) (fun _ _ i _ => n - (intOf i).toNat)
  case atStart => exact ⟨0, 0, [], by omega, rfl, by omega, ⟨rfl, rfl⟩, owns_nil, Below.refl _ _⟩
  case round =>
    obtain ⟨k, m, L, hk, rfl, hm, hL, hown, hbel⟩ := hrel
    by_cases hlt : k < n
    · obtain ⟨b, off, rfl, hb, hc0⟩ := hs k hlt
      have hc := (hbel.cell (p := ⟨b, off + k, none⟩) hb).trans hc0
      clear hs hc0
      generalize hy : f k = y at *
      have B : Hid (f k = y) := hy
      clear hy
      by_cases he : y = x
      · subst he
        go_wp2
        go_roundw
        case rel => exact ⟨k + 1, m, L, by omega, by go_num, by omega, ⟨by rw [hL.out.1, kept, if_pos B.out], hL.out.2⟩, hown, hbel⟩
        case measure => simp [intOf]; omega
      · have hd : decide (y = x) = false := by simpa using he
        go_wp2_with (first
          | (at_builtin; refine wpList_append_own _ rfl _ _ 125 rfl w.heap.size 3 i0 (.int .i64 0) 1 8 Tryz.underlying125 hi hz0 hz1 hz2 rfl (by decide) _ _ _ rfl (hown.alloc _) ⟨wr.heap.size, 0, none⟩ 1 1 [.int .i64 y] rfl rfl (app_cell8 _ _ _) (app_one8 _ _) (app_len8 (by omega)) (by omega) (by have := hbel.size; simp; omega) ?_; intro v' w1 hown' hgrow hnn))
        have R := push hbel hbel.size hown hown' hgrow
        clear hown' hgrow hown hnn
        go_wp2
        go_roundw
        case rel => exact ⟨k + 1, m + 1, L ++ [y], by omega, by go_num, by omega, ⟨by rw [kept, if_neg (by rw [B.out]; exact he), hL.out.1, B.out], by simp [hL.out.2]⟩, R.1, R.2⟩
        case measure => simp [intOf]; omega
    · have hkn : k = n := by omega
      subst hkn
      go_wp2
      go_ret
      refine ⟨_, rfl, ?_, hbel⟩
      obtain ⟨rfl, rfl⟩ := hL.out
      exact hown

theorem clear_impl (ao : Option Addr) (n cap : Nat) (f : Nat → Int) (x : Int) (w : World) (hn : n ≤ 2097152) (hs : SL .i64 w ao n f) :
    Calls Tryz.prog 190 #[.slice ao n cap, .int .i64 x] w fun e w' => ∃ v, e = .returned v ∧ w'.ownsRow w.heap.size 3 1 v (kept f x n).length ((kept f x n).map (.int .i64)) ∧ Below w.heap.size w w' := by
  have h := without_any ao n cap f x w hn hs
  go_enter Tryz.func190, Tryz.ntmps190
  go_wp2_with fail
  refine h.mono ?_
  rintro e w1 ⟨v, rfl, ho, hb⟩
  go_wp2
  go_ret
  exact ⟨_, rfl, ho, hb⟩

theorem clear_spec (ao : Option Addr) (n cap : Nat) (f : Nat → Int) (x : Int) (w : World) (hn : n ≤ 2097152) (hs : SL .i64 w ao n f) :
    Calls Tryz.prog 111 #[.slice ao n cap, .int .i64 x] w fun e w' => ∃ v, e = .returned v ∧ w'.ownsRow w.heap.size 3 1 v (kept f x n).length ((kept f x n).map (.int .i64)) ∧ Below w.heap.size w w' := by
  obtain ⟨i0, hi, hz0, hz1, hz2⟩ := info_parts Tryz.info3
  go_enter Tryz.func111, Tryz.ntmps111
  go_wp2
  go_loopw [5, 6] (fun v i wr => ∃ (k m : Nat) (L : List Int), k ≤ n ∧ i = .int .i64 k ∧ m ≤ k ∧ Hid (L = kept f x k ∧ L.length = m) ∧ wr.ownsRow w.heap.size 3 1 v m (L.map (.int .i64)) ∧ Below w.heap.size w wr) (fun _ i _ => n - (intOf i).toNat)
  case atStart => exact ⟨0, 0, [], by omega, rfl, by omega, ⟨rfl, rfl⟩, owns_empty (Nat.le_refl _), (Below.refl _ _).alloc (Nat.le_refl _) _⟩
  case round =>
    obtain ⟨k, m, L, hk, rfl, hm, hL, hown, hbel⟩ := hrel
    by_cases hlt : k < n
    · obtain ⟨b, off, rfl, hb, hc0⟩ := hs k hlt
      have hc := (hbel.cell (p := ⟨b, off + k, none⟩) hb).trans hc0
      clear hs hc0
      generalize hy : f k = y at *
      have B : Hid (f k = y) := hy
      clear hy
      by_cases he : y = x
      · subst he
        go_wp2
        go_roundw
        case rel => exact ⟨k + 1, m, L, by omega, by go_num, by omega, ⟨by rw [hL.out.1, kept, if_pos B.out], hL.out.2⟩, hown, hbel⟩
        case measure => simp [intOf]; omega
      · have hd : decide (y = x) = false := by simpa using he
        go_wp2_with (first
          | (at_builtin; refine wpList_append_own _ rfl _ _ 22 rfl w.heap.size 3 i0 (.int .i64 0) 1 8 Tryz.underlying22 hi hz0 hz1 hz2 rfl (by decide) _ _ _ rfl (hown.alloc _) ⟨wr.heap.size, 0, none⟩ 1 1 [.int .i64 y] rfl rfl (app_cell8 _ _ _) (app_one8 _ _) (app_len8 (by omega)) (by omega) (by have := hbel.size; simp; omega) ?_; intro v' w1 hown' hgrow hnn))
        have R := push hbel hbel.size hown hown' hgrow
        clear hown' hgrow hown hnn
        go_wp2
        go_roundw
        case rel => exact ⟨k + 1, m + 1, L ++ [y], by omega, by go_num, by omega, ⟨by rw [kept, if_neg (by rw [B.out]; exact he), hL.out.1, B.out], by simp [hL.out.2]⟩, R.1, R.2⟩
        case measure => simp [intOf]; omega
    · have hkn : k = n := by omega
      subst hkn
      go_wp2
      go_ret
      refine ⟨_, rfl, ?_, hbel⟩
      obtain ⟨rfl, rfl⟩ := hL.out
      exact hown
theorem int_row {w : World} {B : Nat} {v : Value} {M : List Int} (h : w.ownsRow B 3 1 v M.length (M.map (.int .i64))) : ∃ p c, v = .slice p M.length c ∧ RS w B w.heap.size [⟨3, p, c, ir M⟩] := by
  have h' : w.ownsRow B 3 1 v (ir M).length (ir M) := by rw [ir_len]; exact h
  obtain ⟨p, c, e, hr⟩ := rs_owns h'
  rw [ir_len] at e
  exact ⟨p, c, e, hr⟩
set_option maxHeartbeats 100000000 in
theorem unmark_i (X B k : Nat) (am : Na) (dm : Nd) (b : Na) (d : Nd) (x : Int) (w : World) (h : DR w X B am dm b d) (hn3 : dm.n = 3) (hk : k < 3) (hl : (dm.L k).length ≤ 1048576) :
    Calls Tryz.prog 216 #[.pointer (some ⟨X, 0, none⟩), .int .i64 (k : Int), .int .i64 x] w fun e w' => e = .returned (.tuple #[]) ∧ DR w' X B am { dm with L := updL dm.L k (kept (fun j => (dm.L k).getD j 0) x (dm.L k).length) } b d ∧ Below B w w' := by
  have hd0 : DR w.drew X B am dm b d := h.below (Below.drawn (Below.refl _ _) 1)
  have hB : B ≤ w.heap.size := Nat.le_trans h.2.1 (Nat.le_of_lt h.1.lt)
  obtain ⟨γ, r, g1, g2, g3, g4, g5, _, _, _⟩ := DR.line (p := none) (c := 0) (M := []) hd0 hn3 hk (Below.refl _ _) (RS.one ⟨Nat.zero_le _, .inl rfl⟩)
  have HLN : Hid (∀ (w1 : World) (p : Option Addr) (c : Nat) (M : List Int), Below w.drew.heap.size w.drew w1 → RS w1 w.drew.heap.size w1.heap.size [⟨3, p, c, ir M⟩] → ((w1.cell? ⟨γ, k, none⟩).isSome = true ∧ w1.frozen? ⟨γ, k, none⟩ = false) ∧ DR (w1.setCell ⟨γ, k, none⟩ (.slice p M.length c)) X B am { dm with L := updL dm.L k M } b d) := fun w1 p c M hb hr => by
    obtain ⟨γ2, _, k1, _, _, _, _, k6, k7, k8⟩ := DR.line hd0 hn3 hk hb hr
    have e : γ2 = γ := by rw [g1] at k1; simpa using k1.symm
    rw [e] at k6 k7 k8
    exact ⟨⟨k6, k7⟩, k8⟩
  have HX : Hid (∀ (V : World) (dm' : Nd), dm'.n = 3 → DB V X am dm' b d → V.cell? ⟨X, 1, none⟩ = some (.slice (some ⟨γ, 0, none⟩) 3 am.bc)) := fun V dm' h3 h => by
    have h1 : V.cell? ⟨X, 1, none⟩ = some (.slice am.bo dm'.n am.bc) := h.cell (i := 1) rfl
    rw [g1, h3] at h1
    exact h1
  have cX1 : w.drew.cell? ⟨X, 1, none⟩ = some (.slice (some ⟨γ, 0, none⟩) 3 am.bc) := HX.out _ dm hn3 hd0.1
  have HD0 := hide hd0.1
  have HN3 := hide hn3
  have HG : Hid (B ≤ γ ∧ B ≤ w.heap.size) := ⟨g2, hB⟩
  have HC : Hid (Calls Tryz.prog 190 #[.slice r.1 (dm.L k).length r.2, .int .i64 x] w.drew fun e w' => ∃ p c, e = .returned (.slice p (kept (fun j => (dm.L k).getD j 0) x (dm.L k).length).length c) ∧ RS w' w.drew.heap.size w'.heap.size [⟨3, p, c, ir (kept (fun j => (dm.L k).getD j 0) x (dm.L k).length)⟩] ∧ Below w.drew.heap.size w.drew w') := (clear_impl r.1 (dm.L k).length r.2 (fun j => (dm.L k).getD j 0) x w.drew (by omega) g5).mono fun e w' ⟨v, h1, h2, h3⟩ => by
    obtain ⟨p, c, rfl, hr⟩ := int_row h2
    exact ⟨p, c, h1, hr, h3⟩
  have hk0 : (0 : Int) ≤ (k : Int) := by omega
  have hk1 : (k : Int) < 3 := by omega
  clear h hd0 hn3 hB g1 g2 g3 g5 hk
  go_enter Tryz.func216, Tryz.ntmps216
  refine wp_region_held_drew (S := (fun w' => w'.cell? ⟨X, 1, none⟩ = some (.slice (some ⟨γ, 0, none⟩) 3 am.bc))) (by kernel_rfl) ?_ (fun hHeld => ?_)
  · exact cX1
  refine wpAnyH_take (i := 0) (oi := { dst := some 6, op := Op.move (Operand.tmp 0), type := 175, pos := "l08_node.go:199", after := #[], guard := none }) (v := ?_) rfl (by kernel_rfl) (by kernel_rfl) (by kernel_rfl) (fun _ _ _ h => h) (Or.inl ⟨by rfl, ?_⟩) (by assumption) ?_
  rotate_left 1
  · (intro wq hSw; (try dsimp only at hSw); go_simp; try with_reducible rfl)
  try simp only [Act.put, ly1, ly2, ly3]
  refine wpAnyH_take (i := 1) (oi := { dst := some 7, op := Op.nilCheck (Operand.tmp 6), type := 0, pos := "l08_node.go:199", after := #[{ on := 0, ground := Ground.data }], guard := none }) (v := ?_) rfl (by kernel_rfl) (by kernel_rfl) (by kernel_rfl) (fun _ _ _ h => h) (Or.inl ⟨by rfl, ?_⟩) (by assumption) ?_
  rotate_left 1
  · (intro wq hSw; (try dsimp only at hSw); go_simp; try with_reducible rfl)
  try simp only [Act.put, ly1, ly2, ly3]
  refine wpAnyH_take (i := 2) (oi := { dst := some 8, op := Op.fieldAddr 25 (Operand.tmp 7) 1, type := 0, pos := "l08_node.go:199", after := #[{ on := 1, ground := Ground.data }], guard := none }) (v := ?_) rfl (by kernel_rfl) (by kernel_rfl) (by kernel_rfl) (fun _ _ _ h => h) (Or.inl ⟨by rfl, ?_⟩) (by assumption) ?_
  rotate_left 1
  · (intro wq hSw; (try dsimp only at hSw); go_simp; try with_reducible rfl)
  try simp only [Act.put, ly1, ly2, ly3]
  refine wpAnyH_take (i := 3) (oi := { dst := some 9, op := Op.load 23 (Operand.tmp 8), type := 23, pos := "l08_node.go:199", after := #[{ on := 2, ground := Ground.data }], guard := none }) (v := ?_) rfl (by kernel_rfl) (by kernel_rfl) (by kernel_rfl) (fun _ _ _ h => h) (Or.inl ⟨by rfl, ?_⟩) (by assumption) ?_
  rotate_left 1
  · (intro wq hSw; (try dsimp only at hSw); go_simp; try with_reducible rfl)
  try simp only [Act.put, ly1, ly2, ly3]
  refine wpAnyH_take (i := 4) (oi := { dst := some 10, op := Op.move (Operand.tmp 1), type := 3, pos := "l08_node.go:199", after := #[], guard := none }) (v := ?_) rfl (by kernel_rfl) (by kernel_rfl) (by kernel_rfl) (fun _ _ _ h => h) (Or.inl ⟨by rfl, ?_⟩) (by assumption) ?_
  rotate_left 1
  · (intro wq hSw; (try dsimp only at hSw); go_simp; try with_reducible rfl)
  try simp only [Act.put, ly1, ly2, ly3]
  refine wpAnyH_take (i := 5) (oi := { dst := some 11, op := Op.move (Operand.tmp 0), type := 175, pos := "l08_node.go:199", after := #[], guard := none }) (v := ?_) rfl (by kernel_rfl) (by kernel_rfl) (by kernel_rfl) (fun _ _ _ h => h) (Or.inl ⟨by rfl, ?_⟩) (by assumption) ?_
  rotate_left 1
  · (intro wq hSw; (try dsimp only at hSw); go_simp; try with_reducible rfl)
  try simp only [Act.put, ly1, ly2, ly3]
  refine wpAnyH_take (i := 6) (oi := { dst := some 12, op := Op.nilCheck (Operand.tmp 11), type := 0, pos := "l08_node.go:199", after := #[{ on := 5, ground := Ground.data }], guard := none }) (v := ?_) rfl (by kernel_rfl) (by kernel_rfl) (by kernel_rfl) (fun _ _ _ h => h) (Or.inl ⟨by rfl, ?_⟩) (by assumption) ?_
  rotate_left 1
  · (intro wq hSw; (try dsimp only at hSw); go_simp; try with_reducible rfl)
  try simp only [Act.put, ly1, ly2, ly3]
  refine wpAnyH_take (i := 7) (oi := { dst := some 13, op := Op.fieldAddr 25 (Operand.tmp 12) 1, type := 0, pos := "l08_node.go:199", after := #[{ on := 6, ground := Ground.data }], guard := none }) (v := ?_) rfl (by kernel_rfl) (by kernel_rfl) (by kernel_rfl) (fun _ _ _ h => h) (Or.inl ⟨by rfl, ?_⟩) (by assumption) ?_
  rotate_left 1
  · (intro wq hSw; (try dsimp only at hSw); go_simp; try with_reducible rfl)
  try simp only [Act.put, ly1, ly2, ly3]
  refine wpAnyH_take (i := 8) (oi := { dst := some 14, op := Op.load 23 (Operand.tmp 13), type := 23, pos := "l08_node.go:199", after := #[{ on := 7, ground := Ground.data }], guard := none }) (v := ?_) rfl (by kernel_rfl) (by kernel_rfl) (by kernel_rfl) (fun _ _ _ h => h) (Or.inl ⟨by rfl, ?_⟩) (by assumption) ?_
  rotate_left 1
  · (intro wq hSw; (try dsimp only at hSw); go_simp; try with_reducible rfl)
  try simp only [Act.put, ly1, ly2, ly3]
  refine wpAnyH_take (i := 9) (oi := { dst := some 15, op := Op.move (Operand.tmp 1), type := 3, pos := "l08_node.go:199", after := #[], guard := none }) (v := ?_) rfl (by kernel_rfl) (by kernel_rfl) (by kernel_rfl) (fun _ _ _ h => h) (Or.inl ⟨by rfl, ?_⟩) (by assumption) ?_
  rotate_left 1
  · (intro wq hSw; (try dsimp only at hSw); go_simp; try with_reducible rfl)
  try simp only [Act.put, ly1, ly2, ly3]
  refine wpAnyH_take (i := 10) (oi := { dst := some 16, op := Op.indexAddr 23 (Operand.tmp 14) (Operand.tmp 15), type := 0, pos := "l08_node.go:199", after := #[{ on := 8, ground := Ground.data }, { on := 9, ground := Ground.data }], guard := none }) (v := ?_) rfl (by kernel_rfl) (by kernel_rfl) (by kernel_rfl) (fun _ _ _ h => h) (Or.inl ⟨by rfl, ?_⟩) (by assumption) ?_
  rotate_left 1
  · (intro wq hSw; (try dsimp only at hSw); go_simp; try with_reducible rfl)
  try simp only [Act.put, ly1, ly2, ly3]
  refine wpAnyH_take (i := 12) (oi := { dst := some 18, op := Op.move (Operand.tmp 2), type := 3, pos := "l08_node.go:199", after := #[], guard := none }) (v := ?_) rfl (by kernel_rfl) (by kernel_rfl) (by kernel_rfl) (fun _ _ _ h => h) (Or.inl ⟨by rfl, ?_⟩) (by assumption) ?_
  rotate_left 1
  · (intro wq hSw; (try dsimp only at hSw); go_simp; try with_reducible rfl)
  try simp only [Act.put, ly1, ly2, ly3]
  refine wpAnyH_ready (rs := [11]) (by kernel_rfl) (by simp) ?_
  refine AllReadyH.cons (o := { dst := some 17, op := Op.load 22 (Operand.tmp 16), type := 22, pos := "l08_node.go:199", after := #[{ on := 10, ground := Ground.data }], guard := none }) rfl (fun K hK => ?_) AllReadyH.nil
  go_simp
  refine hK.out _ _ ?_ (fun hHeld => ?_)
  · exact cX1
  clear hK K
  try simp only [Act.put, ly1, ly2, ly3]
  clear g4
  refine wpAnyH_ready (rs := [13]) (by kernel_rfl) (by simp) ?_
  refine AllReadyH.cons (o := { dst := some 19, op := Op.call { callee := Callee.value (Operand.func 190), args := #[Operand.tmp 17, Operand.tmp 18], argTypes := #[22, 3] }, type := 22, pos := "l08_node.go:199", after := #[{ on := 11, ground := Ground.data }, { on := 12, ground := Ground.data }], guard := none }) rfl (fun K hK => ?_) AllReadyH.nil
  go_simp
  refine HC.out.mono ?_
  rintro e w1 ⟨p, c, rfl, r1, b1⟩
  obtain ⟨⟨hs1, hz1⟩, hdr⟩ := HLN.out w1 _ _ _ b1 r1
  have HF : Hid (DR (w1.setCell ⟨γ, k, none⟩ (.slice p (kept (fun j => (dm.L k).getD j 0) x (dm.L k).length).length c)) X B am { dm with L := updL dm.L k (kept (fun j => (dm.L k).getD j 0) x (dm.L k).length) } b d ∧ Below B w (w1.setCell ⟨γ, k, none⟩ (.slice p (kept (fun j => (dm.L k).getD j 0) x (dm.L k).length).length c))) := ⟨hdr, ((Below.drawn (Below.refl B w) 1).trans (b1.mono HG.out.2)).trans (((Only.refl γ w1).setCell _).1.mono HG.out.1)⟩
  have cX2 : w1.cell? ⟨X, 1, none⟩ = some (.slice (some ⟨γ, 0, none⟩) 3 am.bc) := HX.out _ dm HN3.out (HD0.out.b b1)
  obtain ⟨u1, hu1⟩ := Option.isSome_iff_exists.1 hs1
  clear hs1 hdr r1 b1
  generalize kept (fun j => (dm.L k).getD j 0) x (dm.L k).length = M at *
  go_wp2_with fail
  refine hK.out _ _ ?_ (fun hHeld => ?_)
  · exact cX2
  clear hK K
  try simp only [Act.put, ly1, ly2, ly3]
  refine wpAnyH_take (i := 14) (oi := { dst := some 20, op := Op.indexAddr 23 (Operand.tmp 9) (Operand.tmp 10), type := 0, pos := "l08_node.go:199", after := #[{ on := 3, ground := Ground.data }, { on := 4, ground := Ground.data }, { on := 0, ground := Ground.phase }, { on := 1, ground := Ground.phase }, { on := 2, ground := Ground.phase }, { on := 3, ground := Ground.phase }, { on := 4, ground := Ground.phase }, { on := 5, ground := Ground.phase }, { on := 6, ground := Ground.phase }, { on := 7, ground := Ground.phase }, { on := 8, ground := Ground.phase }, { on := 9, ground := Ground.phase }, { on := 10, ground := Ground.phase }, { on := 11, ground := Ground.phase }, { on := 12, ground := Ground.phase }, { on := 13, ground := Ground.phase }], guard := none }) (v := ?_) rfl (by kernel_rfl) (by kernel_rfl) (by kernel_rfl) (fun _ _ _ h => h) (Or.inl ⟨by rfl, ?_⟩) (by assumption) ?_
  rotate_left 1
  · (intro wq hSw; (try dsimp only at hSw); go_simp; try with_reducible rfl)
  try simp only [Act.put, ly1, ly2, ly3]
  refine wpAnyH_ready (rs := [15]) (by kernel_rfl) (by simp) ?_
  refine AllReadyH.cons (o := { dst := none, op := Op.store 22 (Operand.tmp 20) (Operand.tmp 19), type := 0, pos := "l08_node.go:199", after := #[{ on := 14, ground := Ground.data }, { on := 13, ground := Ground.data }, { on := 13, ground := Ground.chain }, { on := 0, ground := Ground.phase }, { on := 1, ground := Ground.phase }, { on := 2, ground := Ground.phase }, { on := 3, ground := Ground.phase }, { on := 4, ground := Ground.phase }, { on := 5, ground := Ground.phase }, { on := 6, ground := Ground.phase }, { on := 7, ground := Ground.phase }, { on := 8, ground := Ground.phase }, { on := 9, ground := Ground.phase }, { on := 10, ground := Ground.phase }, { on := 11, ground := Ground.phase }, { on := 12, ground := Ground.phase }, { on := 13, ground := Ground.phase }], guard := none }) rfl (fun K hK => ?_) AllReadyH.nil
  go_simp
  refine hK.out _ _ ?_ (fun hHeld => ?_)
  · exact (HX.out _ { dm with L := updL dm.L k M } HN3.out HF.out.1.1)
  clear hK K
  try simp only [Act.put, ly1, ly2, ly3]
  refine wpAnyH_done (by kernel_rfl) ?_ _
  go_wp2_with fail
  go_end0
  exact ⟨rfl, HF.out⟩
end Go.Proofs.YtkndnndildnbpaaGreatDoor

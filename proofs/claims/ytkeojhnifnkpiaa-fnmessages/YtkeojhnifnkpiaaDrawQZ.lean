/- DrawMsgOf of the model. -/
import Derived.Test.YtkeojhnifnkpiaaDrawEZ

namespace Go.Proofs.Ytkeojhnifnkpiaa
open Go.ChangeShapes Go.WideShapes Go.ChangeAt Go.RowKit
set_option linter.unusedVariables false
set_option linter.unusedSimpArgs false
set_option maxRecDepth 100000

theorem mby_pos {m : Mg} (h : MOk m.k m.c m.v m.h (fun i => m.g.getD i 0) m.g.length) : 0 < (mby m).length := by
  unfold mby mb
  rw [if_pos h]
  simp [framed, s4]
  omega

/-- MsgBytes of the model is never nil. -/
theorem mby_some {m : Mg} (ro : Option Addr) (rc : Nat) (w : World) (hn : m.g.length ≤ 1048576) (hrc : m.g.length ≤ rc) (hs : SL .i64 w ro m.g.length (fun i => m.g.getD i 0)) :
    Calls Try.prog 36 #[.agg #[.int .i64 m.k, .int .i64 m.c, .int .i64 m.v, .int .i64 m.h, .slice ro m.g.length rc]] w fun e w' => ∃ k c, e = .returned (.slice (some ⟨k, 0, none⟩) (mby m).length c) ∧ w'.ownsRow w.heap.size 5 1 (.slice (some ⟨k, 0, none⟩) (mby m).length c) (mby m).length ((mby m).map (.int .u8)) ∧ Below w.heap.size w w' := by
  by_cases hok : MOk m.k m.c m.v m.h (fun i => m.g.getD i 0) m.g.length
  · refine (mby_spec ro rc w hn hrc hs).mono ?_
    rintro e w1 ⟨x, rfl, ho, hb⟩
    obtain ⟨k, c, rfl, _⟩ := msrc ho (mby_pos hok)
    exact ⟨k, c, rfl, ho, hb⟩
  · have HS := hide hs
    clear hs
    have hmb : mby m = [] := by unfold mby mb; rw [if_neg hok]
    rw [hmb]
    clear hmb
    go_enter Try.func36, Try.ntmps36
    go_wp2_with fail
    refine (msgok_no ro m.g.length rc _ m.k m.c m.v m.h _ hn hrc (HS.out.below ((Below.refl _ _).alloc (Nat.le_refl _) _)) hok).mono ?_
    rintro e w1 ⟨rfl, b1⟩
    have B1 := hide (((Below.refl _ _).alloc (Nat.le_refl _) _).trans (b1.mono (by simp)) : Below w.heap.size w w1)
    clear b1 HS
    go_wp2
    go_ret
    exact ⟨_, _, rfl, gmono (gempty (ik := .u8) (Nat.le_refl _)) B1.out.size, B1.out.alloc B1.out.size _⟩

theorem wpList_append_keep {P : Program} {w : World} {ops : Array Oper} {rest : List Oper} {o : Oper} {a : Act} {Q : Exit → Act → World → Prop} (hgd : o.guard = none) (s x : Operand) (t : TypeId)
    (ho : o.op = .call { callee := .builtin .append, args := #[s, x], argTypes := #[t, t] })
    (base : Nat) (e : TypeId) (i : TypeInfo) (z : Value) (bytes : Nat) (ht : P.underlying t = some (.slice e)) (hi : P.info? e = some i) (hz : i.zero = some z)
    (hsize : i.size = 1) (hby : i.bytes = bytes) (hzs : z.cells.size = 1) (k : IntKind)
    (ad0 : Addr) (c0 : Nat) (M : List Int) (hs : a.eval s = .slice (some ad0) M.length c0) (hown : w.ownsRow base e 1 (.slice (some ad0) M.length c0) M.length (M.map (.int k)))
    (xv : Value) (L : List Int) (hx : a.eval x = xv) (hsrc : Src k w xv L)
    (h63 : M.length + L.length ≤ maxLen) (hbytes : (M.length + L.length) * bytes ≤ 140737488355328) (hbase : base ≤ w.heap.size)
    (h : ∀ v' w', w'.ownsRow base e 1 v' (M ++ L).length ((M ++ L).map (.int k)) → w.grownBy w' (Value.slice (some ad0) M.length c0).ownBlock → (∃ b c, v' = .slice (some ⟨b, 0, none⟩) (M ++ L).length c) → wpList P ops Q rest (a.put o.dst v') w') : wpList P ops Q (o :: rest) a w := by
  have fin : ∀ v' w', w'.ownsRow base e 1 v' (M ++ L).length ((M ++ L).map (.int k)) → w.grownBy w' (Value.slice (some ad0) M.length c0).ownBlock → ¬ v' = .slice none 0 0 → wpList P ops Q rest (a.put o.dst v') w' := by
    intro v' w' h1 h2 h3
    rcases h1.2 with ⟨e1, _⟩ | ⟨b, c, cur, rfl, _⟩
    · exact absurd e1 h3
    · exact h _ w' h1 h2 ⟨b, c, rfl⟩
  rcases hsrc with ⟨e1, rfl⟩ | ⟨ad, c, e1, hc⟩
  · refine wpList_append_own_none hgd s x t ho base e i 1 ht hi _ M.length (M.map (.int k)) hs hown (hx.trans e1) ?_
    exact fin _ w (by simpa using hown) (grownBy_refl _ _) (by simp)
  · refine wpList_append_own w hgd s x t ho base e i z 1 bytes ht hi hz hsize hby hzs (by decide) _ M.length (M.map (.int k)) hs hown ad L.length c (L.map (.int k)) (hx.trans e1) (by simp) hc (gones _ _) h63 hbytes hbase ?_
    intro v' w' h1 h2 h3
    exact fin v' w' (by simpa using h1) h2 (fun e => by simpa using h3.1 e)

theorem sl_owns {w : World} {B rc : Nat} {ro : Option Addr} {G : List Int} (h : w.ownsRow B 3 1 (.slice ro G.length rc) G.length (G.map (.int .i64))) : SL .i64 w ro G.length (fun i => G.getD i 0) ∧ G.length ≤ rc := by
  rcases h.2 with ⟨e, h0⟩ | ⟨g, cap, cur, e, hb, hc, h1, _⟩
  · exact ⟨fun i hi => by omega, by omega⟩
  · simp only [Value.slice.injEq, true_and] at e
    obtain ⟨rfl, rfl⟩ := e
    refine ⟨fun i hi => ⟨g, 0, rfl, (World.ownsRow.lt h g rfl).2, ?_⟩, h1⟩
    have := h.cells (g := g) rfl i (.int .i64 (G.getD i 0)) (by simp [List.getD, hi])
    rwa [Addr.add_lit] at this

theorem pick6d (m : Nat) (hm : m ≤ 2001) (j : Nat) (hj : j < 6) : -1 ≤ ([0, 0, 0, 1, (m : Int), -1] : List Int).getD j 0 ∧ ([0, 0, 0, 1, (m : Int), -1] : List Int).getD j 0 ≤ 2001 := by
  match j, hj with
  | 0, _ => simp
  | 1, _ => simp
  | 2, _ => simp
  | 3, _ => simp
  | 4, _ => simp; omega
  | 5, _ => simp

set_option maxHeartbeats 400000 in
theorem draw_mof (ao : Option Addr) (n cap : Nat) (f : Nat → Int) (w : World) (hn : n ≤ 1048576) (hs : SL .u8 w ao n f) (hf : ∀ i, i < n → 0 ≤ f i ∧ f i ≤ 255) :
    Calls Try.prog 27 #[.slice ao n cap] w fun e w' => ∃ v L x, e = .returned (.tuple #[v, .int .i64 x]) ∧ (L : List Int).length ≤ 2001 ∧ (∀ z ∈ L, 0 ≤ z ∧ z ≤ 255) ∧ w'.ownsRow w.heap.size 5 1 v L.length (L.map (.int .u8)) ∧ -1 ≤ x ∧ x ≤ 2001 ∧ Below w.heap.size w w' := by
  obtain ⟨i0, hi, hz0, hz1, hz2⟩ := info_parts Try.info5
  have HS := hide hs
  have HF := hide hf
  clear hs hf
  go_enter Try.func27, Try.ntmps27
  go_wp2_with fail
  refine (new_any ao n cap f _ hn HS.out HF.out).mono ?_
  rintro e w1 ⟨rfl, hc, b1⟩
  have H1 : Hid (Cur w1 w.heap.size ao n cap f ∧ Below w.heap.size w w1) := ⟨hc, b1⟩
  clear hc b1
  go_wp2_with fail
  refine (draw4r w.heap.size n cap ao f _ H1.out.1).mono ?_
  rintro e w2 ⟨⟨m, ro, rc, rfl, hl4, hO⟩, hcw⟩
  have H2 := hide hcw
  have hlt1 := hcw.2.2
  have HO := hide hO
  clear hcw hO
  go_wp2_with fail
  refine (mby_some ro rc _ (by omega) (sl_owns HO.out).2 (sl_owns HO.out).1).mono ?_
  rintro e w3 ⟨k3, c3, rfl, ho3, hb3⟩
  have H3 : Hid (w3.ownsRow w2.heap.size 5 1 (.slice (some ⟨k3, 0, none⟩) (mby m).length c3) (mby m).length ((mby m).map (.int .u8)) ∧ CurW w1 w3 w.heap.size ao n cap f) := ⟨ho3, H2.out.below hb3⟩
  have hb2 : w1.heap.size ≤ w2.heap.size := H2.out.2.1.size
  clear ho3 hb3 HO H2
  go_wp2_with fail
  refine (dnums w.heap.size n cap ao f w3 H3.out.2.1).mono ?_
  rintro e w4 ⟨v4, N, rfl, hN, hbw⟩
  have H4 : Hid (w4.ownsRow w2.heap.size 5 1 (.slice (some ⟨k3, 0, none⟩) (mby m).length c3) (mby m).length ((mby m).map (.int .u8)) ∧ CurW w1 w4 w.heap.size ao n cap f) := ⟨owns_cur H3.out.1 hbw.2.2.2.1 (by omega), H3.out.2.trans hbw.2.2⟩
  have HS4 := hide (Src.of_owns hbw.1)
  have HN := hide hbw.2.1
  have h32 : w2.heap.size ≤ w4.heap.size := by
    have := World.ownsRow.lt H4.out.1 k3 rfl
    omega
  have hml := mby_len m
  have HM := hide (mby_byte m)
  clear hbw H3
  generalize mby m = M at H4 hml HM ⊢
  go_wp2_with (first
    | (at_builtin; refine wpList_append_keep rfl _ _ 22 rfl w2.heap.size 5 i0 (.int .u8 0) 1 Try.underlying22 hi hz0 hz1 hz2 rfl .u8 _ _ M rfl H4.out.1 _ N rfl HS4.out (by unfold maxLen; omega) (by omega) h32 ?_; intro v5 w5 hown5 hgrow5 hsome5))
  have H5 : Hid (w5.ownsRow w2.heap.size 5 1 v5 (M ++ N).length ((M ++ N).map (.int .u8)) ∧ CurW w1 w5 w.heap.size ao n cap f) := ⟨hown5, H4.out.2.app hgrow5 (fun k hk => by have := (World.ownsRow.lt H4.out.1 k hk).1; omega)⟩
  have HMN : Hid (∀ z ∈ M ++ N, 0 ≤ z ∧ z ≤ 255) := fun z hz => (List.mem_append.1 hz).elim (HM.out z) (HN.out z)
  have hmn : (M ++ N).length ≤ 140 := by simp; omega
  have h25 : w2.heap.size ≤ w5.heap.size := Nat.le_trans h32 hgrow5.size
  clear hown5 hgrow5 H4 HS4 HM HN
  generalize M ++ N = Y at H5 HMN hmn hsome5
  obtain ⟨k5, c5, rfl⟩ := hsome5
  refine (dent w.heap.size n cap ao f k5 c5 w2.heap.size Y _ H5.out.2.1 (by omega) HMN.out (by omega) h25 H5.out.1).mono ?_
  rintro e w6 ⟨v6, L6, rfl, hl6, hb6, ho6, hcw6⟩
  have H6 : Hid (w6.ownsRow w2.heap.size 5 1 v6 L6.length (L6.map (.int .u8)) ∧ CurW w1 w6 w.heap.size ao n cap f) := ⟨ho6, H5.out.2.trans hcw6⟩
  have HB6 := hide hb6
  obtain ⟨o6, c6, rfl⟩ := (Src.of_owns ho6).form
  clear ho6 hcw6 hb6 H5 HMN
  go_wp2_with fail
  refine (pick_any w.heap.size n cap 6 6 ao (some ⟨w6.heap.size, 0, none⟩) f (fun i => [0, 0, 0, 1, (L6.length : Int), -1].getD i 0) _ (by decide) (by decide) (H6.out.2.alloc _).1 (lit_cells w6 [0, 0, 0, 1, (L6.length : Int), -1] 3 w.heap.size H6.out.2.1.lt)).mono ?_
  rintro e w7 ⟨⟨j, hj, rfl⟩, hcur, hgr⟩
  have H7 : Hid (w7.ownsRow w2.heap.size 5 1 (.slice o6 L6.length c6) L6.length (L6.map (.int .u8)) ∧ CurW w1 w7 w.heap.size ao n cap f) := ⟨owns_cur (H6.out.1.alloc _) hgr (by omega), (H6.out.2.alloc _).step hcur hgr⟩
  have hz := pick6d L6.length hl6 j hj
  generalize ([0, 0, 0, 1, (L6.length : Int), -1] : List Int).getD j 0 = z at hz
  clear hcur hgr H6 hj
  go_wp2
  go_ret2
  exact ⟨_, L6, z, rfl, hl6, HB6.out, gmono H7.out.1 (by omega), hz.1, hz.2, H1.out.2.grown H7.out.2.2.1 H1.out.2.size (fun k hk => by cases hk; exact Nat.le_refl _)⟩
end Go.Proofs.Ytkeojhnifnkpiaa

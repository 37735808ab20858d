/- The body of a message: its numbers as bytes, one behind the other. -/
import Derived.Test.YtkeojhnifnkpiaaMokSA
import Derived.Test.YtkeojhnifnkpiaaPut
import Derived.Test.YtkeojhnifnkpiaaAppG
import Derived.Deep.AppendLies
namespace Go.Proofs.Ytkeojhnifnkpiaa
open Go.ChangeShapes Go.WideShapes Go.ChangeAt Go.RowKit
set_option linter.unusedVariables false
set_option linter.unusedSimpArgs false

/-- Numbers as bytes, one behind the other. -/
def nums (l : List Int) : List Int := (l.map (pb 4)).flatten
theorem nums_nil : nums [] = [] := rfl
theorem nums_cons (x : Int) (l : List Int) : nums (x :: l) = pb 4 x ++ nums l := by simp [nums]
theorem nums_app (l m : List Int) : nums (l ++ m) = nums l ++ nums m := by simp [nums]
theorem nums_one (x : Int) : nums [x] = pb 4 x := by simp [nums]
theorem nums_len (l : List Int) : (nums l).length ≤ 5 * l.length := by
  induction l with
  | nil => simp [nums]
  | cons x l ih =>
    have := pb_len 4 x
    rw [nums_cons, List.length_append, List.length_cons]
    omega

theorem mpb_pos (fuel : Nat) (x : Int) : 0 < (pb fuel x).length := by
  cases fuel with
  | zero => simp [pb]
  | succ f => rw [pb]; split <;> simp
theorem mpb_255 (fuel : Nat) (x : Int) (k : Nat) (hk : k + fuel = 4) (h0 : 0 ≤ x) (h1 : x < lim k) : ∀ z ∈ pb fuel x, 0 ≤ z ∧ z ≤ 255 := by
  induction fuel generalizing x k with
  | zero =>
    intro z hz
    simp [pb] at hz
    subst hz
    have : k = 4 := by omega
    subst this
    simp [lim] at h1
    omega
  | succ f ih =>
    intro z hz
    rw [pb] at hz
    split at hz
    · simp at hz; omega
    · next h =>
      obtain ⟨_, g0, g1⟩ := lim_step k x (by omega) h1
      rcases List.mem_cons.1 hz with rfl | hz
      · omega
      · exact ih (x / 128) (k + 1) (by omega) g0 g1 z hz
theorem pb_byte (x : Int) (h0 : 0 ≤ x) (h1 : x ≤ 2147483647) : ∀ z ∈ pb 4 x, 0 ≤ z ∧ z ≤ 255 := mpb_255 4 x 0 rfl h0 (by simp [lim]; omega)
theorem nums_byte (l : List Int) (h : ∀ x ∈ l, 0 ≤ x ∧ x ≤ 2147483647) : ∀ z ∈ nums l, 0 ≤ z ∧ z ≤ 255 := by
  intro z hz
  simp only [nums, List.mem_flatten, List.mem_map] at hz
  obtain ⟨_, ⟨x, hx, rfl⟩, hz⟩ := hz
  exact pb_byte x (h x hx).1 (h x hx).2 z hz

theorem gbelow {B n s : Nat} {w w' : World} {e : TypeId} {v : Value} {xs : List Value} (h : w.ownsRow B e s v n xs) (hb : Below w.heap.size w w') : w'.ownsRow B e s v n xs := by
  refine ⟨h.1, ?_⟩
  rcases h.2 with h | ⟨g, cap, cur, e1, hge, hc, r⟩
  · exact .inl h
  · exact .inr ⟨g, cap, cur, e1, hge, (hb.block g (Array.getElem?_eq_some_iff.1 hc).1).trans hc, r⟩
theorem msrc {w : World} {B : Nat} {v : Value} {L : List Int} {k : IntKind} {t : TypeId} (h : w.ownsRow B t 1 v L.length (L.map (.int k))) (hne : 0 < L.length) :
    ∃ g cap, v = .slice (some ⟨g, 0, none⟩) L.length cap ∧ g < w.heap.size ∧ B ≤ g ∧ ∀ j u, (L.map (Value.int k))[j]? = some u → w.cell? ((⟨g, 0, none⟩ : Addr).add j) = some u := by
  rcases h.2 with ⟨_, h0⟩ | ⟨g, cap, cur, e, hge, hc, _⟩
  · omega
  · exact ⟨g, cap, e, (Array.getElem?_eq_some_iff.1 hc).1, hge, h.cells (by rw [e]; rfl)⟩

/-- Bytes that are built beside a list of numbers at block q, and a message at block p. -/
def Bo (w0 w : World) (p q : Nat) (v : Value) (L : List Int) : Prop :=
  w.ownsRow w0.heap.size 5 1 v L.length (L.map (.int .u8)) ∧ v.ownBlock ≠ some p ∧ v.ownBlock ≠ some q ∧ p < w.heap.size ∧ q < w.heap.size ∧ Below w0.heap.size w0 w

theorem Bo.step {w0 w w' : World} {p q : Nat} {v : Value} {L : List Int} (h : Bo w0 w p q v L) (hb : Below w.heap.size w w') : Bo w0 w' p q v L :=
  ⟨gbelow h.1 hb, h.2.1, h.2.2.1, Nat.lt_of_lt_of_le h.2.2.2.1 hb.size, Nat.lt_of_lt_of_le h.2.2.2.2.1 hb.size, h.2.2.2.2.2.trans (hb.mono h.2.2.2.2.2.size)⟩
theorem Bo.app {w0 w w' : World} {p q g cap : Nat} {v : Value} {L M : List Int} (h : Bo w0 w p q v L)
    (h1 : w'.ownsRow w0.heap.size 5 1 (.slice (some ⟨g, 0, none⟩) (L.length + M.length) cap) (L.length + M.length) (L.map (.int .u8) ++ M.map (.int .u8))) (hg : w.grownBy w' v.ownBlock) (hat : v.ownBlock = some g ∨ g = w.heap.size) :
    Bo w0 w' p q (.slice (some ⟨g, 0, none⟩) (L.length + M.length) cap) (L ++ M) := by
  obtain ⟨ho, hp, hq, lp, lq, hb⟩ := h
  refine ⟨by simpa using h1, ?_, ?_, Nat.lt_of_lt_of_le lp hg.size, Nat.lt_of_lt_of_le lq hg.size, ggrown hb hb.size ho hg⟩
  · rcases hat with e | e
    · intro c; exact hp (e.trans (by simpa [Value.ownBlock] using c))
    · intro c; simp [Value.ownBlock] at c; omega
  · rcases hat with e | e
    · intro c; exact hq (e.trans (by simpa [Value.ownBlock] using c))
    · intro c; simp [Value.ownBlock] at c; omega
theorem Bo.keep {w0 w w' : World} {p q : Nat} {v : Value} {L : List Int} (h : Bo w0 w p q v L) (hg : w.grownBy w' v.ownBlock) (a : Addr) (ha : a.block = p ∨ a.block = q) : w'.cell? a = w.cell? a := by
  rcases ha with e | e
  · exact hg.cell_far a (by rw [e]; exact h.2.2.2.1) (by rw [e]; exact fun c => h.2.1 c.symm)
  · exact hg.cell_far a (by rw [e]; exact h.2.2.2.2.1) (by rw [e]; exact fun c => h.2.2.1 c.symm)

theorem al3 (w : World) (o1 o2 o3 : Obj) : (((w.alloc o1).alloc o2).alloc o3).heap[w.heap.size]? = some o1 ∧ (((w.alloc o1).alloc o2).alloc o3).heap[w.heap.size + 1]? = some o2 ∧ (((w.alloc o1).alloc o2).alloc o3).heap[w.heap.size + 1 + 1]? = some o3 ∧ (((w.alloc o1).alloc o2).alloc o3).heap.size = w.heap.size + 1 + 1 + 1 := by
  have e : ∀ (w : World) (o : Obj), (w.alloc o).heap = w.heap.push o := fun _ _ => rfl
  refine ⟨?_, ?_, ?_, ?_⟩
  · simp only [e, Array.getElem?_push, Array.size_push]
    rw [if_neg (by omega), if_neg (by omega), if_pos trivial]
  · simp only [e, Array.getElem?_push, Array.size_push]
    rw [if_neg (by omega), if_pos trivial]
  · simp only [e, Array.getElem?_push, Array.size_push]
    rw [if_pos trivial]
  · simp only [e, Array.size_push]
theorem bo_start (w : World) (m l : Array Value) (t : TypeId) : Bo w (((w.alloc (.cells m t)).alloc (.cells #[] 5)).alloc (.cells l 3)) w.heap.size (w.heap.size + 1 + 1) (.slice (some ⟨w.heap.size + 1, 0, none⟩) 0 0) [] := by
  obtain ⟨h1, h2, h3, h4⟩ := al3 w (.cells m t) (.cells #[] 5) (.cells l 3)
  refine ⟨⟨rfl, .inr ⟨_, _, #[], rfl, by omega, h2, by simp, by simp, by simp, by simp⟩⟩, by simp [Value.ownBlock], by simp [Value.ownBlock], by omega, by omega, ?_⟩
  exact (((Below.refl _ _).alloc (Nat.le_refl _) _).alloc (by simp) _).alloc (by simp; omega) _
theorem blk_cell {w : World} {g i : Nat} {cs : Array Value} {t : TypeId} {fr : Nat × Nat} {v : Value} (h : w.heap[g]? = some (.cells cs t fr)) (hv : cs[i]? = some v) : w.cell? ⟨g, i, none⟩ = some v := by
  simp [World.cell?, h, hv]

set_option maxRecDepth 100000 in
theorem body_spec (ao : Option Addr) (n cap : Nat) (f : Nat → Int) (k c v h : Int) (w : World) (hn : n ≤ 12) (hs : SL .i64 w ao n f) (hf : ∀ i, i < n → 0 ≤ f i ∧ f i ≤ 2147483647)
    (hk : 0 ≤ k ∧ k ≤ 2147483647) (hc : 0 ≤ c ∧ c ≤ 2147483647) (hv : 0 ≤ v ∧ v ≤ 2147483647) (hh : 0 ≤ h ∧ h ≤ 2147483647) :
    Calls Try.prog 93 #[.agg #[.int .i64 k, .int .i64 c, .int .i64 v, .int .i64 h, .slice ao n cap]] w fun e w' => ∃ x, e = .returned x ∧ w'.ownsRow w.heap.size 5 1 x (nums ([k, c, v, h, (n : Int)] ++ (List.range n).map f)).length ((nums ([k, c, v, h, (n : Int)] ++ (List.range n).map f)).map (.int .u8)) ∧ Below w.heap.size w w' := by
  obtain ⟨i0, hi, hz0, hz1, hz2⟩ := info_parts Try.info5
  have HS := hide hs
  have HF := hide hf
  have H5 : Hid (∀ i, i < 5 → 0 ≤ ([k, c, v, h, (n : Int)] : List Int).getD i 0 ∧ ([k, c, v, h, (n : Int)] : List Int).getD i 0 ≤ 2147483647) := fun i hi => by
    match i, hi with
    | 0, _ => exact hk
    | 1, _ => exact hc
    | 2, _ => exact hv
    | 3, _ => exact hh
    | 4, _ => simp; omega
  clear hs hf hk hc hv hh
  generalize hR : nums ([k, c, v, h, (n : Int)] ++ (List.range n).map f) = R
  have HR := hide hR
  clear hR
  go_enter Try.func93, Try.ntmps93
  go_wp2
  obtain ⟨b1, _, b3, _⟩ := al3 w (.cells #[.int .i64 k, .int .i64 c, .int .i64 v, .int .i64 h, .slice ao n cap] 40) (.cells #[] 5) (.cells #[.int .i64 k, .int .i64 c, .int .i64 v, .int .i64 h, .int .i64 (n : Int)] 3)
  have hst := hide (bo_start w #[.int .i64 k, .int .i64 c, .int .i64 v, .int .i64 h, .slice ao n cap] #[.int .i64 k, .int .i64 c, .int .i64 v, .int .i64 h, .int .i64 (n : Int)] 40)
  have hst2 := hide (blk_cell (i := 4) b1 rfl)
  have hst3 : Hid (∀ j, j < 5 → (((w.alloc (.cells #[.int .i64 k, .int .i64 c, .int .i64 v, .int .i64 h, .slice ao n cap] 40)).alloc (.cells #[] 5)).alloc (.cells #[.int .i64 k, .int .i64 c, .int .i64 v, .int .i64 h, .int .i64 (n : Int)] 3)).cell? ⟨w.heap.size + 1 + 1, j, none⟩ = some (.int .i64 (([k, c, v, h, (n : Int)] : List Int).getD j 0))) := fun j hj => by
    match j, hj with
    | 0, _ => exact blk_cell b3 rfl
    | 1, _ => exact blk_cell b3 rfl
    | 2, _ => exact blk_cell b3 rfl
    | 3, _ => exact blk_cell b3 rfl
    | 4, _ => exact blk_cell b3 rfl
  clear b1 b3
  generalize hl5 : ([k, c, v, h, (n : Int)] : List Int) = l5 at *
  have HL5 : Hid (l5.length = 5) := (show _ = _ by rw [← hl5]; rfl)
  clear hl5
  go_loopw [3, 5] (fun x i wr => ∃ (j : Nat) (L : List Int), j ≤ 5 ∧ L.length ≤ 25 ∧ i = .int .i64 j ∧ Hid (L = nums (l5.take j)) ∧ Hid (Bo w wr w.heap.size (w.heap.size + 1 + 1) x L) ∧ Hid (wr.cell? ⟨w.heap.size, 4, none⟩ = some (.slice ao n cap)) ∧ Hid (∀ j, j < 5 → wr.cell? ⟨w.heap.size + 1 + 1, j, none⟩ = some (.int .i64 (l5.getD j 0)))) (fun _ i _ => 5 - (intOf i).toNat)
  case atStart => exact ⟨0, [], by omega, by simp, rfl, rfl, hst.out, hst2.out, hst3.out⟩
  case round =>
    clear hst hst2 hst3
    obtain ⟨j, L, hj, hLl, rfl, HL, HB, HP, HQ⟩ := hrel
    by_cases hlt : j < 5
    · have hcj := HQ.out j hlt
      obtain ⟨hz1', hz2'⟩ := H5.out j hlt
      have hnx : Hid (nums (l5.take (j + 1)) = L ++ pb 4 (l5.getD j 0)) := (show _ = _ by
        have e : l5.take (j + 1) = l5.take j ++ [l5.getD j 0] := by
          rw [List.take_add_one]
          have : j < l5.length := by rw [HL5.out]; exact hlt
          simp [List.getD, this]
        rw [e, nums_app, nums_one, ← HL.out])
      generalize l5.getD j 0 = z at *
      have hji : (j : Int) < 5 := by omega
      go_wp2_with fail
      refine (put_spec z _ hz1' hz2').mono ?_
      rintro e w3 ⟨v3, rfl, ho3, hb3⟩
      obtain ⟨g3, c3, rfl, hg3, _, hsrc⟩ := msrc ho3 (mpb_pos 4 z)
      have HB3 : Hid (Bo w w3 w.heap.size (w.heap.size + 1 + 1) u3 L) := HB.out.step hb3
      have HP3 : Hid (w3.cell? ⟨w.heap.size, 4, none⟩ = some (.slice ao n cap)) := (show _ = _ by rw [hb3.cell (p := ⟨w.heap.size, 4, none⟩) HB.out.2.2.2.1]; exact HP.out)
      have HQ3 : Hid (∀ j, j < 5 → w3.cell? ⟨w.heap.size + 1 + 1, j, none⟩ = some (.int .i64 (l5.getD j 0))) := fun i hi => by rw [hb3.cell (p := ⟨w.heap.size + 1 + 1, i, none⟩) HB.out.2.2.2.2.1]; exact HQ.out i hi
      have hpl := pb_len 4 z
      have hM0 := mpb_pos 4 z
      have HSR := hide hsrc
      generalize pb 4 z = M at hpl hM0 HSR hnx
      have hln : Hid ((L ++ M).length ≤ 5 * (j + 1)) := (show _ ≤ _ by rw [← hnx.out]; have := nums_len (l5.take (j + 1)); simp at this ⊢; omega)
      clear ho3 hb3 hsrc HP HQ HB
      go_wp2_with (at_builtin; refine wpList_append_lies _ rfl _ _ 22 rfl w.heap.size 5 i0 (.int .u8 0) 1 1 Try.underlying22 hi hz0 hz1 hz2 rfl (by decide) _ _ _ rfl HB3.out.1 ⟨g3, 0, none⟩ M.length c3 (M.map (.int .u8)) rfl (by simp) HSR.out (gones _ _) hM0 (glens (by omega)) (by omega) HB3.out.2.2.2.2.2.size _ rfl ?_; intro g4 c4 w4 hown4 hgrow4 hat4 hlt4)
      have HB4 := hide (HB3.out.app (M := M) hown4 hgrow4 hat4)
      have HP4 : Hid (w4.cell? ⟨w.heap.size, 4, none⟩ = some (.slice ao n cap)) := (show _ = _ by rw [HB3.out.keep hgrow4 _ (.inl rfl)]; exact HP3.out)
      have HQ4 : Hid (∀ j, j < 5 → w4.cell? ⟨w.heap.size + 1 + 1, j, none⟩ = some (.int .i64 (l5.getD j 0))) := fun i hi => by rw [HB3.out.keep hgrow4 _ (.inr rfl)]; exact HQ3.out i hi
      clear hown4 hgrow4 hat4 HB3 HP3 HQ3
      go_wp2
      go_roundw
      case rel => exact ⟨j + 1, L ++ M, by omega, by have := hln.out; omega, by go_num, (show _ = _ by rw [hnx.out]), HB4.out, HP4.out, HQ4.out⟩
      case measure => simp [intOf]; omega
    · have HL' : Hid (L = nums l5) := (show _ = _ by rw [HL.out, List.take_of_length_le (by rw [HL5.out]; omega)])
      clear HQ HL H5
      go_wp2
      go_loopw [3, 6] (fun x i wr => ∃ (j : Nat) (L : List Int), j ≤ n ∧ L.length ≤ 85 ∧ i = .int .i64 j ∧ Hid (L = nums (l5 ++ (List.range j).map f)) ∧ Hid (Bo w wr w.heap.size (w.heap.size + 1 + 1) x L) ∧ Hid (wr.cell? ⟨w.heap.size, 4, none⟩ = some (.slice ao n cap))) (fun _ i _ => n - (intOf i).toNat)
      case atStart => exact ⟨0, L, by omega, by omega, rfl, (show _ = _ by rw [HL'.out]; simp), HB.out, HP.out⟩
      case round =>
        clear HB HP HL' hLl
        obtain ⟨j, L, hj, hLl, rfl, HL, HB, HP⟩ := hrel
        have hcp := HP.out
        by_cases hlt : j < n
        · obtain ⟨b, off, rfl, hb, hcj0⟩ := HS.out j hlt
          have hcj := (HB.out.2.2.2.2.2.cell (p := ⟨b, off + j, none⟩) hb).trans hcj0
          obtain ⟨hz1', hz2'⟩ := HF.out j hlt
          have hnx : Hid (nums (l5 ++ (List.range (j + 1)).map f) = L ++ pb 4 (f j)) := (show _ = _ by
            rw [List.range_succ, List.map_append, ← List.append_assoc, nums_app, ← HL.out]; simp [nums_one])
          generalize f j = z at *
          clear hcj0
          go_wp2_with fail
          refine (put_spec z _ hz1' hz2').mono ?_
          rintro e w3 ⟨v3, rfl, ho3, hb3⟩
          obtain ⟨g3, c3, rfl, hg3, _, hsrc⟩ := msrc ho3 (mpb_pos 4 z)
          have HB3 : Hid (Bo w w3 w.heap.size (w.heap.size + 1 + 1) u3 L) := HB.out.step hb3
          have HP3 : Hid (w3.cell? ⟨w.heap.size, 4, none⟩ = some (.slice (some ⟨b, off, none⟩) n cap)) := (show _ = _ by rw [hb3.cell (p := ⟨w.heap.size, 4, none⟩) HB.out.2.2.2.1]; exact HP.out)
          have hpl := pb_len 4 z
          have hM0 := mpb_pos 4 z
          have HSR := hide hsrc
          generalize pb 4 z = M at hpl hM0 HSR hnx
          have hln : Hid ((L ++ M).length ≤ 5 * (5 + (j + 1))) := (show _ ≤ _ by rw [← hnx.out]; have := nums_len (l5 ++ (List.range (j + 1)).map f); simp [HL5.out] at this ⊢; omega)
          clear ho3 hb3 hsrc HP HB hcp hcj
          go_wp2_with (at_builtin; refine wpList_append_lies _ rfl _ _ 22 rfl w.heap.size 5 i0 (.int .u8 0) 1 1 Try.underlying22 hi hz0 hz1 hz2 rfl (by decide) _ _ _ rfl HB3.out.1 ⟨g3, 0, none⟩ M.length c3 (M.map (.int .u8)) rfl (by simp) HSR.out (gones _ _) hM0 (glens (by omega)) (by omega) HB3.out.2.2.2.2.2.size _ rfl ?_; intro g4 c4 w4 hown4 hgrow4 hat4 hlt4)
          have HB4 := hide (HB3.out.app (M := M) hown4 hgrow4 hat4)
          have HP4 : Hid (w4.cell? ⟨w.heap.size, 4, none⟩ = some (.slice (some ⟨b, off, none⟩) n cap)) := (show _ = _ by rw [HB3.out.keep hgrow4 _ (.inl rfl)]; exact HP3.out)
          clear hown4 hgrow4 hat4 HB3 HP3
          go_wp2
          go_roundw
          case rel => exact ⟨j + 1, L ++ M, by omega, by have := hln.out; omega, by go_num, (show _ = _ by rw [hnx.out]), HB4.out, HP4.out⟩
          case measure => simp [intOf]; omega
        · obtain rfl : j = n := by omega
          go_wp2
          go_ret
          refine ⟨_, rfl, ?_, HB.out.2.2.2.2.2⟩
          rw [← HR.out, ← HL.out]
          exact HB.out.1
end Go.Proofs.Ytkeojhnifnkpiaa

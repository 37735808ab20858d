/- The body of a message: its numbers as bytes, one behind the other. -/
import Derived.Test.YthhkmfgccbkkhaaGb
import Derived.Test.YthhkmfgccbkkhaaGa
import Derived.Deep.AppendLies
import Derived.Deep.Cut
import Derived.Deep.Slices
import Derived.ChangeArms
import Derived.Laws.StructEq
import Derived.Deep.RegionHeld3

namespace Go.Proofs.Ythhkmfgccbkkhaa
open Go.ChangeShapes Go.WideShapes Go.ChangeAt Go.RowKit
set_option linter.unusedVariables false
set_option linter.unusedSimpArgs false

/-- Numbers as bytes, one behind the other. -/
def nums (l : List Int) : List Int := (l.map (pb 4)).flatten
theorem nums_nil : nums [] = [] := rfl
theorem nums_cons (x : Int) (l : List Int) : nums (x :: l) = pb 4 x ++ nums l := by simp [nums]
theorem nums_app (l m : List Int) : nums (l ++ m) = nums l ++ nums m := by simp [nums]
theorem nums_one (x : Int) : nums [x] = pb 4 x := by simp [nums]
theorem nums_len (l : List Int) : (nums l).length ≤ 5 * l.length := by
  induction l with
  | nil => simp [nums]
  | cons x l ih =>
    have := pb_len 4 x
    rw [nums_cons, List.length_append, List.length_cons]
    omega

theorem mpb_pos (fuel : Nat) (x : Int) : 0 < (pb fuel x).length := by
  cases fuel with
  | zero => simp [pb]
  | succ f => rw [pb]; split <;> simp
theorem mpb_255 (fuel : Nat) (x : Int) (k : Nat) (hk : k + fuel = 4) (h0 : 0 ≤ x) (h1 : x < lim k) : ∀ z ∈ pb fuel x, 0 ≤ z ∧ z ≤ 255 := by
  induction fuel generalizing x k with
  | zero =>
    intro z hz
    simp [pb] at hz
    subst hz
    have : k = 4 := by omega
    subst this
    simp [lim] at h1
    omega
  | succ f ih =>
    intro z hz
    rw [pb] at hz
    split at hz
    · simp at hz; omega
    · next h =>
      obtain ⟨_, g0, g1⟩ := lim_step k x (by omega) h1
      rcases List.mem_cons.1 hz with rfl | hz
      · omega
      · exact ih (x / 128) (k + 1) (by omega) g0 g1 z hz
theorem pb_byte (x : Int) (h0 : 0 ≤ x) (h1 : x ≤ 2147483647) : ∀ z ∈ pb 4 x, 0 ≤ z ∧ z ≤ 255 := mpb_255 4 x 0 rfl h0 (by simp [lim]; omega)
theorem nums_byte (l : List Int) (h : ∀ x ∈ l, 0 ≤ x ∧ x ≤ 2147483647) : ∀ z ∈ nums l, 0 ≤ z ∧ z ≤ 255 := by
  intro z hz
  simp only [nums, List.mem_flatten, List.mem_map] at hz
  obtain ⟨_, ⟨x, hx, rfl⟩, hz⟩ := hz
  exact pb_byte x (h x hx).1 (h x hx).2 z hz

theorem gbelow {B n s : Nat} {w w' : World} {e : TypeId} {v : Value} {xs : List Value} (h : w.ownsRow B e s v n xs) (hb : Below w.heap.size w w') : w'.ownsRow B e s v n xs := by
  refine ⟨h.1, ?_⟩
  rcases h.2 with h | ⟨g, cap, cur, e1, hge, hc, r⟩
  · exact .inl h
  · exact .inr ⟨g, cap, cur, e1, hge, (hb.block g (Array.getElem?_eq_some_iff.1 hc).1).trans hc, r⟩
theorem msrc {w : World} {B : Nat} {v : Value} {L : List Int} {k : IntKind} {t : TypeId} (h : w.ownsRow B t 1 v L.length (L.map (.int k))) (hne : 0 < L.length) :
    ∃ g cap, v = .slice (some ⟨g, 0, none⟩) L.length cap ∧ g < w.heap.size ∧ B ≤ g ∧ ∀ j u, (L.map (Value.int k))[j]? = some u → w.cell? ((⟨g, 0, none⟩ : Addr).add j) = some u := by
  rcases h.2 with ⟨_, h0⟩ | ⟨g, cap, cur, e, hge, hc, _⟩
  · omega
  · exact ⟨g, cap, e, (Array.getElem?_eq_some_iff.1 hc).1, hge, h.cells (by rw [e]; rfl)⟩

/-- Bytes that are built beside a list of numbers at block q, and a message at block p. -/
def Bo (w0 w : World) (p q : Nat) (v : Value) (L : List Int) : Prop :=
  w.ownsRow w0.heap.size 5 1 v L.length (L.map (.int .u8)) ∧ v.ownBlock ≠ some p ∧ v.ownBlock ≠ some q ∧ p < w.heap.size ∧ q < w.heap.size ∧ Below w0.heap.size w0 w

theorem Bo.step {w0 w w' : World} {p q : Nat} {v : Value} {L : List Int} (h : Bo w0 w p q v L) (hb : Below w.heap.size w w') : Bo w0 w' p q v L :=
  ⟨gbelow h.1 hb, h.2.1, h.2.2.1, Nat.lt_of_lt_of_le h.2.2.2.1 hb.size, Nat.lt_of_lt_of_le h.2.2.2.2.1 hb.size, h.2.2.2.2.2.trans (hb.mono h.2.2.2.2.2.size)⟩
theorem Bo.app {w0 w w' : World} {p q g cap : Nat} {v : Value} {L M : List Int} (h : Bo w0 w p q v L)
    (h1 : w'.ownsRow w0.heap.size 5 1 (.slice (some ⟨g, 0, none⟩) (L.length + M.length) cap) (L.length + M.length) (L.map (.int .u8) ++ M.map (.int .u8))) (hg : w.grownBy w' v.ownBlock) (hat : v.ownBlock = some g ∨ g = w.heap.size) :
    Bo w0 w' p q (.slice (some ⟨g, 0, none⟩) (L.length + M.length) cap) (L ++ M) := by
  obtain ⟨ho, hp, hq, lp, lq, hb⟩ := h
  refine ⟨by simpa using h1, ?_, ?_, Nat.lt_of_lt_of_le lp hg.size, Nat.lt_of_lt_of_le lq hg.size, ggrown hb hb.size ho hg⟩
  · rcases hat with e | e
    · intro c; exact hp (e.trans (by simpa [Value.ownBlock] using c))
    · intro c; simp [Value.ownBlock] at c; omega
  · rcases hat with e | e
    · intro c; exact hq (e.trans (by simpa [Value.ownBlock] using c))
    · intro c; simp [Value.ownBlock] at c; omega
theorem Bo.keep {w0 w w' : World} {p q : Nat} {v : Value} {L : List Int} (h : Bo w0 w p q v L) (hg : w.grownBy w' v.ownBlock) (a : Addr) (ha : a.block = p ∨ a.block = q) : w'.cell? a = w.cell? a := by
  rcases ha with e | e
  · exact hg.cell_far a (by rw [e]; exact h.2.2.2.1) (by rw [e]; exact fun c => h.2.1 c.symm)
  · exact hg.cell_far a (by rw [e]; exact h.2.2.2.2.1) (by rw [e]; exact fun c => h.2.2.1 c.symm)

theorem al3 (w : World) (o1 o2 o3 : Obj) : (((w.alloc o1).alloc o2).alloc o3).heap[w.heap.size]? = some o1 ∧ (((w.alloc o1).alloc o2).alloc o3).heap[w.heap.size + 1]? = some o2 ∧ (((w.alloc o1).alloc o2).alloc o3).heap[w.heap.size + 1 + 1]? = some o3 ∧ (((w.alloc o1).alloc o2).alloc o3).heap.size = w.heap.size + 1 + 1 + 1 := by
  have e : ∀ (w : World) (o : Obj), (w.alloc o).heap = w.heap.push o := fun _ _ => rfl
  refine ⟨?_, ?_, ?_, ?_⟩
  · simp only [e, Array.getElem?_push, Array.size_push]
    rw [if_neg (by omega), if_neg (by omega), if_pos trivial]
  · simp only [e, Array.getElem?_push, Array.size_push]
    rw [if_neg (by omega), if_pos trivial]
  · simp only [e, Array.getElem?_push, Array.size_push]
    rw [if_pos trivial]
  · simp only [e, Array.size_push]
theorem bo_start (w : World) (m l : Array Value) (t : TypeId) : Bo w (((w.alloc (.cells m t)).alloc (.cells #[] 5)).alloc (.cells l 3)) w.heap.size (w.heap.size + 1 + 1) (.slice (some ⟨w.heap.size + 1, 0, none⟩) 0 0) [] := by
  obtain ⟨h1, h2, h3, h4⟩ := al3 w (.cells m t) (.cells #[] 5) (.cells l 3)
  refine ⟨⟨rfl, .inr ⟨_, _, #[], rfl, by omega, h2, by simp, by simp, by simp, by simp⟩⟩, by simp [Value.ownBlock], by simp [Value.ownBlock], by omega, by omega, ?_⟩
  exact (((Below.refl _ _).alloc (Nat.le_refl _) _).alloc (by simp) _).alloc (by simp; omega) _
theorem blk_cell {w : World} {g i : Nat} {cs : Array Value} {t : TypeId} {fr : Nat × Nat} {v : Value} (h : w.heap[g]? = some (.cells cs t fr)) (hv : cs[i]? = some v) : w.cell? ⟨g, i, none⟩ = some v := by
  simp [World.cell?, h, hv]

set_option maxRecDepth 100000 in
theorem body_spec (ao : Option Addr) (n cap : Nat) (f : Nat → Int) (k c v h : Int) (w : World) (hn : n ≤ 12) (hs : SL .i64 w ao n f) (hf : ∀ i, i < n → 0 ≤ f i ∧ f i ≤ 2147483647)
    (hk : 0 ≤ k ∧ k ≤ 2147483647) (hc : 0 ≤ c ∧ c ≤ 2147483647) (hv : 0 ≤ v ∧ v ≤ 2147483647) (hh : 0 ≤ h ∧ h ≤ 2147483647) :
    Calls Try.prog 62 #[.agg #[.int .i64 k, .int .i64 c, .int .i64 v, .int .i64 h, .slice ao n cap]] w fun e w' => ∃ x, e = .returned x ∧ w'.ownsRow w.heap.size 5 1 x (nums ([k, c, v, h, (n : Int)] ++ (List.range n).map f)).length ((nums ([k, c, v, h, (n : Int)] ++ (List.range n).map f)).map (.int .u8)) ∧ Below w.heap.size w w' := by
  obtain ⟨i0, hi, hz0, hz1, hz2⟩ := info_parts Try.info5
  have HS := hide hs
  have HF := hide hf
  have H5 : Hid (∀ i, i < 5 → 0 ≤ ([k, c, v, h, (n : Int)] : List Int).getD i 0 ∧ ([k, c, v, h, (n : Int)] : List Int).getD i 0 ≤ 2147483647) := fun i hi => by
    match i, hi with
    | 0, _ => exact hk
    | 1, _ => exact hc
    | 2, _ => exact hv
    | 3, _ => exact hh
    | 4, _ => simp; omega
  clear hs hf hk hc hv hh
  generalize hR : nums ([k, c, v, h, (n : Int)] ++ (List.range n).map f) = R
  have HR := hide hR
  clear hR
  go_enter Try.func62, Try.ntmps62
  go_wp2
  obtain ⟨b1, _, b3, _⟩ := al3 w (.cells #[.int .i64 k, .int .i64 c, .int .i64 v, .int .i64 h, .slice ao n cap] 26) (.cells #[] 5) (.cells #[.int .i64 k, .int .i64 c, .int .i64 v, .int .i64 h, .int .i64 (n : Int)] 3)
  have hst := hide (bo_start w #[.int .i64 k, .int .i64 c, .int .i64 v, .int .i64 h, .slice ao n cap] #[.int .i64 k, .int .i64 c, .int .i64 v, .int .i64 h, .int .i64 (n : Int)] 26)
  have hst2 := hide (blk_cell (i := 4) b1 rfl)
  have hst3 : Hid (∀ j, j < 5 → (((w.alloc (.cells #[.int .i64 k, .int .i64 c, .int .i64 v, .int .i64 h, .slice ao n cap] 26)).alloc (.cells #[] 5)).alloc (.cells #[.int .i64 k, .int .i64 c, .int .i64 v, .int .i64 h, .int .i64 (n : Int)] 3)).cell? ⟨w.heap.size + 1 + 1, j, none⟩ = some (.int .i64 (([k, c, v, h, (n : Int)] : List Int).getD j 0))) := fun j hj => by
    match j, hj with
    | 0, _ => exact blk_cell b3 rfl
    | 1, _ => exact blk_cell b3 rfl
    | 2, _ => exact blk_cell b3 rfl
    | 3, _ => exact blk_cell b3 rfl
    | 4, _ => exact blk_cell b3 rfl
  clear b1 b3
  generalize hl5 : ([k, c, v, h, (n : Int)] : List Int) = l5 at *
  have HL5 : Hid (l5.length = 5) := (show _ = _ by rw [← hl5]; rfl)
  clear hl5
  go_loopw [3, 5] (fun x i wr => ∃ (j : Nat) (L : List Int), j ≤ 5 ∧ L.length ≤ 25 ∧ i = .int .i64 j ∧ Hid (L = nums (l5.take j)) ∧ Hid (Bo w wr w.heap.size (w.heap.size + 1 + 1) x L) ∧ Hid (wr.cell? ⟨w.heap.size, 4, none⟩ = some (.slice ao n cap)) ∧ Hid (∀ j, j < 5 → wr.cell? ⟨w.heap.size + 1 + 1, j, none⟩ = some (.int .i64 (l5.getD j 0)))) (fun _ i _ => 5 - (intOf i).toNat)
  case atStart => exact ⟨0, [], by omega, by simp, rfl, rfl, hst.out, hst2.out, hst3.out⟩
  case round =>
    clear hst hst2 hst3
    obtain ⟨j, L, hj, hLl, rfl, HL, HB, HP, HQ⟩ := hrel
    by_cases hlt : j < 5
    · have hcj := HQ.out j hlt
      obtain ⟨hz1', hz2'⟩ := H5.out j hlt
      have hnx : Hid (nums (l5.take (j + 1)) = L ++ pb 4 (l5.getD j 0)) := (show _ = _ by
        have e : l5.take (j + 1) = l5.take j ++ [l5.getD j 0] := by
          rw [List.take_add_one]
          have : j < l5.length := by rw [HL5.out]; exact hlt
          simp [List.getD, this]
        rw [e, nums_app, nums_one, ← HL.out])
      generalize l5.getD j 0 = z at *
      have hji : (j : Int) < 5 := by omega
      go_wp2_with fail
      refine (put_spec z _ hz1' hz2').mono ?_
      rintro e w3 ⟨v3, rfl, ho3, hb3⟩
      obtain ⟨g3, c3, rfl, hg3, _, hsrc⟩ := msrc ho3 (mpb_pos 4 z)
      have HB3 : Hid (Bo w w3 w.heap.size (w.heap.size + 1 + 1) u3 L) := HB.out.step hb3
      have HP3 : Hid (w3.cell? ⟨w.heap.size, 4, none⟩ = some (.slice ao n cap)) := (show _ = _ by rw [hb3.cell (p := ⟨w.heap.size, 4, none⟩) HB.out.2.2.2.1]; exact HP.out)
      have HQ3 : Hid (∀ j, j < 5 → w3.cell? ⟨w.heap.size + 1 + 1, j, none⟩ = some (.int .i64 (l5.getD j 0))) := fun i hi => by rw [hb3.cell (p := ⟨w.heap.size + 1 + 1, i, none⟩) HB.out.2.2.2.2.1]; exact HQ.out i hi
      have hpl := pb_len 4 z
      have hM0 := mpb_pos 4 z
      have HSR := hide hsrc
      generalize pb 4 z = M at hpl hM0 HSR hnx
      have hln : Hid ((L ++ M).length ≤ 5 * (j + 1)) := (show _ ≤ _ by rw [← hnx.out]; have := nums_len (l5.take (j + 1)); simp at this ⊢; omega)
      clear ho3 hb3 hsrc HP HQ HB
      go_wp2_with (at_builtin; refine wpList_append_lies _ rfl _ _ 22 rfl w.heap.size 5 i0 (.int .u8 0) 1 1 Try.underlying22 hi hz0 hz1 hz2 rfl (by decide) _ _ _ rfl HB3.out.1 ⟨g3, 0, none⟩ M.length c3 (M.map (.int .u8)) rfl (by simp) HSR.out (gones _ _) hM0 (glens (by omega)) (by omega) HB3.out.2.2.2.2.2.size _ rfl ?_; intro g4 c4 w4 hown4 hgrow4 hat4 hlt4)
      have HB4 := hide (HB3.out.app (M := M) hown4 hgrow4 hat4)
      have HP4 : Hid (w4.cell? ⟨w.heap.size, 4, none⟩ = some (.slice ao n cap)) := (show _ = _ by rw [HB3.out.keep hgrow4 _ (.inl rfl)]; exact HP3.out)
      have HQ4 : Hid (∀ j, j < 5 → w4.cell? ⟨w.heap.size + 1 + 1, j, none⟩ = some (.int .i64 (l5.getD j 0))) := fun i hi => by rw [HB3.out.keep hgrow4 _ (.inr rfl)]; exact HQ3.out i hi
      clear hown4 hgrow4 hat4 HB3 HP3 HQ3
      go_wp2
      go_roundw
      case rel => exact ⟨j + 1, L ++ M, by omega, by have := hln.out; omega, by go_num, (show _ = _ by rw [hnx.out]), HB4.out, HP4.out, HQ4.out⟩
      case measure => simp [intOf]; omega
    · have HL' : Hid (L = nums l5) := (show _ = _ by rw [HL.out, List.take_of_length_le (by rw [HL5.out]; omega)])
      clear HQ HL H5
      go_wp2
      go_loopw [3, 6] (fun x i wr => ∃ (j : Nat) (L : List Int), j ≤ n ∧ L.length ≤ 85 ∧ i = .int .i64 j ∧ Hid (L = nums (l5 ++ (List.range j).map f)) ∧ Hid (Bo w wr w.heap.size (w.heap.size + 1 + 1) x L) ∧ Hid (wr.cell? ⟨w.heap.size, 4, none⟩ = some (.slice ao n cap))) (fun _ i _ => n - (intOf i).toNat)
      case atStart => exact ⟨0, L, by omega, by omega, rfl, (show _ = _ by rw [HL'.out]; simp), HB.out, HP.out⟩
      case round =>
        clear HB HP HL' hLl
        obtain ⟨j, L, hj, hLl, rfl, HL, HB, HP⟩ := hrel
        have hcp := HP.out
        by_cases hlt : j < n
        · obtain ⟨b, off, rfl, hb, hcj0⟩ := HS.out j hlt
          have hcj := (HB.out.2.2.2.2.2.cell (p := ⟨b, off + j, none⟩) hb).trans hcj0
          obtain ⟨hz1', hz2'⟩ := HF.out j hlt
          have hnx : Hid (nums (l5 ++ (List.range (j + 1)).map f) = L ++ pb 4 (f j)) := (show _ = _ by
            rw [List.range_succ, List.map_append, ← List.append_assoc, nums_app, ← HL.out]; simp [nums_one])
          generalize f j = z at *
          clear hcj0
          go_wp2_with fail
          refine (put_spec z _ hz1' hz2').mono ?_
          rintro e w3 ⟨v3, rfl, ho3, hb3⟩
          obtain ⟨g3, c3, rfl, hg3, _, hsrc⟩ := msrc ho3 (mpb_pos 4 z)
          have HB3 : Hid (Bo w w3 w.heap.size (w.heap.size + 1 + 1) u3 L) := HB.out.step hb3
          have HP3 : Hid (w3.cell? ⟨w.heap.size, 4, none⟩ = some (.slice (some ⟨b, off, none⟩) n cap)) := (show _ = _ by rw [hb3.cell (p := ⟨w.heap.size, 4, none⟩) HB.out.2.2.2.1]; exact HP.out)
          have hpl := pb_len 4 z
          have hM0 := mpb_pos 4 z
          have HSR := hide hsrc
          generalize pb 4 z = M at hpl hM0 HSR hnx
          have hln : Hid ((L ++ M).length ≤ 5 * (5 + (j + 1))) := (show _ ≤ _ by rw [← hnx.out]; have := nums_len (l5 ++ (List.range (j + 1)).map f); simp [HL5.out] at this ⊢; omega)
          clear ho3 hb3 hsrc HP HB hcp hcj
          go_wp2_with (at_builtin; refine wpList_append_lies _ rfl _ _ 22 rfl w.heap.size 5 i0 (.int .u8 0) 1 1 Try.underlying22 hi hz0 hz1 hz2 rfl (by decide) _ _ _ rfl HB3.out.1 ⟨g3, 0, none⟩ M.length c3 (M.map (.int .u8)) rfl (by simp) HSR.out (gones _ _) hM0 (glens (by omega)) (by omega) HB3.out.2.2.2.2.2.size _ rfl ?_; intro g4 c4 w4 hown4 hgrow4 hat4 hlt4)
          have HB4 := hide (HB3.out.app (M := M) hown4 hgrow4 hat4)
          have HP4 : Hid (w4.cell? ⟨w.heap.size, 4, none⟩ = some (.slice (some ⟨b, off, none⟩) n cap)) := (show _ = _ by rw [HB3.out.keep hgrow4 _ (.inl rfl)]; exact HP3.out)
          clear hown4 hgrow4 hat4 HB3 HP3
          go_wp2
          go_roundw
          case rel => exact ⟨j + 1, L ++ M, by omega, by have := hln.out; omega, by go_num, (show _ = _ by rw [hnx.out]), HB4.out, HP4.out⟩
          case measure => simp [intOf]; omega
        · obtain rfl : j = n := by omega
          go_wp2
          go_ret
          refine ⟨_, rfl, ?_, HB.out.2.2.2.2.2⟩
          rw [← HR.out, ← HL.out]
          exact HB.out.1
end Go.Proofs.Ythhkmfgccbkkhaa

/- MsgBytes of the model. -/
namespace Go.Proofs.Ythhkmfgccbkkhaa
open Go.ChangeShapes Go.WideShapes Go.ChangeAt Go.RowKit
set_option linter.unusedVariables false
set_option linter.unusedSimpArgs false

/-- A number as four bytes, the low ones first. -/
def s4 (x : Int) : List Int := [x % 256, x / 256 % 256, x / 65536 % 256, x / 16777216 % 256]

theorem i64_and255 (x : Int) (h0 : 0 ≤ x) (h1 : x < 4611686018427387904) : bits .and .i64 x 255 = x % 256 := by
  obtain ⟨a, rfl⟩ := Int.eq_ofNat_of_zero_le h0
  have e : (BitVec.ofInt 64 (a : Int) &&& BitVec.ofInt 64 ((255 : Nat) : Int)).toNat = a % 256 := by
    rw [BitVec.toNat_and, ofInt_u64 a (by omega), ofInt_u64 255 (by omega)]
    exact Nat.and_two_pow_sub_one_eq_mod a 8
  show IntKind.i64.wrap (((BitVec.ofInt 64 (a : Int) &&& BitVec.ofInt 64 ((255 : Nat) : Int)).toNat : Nat) : Int) = _
  rw [e, IntKind.wrap_i64]
  omega

theorem sum4_spec (x : Int) (w : World) (h0 : 0 ≤ x) (h1 : x < 4294967296) :
    Calls Try.prog 64 #[.int .i64 x] w fun e w' => ∃ v, e = .returned v ∧ w'.ownsRow w.heap.size 5 1 v (s4 x).length ((s4 x).map (.int .u8)) ∧ Below w.heap.size w w' := by
  go_enter Try.func64, Try.ntmps64
  go_wp2
  go_ret
  refine ⟨_, rfl, ?_, (Below.refl _ _).alloc (Nat.le_refl _) _⟩
  rw [i64_and255 x h0 (by omega), i64_and255 (x / 256) (by omega) (by omega), i64_and255 (x / 65536) (by omega) (by omega), i64_and255 (x / 16777216) (by omega) (by omega)]
  refine ⟨rfl, .inr ⟨_, _, _, rfl, Nat.le_refl _, Deep.blk_alloc_new _ _, by simp [s4], by simp [maxLen], by simp, ?_⟩⟩
  simp [s4]

def mokDec (k c v h : Int) (f : Nat → Int) (n : Nat) : Decidable (MOk k c v h f n) := by unfold MOk GOk GIn; exact inferInstance

/-- The sum of bytes. -/
def asum (L : List Int) : Int := sB (fun i => L.getD i 0) L.length * 65536 + sA (fun i => L.getD i 0) L.length
theorem asum_bd (L : List Int) : 0 ≤ asum L ∧ asum L < 4294967296 := by
  have h1 := sA_bd (fun i => L.getD i 0) L.length
  have h2 := sB_bd (fun i => L.getD i 0) L.length
  unfold asum
  omega
/-- A body with its length ahead and its sum behind. -/
def framed (B : List Int) : List Int := pb 4 B.length ++ B ++ s4 (asum B)
def mbody (k c v h : Int) (f : Nat → Int) (n : Nat) : List Int := nums ([k, c, v, h, (n : Int)] ++ (List.range n).map f)
/-- The bytes of a message; nothing where it is none. -/
def mb (k c v h : Int) (f : Nat → Int) (n : Nat) : List Int := @ite (List Int) (MOk k c v h f n) (mokDec k c v h f n) (framed (mbody k c v h f n)) []

theorem mok_bd {k c v h : Int} {f : Nat → Int} {n : Nat} (x : MOk k c v h f n) : n ≤ 12 ∧ (∀ i, i < n → 0 ≤ f i ∧ f i ≤ 2147483647) ∧ (0 ≤ k ∧ k ≤ 2147483647) ∧ (0 ≤ c ∧ c ≤ 2147483647) ∧ (0 ≤ v ∧ v ≤ 2147483647) ∧ (0 ≤ h ∧ h ≤ 2147483647) := by
  unfold MOk at x
  rcases x with ⟨h1, ⟨h2, h3⟩, h4, h5, h6⟩ | ⟨h1, h2, h3, h4, h5⟩
  · exact ⟨h2, fun i hi => by have := (h3 i hi).1; omega, by omega, by omega, by omega, by omega⟩
  · refine ⟨by omega, fun i hi => by omega, by omega, by omega, ?_, by omega⟩
    split at h4 <;> omega
theorem mbody_len {k c v h : Int} {f : Nat → Int} {n : Nat} (hn : n ≤ 12) : (mbody k c v h f n).length ≤ 85 := by
  have := nums_len ([k, c, v, h, (n : Int)] ++ (List.range n).map f)
  simp at this
  unfold mbody
  simp
  omega

theorem getD_mem (L : List Int) (i : Nat) (hi : i < L.length) : L.getD i 0 ∈ L := by simp [List.getD, hi]

theorem msgok_yes (ao : Option Addr) (n cap : Nat) (f : Nat → Int) (k c v h : Int) (w : World) (hn : n ≤ 1048576) (hcap : n ≤ cap) (hs : SL .i64 w ao n f) (hok : MOk k c v h f n) :
    Calls Try.prog 23 #[.agg #[.int .i64 k, .int .i64 c, .int .i64 v, .int .i64 h, .slice ao n cap]] w fun e w' => e = .returned (.bool true) ∧ Below w.heap.size w w' :=
  (msgok_spec ao n cap f k c v h w hn hcap hs).mono fun _ _ ⟨h1, h2⟩ => ⟨h1.elim (·.2) (fun x => absurd hok x.1), h2⟩
theorem msgok_no (ao : Option Addr) (n cap : Nat) (f : Nat → Int) (k c v h : Int) (w : World) (hn : n ≤ 1048576) (hcap : n ≤ cap) (hs : SL .i64 w ao n f) (hok : ¬ MOk k c v h f n) :
    Calls Try.prog 23 #[.agg #[.int .i64 k, .int .i64 c, .int .i64 v, .int .i64 h, .slice ao n cap]] w fun e w' => e = .returned (.bool false) ∧ Below w.heap.size w w' :=
  (msgok_spec ao n cap f k c v h w hn hcap hs).mono fun _ _ ⟨h1, h2⟩ => ⟨h1.elim (fun x => absurd x.1 hok) (·.2), h2⟩

theorem mb_len (k c v h : Int) (f : Nat → Int) (n : Nat) : (mb k c v h f n).length ≤ 1048576 := by
  unfold mb
  split
  · next hok =>
    have h1 := mbody_len (k := k) (c := c) (v := v) (h := h) (f := f) (mok_bd hok).1
    have h2 := pb_len 4 ((mbody k c v h f n).length : Int)
    simp [framed, s4]
    omega
  · simp

theorem gbelow_far {B n s : Nat} {w w' : World} {e : TypeId} {v : Value} {xs : List Value} {row : Option Nat} (h : w.ownsRow B e s v n xs) (hg : w.grownBy w' row) (hr : v.ownBlock ≠ row) : w'.ownsRow B e s v n xs :=
  h.kept hg (.inr hr)

set_option maxRecDepth 100000 in
theorem msgbytes_spec (ao : Option Addr) (n cap : Nat) (f : Nat → Int) (k c v h : Int) (w : World) (hn : n ≤ 1048576) (hcap : n ≤ cap) (hs : SL .i64 w ao n f) :
    Calls Try.prog 21 #[.agg #[.int .i64 k, .int .i64 c, .int .i64 v, .int .i64 h, .slice ao n cap]] w fun e w' => ∃ x, e = .returned x ∧ w'.ownsRow w.heap.size 5 1 x (mb k c v h f n).length ((mb k c v h f n).map (.int .u8)) ∧ Below w.heap.size w w' := by
  obtain ⟨i0, hi, hz0, hz1, hz2⟩ := info_parts Try.info5
  have HS := hide hs
  clear hs
  by_cases hok : MOk k c v h f n
  · skip
    obtain ⟨hn12, hfb, hkb, hcb, hvb, hhb⟩ := mok_bd hok
    have hmb : mb k c v h f n = framed (mbody k c v h f n) := by unfold mb; rw [if_pos hok]
    rw [hmb]
    have hbl := mbody_len (k := k) (c := c) (v := v) (h := h) (f := f) hn12
    have hb0 : 0 < (mbody k c v h f n).length := by
      have := mpb_pos 4 k
      unfold mbody
      simp [nums_cons]
      omega
    have hbb : Hid (∀ i, i < (mbody k c v h f n).length → 0 ≤ (mbody k c v h f n).getD i 0 ∧ (mbody k c v h f n).getD i 0 ≤ 255) := fun i hi => by
      refine nums_byte ([k, c, v, h, (n : Int)] ++ (List.range n).map f) ?_ _ (getD_mem _ i hi)
      intro x hx
      simp at hx
      rcases hx with rfl | rfl | rfl | rfl | rfl | ⟨j, hj, rfl⟩
      · exact hkb
      · exact hcb
      · exact hvb
      · exact hhb
      · omega
      · exact hfb j hj
    have hcallA : Hid (∀ W, SL .i64 W ao n f → Calls Try.prog 62 #[.agg #[.int .i64 k, .int .i64 c, .int .i64 v, .int .i64 h, .slice ao n cap]] W fun e w' => ∃ x, e = .returned x ∧ w'.ownsRow W.heap.size 5 1 x (mbody k c v h f n).length ((mbody k c v h f n).map (.int .u8)) ∧ Below W.heap.size W w') := fun W hW => body_spec ao n cap f k c v h W hn12 hW hfb hkb hcb hvb hhb
    generalize mbody k c v h f n = B at *
    generalize hR : framed B = R at *
    have HR := hide hR
    clear hR hmb hfb hkb hcb hvb hhb
    go_enter Try.func21, Try.ntmps21
    go_wp2_with fail
    refine (msgok_yes ao n cap f k c v h _ hn hcap (HS.out.below ((Below.refl _ _).alloc (Nat.le_refl _) _)) hok).mono ?_
    rintro e w1 ⟨rfl, b1⟩
    have hblk : w1.heap[w.heap.size]? = some (.cells #[.int .i64 k, .int .i64 c, .int .i64 v, .int .i64 h, .slice ao n cap] 26 (0, 0)) := (b1.block w.heap.size (by simp)).trans (Deep.blk_alloc_new _ _)
    have B1 := hide (((Below.refl _ _).alloc (Nat.le_refl _) _).trans (b1.mono (by simp)) : Below w.heap.size w w1)
    clear b1
    have hc0 := blk_cell (i := 0) hblk rfl
    have hc1 := blk_cell (i := 1) hblk rfl
    have hc2 := blk_cell (i := 2) hblk rfl
    have hc3 := blk_cell (i := 3) hblk rfl
    have hc4 := blk_cell (i := 4) hblk rfl
    have hcall := hide (hcallA.out w1 (HS.out.below B1.out))
    clear hblk HS hcallA
    go_wp2_with fail
    refine hcall.out.mono ?_
    rintro e w2 ⟨v2, rfl, ho2, hb2⟩
    clear hcall hc0 hc1 hc2 hc3 hc4
    obtain ⟨g2, c2, rfl, hg2, _, hsrc2⟩ := msrc ho2 hb0
    have B2 := hide (B1.out.trans (hb2.mono B1.out.size))
    have O2 := hide ho2
    have S2 := hide hsrc2
    clear hb2 B1 ho2 hsrc2
    go_wp2_with fail
    refine (put_spec (B.length : Int) _ (by omega) (by omega)).mono ?_
    rintro e w3 ⟨v3, rfl, ho3, hb3⟩
    have hpl := pb_len 4 (B.length : Int)
    have B3 := hide hb3
    have O3 := hide ho3
    have S3 : Hid (∀ j u, (B.map (Value.int .u8))[j]? = some u → w3.cell? ((⟨g2, 0, none⟩ : Addr).add j) = some u) := fun j u hu => by
      have := S2.out j u hu
      rw [Addr.add_lit] at this ⊢
      exact (hb3.cell (p := ⟨g2, 0 + j, none⟩) hg2).trans this
    have O2' := hide (gbelow O2.out hb3)
    have HP : Hid (framed B = pb 4 (B.length : Int) ++ B ++ s4 (asum B)) := rfl
    generalize pb 4 (B.length : Int) = P at *
    clear ho3 hb3 S2 O2
    go_upto_region 5 with (first | (at_builtin; refine wpList_append_lies _ rfl _ _ 22 rfl w2.heap.size 5 i0 (.int .u8 0) 1 1 Try.underlying22 hi hz0 hz1 hz2 rfl (by decide) _ _ _ rfl O3.out ⟨g2, 0, none⟩ B.length c2 (B.map (.int .u8)) rfl (by simp) S3.out (gones _ _) hb0 (glens (by omega)) (by omega) B3.out.size _ rfl ?_; intro g4 c4 w4 hown4 hgrow4 hat4 hlt4))
    have hne3 : v3.ownBlock ≠ some g2 := fun e => by have := (World.ownsRow.lt O3.out) g2 e; omega
    have O4 : Hid (w4.ownsRow w2.heap.size 5 1 (.slice (some ⟨g4, 0, none⟩) (P.length + B.length) c4) (P ++ B).length ((P ++ B).map (.int .u8))) := (show World.ownsRow _ _ _ _ _ _ _ by simpa using hown4)
    have B4 := hide (ggrown B3.out B3.out.size O3.out hgrow4)
    have O2'' := hide (gbelow_far O2'.out hgrow4 (fun e => hne3 e.symm))
    clear hown4 hgrow4 hat4 O2' S3 B3 O3
    obtain ⟨_, _, e2, _, hO2⟩ := Own.of_owns O2''.out
    cases e2
    have hsum := hide (sum_spec (some ⟨g2, 0, none⟩) B.length c2 (fun i => B.getD i 0) w4 (by omega) hO2.sl hbb.out)
    rw [show sB (fun i => B.getD i 0) B.length * 65536 + sA (fun i => B.getD i 0) B.length = asum B from rfl] at hsum
    obtain ⟨ha0, ha1⟩ := asum_bd B
    generalize asum B = a at *
    clear hO2 O2''
    go_wp2_with fail
    refine hsum.out.mono ?_
    rintro e w4' ⟨rfl, hw⟩
    rw [hw]
    clear hw hsum
    go_wp2_with fail
    refine (sum4_spec a _ ha0 ha1).mono ?_
    rintro e w5 ⟨v5, rfl, ho5, hb5⟩
    obtain ⟨g5, c5, rfl, _, _, hsrc5⟩ := msrc ho5 (by simp [s4])
    have O5 := hide (gbelow O4.out hb5)
    have B5 := hide (B4.out.trans (hb5.mono B4.out.size))
    have S5 := hide hsrc5
    have h4 : Hid ((s4 a).length = 4) := rfl
    generalize s4 a = T at *
    clear ho5 hb5 hsrc5 O4 B4
    have e1 : (P ++ B).length = P.length + B.length := by simp
    rw [e1] at O5
    go_wp2_with (first | (at_builtin; refine wpList_append_lies _ rfl _ _ 22 rfl w2.heap.size 5 i0 (.int .u8 0) 1 1 Try.underlying22 hi hz0 hz1 hz2 rfl (by decide) _ _ _ rfl O5.out ⟨g5, 0, none⟩ T.length c5 (T.map (.int .u8)) rfl (by simp) S5.out (gones _ _) (by have := h4.out; omega) (glens (by have := h4.out; omega)) (by have := h4.out; omega) B5.out.size _ rfl ?_; intro g6 c6 w6 hown6 hgrow6 hat6 hlt6))
    go_ret
    refine ⟨_, rfl, ?_, B2.out.trans ((ggrown B5.out B5.out.size O5.out hgrow6).mono B2.out.size)⟩
    have := gmono hown6 B2.out.size
    rw [← HR.out, HP.out, show (P ++ B ++ T).length = P.length + B.length + T.length by simp; omega]
    simpa using this
  · have hmb : mb k c v h f n = [] := by unfold mb; rw [if_neg hok]
    rw [hmb]
    clear hmb
    go_enter Try.func21, Try.ntmps21
    go_wp2_with fail
    refine (msgok_no ao n cap f k c v h _ hn hcap (HS.out.below ((Below.refl _ _).alloc (Nat.le_refl _) _)) hok).mono ?_
    rintro e w1 ⟨rfl, b1⟩
    have hblk : w1.heap[w.heap.size]? = some (.cells #[.int .i64 k, .int .i64 c, .int .i64 v, .int .i64 h, .slice ao n cap] 26 (0, 0)) := (b1.block w.heap.size (by simp)).trans (Deep.blk_alloc_new _ _)
    have B1 := hide (((Below.refl _ _).alloc (Nat.le_refl _) _).trans (b1.mono (by simp)) : Below w.heap.size w w1)
    clear b1
    clear hblk HS
    go_wp2
    go_ret
    exact ⟨_, rfl, gmono (gempty (ik := .u8) (Nat.le_refl _)) B1.out.size, B1.out.alloc B1.out.size _⟩
end Go.Proofs.Ythhkmfgccbkkhaa

/- Messages as the laws hand them on: szMsg, toMsg, eqMsg, markMsg, heldMsg. -/
namespace Go.Proofs.Ythhkmfgccbkkhaa
open Go.ChangeShapes Go.WideShapes Go.ChangeAt Go.RowKit
set_option linter.unusedVariables false
set_option linter.unusedSimpArgs false

theorem szi_yes (ao : Option Addr) (n cap : Nat) (x : Int) (w : World) (h0 : (n : Int) ≤ x) (h1 : x ≤ 1048576) :
    Calls Try.prog 74 #[.slice ao n cap, .int .i64 x] w fun e w' => e = .returned (.int .i64 (x - n)) ∧ w' = w := by
  have hd : ¬ x - (n : Int) < 0 := by omega
  go_enter Try.func74, Try.ntmps74
  go_wp2
  go_ret
  exact ⟨rfl, rfl⟩
theorem szi_no (ao : Option Addr) (n cap : Nat) (x : Int) (w : World) (h0 : x < (n : Int)) (h1 : 0 ≤ x) (h2 : n ≤ cap) (h3 : cap ≤ maxLen) :
    Calls Try.prog 74 #[.slice ao n cap, .int .i64 x] w fun e w' => e = .returned (.int .i64 (-1)) ∧ w' = w := by
  have hm : cap ≤ 9223372036854775807 := by unfold maxLen at h3; omega
  have hd : x - (n : Int) < 0 := by omega
  go_enter Try.func74, Try.ntmps74
  go_wp2
  go_ret
  exact ⟨rfl, rfl⟩

theorem sz_yes (ao : Option Addr) (n cap : Nat) (k c v h x : Int) (w : World) (h0 : (n : Int) ≤ x) (h1 : x ≤ 1048576) :
    Calls Try.prog 26 #[.agg #[.int .i64 k, .int .i64 c, .int .i64 v, .int .i64 h, .slice ao n cap], .int .i64 x] w fun e w' => e = .returned (.int .i64 (x - n)) ∧ Below w.heap.size w w' := by
  have hd : ¬ x - (n : Int) < 0 := by omega
  go_enter Try.func26, Try.ntmps26
  go_wp2_with (first
    | (go_at_call 74; refine (szi_yes _ _ _ _ _ h0 h1).mono ?_; rintro e9 w9 ⟨rfl, hw9⟩; rw [hw9]; clear hw9))
  go_ret
  exact ⟨rfl, (Below.refl _ _).alloc (Nat.le_refl _) _⟩
theorem sz_no (ao : Option Addr) (n cap : Nat) (k c v h x : Int) (w : World) (h0 : x < (n : Int)) (h1 : 0 ≤ x) (h2 : n ≤ cap) (h3 : cap ≤ maxLen) :
    Calls Try.prog 26 #[.agg #[.int .i64 k, .int .i64 c, .int .i64 v, .int .i64 h, .slice ao n cap], .int .i64 x] w fun e w' => e = .returned (.int .i64 (-1)) ∧ Below w.heap.size w w' := by
  go_enter Try.func26, Try.ntmps26
  go_wp2_with (first
    | (go_at_call 74; refine (szi_no _ _ _ _ _ h0 h1 h2 h3).mono ?_; rintro e9 w9 ⟨rfl, hw9⟩; rw [hw9]; clear hw9))
  go_ret
  exact ⟨rfl, (Below.refl _ _).alloc (Nat.le_refl _) _⟩

theorem row_set {w : World} {g n : Nat} {t : TypeId} {F : Nat → Value} (h : w.rowIs g t n F) (p : Addr) (hp : p.block ≠ g) (v : Value) : (w.setCell p v).rowIs g t n F :=
  h.of_block (by simp only [World.setCell, Array.getElem?_modify]; rw [if_neg hp])

/-- A message whose generations lie in a row of their own at g. -/
theorem to_msg (ao : Option Addr) (n cap : Nat) (f : Nat → Int) (k c v h : Int) (w : World) (hn : n ≤ 1048576) (hs : SL .i64 w ao n f) :
    Calls Try.prog 27 #[.agg #[.int .i64 k, .int .i64 c, .int .i64 v, .int .i64 h, .slice ao n cap]] w fun e w' => ∃ g, e = .returned (.agg #[.int .i64 k, .int .i64 c, .int .i64 v, .int .i64 h, .slice (some ⟨g, 0, none⟩) n n]) ∧ w.heap.size ≤ g ∧ w'.rowIs g 3 n (fun i => .int .i64 (f i)) ∧ Below w.heap.size w w' := by
  have HS := hide hs
  clear hs
  go_enter Try.func27, Try.ntmps27
  go_wp2_with fail
  obtain ⟨b1, b2, b3, b4⟩ := al3 w (.cells #[.int .i64 k, .int .i64 c, .int .i64 v, .int .i64 h, .slice ao n cap] 41) (.cells #[.int .i64 0, .int .i64 0, .int .i64 0, .int .i64 0, .slice none 0 0] 26) (.cells #[.int .i64 k, .int .i64 c, .int .i64 v, .int .i64 h, .slice none 0 0] 26)
  have hB := ((((Below.refl w.heap.size w).alloc (Nat.le_refl _) (.cells #[.int .i64 k, .int .i64 c, .int .i64 v, .int .i64 h, .slice ao n cap] 41)).alloc (by simp) (.cells #[.int .i64 0, .int .i64 0, .int .i64 0, .int .i64 0, .slice none 0 0] 26)).alloc (by simp; omega) (.cells #[.int .i64 k, .int .i64 c, .int .i64 v, .int .i64 h, .slice none 0 0] 26))
  generalize (((w.alloc (.cells #[.int .i64 k, .int .i64 c, .int .i64 v, .int .i64 h, .slice ao n cap] 41)).alloc (.cells #[.int .i64 0, .int .i64 0, .int .i64 0, .int .i64 0, .slice none 0 0] 26)).alloc (.cells #[.int .i64 k, .int .i64 c, .int .i64 v, .int .i64 h, .slice none 0 0] 26)) = W at *
  refine (ito_any ao n cap f W hn (HS.out.below hB)).mono ?_
  rintro e w1 ⟨rfl, hrow, hb⟩
  have f2 := (hb.block (w.heap.size + 1) (by omega)).trans b2
  have f3 := (hb.block (w.heap.size + 1 + 1) (by omega)).trans b3
  have HB1 := hide (hB.trans (hb.mono hB.size))
  have HR := hide hrow
  clear b1 b2 b3 hB hb hrow HS
  have c20 := blk_cell (i := 0) f2 rfl
  have c21 := blk_cell (i := 1) f2 rfl
  have c22 := blk_cell (i := 2) f2 rfl
  have c23 := blk_cell (i := 3) f2 rfl
  have c24 := blk_cell (i := 4) f2 rfl
  have c30 := blk_cell (i := 0) f3 rfl
  have c31 := blk_cell (i := 1) f3 rfl
  have c32 := blk_cell (i := 2) f3 rfl
  have c33 := blk_cell (i := 3) f3 rfl
  have c34 := blk_cell (i := 4) f3 rfl
  have z2 : ∀ i, w1.frozen? ⟨w.heap.size + 1, i, none⟩ = false := fun i => by simp [World.frozen?, f2]
  have z3 : ∀ i, w1.frozen? ⟨w.heap.size + 1 + 1, i, none⟩ = false := fun i => by simp [World.frozen?, f3]
  go_wp2
  refine bodyPost_ret (v := .agg #[.int .i64 k, .int .i64 c, .int .i64 v, .int .i64 h, .slice (some ⟨w.heap.size + 1 + 1 + 1, 0, none⟩) n n]) (by simp [results, Try.results27, go_sem, c20, c21, c22, c23, c24]) rfl ⟨w.heap.size + 1 + 1 + 1, rfl, by omega, ?_, ?_⟩
  · have r := HR.out
    rw [b4] at r
    exact row_set (row_set (row_set (row_set (row_set (row_set r _ (by simp) _) _ (by simp) _) _ (by simp) _) _ (by simp) _) _ (by simp) _) _ (by simp) _
  · exact ((((((HB1.out.setCell (p := ⟨w.heap.size + 1 + 1, 4, none⟩) (by simp; omega) _).setCell (p := ⟨w.heap.size + 1, 0, none⟩) (by simp) _).setCell (p := ⟨w.heap.size + 1, 1, none⟩) (by simp) _).setCell (p := ⟨w.heap.size + 1, 2, none⟩) (by simp) _).setCell (p := ⟨w.heap.size + 1, 3, none⟩) (by simp) _).setCell (p := ⟨w.heap.size + 1, 4, none⟩) (by simp) _)

theorem eq_msg (ao bo : Option Addr) (n ca cb : Nat) (f g : Nat → Int) (k c v h : Int) (w : World) (hn : n ≤ 1048576) (hA : SL .i64 w ao n f) (hB : SL .i64 w bo n g) (he : ∀ i, i < n → f i = g i) :
    Calls Try.prog 28 #[.agg #[.int .i64 k, .int .i64 c, .int .i64 v, .int .i64 h, .slice ao n ca], .agg #[.int .i64 k, .int .i64 c, .int .i64 v, .int .i64 h, .slice bo n cb]] w fun e w' => e = .returned (.bool true) ∧ Below w.heap.size w w' := by
  have HA := hide hA
  have HB := hide hB
  have HE := hide he
  clear hA hB he
  go_enter Try.func28, Try.ntmps28
  go_wp2_with fail
  have hb : Below w.heap.size w ((w.alloc (.cells #[.int .i64 k, .int .i64 c, .int .i64 v, .int .i64 h, .slice ao n ca] 26)).alloc (.cells #[.int .i64 k, .int .i64 c, .int .i64 v, .int .i64 h, .slice bo n cb] 26)) := ((Below.refl _ _).alloc (Nat.le_refl _) _).alloc (by simp) _
  refine (ieq_yes ao bo n ca cb f g _ hn (HA.out.below hb) (HB.out.below hb) HE.out).mono ?_
  rintro e w1 ⟨rfl, q, hw⟩
  rw [hw]
  have HBq := hide (Below.drawn hb q)
  clear hw hb
  go_wp2
  go_ret
  exact ⟨rfl, HBq.out⟩

/-- Of what was there block g alone was written. -/
def OnlyG (g : Nat) (w w' : World) : Prop := Below g w w' ∧ ∀ j, j < w.heap.size → j ≠ g → w'.heap[j]? = w.heap[j]?
theorem OnlyG.own {g n B : Nat} {w w' : World} {t : TypeId} {ao : Option Addr} {F : Nat → Value} (h : OnlyG g w w') (r : Own w B t ao n F) (hB : g < B) : Own w' B t ao n F := by
  rcases r with r | ⟨g', ea, hB', c, hc, hs, hF⟩
  · exact .inl r
  · exact .inr ⟨g', ea, hB', c, (h.2 g' (Array.getElem?_eq_some_iff.1 hc).1 (by omega)).trans hc, hs, hF⟩
theorem OnlyG.own' {g n B : Nat} {w w' : World} {t : TypeId} {ao : Option Addr} {F : Nat → Value} (h : OnlyG g w w') (r : Own w B t ao n F) (hB : ∀ g', ao = some ⟨g', 0, none⟩ → g' ≠ g) : Own w' B t ao n F := by
  rcases r with r | ⟨g', ea, hB', c, hc, hs, hF⟩
  · exact .inl r
  · exact .inr ⟨g', ea, hB', c, (h.2 g' (Array.getElem?_eq_some_iff.1 hc).1 (hB g' ea)).trans hc, hs, hF⟩

theorem mark_msg_row (g n cap : Nat) (k c v h k0 : Int) (F : Nat → Value) (w : World) (hn : n ≤ 1048576) (h0 : 0 ≤ k0) (h1 : k0 ≤ 1099511627776) (ho : w.rowIs g 3 n F) :
    Calls Try.prog 30 #[.agg #[.int .i64 k, .int .i64 c, .int .i64 v, .int .i64 h, .slice (some ⟨g, 0, none⟩) n cap], .int .i64 k0] w fun e w' => e = .returned (.int .i64 (k0 + n)) ∧ w'.rowIs g 3 n (fun j => .int .i64 (k0 + j)) ∧ OnlyG g w w' := by
  have HO := hide ho
  clear ho
  go_enter Try.func30, Try.ntmps30
  go_wp2_with fail
  have hb : Below w.heap.size w (w.alloc (.cells #[.int .i64 k, .int .i64 c, .int .i64 v, .int .i64 h, .slice (some ⟨g, 0, none⟩) n cap] 26)) := (Below.refl _ _).alloc (Nat.le_refl _) _
  refine (imark_row g n cap k0 F _ hn h0 h1 (row_below HO.out hb HO.out.lt)).mono ?_
  rintro e w1 ⟨rfl, hr, hy⟩
  have HR : Hid (w1.rowIs g 3 n (fun j => .int .i64 (k0 + j)) ∧ OnlyG g w w1) := ⟨hr, (hb.mono (Nat.le_of_lt HO.out.lt)).trans hy.1, fun j hj hne => (hy.2.2 j hne).trans (hb.block j hj)⟩
  clear hb hr hy
  go_wp2
  go_ret
  exact ⟨rfl, HR.out⟩

theorem mark_msg_any (ao : Option Addr) (n cap B : Nat) (k c v h k0 : Int) (F : Nat → Value) (w : World) (hn : n ≤ 1048576) (h0 : 0 ≤ k0) (h1 : k0 ≤ 1099511627776) (hB : B ≤ w.heap.size) (ho : Own w B 3 ao n F) :
    Calls Try.prog 30 #[.agg #[.int .i64 k, .int .i64 c, .int .i64 v, .int .i64 h, .slice ao n cap], .int .i64 k0] w fun e w' => e = .returned (.int .i64 (k0 + n)) ∧ Own w' B 3 ao n (fun j => .int .i64 (k0 + j)) ∧ Below B w w' := by
  have HO := hide ho
  clear ho
  go_enter Try.func30, Try.ntmps30
  go_wp2_with fail
  have hb : Below w.heap.size w (w.alloc (.cells #[.int .i64 k, .int .i64 c, .int .i64 v, .int .i64 h, .slice ao n cap] 26)) := (Below.refl _ _).alloc (Nat.le_refl _) _
  refine (imark_any ao n cap B k0 F _ hn h0 h1 (HO.out.below hb)).mono ?_
  rintro e w1 ⟨rfl, hr, hy⟩
  have HR := hide (And.intro hr ((hb.mono hB).trans hy))
  clear hb hr hy
  go_wp2
  go_ret
  exact ⟨rfl, HR.out⟩

theorem held_msg (ao : Option Addr) (n cap : Nat) (k c v h k0 : Int) (w : World) (hn : n ≤ 1048576) (h0 : 0 ≤ k0) (h1 : k0 ≤ 1099511627776) (hs : SL .i64 w ao n (fun j => k0 + j)) :
    Calls Try.prog 34 #[.agg #[.int .i64 k, .int .i64 c, .int .i64 v, .int .i64 h, .slice ao n cap], .int .i64 k0] w fun e w' => e = .returned (.int .i64 (k0 + n)) ∧ Below w.heap.size w w' := by
  have HS := hide hs
  have hd : ¬ k0 + (n : Int) < 0 := by omega
  clear hs
  go_enter Try.func34, Try.ntmps34
  go_wp2_with fail
  have hb : Below w.heap.size w (w.alloc (.cells #[.int .i64 k, .int .i64 c, .int .i64 v, .int .i64 h, .slice ao n cap] 26)) := (Below.refl _ _).alloc (Nat.le_refl _) _
  refine (iheld_any ao n cap k0 _ hn h0 h1 (HS.out.below hb)).mono ?_
  rintro e w1 ⟨rfl, hw⟩
  rw [hw]
  have HBq := hide hb
  clear hw hb
  go_wp2
  go_ret
  exact ⟨rfl, HBq.out⟩
end Go.Proofs.Ythhkmfgccbkkhaa

/- A message in a block. -/
namespace Go.Proofs.Ythhkmfgccbkkhaa
open Go.ChangeShapes Go.WideShapes Go.ChangeAt Go.RowKit
set_option linter.unusedVariables false
set_option linter.unusedSimpArgs false

/-- Block g holds a message. -/
def MB (w : World) (g : Nat) (t : TypeId) (k c v d : Int) (ao : Option Addr) (n cap : Nat) : Prop :=
  w.heap[g]? = some (.cells #[.int .i64 k, .int .i64 c, .int .i64 v, .int .i64 d, .slice ao n cap] t (0, 0))
theorem MB.lt {w : World} {g : Nat} {t : TypeId} {k c v d : Int} {ao : Option Addr} {n cap : Nat} (h : MB w g t k c v d ao n cap) : g < w.heap.size := (Array.getElem?_eq_some_iff.1 h).1
theorem MB.new (w : World) (t : TypeId) (k c v d : Int) (ao : Option Addr) (n cap : Nat) : MB (w.alloc (.cells #[.int .i64 k, .int .i64 c, .int .i64 v, .int .i64 d, .slice ao n cap] t)) w.heap.size t k c v d ao n cap := Deep.blk_alloc_new _ _
theorem MB.below {w w' : World} {g B : Nat} {t : TypeId} {k c v d : Int} {ao : Option Addr} {n cap : Nat} (h : MB w g t k c v d ao n cap) (hb : Below B w w') (hg : g < B) : MB w' g t k c v d ao n cap := (hb.block g hg).trans h
theorem MB.cells {w : World} {g : Nat} {t : TypeId} {k c v d : Int} {ao : Option Addr} {n cap : Nat} (h : MB w g t k c v d ao n cap) :
    w.cell? ⟨g, 0, none⟩ = some (.int .i64 k) ∧ w.cell? ⟨g, 1, none⟩ = some (.int .i64 c) ∧ w.cell? ⟨g, 2, none⟩ = some (.int .i64 v) ∧ w.cell? ⟨g, 3, none⟩ = some (.int .i64 d) ∧ w.cell? ⟨g, 4, none⟩ = some (.slice ao n cap) :=
  ⟨blk_cell h rfl, blk_cell h rfl, blk_cell h rfl, blk_cell h rfl, blk_cell h rfl⟩
end Go.Proofs.Ythhkmfgccbkkhaa

/- A message that came in, opened: four numbers and a slice of numbers. -/
namespace Go.Proofs.Ythhkmfgccbkkhaa
open Go.ChangeShapes Go.WideShapes Go.ChangeAt Go.RowKit
set_option linter.unusedVariables false
set_option linter.unusedSimpArgs false

theorem list5 {l : List Value} (h : l.length = 5) : ∃ a b c d e, l = [a, b, c, d, e] := by
  match l, h with
  | [a, b, c, d, e], _ => exact ⟨a, b, c, d, e, rfl⟩

theorem open_msg {H : Type} {enc : TypeId × Value → H} {w : World} {base : Nat} {sp : Nat → Bool} {held : Bool} {fuel : Nat} {cs : List Value} {x : DataW H × List MemPlace}
    (h : DataW.trod enc Try.prog w base sp held fuel 41 cs = some x) :
    ∃ (k c v d : Int) (ao : Option Addr) (n cap : Nat) (f : Nat → Int), cs = [.int .i64 k, .int .i64 c, .int .i64 v, .int .i64 d, .slice ao n cap] ∧ n ≤ cap ∧ cap ≤ maxLen ∧ SL .i64 w ao n f := by
  obtain ⟨xs, m, _, _, hl, hxl, hf⟩ := DataW.trod_struct Try.underlying41 h
  have h5 : Try.prog.cellsOf 41 = 5 := by kernel_rfl
  have c3 : Try.prog.cellsOf 3 = 1 := by kernel_rfl
  have c24 : Try.prog.cellsOf 24 = 1 := by kernel_rfl
  obtain ⟨v0, v1, v2, v3, v4, rfl⟩ := list5 (hl.trans h5)
  have g0 : DataW.trod enc Try.prog w base sp held m 3 (([v0, v1, v2, v3, v4].drop 0).take (Try.prog.cellsOf 3)) = xs[0]? := hf 0 _ rfl
  rw [c3] at g0
  change DataW.trod enc Try.prog w base sp held m 3 [v0] = xs[0]? at g0
  have g1 : DataW.trod enc Try.prog w base sp held m 3 (([v0, v1, v2, v3, v4].drop 1).take (Try.prog.cellsOf 3)) = xs[1]? := hf 1 _ rfl
  rw [c3] at g1
  change DataW.trod enc Try.prog w base sp held m 3 [v1] = xs[1]? at g1
  have g2 : DataW.trod enc Try.prog w base sp held m 3 (([v0, v1, v2, v3, v4].drop 2).take (Try.prog.cellsOf 3)) = xs[2]? := hf 2 _ rfl
  rw [c3] at g2
  change DataW.trod enc Try.prog w base sp held m 3 [v2] = xs[2]? at g2
  have g3 : DataW.trod enc Try.prog w base sp held m 3 (([v0, v1, v2, v3, v4].drop 3).take (Try.prog.cellsOf 3)) = xs[3]? := hf 3 _ rfl
  rw [c3] at g3
  change DataW.trod enc Try.prog w base sp held m 3 [v3] = xs[3]? at g3
  have g4 : DataW.trod enc Try.prog w base sp held m 24 (([v0, v1, v2, v3, v4].drop 4).take (Try.prog.cellsOf 24)) = xs[4]? := hf 4 _ rfl
  rw [c24] at g4
  change DataW.trod enc Try.prog w base sp held m 24 [v4] = xs[4]? at g4
  have e : xs.length = 5 := hxl
  rw [List.getElem?_eq_getElem (by omega)] at g0 g1 g2 g3 g4
  obtain ⟨k, e0, _⟩ := DataW.trod_int Try.underlying3 g0
  obtain ⟨c, e1, _⟩ := DataW.trod_int Try.underlying3 g1
  obtain ⟨v, e2, _⟩ := DataW.trod_int Try.underlying3 g2
  obtain ⟨d, e3, _⟩ := DataW.trod_int Try.underlying3 g3
  cases e0; cases e1; cases e2; cases e3
  rcases open_ints Try.underlying24 Try.underlying3 c3 g4 with ⟨hcs, _⟩ | ⟨a, l, cp, zs, hcs, _, hl', hm, hz, _, hcell, _⟩
  · cases hcs
    exact ⟨k, c, v, d, none, 0, 0, fun _ => 0, rfl, Nat.le_refl _, Nat.zero_le _, fun i hi => absurd hi (Nat.not_lt_zero _)⟩
  · cases hcs
    refine ⟨k, c, v, d, some a, l, cp, fun i => zs.getD i 0, rfl, hl', hm, fun i hi => ?_⟩
    have hlz : l ≤ zs.length := by rw [hz]; split <;> omega
    have hc := hcell i (by omega)
    have h0 := hcell 0 (by omega)
    obtain ⟨b, off, spot⟩ := a
    have hspot : spot = none := by simpa [Addr.add] using World.cell?_spot h0
    subst hspot
    rw [Addr.add_lit] at hc
    exact ⟨b, off, rfl, lt_of_cell hc, hc⟩
end Go.Proofs.Ythhkmfgccbkkhaa

/- MsgOk of the program: its parts. -/
namespace Go.Proofs.Ythhkmfgccbkkhaa
open Go.ChangeShapes Go.WideShapes Go.ChangeAt Go.RowKit
set_option linter.unusedVariables false
set_option linter.unusedSimpArgs false

theorem nocell_any (x : Int) (w : World) : Calls Try.prog 123 #[.int .i64 x] w fun e w' => e = .returned (.bool (decide (x < 0 ∨ 8 ≤ x))) ∧ w' = w := by
  by_cases h0 : x < 0
  · go_enter Try.func123, Try.ntmps123
    go_wp2
    go_ret
    exact ⟨by simp [h0], rfl⟩
  · go_enter Try.func123, Try.ntmps123
    go_wp2
    go_ret
    exact ⟨by simp [Int.not_lt.2 h0], rfl⟩
theorem nowrite_any (x : Int) (w : World) : Calls Try.prog 124 #[.int .i64 x] w fun e w' => e = .returned (.bool (decide (x < 0 ∨ 200 < x))) ∧ w' = w := by
  by_cases h0 : x < 0
  · go_enter Try.func124, Try.ntmps124
    go_wp2
    go_ret
    exact ⟨by simp [h0], rfl⟩
  · go_enter Try.func124, Try.ntmps124
    go_wp2
    go_ret
    exact ⟨by simp [Int.not_lt.2 h0], rfl⟩
theorem nonode_any (x : Int) (w : World) : Calls Try.prog 127 #[.int .i64 x] w fun e w' => e = .returned (.bool (decide (x < 0 ∨ 3 ≤ x))) ∧ w' = w := by
  by_cases h0 : x < 0
  · go_enter Try.func127, Try.ntmps127
    go_wp2
    go_ret
    exact ⟨by simp [h0], rfl⟩
  · go_enter Try.func127, Try.ntmps127
    go_wp2
    go_ret
    exact ⟨by simp [Int.not_lt.2 h0], rfl⟩
theorem nogen_any (x : Int) (w : World) : Calls Try.prog 131 #[.int .i64 x] w fun e w' => e = .returned (.bool (decide (x < 1 ∨ 100000 < x))) ∧ w' = w := by
  by_cases h0 : x < 1
  · go_enter Try.func131, Try.ntmps131
    go_wp2
    go_ret
    exact ⟨by simp [h0], rfl⟩
  · go_enter Try.func131, Try.ntmps131
    go_wp2
    go_ret
    exact ⟨by simp [Int.not_lt.2 h0], rfl⟩
end Go.Proofs.Ythhkmfgccbkkhaa

/- Sayings of the program: what is one, and what it says. -/
namespace Go.Proofs.Ythhkmfgccbkkhaa
open Go.ChangeShapes Go.WideShapes Go.ChangeAt Go.RowKit
set_option linter.unusedVariables false
set_option linter.unusedSimpArgs false

@[go_sem] theorem ta_data (x : Value) (w : World) : (Instr.typeAssert (.iface 107 x) 78 107 true).run Try.prog w = .ok (.tuple #[x, .bool true]) w := by kernel_rfl
@[go_sem] theorem nn_data (x : Value) (w : World) : (binOp .neq 78 (.iface 107 x) .nilIface).run Try.prog w = .ok (.bool true) w := by kernel_rfl
@[go_sem] theorem ta_ack_data (x : Value) (w : World) : (Instr.typeAssert (.iface 108 x) 78 107 true).run Try.prog w = .ok (.tuple #[.agg #[.int .i64 0, .int .i64 0], .bool false]) w := by kernel_rfl
@[go_sem] theorem ta_ack (x : Value) (w : World) : (Instr.typeAssert (.iface 108 x) 78 108 true).run Try.prog w = .ok (.tuple #[x, .bool true]) w := by kernel_rfl
@[go_sem] theorem nn_ack (x : Value) (w : World) : (binOp .neq 78 (.iface 108 x) .nilIface).run Try.prog w = .ok (.bool true) w := by kernel_rfl
@[go_sem] theorem ta_clear_data (x : Value) (w : World) : (Instr.typeAssert (.iface 110 x) 78 107 true).run Try.prog w = .ok (.tuple #[.agg #[.int .i64 0, .int .i64 0], .bool false]) w := by kernel_rfl
@[go_sem] theorem ta_clear_ack (x : Value) (w : World) : (Instr.typeAssert (.iface 110 x) 78 108 true).run Try.prog w = .ok (.tuple #[.agg #[.int .i64 0, .int .i64 0], .bool false]) w := by kernel_rfl
@[go_sem] theorem ta_clear (x : Value) (w : World) : (Instr.typeAssert (.iface 110 x) 78 110 true).run Try.prog w = .ok (.tuple #[x, .bool true]) w := by kernel_rfl
@[go_sem] theorem nn_clear (x : Value) (w : World) : (binOp .neq 78 (.iface 110 x) .nilIface).run Try.prog w = .ok (.bool true) w := by kernel_rfl
@[go_sem] theorem ta_copy_data (x : Value) (w : World) : (Instr.typeAssert (.iface 111 x) 78 107 true).run Try.prog w = .ok (.tuple #[.agg #[.int .i64 0, .int .i64 0], .bool false]) w := by kernel_rfl
@[go_sem] theorem ta_copy_ack (x : Value) (w : World) : (Instr.typeAssert (.iface 111 x) 78 108 true).run Try.prog w = .ok (.tuple #[.agg #[.int .i64 0, .int .i64 0], .bool false]) w := by kernel_rfl
@[go_sem] theorem ta_copy_clear (x : Value) (w : World) : (Instr.typeAssert (.iface 111 x) 78 110 true).run Try.prog w = .ok (.tuple #[.agg #[.int .i64 0, .int .i64 0, .int .i64 0], .bool false]) w := by kernel_rfl
@[go_sem] theorem ta_copy (x : Value) (w : World) : (Instr.typeAssert (.iface 111 x) 78 111 true).run Try.prog w = .ok (.tuple #[x, .bool true]) w := by kernel_rfl
@[go_sem] theorem nn_copy (x : Value) (w : World) : (binOp .neq 78 (.iface 111 x) .nilIface).run Try.prog w = .ok (.bool true) w := by kernel_rfl
@[go_sem] theorem ta_done_data (x : Value) (w : World) : (Instr.typeAssert (.iface 113 x) 78 107 true).run Try.prog w = .ok (.tuple #[.agg #[.int .i64 0, .int .i64 0], .bool false]) w := by kernel_rfl
@[go_sem] theorem ta_done_ack (x : Value) (w : World) : (Instr.typeAssert (.iface 113 x) 78 108 true).run Try.prog w = .ok (.tuple #[.agg #[.int .i64 0, .int .i64 0], .bool false]) w := by kernel_rfl
@[go_sem] theorem ta_done_clear (x : Value) (w : World) : (Instr.typeAssert (.iface 113 x) 78 110 true).run Try.prog w = .ok (.tuple #[.agg #[.int .i64 0, .int .i64 0, .int .i64 0], .bool false]) w := by kernel_rfl
@[go_sem] theorem ta_done_copy (x : Value) (w : World) : (Instr.typeAssert (.iface 113 x) 78 111 true).run Try.prog w = .ok (.tuple #[.agg #[.int .i64 0, .int .i64 0], .bool false]) w := by kernel_rfl
@[go_sem] theorem ta_done (x : Value) (w : World) : (Instr.typeAssert (.iface 113 x) 78 113 true).run Try.prog w = .ok (.tuple #[x, .bool true]) w := by kernel_rfl
@[go_sem] theorem nn_done (x : Value) (w : World) : (binOp .neq 78 (.iface 113 x) .nilIface).run Try.prog w = .ok (.bool true) w := by kernel_rfl
@[go_sem] theorem nn_none (w : World) : (binOp .neq 78 .nilIface .nilIface).run Try.prog w = .ok (.bool false) w := by kernel_rfl

theorem sayof1 (ao : Option Addr) (n cap : Nat) (c v h : Int) (w : World) :
    Calls Try.prog 66 #[.agg #[.int .i64 1, .int .i64 c, .int .i64 v, .int .i64 h, .slice ao n cap]] w fun e w' => e = .returned (.iface 107 (.agg #[.int .i64 c, .int .i64 v])) ∧ Below w.heap.size w w' := by
  go_enter Try.func66, Try.ntmps66
  go_wp2
  go_ret
  exact ⟨rfl, (Below.refl _ _).alloc (Nat.le_refl _) _⟩
set_option maxRecDepth 100000 in
theorem saidby1 (ao : Option Addr) (n cap : Nat) (c v h : Int) (w : World) :
    Calls Try.prog 68 #[.iface 107 (.agg #[.int .i64 c, .int .i64 v])] w fun e w' => e = .returned (.agg #[.int .i64 1, .int .i64 c, .int .i64 v, .int .i64 0, .slice none 0 0]) ∧ Below w.heap.size w w' := by
  go_enter Try.func68, Try.ntmps68
  go_wp2
  refine bodyPost_ret (v := .agg #[.int .i64 1, .int .i64 c, .int .i64 v, .int .i64 0, .slice none 0 0]) (by simp [results, Try.results68, go_sem]) rfl ⟨rfl, ((Below.refl _ _).alloc (Nat.le_refl _) _).alloc (by simp) _⟩

theorem sayof2 (ao : Option Addr) (n cap : Nat) (c v h : Int) (w : World) :
    Calls Try.prog 66 #[.agg #[.int .i64 2, .int .i64 c, .int .i64 v, .int .i64 h, .slice ao n cap]] w fun e w' => e = .returned (.iface 108 (.agg #[.int .i64 c, .int .i64 v])) ∧ Below w.heap.size w w' := by
  go_enter Try.func66, Try.ntmps66
  go_wp2
  go_ret
  exact ⟨rfl, (Below.refl _ _).alloc (Nat.le_refl _) _⟩
set_option maxRecDepth 100000 in
theorem saidby2 (ao : Option Addr) (n cap : Nat) (c v h : Int) (w : World) :
    Calls Try.prog 68 #[.iface 108 (.agg #[.int .i64 c, .int .i64 v])] w fun e w' => e = .returned (.agg #[.int .i64 2, .int .i64 c, .int .i64 v, .int .i64 0, .slice none 0 0]) ∧ Below w.heap.size w w' := by
  go_enter Try.func68, Try.ntmps68
  go_wp2
  refine bodyPost_ret (v := .agg #[.int .i64 2, .int .i64 c, .int .i64 v, .int .i64 0, .slice none 0 0]) (by simp [results, Try.results68, go_sem]) rfl ⟨rfl, ((Below.refl _ _).alloc (Nat.le_refl _) _).alloc (by simp) _⟩

theorem sayof3 (ao : Option Addr) (n cap : Nat) (c v h : Int) (w : World) :
    Calls Try.prog 66 #[.agg #[.int .i64 3, .int .i64 c, .int .i64 v, .int .i64 h, .slice ao n cap]] w fun e w' => e = .returned (.iface 110 (.agg #[.int .i64 c, .int .i64 v, .int .i64 h])) ∧ Below w.heap.size w w' := by
  go_enter Try.func66, Try.ntmps66
  go_wp2
  go_ret
  exact ⟨rfl, (Below.refl _ _).alloc (Nat.le_refl _) _⟩
set_option maxRecDepth 100000 in
theorem saidby3 (ao : Option Addr) (n cap : Nat) (c v h : Int) (w : World) :
    Calls Try.prog 68 #[.iface 110 (.agg #[.int .i64 c, .int .i64 v, .int .i64 h])] w fun e w' => e = .returned (.agg #[.int .i64 3, .int .i64 c, .int .i64 v, .int .i64 h, .slice none 0 0]) ∧ Below w.heap.size w w' := by
  go_enter Try.func68, Try.ntmps68
  go_wp2
  refine bodyPost_ret (v := .agg #[.int .i64 3, .int .i64 c, .int .i64 v, .int .i64 h, .slice none 0 0]) (by simp [results, Try.results68, go_sem]) rfl ⟨rfl, ((Below.refl _ _).alloc (Nat.le_refl _) _).alloc (by simp) _⟩

theorem sayof4 (ao : Option Addr) (n cap : Nat) (c v h : Int) (w : World) :
    Calls Try.prog 66 #[.agg #[.int .i64 4, .int .i64 c, .int .i64 v, .int .i64 h, .slice ao n cap]] w fun e w' => e = .returned (.iface 111 (.agg #[.int .i64 c, .int .i64 v])) ∧ Below w.heap.size w w' := by
  go_enter Try.func66, Try.ntmps66
  go_wp2
  go_ret
  exact ⟨rfl, (Below.refl _ _).alloc (Nat.le_refl _) _⟩
set_option maxRecDepth 100000 in
theorem saidby4 (ao : Option Addr) (n cap : Nat) (c v h : Int) (w : World) :
    Calls Try.prog 68 #[.iface 111 (.agg #[.int .i64 c, .int .i64 v])] w fun e w' => e = .returned (.agg #[.int .i64 4, .int .i64 c, .int .i64 v, .int .i64 0, .slice none 0 0]) ∧ Below w.heap.size w w' := by
  go_enter Try.func68, Try.ntmps68
  go_wp2
  refine bodyPost_ret (v := .agg #[.int .i64 4, .int .i64 c, .int .i64 v, .int .i64 0, .slice none 0 0]) (by simp [results, Try.results68, go_sem]) rfl ⟨rfl, ((Below.refl _ _).alloc (Nat.le_refl _) _).alloc (by simp) _⟩

theorem sayof5 (ao : Option Addr) (n cap : Nat) (c v h : Int) (w : World) :
    Calls Try.prog 66 #[.agg #[.int .i64 5, .int .i64 c, .int .i64 v, .int .i64 h, .slice ao n cap]] w fun e w' => e = .returned (.iface 113 (.agg #[.int .i64 v, .slice ao n cap])) ∧ Below w.heap.size w w' := by
  go_enter Try.func66, Try.ntmps66
  go_wp2
  go_ret
  exact ⟨rfl, (Below.refl _ _).alloc (Nat.le_refl _) _⟩
set_option maxRecDepth 100000 in
theorem saidby5 (ao : Option Addr) (n cap : Nat) (c v h : Int) (w : World) :
    Calls Try.prog 68 #[.iface 113 (.agg #[.int .i64 v, .slice ao n cap])] w fun e w' => e = .returned (.agg #[.int .i64 5, .int .i64 0, .int .i64 v, .int .i64 0, .slice ao n cap]) ∧ Below w.heap.size w w' := by
  go_enter Try.func68, Try.ntmps68
  go_wp2
  refine bodyPost_ret (v := .agg #[.int .i64 5, .int .i64 0, .int .i64 v, .int .i64 0, .slice ao n cap]) (by simp [results, Try.results68, go_sem]) rfl ⟨rfl, ((Below.refl _ _).alloc (Nat.le_refl _) _).alloc (by simp) _⟩
end Go.Proofs.Ythhkmfgccbkkhaa

/- MsgOk of the program: messages held against each other, generations. -/
namespace Go.Proofs.Ythhkmfgccbkkhaa
open Go.ChangeShapes Go.WideShapes Go.ChangeAt Go.RowKit
set_option linter.unusedVariables false
set_option linter.unusedSimpArgs false

theorem sindex_any (ao : Option Addr) (n cap : Nat) (f : Nat → Int) (x : Int) (w : World) (hn : n ≤ 1048576) (hs : SL .i64 w ao n f) :
    Calls Try.prog 133 #[.slice ao n cap, .int .i64 x] w fun e w' => ((∃ i : Nat, i < n ∧ f i = x ∧ e = .returned (.int .i64 i)) ∨ ((∀ i, i < n → f i ≠ x) ∧ e = .returned (.int .i64 (-1)))) ∧ w' = w := by
  have HS := hide hs
  clear hs
  go_enter Try.func133, Try.ntmps133
  go_wp2
  go_loop [5, 8] (fun _ i => ∃ k : Nat, k ≤ n ∧ i = .int .i64 k ∧ Hid (∀ j, j < k → f j ≠ x)) (fun _ i => n - (intOf i).toNat)
  case atStart => exact ⟨0, by omega, rfl, fun j hj => absurd hj (by omega)⟩
  case round =>
    obtain ⟨k, hk, rfl, A⟩ := hrel
    by_cases hlt : k < n
    · obtain ⟨b, off, rfl, hb, hc⟩ := HS.out k hlt
      generalize hy : f k = y at *
      have B := hide hy
      clear hy
      by_cases he : x = y
      · subst he
        go_wp2
        go_ret
        exact ⟨.inl ⟨k, hlt, B.out, rfl⟩, rfl⟩
      · have hd : decide (x = y) = false := by simpa using he
        go_wp2
        go_round
        case rel =>
          refine ⟨k + 1, by omega, by go_num, fun j hj => ?_⟩
          by_cases e : j = k
          · subst e; rw [B.out]; exact fun e => he e.symm
          · exact A.out j (by omega)
        case measure => simp [intOf]; omega
    · obtain rfl : k = n := by omega
      go_wp2
      go_ret
      exact ⟨.inr ⟨A.out, rfl⟩, rfl⟩
theorem scontains_yes (ao : Option Addr) (n cap : Nat) (f : Nat → Int) (x : Int) (w : World) (hn : n ≤ 1048576) (hs : SL .i64 w ao n f) (h : ∃ i, i < n ∧ f i = x) :
    Calls Try.prog 132 #[.slice ao n cap, .int .i64 x] w fun e w' => e = .returned (.bool true) ∧ w' = w := by
  have hc := hide (sindex_any ao n cap f x w hn hs)
  have H := hide h
  clear hs h
  go_enter Try.func132, Try.ntmps132
  go_wp2_with fail
  refine hc.out.mono ?_
  rintro e w' ⟨h, hw⟩
  rw [hw]
  clear hw hc
  rcases h with ⟨i, hi, _, rfl⟩ | ⟨h, _⟩
  · go_wp2
    go_ret
    exact ⟨by simp, rfl⟩
  · obtain ⟨i, hi, e⟩ := H.out
    exact absurd e (h i hi)
theorem scontains_no (ao : Option Addr) (n cap : Nat) (f : Nat → Int) (x : Int) (w : World) (hn : n ≤ 1048576) (hs : SL .i64 w ao n f) (h : ∀ i, i < n → f i ≠ x) :
    Calls Try.prog 132 #[.slice ao n cap, .int .i64 x] w fun e w' => e = .returned (.bool false) ∧ w' = w := by
  have hc := hide (sindex_any ao n cap f x w hn hs)
  have H := hide h
  clear hs h
  go_enter Try.func132, Try.ntmps132
  go_wp2_with fail
  refine hc.out.mono ?_
  rintro e w' ⟨h, hw⟩
  rw [hw]
  clear hw hc
  rcases h with ⟨i, hi, e, rfl⟩ | ⟨_, rfl⟩
  · exact absurd e (H.out i hi)
  · go_wp2
    go_ret
    exact ⟨rfl, rfl⟩
/-- Two lists of numbers that are the same. -/
def SameI (f g : Nat → Int) (n m : Nat) : Prop := n = m ∧ ∀ i, i < n → f i = g i
theorem sequal_any (ao bo : Option Addr) (n m ca cb : Nat) (f g : Nat → Int) (w : World) (hn : n ≤ 1048576) (hA : SL .i64 w ao n f) (hB : SL .i64 w bo m g) :
    Calls Try.prog 94 #[.slice ao n ca, .slice bo m cb] w fun e w' => ((SameI f g n m ∧ e = .returned (.bool true)) ∨ (¬ SameI f g n m ∧ e = .returned (.bool false))) ∧ ∃ q, w' = w.drewN q := by
  have HA := hide hA
  have HB := hide hB
  clear hA hB
  by_cases hnm : n = m
  · subst hnm
    go_enter Try.func94, Try.ntmps94
    go_wp2
    go_loopw [5, 13] (fun _ i wr => ∃ k : Nat, k ≤ n ∧ i = .int .i64 k ∧ Hid (∀ j, j < k → f j = g j) ∧ ∃ q, wr = w.drewN q) (fun _ i _ => n - (intOf i).toNat)
    case atStart => exact ⟨0, by omega, rfl, fun j hj => absurd hj (by omega), 0, rfl⟩
    case round =>
      obtain ⟨k, hk, rfl, A, q, rfl⟩ := hrel
      by_cases hlt : k < n
      · obtain ⟨b, off, rfl, hb, hc⟩ := HA.out k hlt
        obtain ⟨b', off', rfl, hb', hc'⟩ := HB.out k hlt
        generalize hy : f k = y at *
        generalize hz : g k = z at *
        have B := hide hy
        have C := hide hz
        clear hy hz
        by_cases he : y = z
        · subst he
          go_wp2
          go_quiet (fail)
          go_wp2
          go_roundw
          case rel =>
            refine ⟨k + 1, by omega, by go_num, fun j hj => ?_, _, rfl⟩
            by_cases e : j = k
            · subst e; rw [B.out, C.out]
            · exact A.out j (by omega)
          case measure => simp [intOf]; omega
        · have hd : decide (y = z) = false := by simpa using he
          have hno : Hid (¬ SameI f g n n) := fun h => he (by rw [← B.out, ← C.out]; exact h.2 k hlt)
          go_wp2
          go_quiet (fail)
          go_wp2
          go_ret
          exact ⟨.inr ⟨hno.out, rfl⟩, _, World.drewN_drewN ..⟩
      · obtain rfl : k = n := by omega
        go_wp2
        go_ret
        exact ⟨.inl ⟨⟨rfl, A.out⟩, rfl⟩, q, rfl⟩
  · have hd : ((n : Int) == (m : Int)) = false := by simp; omega
    have hd2 : decide ((n : Int) = (m : Int)) = false := by simp; omega
    have hd3 : ¬ (n : Int) = (m : Int) := by omega
    go_enter Try.func94, Try.ntmps94
    go_wp2
    go_ret
    exact ⟨.inr ⟨fun h => hnm h.1, rfl⟩, 0, rfl⟩
theorem gensok_impl (ao : Option Addr) (n cap : Nat) (f : Nat → Int) (w : World) (hn : n ≤ 1048576) (hcap : n ≤ cap) (hs : SL .i64 w ao n f) :
    Calls Try.prog 130 #[.slice ao n cap] w fun e w' => ((GOk f n ∧ e = .returned (.bool true)) ∨ (¬ GOk f n ∧ e = .returned (.bool false))) ∧ ∃ q, w' = w.drewN q := by
  have HS := hide hs
  clear hs
  by_cases h12 : n ≤ 12
  · have hd : (n : Int) ≤ 12 := by omega
    go_enter Try.func130, Try.ntmps130
    go_wp2
    go_loopw [3, 4, 10] (fun _ _ i wr => ∃ k : Nat, k ≤ n ∧ i = .int .i64 k ∧ Hid (GIn f k) ∧ ∃ q, wr = w.drewN q) (fun _ _ i _ => n - (intOf i).toNat)
    case atStart => exact ⟨0, by omega, rfl, fun j hj => absurd hj (by omega), 0, rfl⟩
    case round =>
      obtain ⟨k, hk, rfl, A, q, rfl⟩ := hrel
      by_cases hlt : k < n
      · obtain ⟨b, off, rfl, hb, hc⟩ := HS.out k hlt
        have hpre : Hid (∀ q, SL .i64 (w.drewN q) (some ⟨b, off, none⟩) k f) := fun q i hi => HS.out i (by omega)
        generalize hy : f k = y at *
        have B := hide hy
        clear hy
        have hk0 : (0 : Int) ≤ (k : Int) := by omega
        have hkn : (k : Int) ≤ (n : Int) := by omega
        have hkc : (k : Int) ≤ (cap : Int) := by omega
        by_cases h1 : y < 1 ∨ 100000 < y
        · have hbad : Hid (¬ GOk f n) := fun h => by have := (h.2 k hlt).1; rw [B.out] at this; omega
          have hdec : decide (y < 1 ∨ 100000 < y) = true := by simpa using h1
          go_wp2_with (first
            | (go_at_call 131; refine (nogen_any _ _).mono ?_; rintro e9 w9 ⟨rfl, hw9⟩; rw [hw9, hdec]; clear hw9)
            | fail)
          go_ret
          exact ⟨.inr ⟨hbad.out, rfl⟩, _, rfl⟩
        · have hdec : decide (y < 1 ∨ 100000 < y) = false := by simpa using h1
          by_cases h2 : ∃ j, j < k ∧ f j = y
          · have hbad : Hid (¬ GOk f n) := fun h => by obtain ⟨j, hj, e⟩ := h2; exact (h.2 k hlt).2 j hj (e.trans B.out.symm)
            have H2 := hide h2
            clear h2
            go_wp2_with (first
              | (go_at_call 131; refine (nogen_any _ _).mono ?_; rintro e9 w9 ⟨rfl, hw9⟩; rw [hw9, hdec]; clear hw9)
              | (go_at_call 132; refine (scontains_yes _ _ _ f _ _ (by omega) (hpre.out _) H2.out).mono ?_; rintro e9 w9 ⟨rfl, hw9⟩; rw [hw9]; clear hw9)
              | fail)
            go_ret
            exact ⟨.inr ⟨hbad.out, rfl⟩, _, rfl⟩
          · have H2 : Hid (∀ j, j < k → f j ≠ y) := fun j hj e => h2 ⟨j, hj, e⟩
            have H1 := hide h1
            clear h2 h1
            go_wp2_with (first
              | (go_at_call 131; refine (nogen_any _ _).mono ?_; rintro e9 w9 ⟨rfl, hw9⟩; rw [hw9, hdec]; clear hw9)
              | (go_at_call 132; refine (scontains_no _ _ _ f _ _ (by omega) (hpre.out _) H2.out).mono ?_; rintro e9 w9 ⟨rfl, hw9⟩; rw [hw9]; clear hw9)
              | fail)
            go_roundw
            case rel =>
              refine ⟨k + 1, by omega, by go_num, fun i hi => ?_, _, rfl⟩
              by_cases e : i = k
              · subst e; exact ⟨by rw [B.out]; have := H1.out; omega, fun j hj => by rw [B.out]; exact H2.out j hj⟩
              · exact A.out i (by omega)
            case measure => simp [intOf]; omega
      · obtain rfl : k = n := by omega
        go_wp2
        go_ret
        exact ⟨.inl ⟨⟨h12, A.out⟩, rfl⟩, q, rfl⟩
  · have hd : ¬ (n : Int) ≤ 12 := by omega
    go_enter Try.func130, Try.ntmps130
    go_wp2
    go_ret
    exact ⟨.inr ⟨fun h => h12 h.1, rfl⟩, 0, rfl⟩
theorem headof (ao : Option Addr) (n cap : Nat) (k c v h : Int) (w : World) :
    Calls Try.prog 80 #[.agg #[.int .i64 k, .int .i64 c, .int .i64 v, .int .i64 h, .slice ao n cap]] w fun e w' => e = .returned (.agg #[.int .i64 k, .int .i64 c, .int .i64 v, .int .i64 h]) ∧ Below w.heap.size w w' := by
  go_enter Try.func80, Try.ntmps80
  go_wp2
  refine bodyPost_ret (v := .agg #[.int .i64 k, .int .i64 c, .int .i64 v, .int .i64 h]) (by simp [results, Try.results80, go_sem]) rfl ⟨rfl, ((Below.refl _ _).alloc (Nat.le_refl _) _).alloc (by simp) _⟩

theorem eq_head (a b c d a' b' c' d' : Int) (w : World) : (Op.equalIn 10000 92 (.agg #[.int .i64 a, .int .i64 b, .int .i64 c, .int .i64 d]) (.agg #[.int .i64 a', .int .i64 b', .int .i64 c', .int .i64 d'])).run Try.prog w = .ok (a == a' && (b == b' && (c == c' && d == d'))) w := by
  have u3 := Try.underlying3
  have a3 := Try.isAgg3
  have z3 := Try.sizeOf3
  rw [show (10000 : Nat) = 9999 + 1 from rfl, Op.equalIn]
  simp only [Sem.run_bind, run_underlying Try.underlying92, Result.andThen_ok]
  simp only [Std.Legacy.Range.forIn_eq_forIn_range', Std.Legacy.Range.size, Nat.sub_zero, Nat.add_sub_cancel, Nat.div_one, List.range'_succ, List.range'_zero, List.forIn_cons, List.forIn_nil]
  go_simp
  by_cases h1 : a = a'
  case neg => simp [h1]
  by_cases h2 : b = b'
  case neg => simp [h2]
  by_cases h3 : c = c'
  case neg => simp [h3]
  by_cases h4 : d = d'
  case neg => simp [h4]
  simp [h1, h2, h3, h4]

theorem sequal_yes (ao bo : Option Addr) (n m ca cb : Nat) (f g : Nat → Int) (w : World) (hn : n ≤ 1048576) (hA : SL .i64 w ao n f) (hB : SL .i64 w bo m g) (h : SameI f g n m) :
    Calls Try.prog 94 #[.slice ao n ca, .slice bo m cb] w fun e w' => e = .returned (.bool true) ∧ ∃ q, w' = w.drewN q :=
  (sequal_any ao bo n m ca cb f g w hn hA hB).mono fun _ _ ⟨h1, h2⟩ => ⟨h1.elim (·.2) (fun x => absurd h x.1), h2⟩
theorem sequal_no (ao bo : Option Addr) (n m ca cb : Nat) (f g : Nat → Int) (w : World) (hn : n ≤ 1048576) (hA : SL .i64 w ao n f) (hB : SL .i64 w bo m g) (h : ¬ SameI f g n m) :
    Calls Try.prog 94 #[.slice ao n ca, .slice bo m cb] w fun e w' => e = .returned (.bool false) ∧ ∃ q, w' = w.drewN q :=
  (sequal_any ao bo n m ca cb f g w hn hA hB).mono fun _ _ ⟨h1, h2⟩ => ⟨h1.elim (fun x => absurd x.1 h) (·.2), h2⟩

set_option maxHeartbeats 1000000 in
set_option maxRecDepth 100000 in
theorem samemsg_any (ao bo : Option Addr) (n m ca cb : Nat) (f g : Nat → Int) (k c v h k' c' v' h' : Int) (w : World) (hn : n ≤ 1048576) (hA : SL .i64 w ao n f) (hB : SL .i64 w bo m g) :
    Calls Try.prog 67 #[.agg #[.int .i64 k, .int .i64 c, .int .i64 v, .int .i64 h, .slice ao n ca], .agg #[.int .i64 k', .int .i64 c', .int .i64 v', .int .i64 h', .slice bo m cb]] w fun e w' => Tells w w' e ((k = k' ∧ c = c' ∧ v = v' ∧ h = h') ∧ SameI f g n m) := by
  obtain ⟨W, hW⟩ : ∃ W, W = (w.alloc (.cells #[.int .i64 k, .int .i64 c, .int .i64 v, .int .i64 h, .slice ao n ca] 26)).alloc (.cells #[.int .i64 k', .int .i64 c', .int .i64 v', .int .i64 h', .slice bo m cb] 26) := ⟨_, rfl⟩
  have M1 : MB W w.heap.size 26 k c v h ao n ca := by rw [hW]; exact (MB.new w _ k c v h ao n ca).below ((Below.refl _ _).alloc (Nat.le_refl _) _) (by simp)
  have M2 : MB W (w.heap.size + 1) 26 k' c' v' h' bo m cb := by
    rw [hW]
    have := MB.new (w.alloc (.cells #[.int .i64 k, .int .i64 c, .int .i64 v, .int .i64 h, .slice ao n ca] 26)) 26 k' c' v' h' bo m cb
    simpa using this
  have hb : Below w.heap.size w W := by rw [hW]; exact ((Below.refl _ _).alloc (Nat.le_refl _) _).alloc (by simp) _
  have HA := hide (hA.below hb)
  have HB := hide (hB.below hb)
  have hE := eq_head k c v h k' c' v' h'
  clear hA hB
  have HB0 := hide hb
  clear hb
  by_cases heq : k = k' ∧ c = c' ∧ v = v' ∧ h = h'
  · have e4 : (k == k' && (c == c' && (v == v' && h == h'))) = true := by simp [heq]
    rw [e4] at hE
    have HQ := hide heq
    clear e4 heq
    by_cases hS : SameI f g n m
    · have HS := hide hS
      clear hS
      go_enter Try.func67, Try.ntmps67
      go_wp2_with fail
      rw [← hW]
      obtain ⟨m0, m1, m2, m3, m4⟩ := M1.cells
      obtain ⟨x0, x1, x2, x3, x4⟩ := M2.cells
      have H5 : Hid (MB W.drew w.heap.size 26 k c v h ao n ca ∧ MB W.drew (w.heap.size + 1) 26 k' c' v' h' bo m cb ∧ SL .i64 W.drew ao n f ∧ SL .i64 W.drew bo m g ∧ Below w.heap.size w W.drew) := ⟨M1, M2, HA.out, HB.out, Below.drawn HB0.out 1⟩
      clear hW M1 M2 HA HB HB0
      go_region_held3 (fun w' => (w'.cell? ⟨w.heap.size, 0, none⟩ = some (.int .i64 k) ∧ w'.cell? ⟨w.heap.size, 1, none⟩ = some (.int .i64 c) ∧ w'.cell? ⟨w.heap.size, 2, none⟩ = some (.int .i64 v) ∧ w'.cell? ⟨w.heap.size, 3, none⟩ = some (.int .i64 h) ∧ w'.cell? ⟨w.heap.size, 4, none⟩ = some (.slice ao n ca)) ∧ (w'.cell? ⟨w.heap.size + 1, 0, none⟩ = some (.int .i64 k') ∧ w'.cell? ⟨w.heap.size + 1, 1, none⟩ = some (.int .i64 c') ∧ w'.cell? ⟨w.heap.size + 1, 2, none⟩ = some (.int .i64 v') ∧ w'.cell? ⟨w.heap.size + 1, 3, none⟩ = some (.int .i64 h') ∧ w'.cell? ⟨w.heap.size + 1, 4, none⟩ = some (.slice bo m cb))) (first | assumption | exact ⟨⟨m0, m1, m2, m3, m4⟩, x0, x1, x2, x3, x4⟩) (first
        | (go_at_call 80; refine (headof bo m cb k' c' v' h' w6).mono ?_; rintro e w7 ⟨rfl, b7⟩; have H7 : Hid (MB w7 w.heap.size 26 k c v h ao n ca ∧ MB w7 (w.heap.size + 1) 26 k' c' v' h' bo m cb ∧ SL .i64 w7 ao n f ∧ SL .i64 w7 bo m g ∧ Below w.heap.size w w7) := ⟨H6.out.1.below b7 H6.out.1.lt, H6.out.2.1.below b7 H6.out.2.1.lt, H6.out.2.2.1.below b7, H6.out.2.2.2.1.below b7, H6.out.2.2.2.2.trans (b7.mono H6.out.2.2.2.2.size)⟩; have hk7 := And.intro H7.out.1.cells H7.out.2.1.cells; clear b7)
        | (go_at_call 80; refine (headof ao n ca k c v h W.drew).mono ?_; rintro e w6 ⟨rfl, b6⟩; have H6 : Hid (MB w6 w.heap.size 26 k c v h ao n ca ∧ MB w6 (w.heap.size + 1) 26 k' c' v' h' bo m cb ∧ SL .i64 w6 ao n f ∧ SL .i64 w6 bo m g ∧ Below w.heap.size w w6) := ⟨H5.out.1.below b6 H5.out.1.lt, H5.out.2.1.below b6 H5.out.2.1.lt, H5.out.2.2.1.below b6, H5.out.2.2.2.1.below b6, H5.out.2.2.2.2.trans (b6.mono H5.out.2.2.2.2.size)⟩; have hk6 := And.intro H6.out.1.cells H6.out.2.1.cells; clear b6)
        | (go_at_call 94; refine (sequal_yes ao bo n m ca cb f g w7 hn H7.out.2.2.1 H7.out.2.2.2.1 HS.out).mono ?_; rintro e w8 ⟨rfl, q8, hw8⟩; have H8 : Hid (Below w.heap.size w w8) := (hw8 ▸ Below.drawn H7.out.2.2.2.2 q8); have hk8 : (w8.cell? ⟨w.heap.size, 0, none⟩ = some (.int .i64 k) ∧ w8.cell? ⟨w.heap.size, 1, none⟩ = some (.int .i64 c) ∧ w8.cell? ⟨w.heap.size, 2, none⟩ = some (.int .i64 v) ∧ w8.cell? ⟨w.heap.size, 3, none⟩ = some (.int .i64 h) ∧ w8.cell? ⟨w.heap.size, 4, none⟩ = some (.slice ao n ca)) ∧ (w8.cell? ⟨w.heap.size + 1, 0, none⟩ = some (.int .i64 k') ∧ w8.cell? ⟨w.heap.size + 1, 1, none⟩ = some (.int .i64 c') ∧ w8.cell? ⟨w.heap.size + 1, 2, none⟩ = some (.int .i64 v') ∧ w8.cell? ⟨w.heap.size + 1, 3, none⟩ = some (.int .i64 h') ∧ w8.cell? ⟨w.heap.size + 1, 4, none⟩ = some (.slice bo m cb)) := hw8 ▸ hk7; clear hw8))
      go_wp2
      go_ret
      exact Tells.yes ⟨HQ.out, HS.out⟩ H8.out
    · have HS := hide hS
      clear hS
      go_enter Try.func67, Try.ntmps67
      go_wp2_with fail
      rw [← hW]
      obtain ⟨m0, m1, m2, m3, m4⟩ := M1.cells
      obtain ⟨x0, x1, x2, x3, x4⟩ := M2.cells
      have H5 : Hid (MB W.drew w.heap.size 26 k c v h ao n ca ∧ MB W.drew (w.heap.size + 1) 26 k' c' v' h' bo m cb ∧ SL .i64 W.drew ao n f ∧ SL .i64 W.drew bo m g ∧ Below w.heap.size w W.drew) := ⟨M1, M2, HA.out, HB.out, Below.drawn HB0.out 1⟩
      clear hW M1 M2 HA HB HB0
      go_region_held3 (fun w' => (w'.cell? ⟨w.heap.size, 0, none⟩ = some (.int .i64 k) ∧ w'.cell? ⟨w.heap.size, 1, none⟩ = some (.int .i64 c) ∧ w'.cell? ⟨w.heap.size, 2, none⟩ = some (.int .i64 v) ∧ w'.cell? ⟨w.heap.size, 3, none⟩ = some (.int .i64 h) ∧ w'.cell? ⟨w.heap.size, 4, none⟩ = some (.slice ao n ca)) ∧ (w'.cell? ⟨w.heap.size + 1, 0, none⟩ = some (.int .i64 k') ∧ w'.cell? ⟨w.heap.size + 1, 1, none⟩ = some (.int .i64 c') ∧ w'.cell? ⟨w.heap.size + 1, 2, none⟩ = some (.int .i64 v') ∧ w'.cell? ⟨w.heap.size + 1, 3, none⟩ = some (.int .i64 h') ∧ w'.cell? ⟨w.heap.size + 1, 4, none⟩ = some (.slice bo m cb))) (first | assumption | exact ⟨⟨m0, m1, m2, m3, m4⟩, x0, x1, x2, x3, x4⟩) (first
        | (go_at_call 80; refine (headof bo m cb k' c' v' h' w6).mono ?_; rintro e w7 ⟨rfl, b7⟩; have H7 : Hid (MB w7 w.heap.size 26 k c v h ao n ca ∧ MB w7 (w.heap.size + 1) 26 k' c' v' h' bo m cb ∧ SL .i64 w7 ao n f ∧ SL .i64 w7 bo m g ∧ Below w.heap.size w w7) := ⟨H6.out.1.below b7 H6.out.1.lt, H6.out.2.1.below b7 H6.out.2.1.lt, H6.out.2.2.1.below b7, H6.out.2.2.2.1.below b7, H6.out.2.2.2.2.trans (b7.mono H6.out.2.2.2.2.size)⟩; have hk7 := And.intro H7.out.1.cells H7.out.2.1.cells; clear b7)
        | (go_at_call 80; refine (headof ao n ca k c v h W.drew).mono ?_; rintro e w6 ⟨rfl, b6⟩; have H6 : Hid (MB w6 w.heap.size 26 k c v h ao n ca ∧ MB w6 (w.heap.size + 1) 26 k' c' v' h' bo m cb ∧ SL .i64 w6 ao n f ∧ SL .i64 w6 bo m g ∧ Below w.heap.size w w6) := ⟨H5.out.1.below b6 H5.out.1.lt, H5.out.2.1.below b6 H5.out.2.1.lt, H5.out.2.2.1.below b6, H5.out.2.2.2.1.below b6, H5.out.2.2.2.2.trans (b6.mono H5.out.2.2.2.2.size)⟩; have hk6 := And.intro H6.out.1.cells H6.out.2.1.cells; clear b6)
        | (go_at_call 94; refine (sequal_no ao bo n m ca cb f g w7 hn H7.out.2.2.1 H7.out.2.2.2.1 HS.out).mono ?_; rintro e w8 ⟨rfl, q8, hw8⟩; have H8 : Hid (Below w.heap.size w w8) := (hw8 ▸ Below.drawn H7.out.2.2.2.2 q8); have hk8 : (w8.cell? ⟨w.heap.size, 0, none⟩ = some (.int .i64 k) ∧ w8.cell? ⟨w.heap.size, 1, none⟩ = some (.int .i64 c) ∧ w8.cell? ⟨w.heap.size, 2, none⟩ = some (.int .i64 v) ∧ w8.cell? ⟨w.heap.size, 3, none⟩ = some (.int .i64 h) ∧ w8.cell? ⟨w.heap.size, 4, none⟩ = some (.slice ao n ca)) ∧ (w8.cell? ⟨w.heap.size + 1, 0, none⟩ = some (.int .i64 k') ∧ w8.cell? ⟨w.heap.size + 1, 1, none⟩ = some (.int .i64 c') ∧ w8.cell? ⟨w.heap.size + 1, 2, none⟩ = some (.int .i64 v') ∧ w8.cell? ⟨w.heap.size + 1, 3, none⟩ = some (.int .i64 h') ∧ w8.cell? ⟨w.heap.size + 1, 4, none⟩ = some (.slice bo m cb)) := hw8 ▸ hk7; clear hw8))
      go_wp2
      go_ret
      exact Tells.no (fun x => HS.out x.2) H8.out
  · have e4 : (k == k' && (c == c' && (v == v' && h == h'))) = false := by
      cases hx : (k == k' && (c == c' && (v == v' && h == h'))) with
      | false => rfl
      | true => simp at hx; exact absurd hx heq
    rw [e4] at hE
    have HQ := hide heq
    clear e4 heq
    go_enter Try.func67, Try.ntmps67
    go_wp2_with fail
    rw [← hW]
    obtain ⟨m0, m1, m2, m3, m4⟩ := M1.cells
    obtain ⟨x0, x1, x2, x3, x4⟩ := M2.cells
    have H5 : Hid (MB W.drew w.heap.size 26 k c v h ao n ca ∧ MB W.drew (w.heap.size + 1) 26 k' c' v' h' bo m cb ∧ SL .i64 W.drew ao n f ∧ SL .i64 W.drew bo m g ∧ Below w.heap.size w W.drew) := ⟨M1, M2, HA.out, HB.out, Below.drawn HB0.out 1⟩
    clear hW M1 M2 HA HB HB0
    refine wp_region_held_drew (S := (fun w' => (w'.cell? ⟨w.heap.size, 0, none⟩ = some (.int .i64 k) ∧ w'.cell? ⟨w.heap.size, 1, none⟩ = some (.int .i64 c) ∧ w'.cell? ⟨w.heap.size, 2, none⟩ = some (.int .i64 v) ∧ w'.cell? ⟨w.heap.size, 3, none⟩ = some (.int .i64 h) ∧ w'.cell? ⟨w.heap.size, 4, none⟩ = some (.slice ao n ca)) ∧ (w'.cell? ⟨w.heap.size + 1, 0, none⟩ = some (.int .i64 k') ∧ w'.cell? ⟨w.heap.size + 1, 1, none⟩ = some (.int .i64 c') ∧ w'.cell? ⟨w.heap.size + 1, 2, none⟩ = some (.int .i64 v') ∧ w'.cell? ⟨w.heap.size + 1, 3, none⟩ = some (.int .i64 h') ∧ w'.cell? ⟨w.heap.size + 1, 4, none⟩ = some (.slice bo m cb)))) (by kernel_rfl) ?_ (fun hHeld => ?_)
    · exact ⟨⟨m0, m1, m2, m3, m4⟩, x0, x1, x2, x3, x4⟩
    refine wpAnyH_take (i := 0) (oi := { dst := some 5, op := Op.load 26 (Operand.tmp 2), type := 26, pos := "l04_msg.go:161", after := #[], guard := none }) (v := ?_) rfl (by kernel_rfl) (by kernel_rfl) (by kernel_rfl) (fun _ _ _ h => h) (Or.inl ⟨by rfl, ?_⟩) (by assumption) ?_
    rotate_left 1
    · (intro wq hSw; (try dsimp only at hSw); go_simp; try with_reducible rfl)
    try simp only [Act.put, List.setIfInBounds_toArray, List.set_cons_zero, List.set_cons_succ]
    refine wpAnyH_take (i := 2) (oi := { dst := some 7, op := Op.load 26 (Operand.tmp 3), type := 26, pos := "l04_msg.go:161", after := #[], guard := none }) (v := ?_) rfl (by kernel_rfl) (by kernel_rfl) (by kernel_rfl) (fun _ _ _ h => h) (Or.inl ⟨by rfl, ?_⟩) (by assumption) ?_
    rotate_left 1
    · (intro wq hSw; (try dsimp only at hSw); go_simp; try with_reducible rfl)
    try simp only [Act.put, List.setIfInBounds_toArray, List.set_cons_zero, List.set_cons_succ]
    refine wpAnyH_ready (rs := [1]) (by kernel_rfl) (by simp) ?_
    refine AllReadyH.cons (o := { dst := some 6, op := Op.call { callee := Callee.value (Operand.func 80), args := #[Operand.tmp 5], argTypes := #[26] }, type := 92, pos := "l04_msg.go:161", after := #[{ on := 0, ground := Ground.data }], guard := none }) rfl (fun K hK => ?_) AllReadyH.nil
    go_simp
    refine (headof ao n ca k c v h _).mono ?_
    rintro e w6 ⟨rfl, b6⟩
    have H6 : Hid (MB w6 w.heap.size 26 k c v h ao n ca ∧ MB w6 (w.heap.size + 1) 26 k' c' v' h' bo m cb ∧ SL .i64 w6 ao n f ∧ SL .i64 w6 bo m g ∧ Below w.heap.size w w6) := ⟨H5.out.1.below b6 H5.out.1.lt, H5.out.2.1.below b6 H5.out.2.1.lt, H5.out.2.2.1.below b6, H5.out.2.2.2.1.below b6, H5.out.2.2.2.2.trans (b6.mono H5.out.2.2.2.2.size)⟩
    have hk6 := And.intro H6.out.1.cells H6.out.2.1.cells
    clear b6
    go_wp2_with fail
    refine hK.out _ _ ?_ (fun hHeld => ?_)
    · exact hk6
    clear hK K
    try simp only [Act.put, List.setIfInBounds_toArray, List.set_cons_zero, List.set_cons_succ]
    refine wpAnyH_ready (rs := [3]) (by kernel_rfl) (by simp) ?_
    refine AllReadyH.cons (o := { dst := some 8, op := Op.call { callee := Callee.value (Operand.func 80), args := #[Operand.tmp 7], argTypes := #[26] }, type := 92, pos := "l04_msg.go:161", after := #[{ on := 2, ground := Ground.data }, { on := 1, ground := Ground.chain }], guard := none }) rfl (fun K hK => ?_) AllReadyH.nil
    go_simp
    refine (headof bo m cb k' c' v' h' _).mono ?_
    rintro e w7 ⟨rfl, b7⟩
    have H7 : Hid (MB w7 w.heap.size 26 k c v h ao n ca ∧ MB w7 (w.heap.size + 1) 26 k' c' v' h' bo m cb ∧ SL .i64 w7 ao n f ∧ SL .i64 w7 bo m g ∧ Below w.heap.size w w7) := ⟨H6.out.1.below b7 H6.out.1.lt, H6.out.2.1.below b7 H6.out.2.1.lt, H6.out.2.2.1.below b7, H6.out.2.2.2.1.below b7, H6.out.2.2.2.2.trans (b7.mono H6.out.2.2.2.2.size)⟩
    have hk7 := And.intro H7.out.1.cells H7.out.2.1.cells
    clear b7
    go_wp2_with fail
    refine hK.out _ _ ?_ (fun hHeld => ?_)
    · exact hk7
    clear hK K
    try simp only [Act.put, List.setIfInBounds_toArray, List.set_cons_zero, List.set_cons_succ]
    refine wpAnyH_take (i := 4) (oi := { dst := some 9, op := Op.binOp BinOp.eql 92 (Operand.tmp 6) (Operand.tmp 8) 92, type := 4, pos := "l04_msg.go:161", after := #[{ on := 1, ground := Ground.data }, { on := 3, ground := Ground.data }], guard := none }) (v := ?_) rfl (by kernel_rfl) (by kernel_rfl) (by kernel_rfl) (fun _ _ _ h => h) (Or.inl ⟨by rfl, ?_⟩) (by assumption) ?_
    rotate_left 1
    · (intro wq hSw; (try dsimp only at hSw); go_simp; try with_reducible rfl)
    try simp only [Act.put, List.setIfInBounds_toArray, List.set_cons_zero, List.set_cons_succ]
    refine wpAnyH_take (i := 5) (oi := { dst := some 10, op := Op.move (Operand.tmp 9), type := 4, pos := "l04_msg.go:161", after := #[{ on := 4, ground := Ground.data }, { on := 3, ground := Ground.chain }], guard := none }) (v := ?_) rfl (by kernel_rfl) (by kernel_rfl) (by kernel_rfl) (fun _ _ _ h => h) (Or.inl ⟨by rfl, ?_⟩) (by assumption) ?_
    rotate_left 1
    · (intro wq hSw; (try dsimp only at hSw); go_simp; try with_reducible rfl)
    try simp only [Act.put, List.setIfInBounds_toArray, List.set_cons_zero, List.set_cons_succ]
    refine wpAnyH_take (i := 6) (oi := { dst := some 11, op := Op.fieldAddr 26 (Operand.tmp 2) 4, type := 0, pos := "l04_msg.go:161", after := #[{ on := 5, ground := Ground.guard }], guard := some (5, true) }) (v := undef) rfl (by kernel_rfl) (by kernel_rfl) (by kernel_rfl) (fun _ _ _ h => h) (Or.inr ⟨by rfl, rfl⟩) (by assumption) ?_
    try simp only [Act.put, List.setIfInBounds_toArray, List.set_cons_zero, List.set_cons_succ]
    refine wpAnyH_take (i := 7) (oi := { dst := some 12, op := Op.load 24 (Operand.tmp 11), type := 24, pos := "l04_msg.go:161", after := #[{ on := 6, ground := Ground.data }, { on := 5, ground := Ground.guard }], guard := some (5, true) }) (v := undef) rfl (by kernel_rfl) (by kernel_rfl) (by kernel_rfl) (fun _ _ _ h => h) (Or.inr ⟨by rfl, rfl⟩) (by assumption) ?_
    try simp only [Act.put, List.setIfInBounds_toArray, List.set_cons_zero, List.set_cons_succ]
    refine wpAnyH_take (i := 8) (oi := { dst := some 13, op := Op.fieldAddr 26 (Operand.tmp 3) 4, type := 0, pos := "l04_msg.go:161", after := #[{ on := 5, ground := Ground.guard }], guard := some (5, true) }) (v := undef) rfl (by kernel_rfl) (by kernel_rfl) (by kernel_rfl) (fun _ _ _ h => h) (Or.inr ⟨by rfl, rfl⟩) (by assumption) ?_
    try simp only [Act.put, List.setIfInBounds_toArray, List.set_cons_zero, List.set_cons_succ]
    refine wpAnyH_take (i := 9) (oi := { dst := some 14, op := Op.load 24 (Operand.tmp 13), type := 24, pos := "l04_msg.go:161", after := #[{ on := 8, ground := Ground.data }, { on := 5, ground := Ground.guard }], guard := some (5, true) }) (v := undef) rfl (by kernel_rfl) (by kernel_rfl) (by kernel_rfl) (fun _ _ _ h => h) (Or.inr ⟨by rfl, rfl⟩) (by assumption) ?_
    try simp only [Act.put, List.setIfInBounds_toArray, List.set_cons_zero, List.set_cons_succ]
    refine wpAnyH_take (i := 10) (oi := { dst := some 15, op := Op.call { callee := Callee.value (Operand.func 94), args := #[Operand.tmp 12, Operand.tmp 14], argTypes := #[24, 24] }, type := 4, pos := "l04_msg.go:161", after := #[{ on := 7, ground := Ground.data }, { on := 9, ground := Ground.data }, { on := 5, ground := Ground.chain }, { on := 5, ground := Ground.guard }], guard := some (5, true) }) (v := undef) rfl (by kernel_rfl) (by kernel_rfl) (by kernel_rfl) (fun _ _ _ h => h) (Or.inr ⟨by rfl, rfl⟩) (by assumption) ?_
    try simp only [Act.put, List.setIfInBounds_toArray, List.set_cons_zero, List.set_cons_succ]
    refine wpAnyH_take (i := 11) (oi := { dst := some 16, op := Op.pick (Operand.tmp 10) (Operand.tmp 15) (Operand.const (Value.bool false)), type := 4, pos := "l04_msg.go:161", after := #[{ on := 5, ground := Ground.data }, { on := 10, ground := Ground.data }], guard := none }) (v := ?_) rfl (by kernel_rfl) (by kernel_rfl) (by kernel_rfl) (fun _ _ _ h => h) (Or.inl ⟨by rfl, ?_⟩) (by assumption) ?_
    rotate_left 1
    · (intro wq hSw; (try dsimp only at hSw); go_simp; try with_reducible rfl)
    try simp only [Act.put, List.setIfInBounds_toArray, List.set_cons_zero, List.set_cons_succ]
    refine wpAnyH_take (i := 12) (oi := { dst := some 4, op := Op.assign (Operand.tmp 16), type := 4, pos := "l04_msg.go:161", after := #[{ on := 11, ground := Ground.data }, { on := 10, ground := Ground.chain }, { on := 0, ground := Ground.phase }, { on := 1, ground := Ground.phase }, { on := 2, ground := Ground.phase }, { on := 3, ground := Ground.phase }, { on := 4, ground := Ground.phase }, { on := 5, ground := Ground.phase }, { on := 6, ground := Ground.phase }, { on := 7, ground := Ground.phase }, { on := 8, ground := Ground.phase }, { on := 9, ground := Ground.phase }, { on := 10, ground := Ground.phase }, { on := 11, ground := Ground.phase }], guard := none }) (v := ?_) rfl (by kernel_rfl) (by kernel_rfl) (by kernel_rfl) (fun _ _ _ h => h) (Or.inl ⟨by rfl, ?_⟩) (by assumption) ?_
    rotate_left 1
    · (intro wq hSw; (try dsimp only at hSw); go_simp; try with_reducible rfl)
    try simp only [Act.put, List.setIfInBounds_toArray, List.set_cons_zero, List.set_cons_succ]
    refine wpAnyH_done (by kernel_rfl) ?_ _
    go_wp2
    go_ret
    exact Tells.no (fun x => HQ.out x.1) H7.out.2.2.2.2
end Go.Proofs.Ythhkmfgccbkkhaa

/- MsgOk of the program: what is in bounds. -/
namespace Go.Proofs.Ythhkmfgccbkkhaa
open Go.ChangeShapes Go.WideShapes Go.ChangeAt Go.RowKit
set_option linter.unusedVariables false
set_option linter.unusedSimpArgs false

theorem cellwith_any (x y : Int) (w : World) : Calls Try.prog 122 #[.int .i64 x, .int .i64 y] w fun e w' => e = .returned (.bool (decide ((0 ≤ x ∧ x ≤ 7) ∧ 0 ≤ y ∧ y ≤ 200))) ∧ w' = w := by
  by_cases hx : x < 0 ∨ 8 ≤ x
  · have dx : decide (x < 0 ∨ 8 ≤ x) = true := by simpa using hx
    have dz : decide ((0 ≤ x ∧ x ≤ 7) ∧ 0 ≤ y ∧ y ≤ 200) = false := by simp; omega
    rw [dz]
    clear dz hx
    go_enter Try.func122, Try.ntmps122
    go_wp2_with (first
      | (go_at_call 123; refine (nocell_any _ _).mono ?_; rintro e9 w9 ⟨rfl, hw9⟩; rw [hw9, dx]; clear hw9)
      | fail)
    go_ret
    exact ⟨rfl, rfl⟩
  · have dx : decide (x < 0 ∨ 8 ≤ x) = false := by simpa using hx
    have dz : decide ((0 ≤ x ∧ x ≤ 7) ∧ 0 ≤ y ∧ y ≤ 200) = !decide (y < 0 ∨ 200 < y) := by
      by_cases hy : y < 0 ∨ 200 < y
      · simp [hy]; omega
      · simp [hy]; omega
    rw [dz]
    clear dz hx
    have hcb := hide (nowrite_any y)
    generalize decide (y < 0 ∨ 200 < y) = b9 at hcb ⊢
    go_enter Try.func122, Try.ntmps122
    go_wp2_with (first
      | (go_at_call 123; refine (nocell_any _ _).mono ?_; rintro e9 w9 ⟨rfl, hw9⟩; rw [hw9, dx]; clear hw9)
      | (go_at_call 124; refine (hcb.out _).mono ?_; rintro e9 w9 ⟨rfl, hw9⟩; rw [hw9]; clear hw9)
      | fail)
    go_ret
    exact ⟨rfl, rfl⟩
theorem written_any (x y : Int) (w : World) : Calls Try.prog 121 #[.int .i64 x, .int .i64 y] w fun e w' => e = .returned (.bool (decide ((0 ≤ x ∧ x ≤ 7) ∧ 1 ≤ y ∧ y ≤ 200))) ∧ w' = w := by
  by_cases hx : (0 ≤ x ∧ x ≤ 7) ∧ 0 ≤ y ∧ y ≤ 200
  · have dx : decide ((0 ≤ x ∧ x ≤ 7) ∧ 0 ≤ y ∧ y ≤ 200) = true := by simpa using hx
    have dz : decide ((0 ≤ x ∧ x ≤ 7) ∧ 1 ≤ y ∧ y ≤ 200) = decide (0 < y) := by
      by_cases hy : 0 < y
      · simp [hy]; omega
      · simp [hy]; omega
    rw [dz]
    clear dz hx
    go_enter Try.func121, Try.ntmps121
    go_wp2_with (first
      | (go_at_call 122; refine (cellwith_any _ _ _).mono ?_; rintro e9 w9 ⟨rfl, hw9⟩; rw [hw9, dx]; clear hw9)
      | fail)
    go_ret
    exact ⟨rfl, rfl⟩
  · have dx : decide ((0 ≤ x ∧ x ≤ 7) ∧ 0 ≤ y ∧ y ≤ 200) = false := by simpa using hx
    have dz : decide ((0 ≤ x ∧ x ≤ 7) ∧ 1 ≤ y ∧ y ≤ 200) = false := by simp at hx ⊢; omega
    rw [dz]
    clear dz hx
    go_enter Try.func121, Try.ntmps121
    go_wp2_with (first
      | (go_at_call 122; refine (cellwith_any _ _ _).mono ?_; rintro e9 w9 ⟨rfl, hw9⟩; rw [hw9, dx]; clear hw9)
      | fail)
    go_ret
    exact ⟨rfl, rfl⟩
theorem bnd_data (c v : Int) (w : World) : Calls Try.prog 120 #[.agg #[.int .i64 c, .int .i64 v]] w fun e w' => e = .returned (.bool (decide ((0 ≤ c ∧ c ≤ 7) ∧ 1 ≤ v ∧ v ≤ 200))) ∧ Below w.heap.size w w' := by
  have hcb := hide (written_any c v)
  generalize decide ((0 ≤ c ∧ c ≤ 7) ∧ 1 ≤ v ∧ v ≤ 200) = b9 at hcb ⊢
  go_enter Try.func120, Try.ntmps120
  go_wp2_with (first
    | (go_at_call 121; refine (hcb.out _).mono ?_; rintro e9 w9 ⟨rfl, hw9⟩; rw [hw9]; clear hw9)
    | fail)
  go_ret
  exact ⟨rfl, (Below.refl _ _).alloc (Nat.le_refl _) _⟩
theorem bnd_ack (c v : Int) (w : World) : Calls Try.prog 125 #[.agg #[.int .i64 c, .int .i64 v]] w fun e w' => e = .returned (.bool (decide ((0 ≤ c ∧ c ≤ 7) ∧ 0 ≤ v ∧ v ≤ 200))) ∧ Below w.heap.size w w' := by
  have hcb := hide (cellwith_any c v)
  generalize decide ((0 ≤ c ∧ c ≤ 7) ∧ 0 ≤ v ∧ v ≤ 200) = b9 at hcb ⊢
  go_enter Try.func125, Try.ntmps125
  go_wp2_with (first
    | (go_at_call 122; refine (hcb.out _).mono ?_; rintro e9 w9 ⟨rfl, hw9⟩; rw [hw9]; clear hw9)
    | fail)
  go_ret
  exact ⟨rfl, (Below.refl _ _).alloc (Nat.le_refl _) _⟩
theorem bnd_copy (c v : Int) (w : World) : Calls Try.prog 128 #[.agg #[.int .i64 c, .int .i64 v]] w fun e w' => e = .returned (.bool (decide ((0 ≤ c ∧ c ≤ 7) ∧ 0 ≤ v ∧ v ≤ 200))) ∧ Below w.heap.size w w' := by
  have hcb := hide (cellwith_any c v)
  generalize decide ((0 ≤ c ∧ c ≤ 7) ∧ 0 ≤ v ∧ v ≤ 200) = b9 at hcb ⊢
  go_enter Try.func128, Try.ntmps128
  go_wp2_with (first
    | (go_at_call 122; refine (hcb.out _).mono ?_; rintro e9 w9 ⟨rfl, hw9⟩; rw [hw9]; clear hw9)
    | fail)
  go_ret
  exact ⟨rfl, (Below.refl _ _).alloc (Nat.le_refl _) _⟩
theorem bnd_clear (c v h : Int) (w : World) : Calls Try.prog 126 #[.agg #[.int .i64 c, .int .i64 v, .int .i64 h]] w fun e w' => e = .returned (.bool (decide (((0 ≤ c ∧ c ≤ 7) ∧ 1 ≤ v ∧ v ≤ 200) ∧ 0 ≤ h ∧ h ≤ 2))) ∧ Below w.heap.size w w' := by
  by_cases hx : (0 ≤ c ∧ c ≤ 7) ∧ 1 ≤ v ∧ v ≤ 200
  · have dx : decide ((0 ≤ c ∧ c ≤ 7) ∧ 1 ≤ v ∧ v ≤ 200) = true := by simpa using hx
    have dz : decide (((0 ≤ c ∧ c ≤ 7) ∧ 1 ≤ v ∧ v ≤ 200) ∧ 0 ≤ h ∧ h ≤ 2) = !decide (h < 0 ∨ 3 ≤ h) := by
      by_cases hy : h < 0 ∨ 3 ≤ h
      · simp [hy]; omega
      · simp [hy]; omega
    rw [dz]
    clear dz hx
    have hcb := hide (nonode_any h)
    generalize decide (h < 0 ∨ 3 ≤ h) = b9 at hcb ⊢
    go_enter Try.func126, Try.ntmps126
    go_wp2_with (first
      | (go_at_call 121; refine (written_any _ _ _).mono ?_; rintro e9 w9 ⟨rfl, hw9⟩; rw [hw9, dx]; clear hw9)
      | (go_at_call 127; refine (hcb.out _).mono ?_; rintro e9 w9 ⟨rfl, hw9⟩; rw [hw9]; clear hw9)
      | fail)
    go_ret
    exact ⟨rfl, (Below.refl _ _).alloc (Nat.le_refl _) _⟩
  · have dx : decide ((0 ≤ c ∧ c ≤ 7) ∧ 1 ≤ v ∧ v ≤ 200) = false := by simpa using hx
    have dz : decide (((0 ≤ c ∧ c ≤ 7) ∧ 1 ≤ v ∧ v ≤ 200) ∧ 0 ≤ h ∧ h ≤ 2) = false := by simp at hx ⊢; omega
    rw [dz]
    clear dz hx
    go_enter Try.func126, Try.ntmps126
    go_wp2_with (first
      | (go_at_call 121; refine (written_any _ _ _).mono ?_; rintro e9 w9 ⟨rfl, hw9⟩; rw [hw9, dx]; clear hw9)
      | fail)
    go_ret
    exact ⟨rfl, (Below.refl _ _).alloc (Nat.le_refl _) _⟩
/-- b tells whether p holds. -/
def TellsB (b : Bool) (p : Prop) : Prop := b = true ↔ p
theorem tellsB (p : Prop) : ∃ b : Bool, TellsB b p := by
  by_cases h : p
  · exact ⟨true, by simp [TellsB, h]⟩
  · exact ⟨false, by simp [TellsB, h]⟩
theorem tellsB_of (p : Prop) [Decidable p] : TellsB (decide p) p := by simp [TellsB]
theorem gensok_b (ao : Option Addr) (n cap : Nat) (f : Nat → Int) (w : World) (hn : n ≤ 1048576) (hcap : n ≤ cap) (hs : SL .i64 w ao n f) (b : Bool) (hb : TellsB b (GOk f n)) :
    Calls Try.prog 130 #[.slice ao n cap] w fun e w' => e = .returned (.bool b) ∧ ∃ q, w' = w.drewN q :=
  (gensok_impl ao n cap f w hn hcap hs).mono fun e w' ⟨h1, h2⟩ => ⟨by
    rcases h1 with ⟨h, rfl⟩ | ⟨h, rfl⟩
    · rw [hb.2 h]
    · cases b with
      | false => rfl
      | true => exact absurd (hb.1 rfl) h, h2⟩
theorem samemsg_b (ao bo : Option Addr) (n m ca cb : Nat) (f g : Nat → Int) (k c v h k' c' v' h' : Int) (w : World) (hn : n ≤ 1048576) (hA : SL .i64 w ao n f) (hB : SL .i64 w bo m g) (b : Bool) (hb : TellsB b ((k = k' ∧ c = c' ∧ v = v' ∧ h = h') ∧ SameI f g n m)) :
    Calls Try.prog 67 #[.agg #[.int .i64 k, .int .i64 c, .int .i64 v, .int .i64 h, .slice ao n ca], .agg #[.int .i64 k', .int .i64 c', .int .i64 v', .int .i64 h', .slice bo m cb]] w fun e w' => e = .returned (.bool b) ∧ Below w.heap.size w w' :=
  (samemsg_any ao bo n m ca cb f g k c v h k' c' v' h' w hn hA hB).mono fun e w' ⟨h1, h2⟩ => ⟨by
    rcases h1 with ⟨h, rfl⟩ | ⟨h, rfl⟩
    · rw [hb.2 h]
    · cases b with
      | false => rfl
      | true => exact absurd (hb.1 rfl) h, h2⟩
theorem bnd_done (ao : Option Addr) (n cap : Nat) (f : Nat → Int) (v : Int) (w : World) (hn : n ≤ 1048576) (hcap : n ≤ cap) (hs : SL .i64 w ao n f) (b : Bool) (hb : TellsB b ((0 ≤ v ∧ v ≤ 200) ∧ GOk f n)) :
    Calls Try.prog 129 #[.agg #[.int .i64 v, .slice ao n cap]] w fun e w' => e = .returned (.bool b) ∧ Below w.heap.size w w' := by
  have HS : Hid (∀ o : Obj, SL .i64 (w.alloc o) ao n f) := fun o => hs.below ((Below.refl _ _).alloc (Nat.le_refl _) o)
  have HB : Hid (∀ (o : Obj) (q : Nat), Below w.heap.size w ((w.alloc o).drewN q)) := fun o q => Below.drawn ((Below.refl _ _).alloc (Nat.le_refl _) o) q
  have HB0 : Hid (∀ (o : Obj), Below w.heap.size w (w.alloc o)) := fun o => (Below.refl _ _).alloc (Nat.le_refl _) o
  have HT := hide hb
  clear hs hb
  by_cases hv : v < 0 ∨ 200 < v
  · have dv : decide (v < 0 ∨ 200 < v) = true := by simpa using hv
    obtain rfl : b = false := by
      cases b with
      | false => rfl
      | true => exact absurd (HT.out.1 rfl).1 (by omega)
    clear hv HT
    go_enter Try.func129, Try.ntmps129
    go_wp2_with (first
      | (go_at_call 124; refine (nowrite_any _ _).mono ?_; rintro e9 w9 ⟨rfl, hw9⟩; rw [hw9, dv]; clear hw9)
      | fail)
    go_ret
    exact ⟨rfl, HB0.out _⟩
  · have dv : decide (v < 0 ∨ 200 < v) = false := by simpa using hv
    have HG : Hid (TellsB b (GOk f n)) := ⟨fun h => (HT.out.1 h).2, fun h => HT.out.2 ⟨by omega, h⟩⟩
    clear hv HT
    go_enter Try.func129, Try.ntmps129
    go_wp2_with (first
      | (go_at_call 124; refine (nowrite_any _ _).mono ?_; rintro e9 w9 ⟨rfl, hw9⟩; rw [hw9, dv]; clear hw9)
      | (go_at_call 130; refine (gensok_b ao n cap f _ hn hcap (HS.out _) b HG.out).mono ?_; rintro e9 w9 ⟨rfl, q9, hw9⟩; rw [hw9]; clear hw9)
      | fail)
    go_ret
    exact ⟨rfl, HB.out _ _⟩
end Go.Proofs.Ythhkmfgccbkkhaa

/- MsgOk of the program. -/
namespace Go.Proofs.Ythhkmfgccbkkhaa
open Go.ChangeShapes Go.WideShapes Go.ChangeAt Go.RowKit
set_option linter.unusedVariables false
set_option linter.unusedSimpArgs false

@[go_sem] theorem na_data (x : Value) (w : World) : (nilAhead 242 107 x "loop.example/g00399/impl.inBounds").run Try.prog w = .ok (some false) w := by kernel_rfl
@[go_sem] theorem me_data (x : Value) (w : World) : (method 242 107 x "loop.example/g00399/impl.inBounds").run Try.prog w = .ok (120, x) w := by kernel_rfl
@[go_sem] theorem na_ack (x : Value) (w : World) : (nilAhead 242 108 x "loop.example/g00399/impl.inBounds").run Try.prog w = .ok (some false) w := by kernel_rfl
@[go_sem] theorem me_ack (x : Value) (w : World) : (method 242 108 x "loop.example/g00399/impl.inBounds").run Try.prog w = .ok (125, x) w := by kernel_rfl
@[go_sem] theorem na_clear (x : Value) (w : World) : (nilAhead 242 110 x "loop.example/g00399/impl.inBounds").run Try.prog w = .ok (some false) w := by kernel_rfl
@[go_sem] theorem me_clear (x : Value) (w : World) : (method 242 110 x "loop.example/g00399/impl.inBounds").run Try.prog w = .ok (126, x) w := by kernel_rfl
@[go_sem] theorem na_copy (x : Value) (w : World) : (nilAhead 242 111 x "loop.example/g00399/impl.inBounds").run Try.prog w = .ok (some false) w := by kernel_rfl
@[go_sem] theorem me_copy (x : Value) (w : World) : (method 242 111 x "loop.example/g00399/impl.inBounds").run Try.prog w = .ok (128, x) w := by kernel_rfl
@[go_sem] theorem na_done (x : Value) (w : World) : (nilAhead 242 113 x "loop.example/g00399/impl.inBounds").run Try.prog w = .ok (some false) w := by kernel_rfl
@[go_sem] theorem me_done (x : Value) (w : World) : (method 242 113 x "loop.example/g00399/impl.inBounds").run Try.prog w = .ok (129, x) w := by kernel_rfl

set_option maxHeartbeats 1000000 in
set_option maxRecDepth 100000 in
theorem msgok1i (ao : Option Addr) (n cap : Nat) (f : Nat → Int) (c v h : Int) (w : World) (hn : n ≤ 1048576) (hcap : n ≤ cap) (hs : SL .i64 w ao n f) :
    Calls Try.prog 22 #[.agg #[.int .i64 1, .int .i64 c, .int .i64 v, .int .i64 h, .slice ao n cap]] w fun e w' => Tells w w' e (MOk 1 c v h f n) := by
  have HM : Hid (MOk 1 c v h f n ↔ ((0 ≤ c ∧ c ≤ 7) ∧ 1 ≤ v ∧ v ≤ 200) ∧ ((1 : Int) = 1 ∧ c = c ∧ v = v ∧ h = 0) ∧ SameI f f n 0) := by
    show _ ↔ _
    unfold MOk SameI
    constructor
    · rintro (x | x)
      all_goals first
        | exact absurd x.1 (by omega)
        | exact ⟨⟨by omega, x.2.1⟩, by omega, rfl, fun _ _ => rfl⟩
        | exact ⟨by have := x.2.2.2.1; split at this <;> omega, by omega, by omega, fun _ _ => rfl⟩
    · rintro ⟨x, y, z, _⟩
      first
        | exact .inl ⟨rfl, x.2, by omega, by omega, by omega⟩
        | exact .inr ⟨by omega, by omega, by omega, by split <;> omega, by omega⟩
  obtain ⟨W, hW⟩ : ∃ W, W = w.alloc (.cells #[.int .i64 1, .int .i64 c, .int .i64 v, .int .i64 h, .slice ao n cap] 26) := ⟨_, rfl⟩
  have M1 : MB W w.heap.size 26 1 c v h ao n cap := by rw [hW]; exact MB.new w _ _ c v h ao n cap
  have hb : Below w.heap.size w W := by rw [hW]; exact (Below.refl _ _).alloc (Nat.le_refl _) _
  have HA := hide (hs.below hb)
  have HB0 := hide hb
  clear hs hb
  have hbb := tellsB_of ((0 ≤ c ∧ c ≤ 7) ∧ 1 ≤ v ∧ v ≤ 200)
  have hbnd := hide (bnd_data c v)
  generalize decide ((0 ≤ c ∧ c ≤ 7) ∧ 1 ≤ v ∧ v ≤ 200) = b at hbb hbnd
  obtain ⟨b2, hbb2⟩ := tellsB (((1 : Int) = 1 ∧ c = c ∧ v = v ∧ h = 0) ∧ SameI f f n 0)
  have hsame : Hid (∀ W, SL .i64 W ao n f → Calls Try.prog 67 #[.agg #[.int .i64 1, .int .i64 c, .int .i64 v, .int .i64 h, .slice ao n cap], .agg #[.int .i64 1, .int .i64 c, .int .i64 v, .int .i64 0, .slice none 0 0]] W fun e w' => e = .returned (.bool b2) ∧ Below W.heap.size W w') := fun W hW => samemsg_b ao none n 0 cap 0 f f 1 c v h 1 c v 0 W hn hW (fun i hi => absurd hi (Nat.not_lt_zero _)) b2 hbb2
  have HN : b = false → Hid (¬ MOk 1 c v h f n) := fun e x => by rw [e] at hbb; exact absurd (hbb.2 (HM.out.1 x).1) (by simp)
  have HY : b = true → Hid (b2 = true ↔ MOk 1 c v h f n) := fun e => (show _ ↔ _ from ⟨fun e2 => HM.out.2 ⟨hbb.1 e, hbb2.1 e2⟩, fun x => hbb2.2 (HM.out.1 x).2⟩)
  clear hbb hbb2 HM
  cases b with
  | false =>
    clear HY hsame
    replace HN := HN rfl
    go_enter Try.func22, Try.ntmps22
    go_wp2_with fail
    rw [← hW]
    refine (sayof1 ao n cap c v h _).mono ?_
    rintro e w1 ⟨rfl, b1⟩
    have H5 : Hid (MB w1.drew w.heap.size 26 1 c v h ao n cap ∧ SL .i64 w1.drew ao n f ∧ Below w.heap.size w w1.drew) := ⟨M1.below (Below.drawn b1 1) M1.lt, HA.out.below (Below.drawn b1 1), HB0.out.trans ((Below.drawn b1 1).mono HB0.out.size)⟩
    clear hW M1 HA HB0 b1
    go_wp2_with fail
    obtain ⟨m0, m1, m2, m3, m4⟩ := (show MB w1 w.heap.size 26 1 c v h ao n cap from H5.out.1).cells
    refine wp_region_held_drew (S := (fun w' => w'.cell? ⟨w.heap.size, 0, none⟩ = some (.int .i64 1) ∧ w'.cell? ⟨w.heap.size, 1, none⟩ = some (.int .i64 c) ∧ w'.cell? ⟨w.heap.size, 2, none⟩ = some (.int .i64 v) ∧ w'.cell? ⟨w.heap.size, 3, none⟩ = some (.int .i64 h) ∧ w'.cell? ⟨w.heap.size, 4, none⟩ = some (.slice ao n cap))) (by kernel_rfl) ?_ (fun hHeld => ?_)
    · exact ⟨m0, m1, m2, m3, m4⟩
    refine wpAnyH_take (i := 0) (oi := { dst := some 6, op := Op.move (Operand.tmp 3), type := 78, pos := "l04_msg.go:60", after := #[], guard := none }) (v := ?_) rfl (by kernel_rfl) (by kernel_rfl) (by kernel_rfl) (fun _ _ _ h => h) (Or.inl ⟨by rfl, ?_⟩) (by assumption) ?_
    rotate_left 1
    · (intro wq hSw; (try dsimp only at hSw); go_simp; try with_reducible rfl)
    try simp only [Act.put, List.setIfInBounds_toArray, List.set_cons_zero, List.set_cons_succ]
    refine wpAnyH_take (i := 1) (oi := { dst := some 7, op := Op.binOp BinOp.neq 78 (Operand.tmp 6) (Operand.const Value.nilIface) 78, type := 4, pos := "l04_msg.go:60", after := #[{ on := 0, ground := Ground.data }], guard := none }) (v := ?_) rfl (by kernel_rfl) (by kernel_rfl) (by kernel_rfl) (fun _ _ _ h => h) (Or.inl ⟨by rfl, ?_⟩) (by assumption) ?_
    rotate_left 1
    · (intro wq hSw; (try dsimp only at hSw); go_simp; try with_reducible rfl)
    try simp only [Act.put, List.setIfInBounds_toArray, List.set_cons_zero, List.set_cons_succ]
    refine wpAnyH_take (i := 2) (oi := { dst := some 8, op := Op.move (Operand.tmp 7), type := 4, pos := "l04_msg.go:60", after := #[{ on := 1, ground := Ground.data }], guard := none }) (v := ?_) rfl (by kernel_rfl) (by kernel_rfl) (by kernel_rfl) (fun _ _ _ h => h) (Or.inl ⟨by rfl, ?_⟩) (by assumption) ?_
    rotate_left 1
    · (intro wq hSw; (try dsimp only at hSw); go_simp; try with_reducible rfl)
    try simp only [Act.put, List.setIfInBounds_toArray, List.set_cons_zero, List.set_cons_succ]
    refine wpAnyH_take (i := 3) (oi := { dst := some 9, op := Op.move (Operand.tmp 3), type := 78, pos := "l04_msg.go:60", after := #[{ on := 2, ground := Ground.guard }], guard := some (2, true) }) (v := ?_) rfl (by kernel_rfl) (by kernel_rfl) (by kernel_rfl) (fun _ _ _ h => h) (Or.inl ⟨by rfl, ?_⟩) (by assumption) ?_
    rotate_left 1
    · (intro wq hSw; (try dsimp only at hSw); go_simp; try with_reducible rfl)
    try simp only [Act.put, List.setIfInBounds_toArray, List.set_cons_zero, List.set_cons_succ]
    refine wpAnyH_ready (rs := [4]) (by kernel_rfl) (by simp) ?_
    refine AllReadyH.cons (o := { dst := some 10, op := Op.call { callee := Callee.invoke (Operand.tmp 9) "loop.example/g00399/impl.inBounds", args := #[], argTypes := #[] }, type := 4, pos := "l04_msg.go:60", after := #[{ on := 3, ground := Ground.data }, { on := 2, ground := Ground.chain }, { on := 2, ground := Ground.guard }], guard := some (2, true) }) rfl (fun K hK => ?_) AllReadyH.nil
    go_simp
    refine (hbnd.out _).mono ?_
    rintro e w6 ⟨rfl, b6⟩
    have H6 : Hid (MB w6 w.heap.size 26 1 c v h ao n cap ∧ SL .i64 w6 ao n f ∧ Below w.heap.size w w6) := ⟨H5.out.1.below b6 H5.out.1.lt, H5.out.2.1.below b6, H5.out.2.2.trans (b6.mono H5.out.2.2.size)⟩
    have hk6 := H6.out.1.cells
    clear b6
    go_wp2_with fail
    refine hK.out _ _ ?_ (fun hHeld => ?_)
    · exact hk6
    clear hK K
    try simp only [Act.put, List.setIfInBounds_toArray, List.set_cons_zero, List.set_cons_succ]
    refine wpAnyH_take (i := 5) (oi := { dst := some 11, op := Op.pick (Operand.tmp 8) (Operand.tmp 10) (Operand.const (Value.bool false)), type := 4, pos := "l04_msg.go:60", after := #[{ on := 2, ground := Ground.data }, { on := 4, ground := Ground.data }], guard := none }) (v := ?_) rfl (by kernel_rfl) (by kernel_rfl) (by kernel_rfl) (fun _ _ _ h => h) (Or.inl ⟨by rfl, ?_⟩) (by assumption) ?_
    rotate_left 1
    · (intro wq hSw; (try dsimp only at hSw); go_simp; try with_reducible rfl)
    try simp only [Act.put, List.setIfInBounds_toArray, List.set_cons_zero, List.set_cons_succ]
    refine wpAnyH_take (i := 6) (oi := { dst := some 12, op := Op.move (Operand.tmp 11), type := 4, pos := "l04_msg.go:60", after := #[{ on := 5, ground := Ground.data }, { on := 4, ground := Ground.chain }], guard := none }) (v := ?_) rfl (by kernel_rfl) (by kernel_rfl) (by kernel_rfl) (fun _ _ _ h => h) (Or.inl ⟨by rfl, ?_⟩) (by assumption) ?_
    rotate_left 1
    · (intro wq hSw; (try dsimp only at hSw); go_simp; try with_reducible rfl)
    try simp only [Act.put, List.setIfInBounds_toArray, List.set_cons_zero, List.set_cons_succ]
    refine wpAnyH_take (i := 7) (oi := { dst := some 13, op := Op.load 26 (Operand.tmp 1), type := 26, pos := "l04_msg.go:60", after := #[{ on := 6, ground := Ground.guard }], guard := some (6, true) }) (v := undef) rfl (by kernel_rfl) (by kernel_rfl) (by kernel_rfl) (fun _ _ _ h => h) (Or.inr ⟨by rfl, rfl⟩) (by assumption) ?_
    try simp only [Act.put, List.setIfInBounds_toArray, List.set_cons_zero, List.set_cons_succ]
    refine wpAnyH_take (i := 8) (oi := { dst := some 14, op := Op.move (Operand.tmp 3), type := 78, pos := "l04_msg.go:60", after := #[{ on := 6, ground := Ground.guard }], guard := some (6, true) }) (v := undef) rfl (by kernel_rfl) (by kernel_rfl) (by kernel_rfl) (fun _ _ _ h => h) (Or.inr ⟨by rfl, rfl⟩) (by assumption) ?_
    try simp only [Act.put, List.setIfInBounds_toArray, List.set_cons_zero, List.set_cons_succ]
    refine wpAnyH_take (i := 9) (oi := { dst := some 15, op := Op.call { callee := Callee.value (Operand.func 68), args := #[Operand.tmp 14], argTypes := #[78] }, type := 26, pos := "l04_msg.go:60", after := #[{ on := 8, ground := Ground.data }, { on := 6, ground := Ground.chain }, { on := 6, ground := Ground.guard }], guard := some (6, true) }) (v := undef) rfl (by kernel_rfl) (by kernel_rfl) (by kernel_rfl) (fun _ _ _ h => h) (Or.inr ⟨by rfl, rfl⟩) (by assumption) ?_
    try simp only [Act.put, List.setIfInBounds_toArray, List.set_cons_zero, List.set_cons_succ]
    refine wpAnyH_take (i := 10) (oi := { dst := some 16, op := Op.call { callee := Callee.value (Operand.func 67), args := #[Operand.tmp 13, Operand.tmp 15], argTypes := #[26, 26] }, type := 4, pos := "l04_msg.go:60", after := #[{ on := 7, ground := Ground.data }, { on := 9, ground := Ground.data }, { on := 9, ground := Ground.chain }, { on := 6, ground := Ground.guard }], guard := some (6, true) }) (v := undef) rfl (by kernel_rfl) (by kernel_rfl) (by kernel_rfl) (fun _ _ _ h => h) (Or.inr ⟨by rfl, rfl⟩) (by assumption) ?_
    try simp only [Act.put, List.setIfInBounds_toArray, List.set_cons_zero, List.set_cons_succ]
    refine wpAnyH_take (i := 11) (oi := { dst := some 17, op := Op.pick (Operand.tmp 12) (Operand.tmp 16) (Operand.const (Value.bool false)), type := 4, pos := "l04_msg.go:60", after := #[{ on := 6, ground := Ground.data }, { on := 10, ground := Ground.data }], guard := none }) (v := ?_) rfl (by kernel_rfl) (by kernel_rfl) (by kernel_rfl) (fun _ _ _ h => h) (Or.inl ⟨by rfl, ?_⟩) (by assumption) ?_
    rotate_left 1
    · (intro wq hSw; (try dsimp only at hSw); go_simp; try with_reducible rfl)
    try simp only [Act.put, List.setIfInBounds_toArray, List.set_cons_zero, List.set_cons_succ]
    refine wpAnyH_take (i := 12) (oi := { dst := some 2, op := Op.assign (Operand.tmp 17), type := 4, pos := "l04_msg.go:60", after := #[{ on := 11, ground := Ground.data }, { on := 10, ground := Ground.chain }, { on := 0, ground := Ground.phase }, { on := 1, ground := Ground.phase }, { on := 2, ground := Ground.phase }, { on := 3, ground := Ground.phase }, { on := 4, ground := Ground.phase }, { on := 5, ground := Ground.phase }, { on := 6, ground := Ground.phase }, { on := 7, ground := Ground.phase }, { on := 8, ground := Ground.phase }, { on := 9, ground := Ground.phase }, { on := 10, ground := Ground.phase }, { on := 11, ground := Ground.phase }], guard := none }) (v := ?_) rfl (by kernel_rfl) (by kernel_rfl) (by kernel_rfl) (fun _ _ _ h => h) (Or.inl ⟨by rfl, ?_⟩) (by assumption) ?_
    rotate_left 1
    · (intro wq hSw; (try dsimp only at hSw); go_simp; try with_reducible rfl)
    try simp only [Act.put, List.setIfInBounds_toArray, List.set_cons_zero, List.set_cons_succ]
    refine wpAnyH_done (by kernel_rfl) ?_ _
    go_wp2
    go_ret
    exact Tells.no HN.out H6.out.2.2
  | true =>
    clear HN
    replace HY := HY rfl
    go_enter Try.func22, Try.ntmps22
    go_wp2_with fail
    rw [← hW]
    refine (sayof1 ao n cap c v h _).mono ?_
    rintro e w1 ⟨rfl, b1⟩
    have H5 : Hid (MB w1.drew w.heap.size 26 1 c v h ao n cap ∧ SL .i64 w1.drew ao n f ∧ Below w.heap.size w w1.drew) := ⟨M1.below (Below.drawn b1 1) M1.lt, HA.out.below (Below.drawn b1 1), HB0.out.trans ((Below.drawn b1 1).mono HB0.out.size)⟩
    clear hW M1 HA HB0 b1
    go_wp2_with fail
    obtain ⟨m0, m1, m2, m3, m4⟩ := (show MB w1 w.heap.size 26 1 c v h ao n cap from H5.out.1).cells
    refine wp_region_held_drew (S := (fun w' => w'.cell? ⟨w.heap.size, 0, none⟩ = some (.int .i64 1) ∧ w'.cell? ⟨w.heap.size, 1, none⟩ = some (.int .i64 c) ∧ w'.cell? ⟨w.heap.size, 2, none⟩ = some (.int .i64 v) ∧ w'.cell? ⟨w.heap.size, 3, none⟩ = some (.int .i64 h) ∧ w'.cell? ⟨w.heap.size, 4, none⟩ = some (.slice ao n cap))) (by kernel_rfl) ?_ (fun hHeld => ?_)
    · exact ⟨m0, m1, m2, m3, m4⟩
    refine wpAnyH_take (i := 0) (oi := { dst := some 6, op := Op.move (Operand.tmp 3), type := 78, pos := "l04_msg.go:60", after := #[], guard := none }) (v := ?_) rfl (by kernel_rfl) (by kernel_rfl) (by kernel_rfl) (fun _ _ _ h => h) (Or.inl ⟨by rfl, ?_⟩) (by assumption) ?_
    rotate_left 1
    · (intro wq hSw; (try dsimp only at hSw); go_simp; try with_reducible rfl)
    try simp only [Act.put, List.setIfInBounds_toArray, List.set_cons_zero, List.set_cons_succ]
    refine wpAnyH_take (i := 1) (oi := { dst := some 7, op := Op.binOp BinOp.neq 78 (Operand.tmp 6) (Operand.const Value.nilIface) 78, type := 4, pos := "l04_msg.go:60", after := #[{ on := 0, ground := Ground.data }], guard := none }) (v := ?_) rfl (by kernel_rfl) (by kernel_rfl) (by kernel_rfl) (fun _ _ _ h => h) (Or.inl ⟨by rfl, ?_⟩) (by assumption) ?_
    rotate_left 1
    · (intro wq hSw; (try dsimp only at hSw); go_simp; try with_reducible rfl)
    try simp only [Act.put, List.setIfInBounds_toArray, List.set_cons_zero, List.set_cons_succ]
    refine wpAnyH_take (i := 2) (oi := { dst := some 8, op := Op.move (Operand.tmp 7), type := 4, pos := "l04_msg.go:60", after := #[{ on := 1, ground := Ground.data }], guard := none }) (v := ?_) rfl (by kernel_rfl) (by kernel_rfl) (by kernel_rfl) (fun _ _ _ h => h) (Or.inl ⟨by rfl, ?_⟩) (by assumption) ?_
    rotate_left 1
    · (intro wq hSw; (try dsimp only at hSw); go_simp; try with_reducible rfl)
    try simp only [Act.put, List.setIfInBounds_toArray, List.set_cons_zero, List.set_cons_succ]
    refine wpAnyH_take (i := 3) (oi := { dst := some 9, op := Op.move (Operand.tmp 3), type := 78, pos := "l04_msg.go:60", after := #[{ on := 2, ground := Ground.guard }], guard := some (2, true) }) (v := ?_) rfl (by kernel_rfl) (by kernel_rfl) (by kernel_rfl) (fun _ _ _ h => h) (Or.inl ⟨by rfl, ?_⟩) (by assumption) ?_
    rotate_left 1
    · (intro wq hSw; (try dsimp only at hSw); go_simp; try with_reducible rfl)
    try simp only [Act.put, List.setIfInBounds_toArray, List.set_cons_zero, List.set_cons_succ]
    refine wpAnyH_ready (rs := [4]) (by kernel_rfl) (by simp) ?_
    refine AllReadyH.cons (o := { dst := some 10, op := Op.call { callee := Callee.invoke (Operand.tmp 9) "loop.example/g00399/impl.inBounds", args := #[], argTypes := #[] }, type := 4, pos := "l04_msg.go:60", after := #[{ on := 3, ground := Ground.data }, { on := 2, ground := Ground.chain }, { on := 2, ground := Ground.guard }], guard := some (2, true) }) rfl (fun K hK => ?_) AllReadyH.nil
    go_simp
    refine (hbnd.out _).mono ?_
    rintro e w6 ⟨rfl, b6⟩
    have H6 : Hid (MB w6 w.heap.size 26 1 c v h ao n cap ∧ SL .i64 w6 ao n f ∧ Below w.heap.size w w6) := ⟨H5.out.1.below b6 H5.out.1.lt, H5.out.2.1.below b6, H5.out.2.2.trans (b6.mono H5.out.2.2.size)⟩
    have hk6 := H6.out.1.cells
    clear b6
    go_wp2_with fail
    refine hK.out _ _ ?_ (fun hHeld => ?_)
    · exact hk6
    clear hK K
    try simp only [Act.put, List.setIfInBounds_toArray, List.set_cons_zero, List.set_cons_succ]
    refine wpAnyH_take (i := 5) (oi := { dst := some 11, op := Op.pick (Operand.tmp 8) (Operand.tmp 10) (Operand.const (Value.bool false)), type := 4, pos := "l04_msg.go:60", after := #[{ on := 2, ground := Ground.data }, { on := 4, ground := Ground.data }], guard := none }) (v := ?_) rfl (by kernel_rfl) (by kernel_rfl) (by kernel_rfl) (fun _ _ _ h => h) (Or.inl ⟨by rfl, ?_⟩) (by assumption) ?_
    rotate_left 1
    · (intro wq hSw; (try dsimp only at hSw); go_simp; try with_reducible rfl)
    try simp only [Act.put, List.setIfInBounds_toArray, List.set_cons_zero, List.set_cons_succ]
    refine wpAnyH_take (i := 6) (oi := { dst := some 12, op := Op.move (Operand.tmp 11), type := 4, pos := "l04_msg.go:60", after := #[{ on := 5, ground := Ground.data }, { on := 4, ground := Ground.chain }], guard := none }) (v := ?_) rfl (by kernel_rfl) (by kernel_rfl) (by kernel_rfl) (fun _ _ _ h => h) (Or.inl ⟨by rfl, ?_⟩) (by assumption) ?_
    rotate_left 1
    · (intro wq hSw; (try dsimp only at hSw); go_simp; try with_reducible rfl)
    try simp only [Act.put, List.setIfInBounds_toArray, List.set_cons_zero, List.set_cons_succ]
    refine wpAnyH_take (i := 7) (oi := { dst := some 13, op := Op.load 26 (Operand.tmp 1), type := 26, pos := "l04_msg.go:60", after := #[{ on := 6, ground := Ground.guard }], guard := some (6, true) }) (v := ?_) rfl (by kernel_rfl) (by kernel_rfl) (by kernel_rfl) (fun _ _ _ h => h) (Or.inl ⟨by rfl, ?_⟩) (by assumption) ?_
    rotate_left 1
    · (intro wq hSw; (try dsimp only at hSw); go_simp; try with_reducible rfl)
    try simp only [Act.put, List.setIfInBounds_toArray, List.set_cons_zero, List.set_cons_succ]
    refine wpAnyH_take (i := 8) (oi := { dst := some 14, op := Op.move (Operand.tmp 3), type := 78, pos := "l04_msg.go:60", after := #[{ on := 6, ground := Ground.guard }], guard := some (6, true) }) (v := ?_) rfl (by kernel_rfl) (by kernel_rfl) (by kernel_rfl) (fun _ _ _ h => h) (Or.inl ⟨by rfl, ?_⟩) (by assumption) ?_
    rotate_left 1
    · (intro wq hSw; (try dsimp only at hSw); go_simp; try with_reducible rfl)
    try simp only [Act.put, List.setIfInBounds_toArray, List.set_cons_zero, List.set_cons_succ]
    refine wpAnyH_ready (rs := [9]) (by kernel_rfl) (by simp) ?_
    refine AllReadyH.cons (o := { dst := some 15, op := Op.call { callee := Callee.value (Operand.func 68), args := #[Operand.tmp 14], argTypes := #[78] }, type := 26, pos := "l04_msg.go:60", after := #[{ on := 8, ground := Ground.data }, { on := 6, ground := Ground.chain }, { on := 6, ground := Ground.guard }], guard := some (6, true) }) rfl (fun K hK => ?_) AllReadyH.nil
    go_simp
    refine (saidby1 ao n cap c v h _).mono ?_
    rintro e w7 ⟨rfl, b7⟩
    have H7 : Hid (MB w7 w.heap.size 26 1 c v h ao n cap ∧ SL .i64 w7 ao n f ∧ Below w.heap.size w w7) := ⟨H6.out.1.below b7 H6.out.1.lt, H6.out.2.1.below b7, H6.out.2.2.trans (b7.mono H6.out.2.2.size)⟩
    have hk7 := H7.out.1.cells
    clear b7
    go_wp2_with fail
    refine hK.out _ _ ?_ (fun hHeld => ?_)
    · exact hk7
    clear hK K
    try simp only [Act.put, List.setIfInBounds_toArray, List.set_cons_zero, List.set_cons_succ]
    refine wpAnyH_ready (rs := [10]) (by kernel_rfl) (by simp) ?_
    refine AllReadyH.cons (o := { dst := some 16, op := Op.call { callee := Callee.value (Operand.func 67), args := #[Operand.tmp 13, Operand.tmp 15], argTypes := #[26, 26] }, type := 4, pos := "l04_msg.go:60", after := #[{ on := 7, ground := Ground.data }, { on := 9, ground := Ground.data }, { on := 9, ground := Ground.chain }, { on := 6, ground := Ground.guard }], guard := some (6, true) }) rfl (fun K hK => ?_) AllReadyH.nil
    go_simp
    refine (hsame.out _ H7.out.2.1).mono ?_
    rintro e w8 ⟨rfl, b8⟩
    have H8 : Hid (MB w8 w.heap.size 26 1 c v h ao n cap ∧ SL .i64 w8 ao n f ∧ Below w.heap.size w w8) := ⟨H7.out.1.below b8 H7.out.1.lt, H7.out.2.1.below b8, H7.out.2.2.trans (b8.mono H7.out.2.2.size)⟩
    have hk8 := H8.out.1.cells
    clear b8
    go_wp2_with fail
    refine hK.out _ _ ?_ (fun hHeld => ?_)
    · exact hk8
    clear hK K
    try simp only [Act.put, List.setIfInBounds_toArray, List.set_cons_zero, List.set_cons_succ]
    refine wpAnyH_take (i := 11) (oi := { dst := some 17, op := Op.pick (Operand.tmp 12) (Operand.tmp 16) (Operand.const (Value.bool false)), type := 4, pos := "l04_msg.go:60", after := #[{ on := 6, ground := Ground.data }, { on := 10, ground := Ground.data }], guard := none }) (v := ?_) rfl (by kernel_rfl) (by kernel_rfl) (by kernel_rfl) (fun _ _ _ h => h) (Or.inl ⟨by rfl, ?_⟩) (by assumption) ?_
    rotate_left 1
    · (intro wq hSw; (try dsimp only at hSw); go_simp; try with_reducible rfl)
    try simp only [Act.put, List.setIfInBounds_toArray, List.set_cons_zero, List.set_cons_succ]
    refine wpAnyH_take (i := 12) (oi := { dst := some 2, op := Op.assign (Operand.tmp 17), type := 4, pos := "l04_msg.go:60", after := #[{ on := 11, ground := Ground.data }, { on := 10, ground := Ground.chain }, { on := 0, ground := Ground.phase }, { on := 1, ground := Ground.phase }, { on := 2, ground := Ground.phase }, { on := 3, ground := Ground.phase }, { on := 4, ground := Ground.phase }, { on := 5, ground := Ground.phase }, { on := 6, ground := Ground.phase }, { on := 7, ground := Ground.phase }, { on := 8, ground := Ground.phase }, { on := 9, ground := Ground.phase }, { on := 10, ground := Ground.phase }, { on := 11, ground := Ground.phase }], guard := none }) (v := ?_) rfl (by kernel_rfl) (by kernel_rfl) (by kernel_rfl) (fun _ _ _ h => h) (Or.inl ⟨by rfl, ?_⟩) (by assumption) ?_
    rotate_left 1
    · (intro wq hSw; (try dsimp only at hSw); go_simp; try with_reducible rfl)
    try simp only [Act.put, List.setIfInBounds_toArray, List.set_cons_zero, List.set_cons_succ]
    refine wpAnyH_done (by kernel_rfl) ?_ _
    go_wp2
    go_ret
    cases b2 with
    | true => exact Tells.yes (HY.out.1 rfl) H8.out.2.2
    | false => exact Tells.no (fun x => absurd (HY.out.2 x) (by simp)) H8.out.2.2

set_option maxHeartbeats 1000000 in
set_option maxRecDepth 100000 in
theorem msgok2i (ao : Option Addr) (n cap : Nat) (f : Nat → Int) (c v h : Int) (w : World) (hn : n ≤ 1048576) (hcap : n ≤ cap) (hs : SL .i64 w ao n f) :
    Calls Try.prog 22 #[.agg #[.int .i64 2, .int .i64 c, .int .i64 v, .int .i64 h, .slice ao n cap]] w fun e w' => Tells w w' e (MOk 2 c v h f n) := by
  have HM : Hid (MOk 2 c v h f n ↔ ((0 ≤ c ∧ c ≤ 7) ∧ 0 ≤ v ∧ v ≤ 200) ∧ ((2 : Int) = 2 ∧ c = c ∧ v = v ∧ h = 0) ∧ SameI f f n 0) := by
    show _ ↔ _
    unfold MOk SameI
    constructor
    · rintro (x | x)
      all_goals first
        | exact absurd x.1 (by omega)
        | exact ⟨⟨by omega, x.2.1⟩, by omega, rfl, fun _ _ => rfl⟩
        | exact ⟨by have := x.2.2.2.1; split at this <;> omega, by omega, by omega, fun _ _ => rfl⟩
    · rintro ⟨x, y, z, _⟩
      first
        | exact .inl ⟨rfl, x.2, by omega, by omega, by omega⟩
        | exact .inr ⟨by omega, by omega, by omega, by split <;> omega, by omega⟩
  obtain ⟨W, hW⟩ : ∃ W, W = w.alloc (.cells #[.int .i64 2, .int .i64 c, .int .i64 v, .int .i64 h, .slice ao n cap] 26) := ⟨_, rfl⟩
  have M1 : MB W w.heap.size 26 2 c v h ao n cap := by rw [hW]; exact MB.new w _ _ c v h ao n cap
  have hb : Below w.heap.size w W := by rw [hW]; exact (Below.refl _ _).alloc (Nat.le_refl _) _
  have HA := hide (hs.below hb)
  have HB0 := hide hb
  clear hs hb
  have hbb := tellsB_of ((0 ≤ c ∧ c ≤ 7) ∧ 0 ≤ v ∧ v ≤ 200)
  have hbnd := hide (bnd_ack c v)
  generalize decide ((0 ≤ c ∧ c ≤ 7) ∧ 0 ≤ v ∧ v ≤ 200) = b at hbb hbnd
  obtain ⟨b2, hbb2⟩ := tellsB (((2 : Int) = 2 ∧ c = c ∧ v = v ∧ h = 0) ∧ SameI f f n 0)
  have hsame : Hid (∀ W, SL .i64 W ao n f → Calls Try.prog 67 #[.agg #[.int .i64 2, .int .i64 c, .int .i64 v, .int .i64 h, .slice ao n cap], .agg #[.int .i64 2, .int .i64 c, .int .i64 v, .int .i64 0, .slice none 0 0]] W fun e w' => e = .returned (.bool b2) ∧ Below W.heap.size W w') := fun W hW => samemsg_b ao none n 0 cap 0 f f 2 c v h 2 c v 0 W hn hW (fun i hi => absurd hi (Nat.not_lt_zero _)) b2 hbb2
  have HN : b = false → Hid (¬ MOk 2 c v h f n) := fun e x => by rw [e] at hbb; exact absurd (hbb.2 (HM.out.1 x).1) (by simp)
  have HY : b = true → Hid (b2 = true ↔ MOk 2 c v h f n) := fun e => (show _ ↔ _ from ⟨fun e2 => HM.out.2 ⟨hbb.1 e, hbb2.1 e2⟩, fun x => hbb2.2 (HM.out.1 x).2⟩)
  clear hbb hbb2 HM
  cases b with
  | false =>
    clear HY hsame
    replace HN := HN rfl
    go_enter Try.func22, Try.ntmps22
    go_wp2_with fail
    rw [← hW]
    refine (sayof2 ao n cap c v h _).mono ?_
    rintro e w1 ⟨rfl, b1⟩
    have H5 : Hid (MB w1.drew w.heap.size 26 2 c v h ao n cap ∧ SL .i64 w1.drew ao n f ∧ Below w.heap.size w w1.drew) := ⟨M1.below (Below.drawn b1 1) M1.lt, HA.out.below (Below.drawn b1 1), HB0.out.trans ((Below.drawn b1 1).mono HB0.out.size)⟩
    clear hW M1 HA HB0 b1
    go_wp2_with fail
    obtain ⟨m0, m1, m2, m3, m4⟩ := (show MB w1 w.heap.size 26 2 c v h ao n cap from H5.out.1).cells
    refine wp_region_held_drew (S := (fun w' => w'.cell? ⟨w.heap.size, 0, none⟩ = some (.int .i64 2) ∧ w'.cell? ⟨w.heap.size, 1, none⟩ = some (.int .i64 c) ∧ w'.cell? ⟨w.heap.size, 2, none⟩ = some (.int .i64 v) ∧ w'.cell? ⟨w.heap.size, 3, none⟩ = some (.int .i64 h) ∧ w'.cell? ⟨w.heap.size, 4, none⟩ = some (.slice ao n cap))) (by kernel_rfl) ?_ (fun hHeld => ?_)
    · exact ⟨m0, m1, m2, m3, m4⟩
    refine wpAnyH_take (i := 0) (oi := { dst := some 6, op := Op.move (Operand.tmp 3), type := 78, pos := "l04_msg.go:60", after := #[], guard := none }) (v := ?_) rfl (by kernel_rfl) (by kernel_rfl) (by kernel_rfl) (fun _ _ _ h => h) (Or.inl ⟨by rfl, ?_⟩) (by assumption) ?_
    rotate_left 1
    · (intro wq hSw; (try dsimp only at hSw); go_simp; try with_reducible rfl)
    try simp only [Act.put, List.setIfInBounds_toArray, List.set_cons_zero, List.set_cons_succ]
    refine wpAnyH_take (i := 1) (oi := { dst := some 7, op := Op.binOp BinOp.neq 78 (Operand.tmp 6) (Operand.const Value.nilIface) 78, type := 4, pos := "l04_msg.go:60", after := #[{ on := 0, ground := Ground.data }], guard := none }) (v := ?_) rfl (by kernel_rfl) (by kernel_rfl) (by kernel_rfl) (fun _ _ _ h => h) (Or.inl ⟨by rfl, ?_⟩) (by assumption) ?_
    rotate_left 1
    · (intro wq hSw; (try dsimp only at hSw); go_simp; try with_reducible rfl)
    try simp only [Act.put, List.setIfInBounds_toArray, List.set_cons_zero, List.set_cons_succ]
    refine wpAnyH_take (i := 2) (oi := { dst := some 8, op := Op.move (Operand.tmp 7), type := 4, pos := "l04_msg.go:60", after := #[{ on := 1, ground := Ground.data }], guard := none }) (v := ?_) rfl (by kernel_rfl) (by kernel_rfl) (by kernel_rfl) (fun _ _ _ h => h) (Or.inl ⟨by rfl, ?_⟩) (by assumption) ?_
    rotate_left 1
    · (intro wq hSw; (try dsimp only at hSw); go_simp; try with_reducible rfl)
    try simp only [Act.put, List.setIfInBounds_toArray, List.set_cons_zero, List.set_cons_succ]
    refine wpAnyH_take (i := 3) (oi := { dst := some 9, op := Op.move (Operand.tmp 3), type := 78, pos := "l04_msg.go:60", after := #[{ on := 2, ground := Ground.guard }], guard := some (2, true) }) (v := ?_) rfl (by kernel_rfl) (by kernel_rfl) (by kernel_rfl) (fun _ _ _ h => h) (Or.inl ⟨by rfl, ?_⟩) (by assumption) ?_
    rotate_left 1
    · (intro wq hSw; (try dsimp only at hSw); go_simp; try with_reducible rfl)
    try simp only [Act.put, List.setIfInBounds_toArray, List.set_cons_zero, List.set_cons_succ]
    refine wpAnyH_ready (rs := [4]) (by kernel_rfl) (by simp) ?_
    refine AllReadyH.cons (o := { dst := some 10, op := Op.call { callee := Callee.invoke (Operand.tmp 9) "loop.example/g00399/impl.inBounds", args := #[], argTypes := #[] }, type := 4, pos := "l04_msg.go:60", after := #[{ on := 3, ground := Ground.data }, { on := 2, ground := Ground.chain }, { on := 2, ground := Ground.guard }], guard := some (2, true) }) rfl (fun K hK => ?_) AllReadyH.nil
    go_simp
    refine (hbnd.out _).mono ?_
    rintro e w6 ⟨rfl, b6⟩
    have H6 : Hid (MB w6 w.heap.size 26 2 c v h ao n cap ∧ SL .i64 w6 ao n f ∧ Below w.heap.size w w6) := ⟨H5.out.1.below b6 H5.out.1.lt, H5.out.2.1.below b6, H5.out.2.2.trans (b6.mono H5.out.2.2.size)⟩
    have hk6 := H6.out.1.cells
    clear b6
    go_wp2_with fail
    refine hK.out _ _ ?_ (fun hHeld => ?_)
    · exact hk6
    clear hK K
    try simp only [Act.put, List.setIfInBounds_toArray, List.set_cons_zero, List.set_cons_succ]
    refine wpAnyH_take (i := 5) (oi := { dst := some 11, op := Op.pick (Operand.tmp 8) (Operand.tmp 10) (Operand.const (Value.bool false)), type := 4, pos := "l04_msg.go:60", after := #[{ on := 2, ground := Ground.data }, { on := 4, ground := Ground.data }], guard := none }) (v := ?_) rfl (by kernel_rfl) (by kernel_rfl) (by kernel_rfl) (fun _ _ _ h => h) (Or.inl ⟨by rfl, ?_⟩) (by assumption) ?_
    rotate_left 1
    · (intro wq hSw; (try dsimp only at hSw); go_simp; try with_reducible rfl)
    try simp only [Act.put, List.setIfInBounds_toArray, List.set_cons_zero, List.set_cons_succ]
    refine wpAnyH_take (i := 6) (oi := { dst := some 12, op := Op.move (Operand.tmp 11), type := 4, pos := "l04_msg.go:60", after := #[{ on := 5, ground := Ground.data }, { on := 4, ground := Ground.chain }], guard := none }) (v := ?_) rfl (by kernel_rfl) (by kernel_rfl) (by kernel_rfl) (fun _ _ _ h => h) (Or.inl ⟨by rfl, ?_⟩) (by assumption) ?_
    rotate_left 1
    · (intro wq hSw; (try dsimp only at hSw); go_simp; try with_reducible rfl)
    try simp only [Act.put, List.setIfInBounds_toArray, List.set_cons_zero, List.set_cons_succ]
    refine wpAnyH_take (i := 7) (oi := { dst := some 13, op := Op.load 26 (Operand.tmp 1), type := 26, pos := "l04_msg.go:60", after := #[{ on := 6, ground := Ground.guard }], guard := some (6, true) }) (v := undef) rfl (by kernel_rfl) (by kernel_rfl) (by kernel_rfl) (fun _ _ _ h => h) (Or.inr ⟨by rfl, rfl⟩) (by assumption) ?_
    try simp only [Act.put, List.setIfInBounds_toArray, List.set_cons_zero, List.set_cons_succ]
    refine wpAnyH_take (i := 8) (oi := { dst := some 14, op := Op.move (Operand.tmp 3), type := 78, pos := "l04_msg.go:60", after := #[{ on := 6, ground := Ground.guard }], guard := some (6, true) }) (v := undef) rfl (by kernel_rfl) (by kernel_rfl) (by kernel_rfl) (fun _ _ _ h => h) (Or.inr ⟨by rfl, rfl⟩) (by assumption) ?_
    try simp only [Act.put, List.setIfInBounds_toArray, List.set_cons_zero, List.set_cons_succ]
    refine wpAnyH_take (i := 9) (oi := { dst := some 15, op := Op.call { callee := Callee.value (Operand.func 68), args := #[Operand.tmp 14], argTypes := #[78] }, type := 26, pos := "l04_msg.go:60", after := #[{ on := 8, ground := Ground.data }, { on := 6, ground := Ground.chain }, { on := 6, ground := Ground.guard }], guard := some (6, true) }) (v := undef) rfl (by kernel_rfl) (by kernel_rfl) (by kernel_rfl) (fun _ _ _ h => h) (Or.inr ⟨by rfl, rfl⟩) (by assumption) ?_
    try simp only [Act.put, List.setIfInBounds_toArray, List.set_cons_zero, List.set_cons_succ]
    refine wpAnyH_take (i := 10) (oi := { dst := some 16, op := Op.call { callee := Callee.value (Operand.func 67), args := #[Operand.tmp 13, Operand.tmp 15], argTypes := #[26, 26] }, type := 4, pos := "l04_msg.go:60", after := #[{ on := 7, ground := Ground.data }, { on := 9, ground := Ground.data }, { on := 9, ground := Ground.chain }, { on := 6, ground := Ground.guard }], guard := some (6, true) }) (v := undef) rfl (by kernel_rfl) (by kernel_rfl) (by kernel_rfl) (fun _ _ _ h => h) (Or.inr ⟨by rfl, rfl⟩) (by assumption) ?_
    try simp only [Act.put, List.setIfInBounds_toArray, List.set_cons_zero, List.set_cons_succ]
    refine wpAnyH_take (i := 11) (oi := { dst := some 17, op := Op.pick (Operand.tmp 12) (Operand.tmp 16) (Operand.const (Value.bool false)), type := 4, pos := "l04_msg.go:60", after := #[{ on := 6, ground := Ground.data }, { on := 10, ground := Ground.data }], guard := none }) (v := ?_) rfl (by kernel_rfl) (by kernel_rfl) (by kernel_rfl) (fun _ _ _ h => h) (Or.inl ⟨by rfl, ?_⟩) (by assumption) ?_
    rotate_left 1
    · (intro wq hSw; (try dsimp only at hSw); go_simp; try with_reducible rfl)
    try simp only [Act.put, List.setIfInBounds_toArray, List.set_cons_zero, List.set_cons_succ]
    refine wpAnyH_take (i := 12) (oi := { dst := some 2, op := Op.assign (Operand.tmp 17), type := 4, pos := "l04_msg.go:60", after := #[{ on := 11, ground := Ground.data }, { on := 10, ground := Ground.chain }, { on := 0, ground := Ground.phase }, { on := 1, ground := Ground.phase }, { on := 2, ground := Ground.phase }, { on := 3, ground := Ground.phase }, { on := 4, ground := Ground.phase }, { on := 5, ground := Ground.phase }, { on := 6, ground := Ground.phase }, { on := 7, ground := Ground.phase }, { on := 8, ground := Ground.phase }, { on := 9, ground := Ground.phase }, { on := 10, ground := Ground.phase }, { on := 11, ground := Ground.phase }], guard := none }) (v := ?_) rfl (by kernel_rfl) (by kernel_rfl) (by kernel_rfl) (fun _ _ _ h => h) (Or.inl ⟨by rfl, ?_⟩) (by assumption) ?_
    rotate_left 1
    · (intro wq hSw; (try dsimp only at hSw); go_simp; try with_reducible rfl)
    try simp only [Act.put, List.setIfInBounds_toArray, List.set_cons_zero, List.set_cons_succ]
    refine wpAnyH_done (by kernel_rfl) ?_ _
    go_wp2
    go_ret
    exact Tells.no HN.out H6.out.2.2
  | true =>
    clear HN
    replace HY := HY rfl
    go_enter Try.func22, Try.ntmps22
    go_wp2_with fail
    rw [← hW]
    refine (sayof2 ao n cap c v h _).mono ?_
    rintro e w1 ⟨rfl, b1⟩
    have H5 : Hid (MB w1.drew w.heap.size 26 2 c v h ao n cap ∧ SL .i64 w1.drew ao n f ∧ Below w.heap.size w w1.drew) := ⟨M1.below (Below.drawn b1 1) M1.lt, HA.out.below (Below.drawn b1 1), HB0.out.trans ((Below.drawn b1 1).mono HB0.out.size)⟩
    clear hW M1 HA HB0 b1
    go_wp2_with fail
    obtain ⟨m0, m1, m2, m3, m4⟩ := (show MB w1 w.heap.size 26 2 c v h ao n cap from H5.out.1).cells
    refine wp_region_held_drew (S := (fun w' => w'.cell? ⟨w.heap.size, 0, none⟩ = some (.int .i64 2) ∧ w'.cell? ⟨w.heap.size, 1, none⟩ = some (.int .i64 c) ∧ w'.cell? ⟨w.heap.size, 2, none⟩ = some (.int .i64 v) ∧ w'.cell? ⟨w.heap.size, 3, none⟩ = some (.int .i64 h) ∧ w'.cell? ⟨w.heap.size, 4, none⟩ = some (.slice ao n cap))) (by kernel_rfl) ?_ (fun hHeld => ?_)
    · exact ⟨m0, m1, m2, m3, m4⟩
    refine wpAnyH_take (i := 0) (oi := { dst := some 6, op := Op.move (Operand.tmp 3), type := 78, pos := "l04_msg.go:60", after := #[], guard := none }) (v := ?_) rfl (by kernel_rfl) (by kernel_rfl) (by kernel_rfl) (fun _ _ _ h => h) (Or.inl ⟨by rfl, ?_⟩) (by assumption) ?_
    rotate_left 1
    · (intro wq hSw; (try dsimp only at hSw); go_simp; try with_reducible rfl)
    try simp only [Act.put, List.setIfInBounds_toArray, List.set_cons_zero, List.set_cons_succ]
    refine wpAnyH_take (i := 1) (oi := { dst := some 7, op := Op.binOp BinOp.neq 78 (Operand.tmp 6) (Operand.const Value.nilIface) 78, type := 4, pos := "l04_msg.go:60", after := #[{ on := 0, ground := Ground.data }], guard := none }) (v := ?_) rfl (by kernel_rfl) (by kernel_rfl) (by kernel_rfl) (fun _ _ _ h => h) (Or.inl ⟨by rfl, ?_⟩) (by assumption) ?_
    rotate_left 1
    · (intro wq hSw; (try dsimp only at hSw); go_simp; try with_reducible rfl)
    try simp only [Act.put, List.setIfInBounds_toArray, List.set_cons_zero, List.set_cons_succ]
    refine wpAnyH_take (i := 2) (oi := { dst := some 8, op := Op.move (Operand.tmp 7), type := 4, pos := "l04_msg.go:60", after := #[{ on := 1, ground := Ground.data }], guard := none }) (v := ?_) rfl (by kernel_rfl) (by kernel_rfl) (by kernel_rfl) (fun _ _ _ h => h) (Or.inl ⟨by rfl, ?_⟩) (by assumption) ?_
    rotate_left 1
    · (intro wq hSw; (try dsimp only at hSw); go_simp; try with_reducible rfl)
    try simp only [Act.put, List.setIfInBounds_toArray, List.set_cons_zero, List.set_cons_succ]
    refine wpAnyH_take (i := 3) (oi := { dst := some 9, op := Op.move (Operand.tmp 3), type := 78, pos := "l04_msg.go:60", after := #[{ on := 2, ground := Ground.guard }], guard := some (2, true) }) (v := ?_) rfl (by kernel_rfl) (by kernel_rfl) (by kernel_rfl) (fun _ _ _ h => h) (Or.inl ⟨by rfl, ?_⟩) (by assumption) ?_
    rotate_left 1
    · (intro wq hSw; (try dsimp only at hSw); go_simp; try with_reducible rfl)
    try simp only [Act.put, List.setIfInBounds_toArray, List.set_cons_zero, List.set_cons_succ]
    refine wpAnyH_ready (rs := [4]) (by kernel_rfl) (by simp) ?_
    refine AllReadyH.cons (o := { dst := some 10, op := Op.call { callee := Callee.invoke (Operand.tmp 9) "loop.example/g00399/impl.inBounds", args := #[], argTypes := #[] }, type := 4, pos := "l04_msg.go:60", after := #[{ on := 3, ground := Ground.data }, { on := 2, ground := Ground.chain }, { on := 2, ground := Ground.guard }], guard := some (2, true) }) rfl (fun K hK => ?_) AllReadyH.nil
    go_simp
    refine (hbnd.out _).mono ?_
    rintro e w6 ⟨rfl, b6⟩
    have H6 : Hid (MB w6 w.heap.size 26 2 c v h ao n cap ∧ SL .i64 w6 ao n f ∧ Below w.heap.size w w6) := ⟨H5.out.1.below b6 H5.out.1.lt, H5.out.2.1.below b6, H5.out.2.2.trans (b6.mono H5.out.2.2.size)⟩
    have hk6 := H6.out.1.cells
    clear b6
    go_wp2_with fail
    refine hK.out _ _ ?_ (fun hHeld => ?_)
    · exact hk6
    clear hK K
    try simp only [Act.put, List.setIfInBounds_toArray, List.set_cons_zero, List.set_cons_succ]
    refine wpAnyH_take (i := 5) (oi := { dst := some 11, op := Op.pick (Operand.tmp 8) (Operand.tmp 10) (Operand.const (Value.bool false)), type := 4, pos := "l04_msg.go:60", after := #[{ on := 2, ground := Ground.data }, { on := 4, ground := Ground.data }], guard := none }) (v := ?_) rfl (by kernel_rfl) (by kernel_rfl) (by kernel_rfl) (fun _ _ _ h => h) (Or.inl ⟨by rfl, ?_⟩) (by assumption) ?_
    rotate_left 1
    · (intro wq hSw; (try dsimp only at hSw); go_simp; try with_reducible rfl)
    try simp only [Act.put, List.setIfInBounds_toArray, List.set_cons_zero, List.set_cons_succ]
    refine wpAnyH_take (i := 6) (oi := { dst := some 12, op := Op.move (Operand.tmp 11), type := 4, pos := "l04_msg.go:60", after := #[{ on := 5, ground := Ground.data }, { on := 4, ground := Ground.chain }], guard := none }) (v := ?_) rfl (by kernel_rfl) (by kernel_rfl) (by kernel_rfl) (fun _ _ _ h => h) (Or.inl ⟨by rfl, ?_⟩) (by assumption) ?_
    rotate_left 1
    · (intro wq hSw; (try dsimp only at hSw); go_simp; try with_reducible rfl)
    try simp only [Act.put, List.setIfInBounds_toArray, List.set_cons_zero, List.set_cons_succ]
    refine wpAnyH_take (i := 7) (oi := { dst := some 13, op := Op.load 26 (Operand.tmp 1), type := 26, pos := "l04_msg.go:60", after := #[{ on := 6, ground := Ground.guard }], guard := some (6, true) }) (v := ?_) rfl (by kernel_rfl) (by kernel_rfl) (by kernel_rfl) (fun _ _ _ h => h) (Or.inl ⟨by rfl, ?_⟩) (by assumption) ?_
    rotate_left 1
    · (intro wq hSw; (try dsimp only at hSw); go_simp; try with_reducible rfl)
    try simp only [Act.put, List.setIfInBounds_toArray, List.set_cons_zero, List.set_cons_succ]
    refine wpAnyH_take (i := 8) (oi := { dst := some 14, op := Op.move (Operand.tmp 3), type := 78, pos := "l04_msg.go:60", after := #[{ on := 6, ground := Ground.guard }], guard := some (6, true) }) (v := ?_) rfl (by kernel_rfl) (by kernel_rfl) (by kernel_rfl) (fun _ _ _ h => h) (Or.inl ⟨by rfl, ?_⟩) (by assumption) ?_
    rotate_left 1
    · (intro wq hSw; (try dsimp only at hSw); go_simp; try with_reducible rfl)
    try simp only [Act.put, List.setIfInBounds_toArray, List.set_cons_zero, List.set_cons_succ]
    refine wpAnyH_ready (rs := [9]) (by kernel_rfl) (by simp) ?_
    refine AllReadyH.cons (o := { dst := some 15, op := Op.call { callee := Callee.value (Operand.func 68), args := #[Operand.tmp 14], argTypes := #[78] }, type := 26, pos := "l04_msg.go:60", after := #[{ on := 8, ground := Ground.data }, { on := 6, ground := Ground.chain }, { on := 6, ground := Ground.guard }], guard := some (6, true) }) rfl (fun K hK => ?_) AllReadyH.nil
    go_simp
    refine (saidby2 ao n cap c v h _).mono ?_
    rintro e w7 ⟨rfl, b7⟩
    have H7 : Hid (MB w7 w.heap.size 26 2 c v h ao n cap ∧ SL .i64 w7 ao n f ∧ Below w.heap.size w w7) := ⟨H6.out.1.below b7 H6.out.1.lt, H6.out.2.1.below b7, H6.out.2.2.trans (b7.mono H6.out.2.2.size)⟩
    have hk7 := H7.out.1.cells
    clear b7
    go_wp2_with fail
    refine hK.out _ _ ?_ (fun hHeld => ?_)
    · exact hk7
    clear hK K
    try simp only [Act.put, List.setIfInBounds_toArray, List.set_cons_zero, List.set_cons_succ]
    refine wpAnyH_ready (rs := [10]) (by kernel_rfl) (by simp) ?_
    refine AllReadyH.cons (o := { dst := some 16, op := Op.call { callee := Callee.value (Operand.func 67), args := #[Operand.tmp 13, Operand.tmp 15], argTypes := #[26, 26] }, type := 4, pos := "l04_msg.go:60", after := #[{ on := 7, ground := Ground.data }, { on := 9, ground := Ground.data }, { on := 9, ground := Ground.chain }, { on := 6, ground := Ground.guard }], guard := some (6, true) }) rfl (fun K hK => ?_) AllReadyH.nil
    go_simp
    refine (hsame.out _ H7.out.2.1).mono ?_
    rintro e w8 ⟨rfl, b8⟩
    have H8 : Hid (MB w8 w.heap.size 26 2 c v h ao n cap ∧ SL .i64 w8 ao n f ∧ Below w.heap.size w w8) := ⟨H7.out.1.below b8 H7.out.1.lt, H7.out.2.1.below b8, H7.out.2.2.trans (b8.mono H7.out.2.2.size)⟩
    have hk8 := H8.out.1.cells
    clear b8
    go_wp2_with fail
    refine hK.out _ _ ?_ (fun hHeld => ?_)
    · exact hk8
    clear hK K
    try simp only [Act.put, List.setIfInBounds_toArray, List.set_cons_zero, List.set_cons_succ]
    refine wpAnyH_take (i := 11) (oi := { dst := some 17, op := Op.pick (Operand.tmp 12) (Operand.tmp 16) (Operand.const (Value.bool false)), type := 4, pos := "l04_msg.go:60", after := #[{ on := 6, ground := Ground.data }, { on := 10, ground := Ground.data }], guard := none }) (v := ?_) rfl (by kernel_rfl) (by kernel_rfl) (by kernel_rfl) (fun _ _ _ h => h) (Or.inl ⟨by rfl, ?_⟩) (by assumption) ?_
    rotate_left 1
    · (intro wq hSw; (try dsimp only at hSw); go_simp; try with_reducible rfl)
    try simp only [Act.put, List.setIfInBounds_toArray, List.set_cons_zero, List.set_cons_succ]
    refine wpAnyH_take (i := 12) (oi := { dst := some 2, op := Op.assign (Operand.tmp 17), type := 4, pos := "l04_msg.go:60", after := #[{ on := 11, ground := Ground.data }, { on := 10, ground := Ground.chain }, { on := 0, ground := Ground.phase }, { on := 1, ground := Ground.phase }, { on := 2, ground := Ground.phase }, { on := 3, ground := Ground.phase }, { on := 4, ground := Ground.phase }, { on := 5, ground := Ground.phase }, { on := 6, ground := Ground.phase }, { on := 7, ground := Ground.phase }, { on := 8, ground := Ground.phase }, { on := 9, ground := Ground.phase }, { on := 10, ground := Ground.phase }, { on := 11, ground := Ground.phase }], guard := none }) (v := ?_) rfl (by kernel_rfl) (by kernel_rfl) (by kernel_rfl) (fun _ _ _ h => h) (Or.inl ⟨by rfl, ?_⟩) (by assumption) ?_
    rotate_left 1
    · (intro wq hSw; (try dsimp only at hSw); go_simp; try with_reducible rfl)
    try simp only [Act.put, List.setIfInBounds_toArray, List.set_cons_zero, List.set_cons_succ]
    refine wpAnyH_done (by kernel_rfl) ?_ _
    go_wp2
    go_ret
    cases b2 with
    | true => exact Tells.yes (HY.out.1 rfl) H8.out.2.2
    | false => exact Tells.no (fun x => absurd (HY.out.2 x) (by simp)) H8.out.2.2

set_option maxHeartbeats 1000000 in
set_option maxRecDepth 100000 in
theorem msgok3i (ao : Option Addr) (n cap : Nat) (f : Nat → Int) (c v h : Int) (w : World) (hn : n ≤ 1048576) (hcap : n ≤ cap) (hs : SL .i64 w ao n f) :
    Calls Try.prog 22 #[.agg #[.int .i64 3, .int .i64 c, .int .i64 v, .int .i64 h, .slice ao n cap]] w fun e w' => Tells w w' e (MOk 3 c v h f n) := by
  have HM : Hid (MOk 3 c v h f n ↔ (((0 ≤ c ∧ c ≤ 7) ∧ 1 ≤ v ∧ v ≤ 200) ∧ 0 ≤ h ∧ h ≤ 2) ∧ ((3 : Int) = 3 ∧ c = c ∧ v = v ∧ h = h) ∧ SameI f f n 0) := by
    show _ ↔ _
    unfold MOk SameI
    constructor
    · rintro (x | x)
      all_goals first
        | exact absurd x.1 (by omega)
        | exact ⟨⟨by omega, x.2.1⟩, by omega, rfl, fun _ _ => rfl⟩
        | exact ⟨by have := x.2.2.2.1; split at this <;> omega, by omega, by omega, fun _ _ => rfl⟩
    · rintro ⟨x, y, z, _⟩
      first
        | exact .inl ⟨rfl, x.2, by omega, by omega, by omega⟩
        | exact .inr ⟨by omega, by omega, by omega, by split <;> omega, by omega⟩
  obtain ⟨W, hW⟩ : ∃ W, W = w.alloc (.cells #[.int .i64 3, .int .i64 c, .int .i64 v, .int .i64 h, .slice ao n cap] 26) := ⟨_, rfl⟩
  have M1 : MB W w.heap.size 26 3 c v h ao n cap := by rw [hW]; exact MB.new w _ _ c v h ao n cap
  have hb : Below w.heap.size w W := by rw [hW]; exact (Below.refl _ _).alloc (Nat.le_refl _) _
  have HA := hide (hs.below hb)
  have HB0 := hide hb
  clear hs hb
  have hbb := tellsB_of (((0 ≤ c ∧ c ≤ 7) ∧ 1 ≤ v ∧ v ≤ 200) ∧ 0 ≤ h ∧ h ≤ 2)
  have hbnd := hide (bnd_clear c v h)
  generalize decide (((0 ≤ c ∧ c ≤ 7) ∧ 1 ≤ v ∧ v ≤ 200) ∧ 0 ≤ h ∧ h ≤ 2) = b at hbb hbnd
  obtain ⟨b2, hbb2⟩ := tellsB (((3 : Int) = 3 ∧ c = c ∧ v = v ∧ h = h) ∧ SameI f f n 0)
  have hsame : Hid (∀ W, SL .i64 W ao n f → Calls Try.prog 67 #[.agg #[.int .i64 3, .int .i64 c, .int .i64 v, .int .i64 h, .slice ao n cap], .agg #[.int .i64 3, .int .i64 c, .int .i64 v, .int .i64 h, .slice none 0 0]] W fun e w' => e = .returned (.bool b2) ∧ Below W.heap.size W w') := fun W hW => samemsg_b ao none n 0 cap 0 f f 3 c v h 3 c v h W hn hW (fun i hi => absurd hi (Nat.not_lt_zero _)) b2 hbb2
  have HN : b = false → Hid (¬ MOk 3 c v h f n) := fun e x => by rw [e] at hbb; exact absurd (hbb.2 (HM.out.1 x).1) (by simp)
  have HY : b = true → Hid (b2 = true ↔ MOk 3 c v h f n) := fun e => (show _ ↔ _ from ⟨fun e2 => HM.out.2 ⟨hbb.1 e, hbb2.1 e2⟩, fun x => hbb2.2 (HM.out.1 x).2⟩)
  clear hbb hbb2 HM
  cases b with
  | false =>
    clear HY hsame
    replace HN := HN rfl
    go_enter Try.func22, Try.ntmps22
    go_wp2_with fail
    rw [← hW]
    refine (sayof3 ao n cap c v h _).mono ?_
    rintro e w1 ⟨rfl, b1⟩
    have H5 : Hid (MB w1.drew w.heap.size 26 3 c v h ao n cap ∧ SL .i64 w1.drew ao n f ∧ Below w.heap.size w w1.drew) := ⟨M1.below (Below.drawn b1 1) M1.lt, HA.out.below (Below.drawn b1 1), HB0.out.trans ((Below.drawn b1 1).mono HB0.out.size)⟩
    clear hW M1 HA HB0 b1
    go_wp2_with fail
    obtain ⟨m0, m1, m2, m3, m4⟩ := (show MB w1 w.heap.size 26 3 c v h ao n cap from H5.out.1).cells
    refine wp_region_held_drew (S := (fun w' => w'.cell? ⟨w.heap.size, 0, none⟩ = some (.int .i64 3) ∧ w'.cell? ⟨w.heap.size, 1, none⟩ = some (.int .i64 c) ∧ w'.cell? ⟨w.heap.size, 2, none⟩ = some (.int .i64 v) ∧ w'.cell? ⟨w.heap.size, 3, none⟩ = some (.int .i64 h) ∧ w'.cell? ⟨w.heap.size, 4, none⟩ = some (.slice ao n cap))) (by kernel_rfl) ?_ (fun hHeld => ?_)
    · exact ⟨m0, m1, m2, m3, m4⟩
    refine wpAnyH_take (i := 0) (oi := { dst := some 6, op := Op.move (Operand.tmp 3), type := 78, pos := "l04_msg.go:60", after := #[], guard := none }) (v := ?_) rfl (by kernel_rfl) (by kernel_rfl) (by kernel_rfl) (fun _ _ _ h => h) (Or.inl ⟨by rfl, ?_⟩) (by assumption) ?_
    rotate_left 1
    · (intro wq hSw; (try dsimp only at hSw); go_simp; try with_reducible rfl)
    try simp only [Act.put, List.setIfInBounds_toArray, List.set_cons_zero, List.set_cons_succ]
    refine wpAnyH_take (i := 1) (oi := { dst := some 7, op := Op.binOp BinOp.neq 78 (Operand.tmp 6) (Operand.const Value.nilIface) 78, type := 4, pos := "l04_msg.go:60", after := #[{ on := 0, ground := Ground.data }], guard := none }) (v := ?_) rfl (by kernel_rfl) (by kernel_rfl) (by kernel_rfl) (fun _ _ _ h => h) (Or.inl ⟨by rfl, ?_⟩) (by assumption) ?_
    rotate_left 1
    · (intro wq hSw; (try dsimp only at hSw); go_simp; try with_reducible rfl)
    try simp only [Act.put, List.setIfInBounds_toArray, List.set_cons_zero, List.set_cons_succ]
    refine wpAnyH_take (i := 2) (oi := { dst := some 8, op := Op.move (Operand.tmp 7), type := 4, pos := "l04_msg.go:60", after := #[{ on := 1, ground := Ground.data }], guard := none }) (v := ?_) rfl (by kernel_rfl) (by kernel_rfl) (by kernel_rfl) (fun _ _ _ h => h) (Or.inl ⟨by rfl, ?_⟩) (by assumption) ?_
    rotate_left 1
    · (intro wq hSw; (try dsimp only at hSw); go_simp; try with_reducible rfl)
    try simp only [Act.put, List.setIfInBounds_toArray, List.set_cons_zero, List.set_cons_succ]
    refine wpAnyH_take (i := 3) (oi := { dst := some 9, op := Op.move (Operand.tmp 3), type := 78, pos := "l04_msg.go:60", after := #[{ on := 2, ground := Ground.guard }], guard := some (2, true) }) (v := ?_) rfl (by kernel_rfl) (by kernel_rfl) (by kernel_rfl) (fun _ _ _ h => h) (Or.inl ⟨by rfl, ?_⟩) (by assumption) ?_
    rotate_left 1
    · (intro wq hSw; (try dsimp only at hSw); go_simp; try with_reducible rfl)
    try simp only [Act.put, List.setIfInBounds_toArray, List.set_cons_zero, List.set_cons_succ]
    refine wpAnyH_ready (rs := [4]) (by kernel_rfl) (by simp) ?_
    refine AllReadyH.cons (o := { dst := some 10, op := Op.call { callee := Callee.invoke (Operand.tmp 9) "loop.example/g00399/impl.inBounds", args := #[], argTypes := #[] }, type := 4, pos := "l04_msg.go:60", after := #[{ on := 3, ground := Ground.data }, { on := 2, ground := Ground.chain }, { on := 2, ground := Ground.guard }], guard := some (2, true) }) rfl (fun K hK => ?_) AllReadyH.nil
    go_simp
    refine (hbnd.out _).mono ?_
    rintro e w6 ⟨rfl, b6⟩
    have H6 : Hid (MB w6 w.heap.size 26 3 c v h ao n cap ∧ SL .i64 w6 ao n f ∧ Below w.heap.size w w6) := ⟨H5.out.1.below b6 H5.out.1.lt, H5.out.2.1.below b6, H5.out.2.2.trans (b6.mono H5.out.2.2.size)⟩
    have hk6 := H6.out.1.cells
    clear b6
    go_wp2_with fail
    refine hK.out _ _ ?_ (fun hHeld => ?_)
    · exact hk6
    clear hK K
    try simp only [Act.put, List.setIfInBounds_toArray, List.set_cons_zero, List.set_cons_succ]
    refine wpAnyH_take (i := 5) (oi := { dst := some 11, op := Op.pick (Operand.tmp 8) (Operand.tmp 10) (Operand.const (Value.bool false)), type := 4, pos := "l04_msg.go:60", after := #[{ on := 2, ground := Ground.data }, { on := 4, ground := Ground.data }], guard := none }) (v := ?_) rfl (by kernel_rfl) (by kernel_rfl) (by kernel_rfl) (fun _ _ _ h => h) (Or.inl ⟨by rfl, ?_⟩) (by assumption) ?_
    rotate_left 1
    · (intro wq hSw; (try dsimp only at hSw); go_simp; try with_reducible rfl)
    try simp only [Act.put, List.setIfInBounds_toArray, List.set_cons_zero, List.set_cons_succ]
    refine wpAnyH_take (i := 6) (oi := { dst := some 12, op := Op.move (Operand.tmp 11), type := 4, pos := "l04_msg.go:60", after := #[{ on := 5, ground := Ground.data }, { on := 4, ground := Ground.chain }], guard := none }) (v := ?_) rfl (by kernel_rfl) (by kernel_rfl) (by kernel_rfl) (fun _ _ _ h => h) (Or.inl ⟨by rfl, ?_⟩) (by assumption) ?_
    rotate_left 1
    · (intro wq hSw; (try dsimp only at hSw); go_simp; try with_reducible rfl)
    try simp only [Act.put, List.setIfInBounds_toArray, List.set_cons_zero, List.set_cons_succ]
    refine wpAnyH_take (i := 7) (oi := { dst := some 13, op := Op.load 26 (Operand.tmp 1), type := 26, pos := "l04_msg.go:60", after := #[{ on := 6, ground := Ground.guard }], guard := some (6, true) }) (v := undef) rfl (by kernel_rfl) (by kernel_rfl) (by kernel_rfl) (fun _ _ _ h => h) (Or.inr ⟨by rfl, rfl⟩) (by assumption) ?_
    try simp only [Act.put, List.setIfInBounds_toArray, List.set_cons_zero, List.set_cons_succ]
    refine wpAnyH_take (i := 8) (oi := { dst := some 14, op := Op.move (Operand.tmp 3), type := 78, pos := "l04_msg.go:60", after := #[{ on := 6, ground := Ground.guard }], guard := some (6, true) }) (v := undef) rfl (by kernel_rfl) (by kernel_rfl) (by kernel_rfl) (fun _ _ _ h => h) (Or.inr ⟨by rfl, rfl⟩) (by assumption) ?_
    try simp only [Act.put, List.setIfInBounds_toArray, List.set_cons_zero, List.set_cons_succ]
    refine wpAnyH_take (i := 9) (oi := { dst := some 15, op := Op.call { callee := Callee.value (Operand.func 68), args := #[Operand.tmp 14], argTypes := #[78] }, type := 26, pos := "l04_msg.go:60", after := #[{ on := 8, ground := Ground.data }, { on := 6, ground := Ground.chain }, { on := 6, ground := Ground.guard }], guard := some (6, true) }) (v := undef) rfl (by kernel_rfl) (by kernel_rfl) (by kernel_rfl) (fun _ _ _ h => h) (Or.inr ⟨by rfl, rfl⟩) (by assumption) ?_
    try simp only [Act.put, List.setIfInBounds_toArray, List.set_cons_zero, List.set_cons_succ]
    refine wpAnyH_take (i := 10) (oi := { dst := some 16, op := Op.call { callee := Callee.value (Operand.func 67), args := #[Operand.tmp 13, Operand.tmp 15], argTypes := #[26, 26] }, type := 4, pos := "l04_msg.go:60", after := #[{ on := 7, ground := Ground.data }, { on := 9, ground := Ground.data }, { on := 9, ground := Ground.chain }, { on := 6, ground := Ground.guard }], guard := some (6, true) }) (v := undef) rfl (by kernel_rfl) (by kernel_rfl) (by kernel_rfl) (fun _ _ _ h => h) (Or.inr ⟨by rfl, rfl⟩) (by assumption) ?_
    try simp only [Act.put, List.setIfInBounds_toArray, List.set_cons_zero, List.set_cons_succ]
    refine wpAnyH_take (i := 11) (oi := { dst := some 17, op := Op.pick (Operand.tmp 12) (Operand.tmp 16) (Operand.const (Value.bool false)), type := 4, pos := "l04_msg.go:60", after := #[{ on := 6, ground := Ground.data }, { on := 10, ground := Ground.data }], guard := none }) (v := ?_) rfl (by kernel_rfl) (by kernel_rfl) (by kernel_rfl) (fun _ _ _ h => h) (Or.inl ⟨by rfl, ?_⟩) (by assumption) ?_
    rotate_left 1
    · (intro wq hSw; (try dsimp only at hSw); go_simp; try with_reducible rfl)
    try simp only [Act.put, List.setIfInBounds_toArray, List.set_cons_zero, List.set_cons_succ]
    refine wpAnyH_take (i := 12) (oi := { dst := some 2, op := Op.assign (Operand.tmp 17), type := 4, pos := "l04_msg.go:60", after := #[{ on := 11, ground := Ground.data }, { on := 10, ground := Ground.chain }, { on := 0, ground := Ground.phase }, { on := 1, ground := Ground.phase }, { on := 2, ground := Ground.phase }, { on := 3, ground := Ground.phase }, { on := 4, ground := Ground.phase }, { on := 5, ground := Ground.phase }, { on := 6, ground := Ground.phase }, { on := 7, ground := Ground.phase }, { on := 8, ground := Ground.phase }, { on := 9, ground := Ground.phase }, { on := 10, ground := Ground.phase }, { on := 11, ground := Ground.phase }], guard := none }) (v := ?_) rfl (by kernel_rfl) (by kernel_rfl) (by kernel_rfl) (fun _ _ _ h => h) (Or.inl ⟨by rfl, ?_⟩) (by assumption) ?_
    rotate_left 1
    · (intro wq hSw; (try dsimp only at hSw); go_simp; try with_reducible rfl)
    try simp only [Act.put, List.setIfInBounds_toArray, List.set_cons_zero, List.set_cons_succ]
    refine wpAnyH_done (by kernel_rfl) ?_ _
    go_wp2
    go_ret
    exact Tells.no HN.out H6.out.2.2
  | true =>
    clear HN
    replace HY := HY rfl
    go_enter Try.func22, Try.ntmps22
    go_wp2_with fail
    rw [← hW]
    refine (sayof3 ao n cap c v h _).mono ?_
    rintro e w1 ⟨rfl, b1⟩
    have H5 : Hid (MB w1.drew w.heap.size 26 3 c v h ao n cap ∧ SL .i64 w1.drew ao n f ∧ Below w.heap.size w w1.drew) := ⟨M1.below (Below.drawn b1 1) M1.lt, HA.out.below (Below.drawn b1 1), HB0.out.trans ((Below.drawn b1 1).mono HB0.out.size)⟩
    clear hW M1 HA HB0 b1
    go_wp2_with fail
    obtain ⟨m0, m1, m2, m3, m4⟩ := (show MB w1 w.heap.size 26 3 c v h ao n cap from H5.out.1).cells
    refine wp_region_held_drew (S := (fun w' => w'.cell? ⟨w.heap.size, 0, none⟩ = some (.int .i64 3) ∧ w'.cell? ⟨w.heap.size, 1, none⟩ = some (.int .i64 c) ∧ w'.cell? ⟨w.heap.size, 2, none⟩ = some (.int .i64 v) ∧ w'.cell? ⟨w.heap.size, 3, none⟩ = some (.int .i64 h) ∧ w'.cell? ⟨w.heap.size, 4, none⟩ = some (.slice ao n cap))) (by kernel_rfl) ?_ (fun hHeld => ?_)
    · exact ⟨m0, m1, m2, m3, m4⟩
    refine wpAnyH_take (i := 0) (oi := { dst := some 6, op := Op.move (Operand.tmp 3), type := 78, pos := "l04_msg.go:60", after := #[], guard := none }) (v := ?_) rfl (by kernel_rfl) (by kernel_rfl) (by kernel_rfl) (fun _ _ _ h => h) (Or.inl ⟨by rfl, ?_⟩) (by assumption) ?_
    rotate_left 1
    · (intro wq hSw; (try dsimp only at hSw); go_simp; try with_reducible rfl)
    try simp only [Act.put, List.setIfInBounds_toArray, List.set_cons_zero, List.set_cons_succ]
    refine wpAnyH_take (i := 1) (oi := { dst := some 7, op := Op.binOp BinOp.neq 78 (Operand.tmp 6) (Operand.const Value.nilIface) 78, type := 4, pos := "l04_msg.go:60", after := #[{ on := 0, ground := Ground.data }], guard := none }) (v := ?_) rfl (by kernel_rfl) (by kernel_rfl) (by kernel_rfl) (fun _ _ _ h => h) (Or.inl ⟨by rfl, ?_⟩) (by assumption) ?_
    rotate_left 1
    · (intro wq hSw; (try dsimp only at hSw); go_simp; try with_reducible rfl)
    try simp only [Act.put, List.setIfInBounds_toArray, List.set_cons_zero, List.set_cons_succ]
    refine wpAnyH_take (i := 2) (oi := { dst := some 8, op := Op.move (Operand.tmp 7), type := 4, pos := "l04_msg.go:60", after := #[{ on := 1, ground := Ground.data }], guard := none }) (v := ?_) rfl (by kernel_rfl) (by kernel_rfl) (by kernel_rfl) (fun _ _ _ h => h) (Or.inl ⟨by rfl, ?_⟩) (by assumption) ?_
    rotate_left 1
    · (intro wq hSw; (try dsimp only at hSw); go_simp; try with_reducible rfl)
    try simp only [Act.put, List.setIfInBounds_toArray, List.set_cons_zero, List.set_cons_succ]
    refine wpAnyH_take (i := 3) (oi := { dst := some 9, op := Op.move (Operand.tmp 3), type := 78, pos := "l04_msg.go:60", after := #[{ on := 2, ground := Ground.guard }], guard := some (2, true) }) (v := ?_) rfl (by kernel_rfl) (by kernel_rfl) (by kernel_rfl) (fun _ _ _ h => h) (Or.inl ⟨by rfl, ?_⟩) (by assumption) ?_
    rotate_left 1
    · (intro wq hSw; (try dsimp only at hSw); go_simp; try with_reducible rfl)
    try simp only [Act.put, List.setIfInBounds_toArray, List.set_cons_zero, List.set_cons_succ]
    refine wpAnyH_ready (rs := [4]) (by kernel_rfl) (by simp) ?_
    refine AllReadyH.cons (o := { dst := some 10, op := Op.call { callee := Callee.invoke (Operand.tmp 9) "loop.example/g00399/impl.inBounds", args := #[], argTypes := #[] }, type := 4, pos := "l04_msg.go:60", after := #[{ on := 3, ground := Ground.data }, { on := 2, ground := Ground.chain }, { on := 2, ground := Ground.guard }], guard := some (2, true) }) rfl (fun K hK => ?_) AllReadyH.nil
    go_simp
    refine (hbnd.out _).mono ?_
    rintro e w6 ⟨rfl, b6⟩
    have H6 : Hid (MB w6 w.heap.size 26 3 c v h ao n cap ∧ SL .i64 w6 ao n f ∧ Below w.heap.size w w6) := ⟨H5.out.1.below b6 H5.out.1.lt, H5.out.2.1.below b6, H5.out.2.2.trans (b6.mono H5.out.2.2.size)⟩
    have hk6 := H6.out.1.cells
    clear b6
    go_wp2_with fail
    refine hK.out _ _ ?_ (fun hHeld => ?_)
    · exact hk6
    clear hK K
    try simp only [Act.put, List.setIfInBounds_toArray, List.set_cons_zero, List.set_cons_succ]
    refine wpAnyH_take (i := 5) (oi := { dst := some 11, op := Op.pick (Operand.tmp 8) (Operand.tmp 10) (Operand.const (Value.bool false)), type := 4, pos := "l04_msg.go:60", after := #[{ on := 2, ground := Ground.data }, { on := 4, ground := Ground.data }], guard := none }) (v := ?_) rfl (by kernel_rfl) (by kernel_rfl) (by kernel_rfl) (fun _ _ _ h => h) (Or.inl ⟨by rfl, ?_⟩) (by assumption) ?_
    rotate_left 1
    · (intro wq hSw; (try dsimp only at hSw); go_simp; try with_reducible rfl)
    try simp only [Act.put, List.setIfInBounds_toArray, List.set_cons_zero, List.set_cons_succ]
    refine wpAnyH_take (i := 6) (oi := { dst := some 12, op := Op.move (Operand.tmp 11), type := 4, pos := "l04_msg.go:60", after := #[{ on := 5, ground := Ground.data }, { on := 4, ground := Ground.chain }], guard := none }) (v := ?_) rfl (by kernel_rfl) (by kernel_rfl) (by kernel_rfl) (fun _ _ _ h => h) (Or.inl ⟨by rfl, ?_⟩) (by assumption) ?_
    rotate_left 1
    · (intro wq hSw; (try dsimp only at hSw); go_simp; try with_reducible rfl)
    try simp only [Act.put, List.setIfInBounds_toArray, List.set_cons_zero, List.set_cons_succ]
    refine wpAnyH_take (i := 7) (oi := { dst := some 13, op := Op.load 26 (Operand.tmp 1), type := 26, pos := "l04_msg.go:60", after := #[{ on := 6, ground := Ground.guard }], guard := some (6, true) }) (v := ?_) rfl (by kernel_rfl) (by kernel_rfl) (by kernel_rfl) (fun _ _ _ h => h) (Or.inl ⟨by rfl, ?_⟩) (by assumption) ?_
    rotate_left 1
    · (intro wq hSw; (try dsimp only at hSw); go_simp; try with_reducible rfl)
    try simp only [Act.put, List.setIfInBounds_toArray, List.set_cons_zero, List.set_cons_succ]
    refine wpAnyH_take (i := 8) (oi := { dst := some 14, op := Op.move (Operand.tmp 3), type := 78, pos := "l04_msg.go:60", after := #[{ on := 6, ground := Ground.guard }], guard := some (6, true) }) (v := ?_) rfl (by kernel_rfl) (by kernel_rfl) (by kernel_rfl) (fun _ _ _ h => h) (Or.inl ⟨by rfl, ?_⟩) (by assumption) ?_
    rotate_left 1
    · (intro wq hSw; (try dsimp only at hSw); go_simp; try with_reducible rfl)
    try simp only [Act.put, List.setIfInBounds_toArray, List.set_cons_zero, List.set_cons_succ]
    refine wpAnyH_ready (rs := [9]) (by kernel_rfl) (by simp) ?_
    refine AllReadyH.cons (o := { dst := some 15, op := Op.call { callee := Callee.value (Operand.func 68), args := #[Operand.tmp 14], argTypes := #[78] }, type := 26, pos := "l04_msg.go:60", after := #[{ on := 8, ground := Ground.data }, { on := 6, ground := Ground.chain }, { on := 6, ground := Ground.guard }], guard := some (6, true) }) rfl (fun K hK => ?_) AllReadyH.nil
    go_simp
    refine (saidby3 ao n cap c v h _).mono ?_
    rintro e w7 ⟨rfl, b7⟩
    have H7 : Hid (MB w7 w.heap.size 26 3 c v h ao n cap ∧ SL .i64 w7 ao n f ∧ Below w.heap.size w w7) := ⟨H6.out.1.below b7 H6.out.1.lt, H6.out.2.1.below b7, H6.out.2.2.trans (b7.mono H6.out.2.2.size)⟩
    have hk7 := H7.out.1.cells
    clear b7
    go_wp2_with fail
    refine hK.out _ _ ?_ (fun hHeld => ?_)
    · exact hk7
    clear hK K
    try simp only [Act.put, List.setIfInBounds_toArray, List.set_cons_zero, List.set_cons_succ]
    refine wpAnyH_ready (rs := [10]) (by kernel_rfl) (by simp) ?_
    refine AllReadyH.cons (o := { dst := some 16, op := Op.call { callee := Callee.value (Operand.func 67), args := #[Operand.tmp 13, Operand.tmp 15], argTypes := #[26, 26] }, type := 4, pos := "l04_msg.go:60", after := #[{ on := 7, ground := Ground.data }, { on := 9, ground := Ground.data }, { on := 9, ground := Ground.chain }, { on := 6, ground := Ground.guard }], guard := some (6, true) }) rfl (fun K hK => ?_) AllReadyH.nil
    go_simp
    refine (hsame.out _ H7.out.2.1).mono ?_
    rintro e w8 ⟨rfl, b8⟩
    have H8 : Hid (MB w8 w.heap.size 26 3 c v h ao n cap ∧ SL .i64 w8 ao n f ∧ Below w.heap.size w w8) := ⟨H7.out.1.below b8 H7.out.1.lt, H7.out.2.1.below b8, H7.out.2.2.trans (b8.mono H7.out.2.2.size)⟩
    have hk8 := H8.out.1.cells
    clear b8
    go_wp2_with fail
    refine hK.out _ _ ?_ (fun hHeld => ?_)
    · exact hk8
    clear hK K
    try simp only [Act.put, List.setIfInBounds_toArray, List.set_cons_zero, List.set_cons_succ]
    refine wpAnyH_take (i := 11) (oi := { dst := some 17, op := Op.pick (Operand.tmp 12) (Operand.tmp 16) (Operand.const (Value.bool false)), type := 4, pos := "l04_msg.go:60", after := #[{ on := 6, ground := Ground.data }, { on := 10, ground := Ground.data }], guard := none }) (v := ?_) rfl (by kernel_rfl) (by kernel_rfl) (by kernel_rfl) (fun _ _ _ h => h) (Or.inl ⟨by rfl, ?_⟩) (by assumption) ?_
    rotate_left 1
    · (intro wq hSw; (try dsimp only at hSw); go_simp; try with_reducible rfl)
    try simp only [Act.put, List.setIfInBounds_toArray, List.set_cons_zero, List.set_cons_succ]
    refine wpAnyH_take (i := 12) (oi := { dst := some 2, op := Op.assign (Operand.tmp 17), type := 4, pos := "l04_msg.go:60", after := #[{ on := 11, ground := Ground.data }, { on := 10, ground := Ground.chain }, { on := 0, ground := Ground.phase }, { on := 1, ground := Ground.phase }, { on := 2, ground := Ground.phase }, { on := 3, ground := Ground.phase }, { on := 4, ground := Ground.phase }, { on := 5, ground := Ground.phase }, { on := 6, ground := Ground.phase }, { on := 7, ground := Ground.phase }, { on := 8, ground := Ground.phase }, { on := 9, ground := Ground.phase }, { on := 10, ground := Ground.phase }, { on := 11, ground := Ground.phase }], guard := none }) (v := ?_) rfl (by kernel_rfl) (by kernel_rfl) (by kernel_rfl) (fun _ _ _ h => h) (Or.inl ⟨by rfl, ?_⟩) (by assumption) ?_
    rotate_left 1
    · (intro wq hSw; (try dsimp only at hSw); go_simp; try with_reducible rfl)
    try simp only [Act.put, List.setIfInBounds_toArray, List.set_cons_zero, List.set_cons_succ]
    refine wpAnyH_done (by kernel_rfl) ?_ _
    go_wp2
    go_ret
    cases b2 with
    | true => exact Tells.yes (HY.out.1 rfl) H8.out.2.2
    | false => exact Tells.no (fun x => absurd (HY.out.2 x) (by simp)) H8.out.2.2

set_option maxHeartbeats 1000000 in
set_option maxRecDepth 100000 in
theorem msgok4i (ao : Option Addr) (n cap : Nat) (f : Nat → Int) (c v h : Int) (w : World) (hn : n ≤ 1048576) (hcap : n ≤ cap) (hs : SL .i64 w ao n f) :
    Calls Try.prog 22 #[.agg #[.int .i64 4, .int .i64 c, .int .i64 v, .int .i64 h, .slice ao n cap]] w fun e w' => Tells w w' e (MOk 4 c v h f n) := by
  have HM : Hid (MOk 4 c v h f n ↔ ((0 ≤ c ∧ c ≤ 7) ∧ 0 ≤ v ∧ v ≤ 200) ∧ ((4 : Int) = 4 ∧ c = c ∧ v = v ∧ h = 0) ∧ SameI f f n 0) := by
    show _ ↔ _
    unfold MOk SameI
    constructor
    · rintro (x | x)
      all_goals first
        | exact absurd x.1 (by omega)
        | exact ⟨⟨by omega, x.2.1⟩, by omega, rfl, fun _ _ => rfl⟩
        | exact ⟨by have := x.2.2.2.1; split at this <;> omega, by omega, by omega, fun _ _ => rfl⟩
    · rintro ⟨x, y, z, _⟩
      first
        | exact .inl ⟨rfl, x.2, by omega, by omega, by omega⟩
        | exact .inr ⟨by omega, by omega, by omega, by split <;> omega, by omega⟩
  obtain ⟨W, hW⟩ : ∃ W, W = w.alloc (.cells #[.int .i64 4, .int .i64 c, .int .i64 v, .int .i64 h, .slice ao n cap] 26) := ⟨_, rfl⟩
  have M1 : MB W w.heap.size 26 4 c v h ao n cap := by rw [hW]; exact MB.new w _ _ c v h ao n cap
  have hb : Below w.heap.size w W := by rw [hW]; exact (Below.refl _ _).alloc (Nat.le_refl _) _
  have HA := hide (hs.below hb)
  have HB0 := hide hb
  clear hs hb
  have hbb := tellsB_of ((0 ≤ c ∧ c ≤ 7) ∧ 0 ≤ v ∧ v ≤ 200)
  have hbnd := hide (bnd_copy c v)
  generalize decide ((0 ≤ c ∧ c ≤ 7) ∧ 0 ≤ v ∧ v ≤ 200) = b at hbb hbnd
  obtain ⟨b2, hbb2⟩ := tellsB (((4 : Int) = 4 ∧ c = c ∧ v = v ∧ h = 0) ∧ SameI f f n 0)
  have hsame : Hid (∀ W, SL .i64 W ao n f → Calls Try.prog 67 #[.agg #[.int .i64 4, .int .i64 c, .int .i64 v, .int .i64 h, .slice ao n cap], .agg #[.int .i64 4, .int .i64 c, .int .i64 v, .int .i64 0, .slice none 0 0]] W fun e w' => e = .returned (.bool b2) ∧ Below W.heap.size W w') := fun W hW => samemsg_b ao none n 0 cap 0 f f 4 c v h 4 c v 0 W hn hW (fun i hi => absurd hi (Nat.not_lt_zero _)) b2 hbb2
  have HN : b = false → Hid (¬ MOk 4 c v h f n) := fun e x => by rw [e] at hbb; exact absurd (hbb.2 (HM.out.1 x).1) (by simp)
  have HY : b = true → Hid (b2 = true ↔ MOk 4 c v h f n) := fun e => (show _ ↔ _ from ⟨fun e2 => HM.out.2 ⟨hbb.1 e, hbb2.1 e2⟩, fun x => hbb2.2 (HM.out.1 x).2⟩)
  clear hbb hbb2 HM
  cases b with
  | false =>
    clear HY hsame
    replace HN := HN rfl
    go_enter Try.func22, Try.ntmps22
    go_wp2_with fail
    rw [← hW]
    refine (sayof4 ao n cap c v h _).mono ?_
    rintro e w1 ⟨rfl, b1⟩
    have H5 : Hid (MB w1.drew w.heap.size 26 4 c v h ao n cap ∧ SL .i64 w1.drew ao n f ∧ Below w.heap.size w w1.drew) := ⟨M1.below (Below.drawn b1 1) M1.lt, HA.out.below (Below.drawn b1 1), HB0.out.trans ((Below.drawn b1 1).mono HB0.out.size)⟩
    clear hW M1 HA HB0 b1
    go_wp2_with fail
    obtain ⟨m0, m1, m2, m3, m4⟩ := (show MB w1 w.heap.size 26 4 c v h ao n cap from H5.out.1).cells
    refine wp_region_held_drew (S := (fun w' => w'.cell? ⟨w.heap.size, 0, none⟩ = some (.int .i64 4) ∧ w'.cell? ⟨w.heap.size, 1, none⟩ = some (.int .i64 c) ∧ w'.cell? ⟨w.heap.size, 2, none⟩ = some (.int .i64 v) ∧ w'.cell? ⟨w.heap.size, 3, none⟩ = some (.int .i64 h) ∧ w'.cell? ⟨w.heap.size, 4, none⟩ = some (.slice ao n cap))) (by kernel_rfl) ?_ (fun hHeld => ?_)
    · exact ⟨m0, m1, m2, m3, m4⟩
    refine wpAnyH_take (i := 0) (oi := { dst := some 6, op := Op.move (Operand.tmp 3), type := 78, pos := "l04_msg.go:60", after := #[], guard := none }) (v := ?_) rfl (by kernel_rfl) (by kernel_rfl) (by kernel_rfl) (fun _ _ _ h => h) (Or.inl ⟨by rfl, ?_⟩) (by assumption) ?_
    rotate_left 1
    · (intro wq hSw; (try dsimp only at hSw); go_simp; try with_reducible rfl)
    try simp only [Act.put, List.setIfInBounds_toArray, List.set_cons_zero, List.set_cons_succ]
    refine wpAnyH_take (i := 1) (oi := { dst := some 7, op := Op.binOp BinOp.neq 78 (Operand.tmp 6) (Operand.const Value.nilIface) 78, type := 4, pos := "l04_msg.go:60", after := #[{ on := 0, ground := Ground.data }], guard := none }) (v := ?_) rfl (by kernel_rfl) (by kernel_rfl) (by kernel_rfl) (fun _ _ _ h => h) (Or.inl ⟨by rfl, ?_⟩) (by assumption) ?_
    rotate_left 1
    · (intro wq hSw; (try dsimp only at hSw); go_simp; try with_reducible rfl)
    try simp only [Act.put, List.setIfInBounds_toArray, List.set_cons_zero, List.set_cons_succ]
    refine wpAnyH_take (i := 2) (oi := { dst := some 8, op := Op.move (Operand.tmp 7), type := 4, pos := "l04_msg.go:60", after := #[{ on := 1, ground := Ground.data }], guard := none }) (v := ?_) rfl (by kernel_rfl) (by kernel_rfl) (by kernel_rfl) (fun _ _ _ h => h) (Or.inl ⟨by rfl, ?_⟩) (by assumption) ?_
    rotate_left 1
    · (intro wq hSw; (try dsimp only at hSw); go_simp; try with_reducible rfl)
    try simp only [Act.put, List.setIfInBounds_toArray, List.set_cons_zero, List.set_cons_succ]
    refine wpAnyH_take (i := 3) (oi := { dst := some 9, op := Op.move (Operand.tmp 3), type := 78, pos := "l04_msg.go:60", after := #[{ on := 2, ground := Ground.guard }], guard := some (2, true) }) (v := ?_) rfl (by kernel_rfl) (by kernel_rfl) (by kernel_rfl) (fun _ _ _ h => h) (Or.inl ⟨by rfl, ?_⟩) (by assumption) ?_
    rotate_left 1
    · (intro wq hSw; (try dsimp only at hSw); go_simp; try with_reducible rfl)
    try simp only [Act.put, List.setIfInBounds_toArray, List.set_cons_zero, List.set_cons_succ]
    refine wpAnyH_ready (rs := [4]) (by kernel_rfl) (by simp) ?_
    refine AllReadyH.cons (o := { dst := some 10, op := Op.call { callee := Callee.invoke (Operand.tmp 9) "loop.example/g00399/impl.inBounds", args := #[], argTypes := #[] }, type := 4, pos := "l04_msg.go:60", after := #[{ on := 3, ground := Ground.data }, { on := 2, ground := Ground.chain }, { on := 2, ground := Ground.guard }], guard := some (2, true) }) rfl (fun K hK => ?_) AllReadyH.nil
    go_simp
    refine (hbnd.out _).mono ?_
    rintro e w6 ⟨rfl, b6⟩
    have H6 : Hid (MB w6 w.heap.size 26 4 c v h ao n cap ∧ SL .i64 w6 ao n f ∧ Below w.heap.size w w6) := ⟨H5.out.1.below b6 H5.out.1.lt, H5.out.2.1.below b6, H5.out.2.2.trans (b6.mono H5.out.2.2.size)⟩
    have hk6 := H6.out.1.cells
    clear b6
    go_wp2_with fail
    refine hK.out _ _ ?_ (fun hHeld => ?_)
    · exact hk6
    clear hK K
    try simp only [Act.put, List.setIfInBounds_toArray, List.set_cons_zero, List.set_cons_succ]
    refine wpAnyH_take (i := 5) (oi := { dst := some 11, op := Op.pick (Operand.tmp 8) (Operand.tmp 10) (Operand.const (Value.bool false)), type := 4, pos := "l04_msg.go:60", after := #[{ on := 2, ground := Ground.data }, { on := 4, ground := Ground.data }], guard := none }) (v := ?_) rfl (by kernel_rfl) (by kernel_rfl) (by kernel_rfl) (fun _ _ _ h => h) (Or.inl ⟨by rfl, ?_⟩) (by assumption) ?_
    rotate_left 1
    · (intro wq hSw; (try dsimp only at hSw); go_simp; try with_reducible rfl)
    try simp only [Act.put, List.setIfInBounds_toArray, List.set_cons_zero, List.set_cons_succ]
    refine wpAnyH_take (i := 6) (oi := { dst := some 12, op := Op.move (Operand.tmp 11), type := 4, pos := "l04_msg.go:60", after := #[{ on := 5, ground := Ground.data }, { on := 4, ground := Ground.chain }], guard := none }) (v := ?_) rfl (by kernel_rfl) (by kernel_rfl) (by kernel_rfl) (fun _ _ _ h => h) (Or.inl ⟨by rfl, ?_⟩) (by assumption) ?_
    rotate_left 1
    · (intro wq hSw; (try dsimp only at hSw); go_simp; try with_reducible rfl)
    try simp only [Act.put, List.setIfInBounds_toArray, List.set_cons_zero, List.set_cons_succ]
    refine wpAnyH_take (i := 7) (oi := { dst := some 13, op := Op.load 26 (Operand.tmp 1), type := 26, pos := "l04_msg.go:60", after := #[{ on := 6, ground := Ground.guard }], guard := some (6, true) }) (v := undef) rfl (by kernel_rfl) (by kernel_rfl) (by kernel_rfl) (fun _ _ _ h => h) (Or.inr ⟨by rfl, rfl⟩) (by assumption) ?_
    try simp only [Act.put, List.setIfInBounds_toArray, List.set_cons_zero, List.set_cons_succ]
    refine wpAnyH_take (i := 8) (oi := { dst := some 14, op := Op.move (Operand.tmp 3), type := 78, pos := "l04_msg.go:60", after := #[{ on := 6, ground := Ground.guard }], guard := some (6, true) }) (v := undef) rfl (by kernel_rfl) (by kernel_rfl) (by kernel_rfl) (fun _ _ _ h => h) (Or.inr ⟨by rfl, rfl⟩) (by assumption) ?_
    try simp only [Act.put, List.setIfInBounds_toArray, List.set_cons_zero, List.set_cons_succ]
    refine wpAnyH_take (i := 9) (oi := { dst := some 15, op := Op.call { callee := Callee.value (Operand.func 68), args := #[Operand.tmp 14], argTypes := #[78] }, type := 26, pos := "l04_msg.go:60", after := #[{ on := 8, ground := Ground.data }, { on := 6, ground := Ground.chain }, { on := 6, ground := Ground.guard }], guard := some (6, true) }) (v := undef) rfl (by kernel_rfl) (by kernel_rfl) (by kernel_rfl) (fun _ _ _ h => h) (Or.inr ⟨by rfl, rfl⟩) (by assumption) ?_
    try simp only [Act.put, List.setIfInBounds_toArray, List.set_cons_zero, List.set_cons_succ]
    refine wpAnyH_take (i := 10) (oi := { dst := some 16, op := Op.call { callee := Callee.value (Operand.func 67), args := #[Operand.tmp 13, Operand.tmp 15], argTypes := #[26, 26] }, type := 4, pos := "l04_msg.go:60", after := #[{ on := 7, ground := Ground.data }, { on := 9, ground := Ground.data }, { on := 9, ground := Ground.chain }, { on := 6, ground := Ground.guard }], guard := some (6, true) }) (v := undef) rfl (by kernel_rfl) (by kernel_rfl) (by kernel_rfl) (fun _ _ _ h => h) (Or.inr ⟨by rfl, rfl⟩) (by assumption) ?_
    try simp only [Act.put, List.setIfInBounds_toArray, List.set_cons_zero, List.set_cons_succ]
    refine wpAnyH_take (i := 11) (oi := { dst := some 17, op := Op.pick (Operand.tmp 12) (Operand.tmp 16) (Operand.const (Value.bool false)), type := 4, pos := "l04_msg.go:60", after := #[{ on := 6, ground := Ground.data }, { on := 10, ground := Ground.data }], guard := none }) (v := ?_) rfl (by kernel_rfl) (by kernel_rfl) (by kernel_rfl) (fun _ _ _ h => h) (Or.inl ⟨by rfl, ?_⟩) (by assumption) ?_
    rotate_left 1
    · (intro wq hSw; (try dsimp only at hSw); go_simp; try with_reducible rfl)
    try simp only [Act.put, List.setIfInBounds_toArray, List.set_cons_zero, List.set_cons_succ]
    refine wpAnyH_take (i := 12) (oi := { dst := some 2, op := Op.assign (Operand.tmp 17), type := 4, pos := "l04_msg.go:60", after := #[{ on := 11, ground := Ground.data }, { on := 10, ground := Ground.chain }, { on := 0, ground := Ground.phase }, { on := 1, ground := Ground.phase }, { on := 2, ground := Ground.phase }, { on := 3, ground := Ground.phase }, { on := 4, ground := Ground.phase }, { on := 5, ground := Ground.phase }, { on := 6, ground := Ground.phase }, { on := 7, ground := Ground.phase }, { on := 8, ground := Ground.phase }, { on := 9, ground := Ground.phase }, { on := 10, ground := Ground.phase }, { on := 11, ground := Ground.phase }], guard := none }) (v := ?_) rfl (by kernel_rfl) (by kernel_rfl) (by kernel_rfl) (fun _ _ _ h => h) (Or.inl ⟨by rfl, ?_⟩) (by assumption) ?_
    rotate_left 1
    · (intro wq hSw; (try dsimp only at hSw); go_simp; try with_reducible rfl)
    try simp only [Act.put, List.setIfInBounds_toArray, List.set_cons_zero, List.set_cons_succ]
    refine wpAnyH_done (by kernel_rfl) ?_ _
    go_wp2
    go_ret
    exact Tells.no HN.out H6.out.2.2
  | true =>
    clear HN
    replace HY := HY rfl
    go_enter Try.func22, Try.ntmps22
    go_wp2_with fail
    rw [← hW]
    refine (sayof4 ao n cap c v h _).mono ?_
    rintro e w1 ⟨rfl, b1⟩
    have H5 : Hid (MB w1.drew w.heap.size 26 4 c v h ao n cap ∧ SL .i64 w1.drew ao n f ∧ Below w.heap.size w w1.drew) := ⟨M1.below (Below.drawn b1 1) M1.lt, HA.out.below (Below.drawn b1 1), HB0.out.trans ((Below.drawn b1 1).mono HB0.out.size)⟩
    clear hW M1 HA HB0 b1
    go_wp2_with fail
    obtain ⟨m0, m1, m2, m3, m4⟩ := (show MB w1 w.heap.size 26 4 c v h ao n cap from H5.out.1).cells
    refine wp_region_held_drew (S := (fun w' => w'.cell? ⟨w.heap.size, 0, none⟩ = some (.int .i64 4) ∧ w'.cell? ⟨w.heap.size, 1, none⟩ = some (.int .i64 c) ∧ w'.cell? ⟨w.heap.size, 2, none⟩ = some (.int .i64 v) ∧ w'.cell? ⟨w.heap.size, 3, none⟩ = some (.int .i64 h) ∧ w'.cell? ⟨w.heap.size, 4, none⟩ = some (.slice ao n cap))) (by kernel_rfl) ?_ (fun hHeld => ?_)
    · exact ⟨m0, m1, m2, m3, m4⟩
    refine wpAnyH_take (i := 0) (oi := { dst := some 6, op := Op.move (Operand.tmp 3), type := 78, pos := "l04_msg.go:60", after := #[], guard := none }) (v := ?_) rfl (by kernel_rfl) (by kernel_rfl) (by kernel_rfl) (fun _ _ _ h => h) (Or.inl ⟨by rfl, ?_⟩) (by assumption) ?_
    rotate_left 1
    · (intro wq hSw; (try dsimp only at hSw); go_simp; try with_reducible rfl)
    try simp only [Act.put, List.setIfInBounds_toArray, List.set_cons_zero, List.set_cons_succ]
    refine wpAnyH_take (i := 1) (oi := { dst := some 7, op := Op.binOp BinOp.neq 78 (Operand.tmp 6) (Operand.const Value.nilIface) 78, type := 4, pos := "l04_msg.go:60", after := #[{ on := 0, ground := Ground.data }], guard := none }) (v := ?_) rfl (by kernel_rfl) (by kernel_rfl) (by kernel_rfl) (fun _ _ _ h => h) (Or.inl ⟨by rfl, ?_⟩) (by assumption) ?_
    rotate_left 1
    · (intro wq hSw; (try dsimp only at hSw); go_simp; try with_reducible rfl)
    try simp only [Act.put, List.setIfInBounds_toArray, List.set_cons_zero, List.set_cons_succ]
    refine wpAnyH_take (i := 2) (oi := { dst := some 8, op := Op.move (Operand.tmp 7), type := 4, pos := "l04_msg.go:60", after := #[{ on := 1, ground := Ground.data }], guard := none }) (v := ?_) rfl (by kernel_rfl) (by kernel_rfl) (by kernel_rfl) (fun _ _ _ h => h) (Or.inl ⟨by rfl, ?_⟩) (by assumption) ?_
    rotate_left 1
    · (intro wq hSw; (try dsimp only at hSw); go_simp; try with_reducible rfl)
    try simp only [Act.put, List.setIfInBounds_toArray, List.set_cons_zero, List.set_cons_succ]
    refine wpAnyH_take (i := 3) (oi := { dst := some 9, op := Op.move (Operand.tmp 3), type := 78, pos := "l04_msg.go:60", after := #[{ on := 2, ground := Ground.guard }], guard := some (2, true) }) (v := ?_) rfl (by kernel_rfl) (by kernel_rfl) (by kernel_rfl) (fun _ _ _ h => h) (Or.inl ⟨by rfl, ?_⟩) (by assumption) ?_
    rotate_left 1
    · (intro wq hSw; (try dsimp only at hSw); go_simp; try with_reducible rfl)
    try simp only [Act.put, List.setIfInBounds_toArray, List.set_cons_zero, List.set_cons_succ]
    refine wpAnyH_ready (rs := [4]) (by kernel_rfl) (by simp) ?_
    refine AllReadyH.cons (o := { dst := some 10, op := Op.call { callee := Callee.invoke (Operand.tmp 9) "loop.example/g00399/impl.inBounds", args := #[], argTypes := #[] }, type := 4, pos := "l04_msg.go:60", after := #[{ on := 3, ground := Ground.data }, { on := 2, ground := Ground.chain }, { on := 2, ground := Ground.guard }], guard := some (2, true) }) rfl (fun K hK => ?_) AllReadyH.nil
    go_simp
    refine (hbnd.out _).mono ?_
    rintro e w6 ⟨rfl, b6⟩
    have H6 : Hid (MB w6 w.heap.size 26 4 c v h ao n cap ∧ SL .i64 w6 ao n f ∧ Below w.heap.size w w6) := ⟨H5.out.1.below b6 H5.out.1.lt, H5.out.2.1.below b6, H5.out.2.2.trans (b6.mono H5.out.2.2.size)⟩
    have hk6 := H6.out.1.cells
    clear b6
    go_wp2_with fail
    refine hK.out _ _ ?_ (fun hHeld => ?_)
    · exact hk6
    clear hK K
    try simp only [Act.put, List.setIfInBounds_toArray, List.set_cons_zero, List.set_cons_succ]
    refine wpAnyH_take (i := 5) (oi := { dst := some 11, op := Op.pick (Operand.tmp 8) (Operand.tmp 10) (Operand.const (Value.bool false)), type := 4, pos := "l04_msg.go:60", after := #[{ on := 2, ground := Ground.data }, { on := 4, ground := Ground.data }], guard := none }) (v := ?_) rfl (by kernel_rfl) (by kernel_rfl) (by kernel_rfl) (fun _ _ _ h => h) (Or.inl ⟨by rfl, ?_⟩) (by assumption) ?_
    rotate_left 1
    · (intro wq hSw; (try dsimp only at hSw); go_simp; try with_reducible rfl)
    try simp only [Act.put, List.setIfInBounds_toArray, List.set_cons_zero, List.set_cons_succ]
    refine wpAnyH_take (i := 6) (oi := { dst := some 12, op := Op.move (Operand.tmp 11), type := 4, pos := "l04_msg.go:60", after := #[{ on := 5, ground := Ground.data }, { on := 4, ground := Ground.chain }], guard := none }) (v := ?_) rfl (by kernel_rfl) (by kernel_rfl) (by kernel_rfl) (fun _ _ _ h => h) (Or.inl ⟨by rfl, ?_⟩) (by assumption) ?_
    rotate_left 1
    · (intro wq hSw; (try dsimp only at hSw); go_simp; try with_reducible rfl)
    try simp only [Act.put, List.setIfInBounds_toArray, List.set_cons_zero, List.set_cons_succ]
    refine wpAnyH_take (i := 7) (oi := { dst := some 13, op := Op.load 26 (Operand.tmp 1), type := 26, pos := "l04_msg.go:60", after := #[{ on := 6, ground := Ground.guard }], guard := some (6, true) }) (v := ?_) rfl (by kernel_rfl) (by kernel_rfl) (by kernel_rfl) (fun _ _ _ h => h) (Or.inl ⟨by rfl, ?_⟩) (by assumption) ?_
    rotate_left 1
    · (intro wq hSw; (try dsimp only at hSw); go_simp; try with_reducible rfl)
    try simp only [Act.put, List.setIfInBounds_toArray, List.set_cons_zero, List.set_cons_succ]
    refine wpAnyH_take (i := 8) (oi := { dst := some 14, op := Op.move (Operand.tmp 3), type := 78, pos := "l04_msg.go:60", after := #[{ on := 6, ground := Ground.guard }], guard := some (6, true) }) (v := ?_) rfl (by kernel_rfl) (by kernel_rfl) (by kernel_rfl) (fun _ _ _ h => h) (Or.inl ⟨by rfl, ?_⟩) (by assumption) ?_
    rotate_left 1
    · (intro wq hSw; (try dsimp only at hSw); go_simp; try with_reducible rfl)
    try simp only [Act.put, List.setIfInBounds_toArray, List.set_cons_zero, List.set_cons_succ]
    refine wpAnyH_ready (rs := [9]) (by kernel_rfl) (by simp) ?_
    refine AllReadyH.cons (o := { dst := some 15, op := Op.call { callee := Callee.value (Operand.func 68), args := #[Operand.tmp 14], argTypes := #[78] }, type := 26, pos := "l04_msg.go:60", after := #[{ on := 8, ground := Ground.data }, { on := 6, ground := Ground.chain }, { on := 6, ground := Ground.guard }], guard := some (6, true) }) rfl (fun K hK => ?_) AllReadyH.nil
    go_simp
    refine (saidby4 ao n cap c v h _).mono ?_
    rintro e w7 ⟨rfl, b7⟩
    have H7 : Hid (MB w7 w.heap.size 26 4 c v h ao n cap ∧ SL .i64 w7 ao n f ∧ Below w.heap.size w w7) := ⟨H6.out.1.below b7 H6.out.1.lt, H6.out.2.1.below b7, H6.out.2.2.trans (b7.mono H6.out.2.2.size)⟩
    have hk7 := H7.out.1.cells
    clear b7
    go_wp2_with fail
    refine hK.out _ _ ?_ (fun hHeld => ?_)
    · exact hk7
    clear hK K
    try simp only [Act.put, List.setIfInBounds_toArray, List.set_cons_zero, List.set_cons_succ]
    refine wpAnyH_ready (rs := [10]) (by kernel_rfl) (by simp) ?_
    refine AllReadyH.cons (o := { dst := some 16, op := Op.call { callee := Callee.value (Operand.func 67), args := #[Operand.tmp 13, Operand.tmp 15], argTypes := #[26, 26] }, type := 4, pos := "l04_msg.go:60", after := #[{ on := 7, ground := Ground.data }, { on := 9, ground := Ground.data }, { on := 9, ground := Ground.chain }, { on := 6, ground := Ground.guard }], guard := some (6, true) }) rfl (fun K hK => ?_) AllReadyH.nil
    go_simp
    refine (hsame.out _ H7.out.2.1).mono ?_
    rintro e w8 ⟨rfl, b8⟩
    have H8 : Hid (MB w8 w.heap.size 26 4 c v h ao n cap ∧ SL .i64 w8 ao n f ∧ Below w.heap.size w w8) := ⟨H7.out.1.below b8 H7.out.1.lt, H7.out.2.1.below b8, H7.out.2.2.trans (b8.mono H7.out.2.2.size)⟩
    have hk8 := H8.out.1.cells
    clear b8
    go_wp2_with fail
    refine hK.out _ _ ?_ (fun hHeld => ?_)
    · exact hk8
    clear hK K
    try simp only [Act.put, List.setIfInBounds_toArray, List.set_cons_zero, List.set_cons_succ]
    refine wpAnyH_take (i := 11) (oi := { dst := some 17, op := Op.pick (Operand.tmp 12) (Operand.tmp 16) (Operand.const (Value.bool false)), type := 4, pos := "l04_msg.go:60", after := #[{ on := 6, ground := Ground.data }, { on := 10, ground := Ground.data }], guard := none }) (v := ?_) rfl (by kernel_rfl) (by kernel_rfl) (by kernel_rfl) (fun _ _ _ h => h) (Or.inl ⟨by rfl, ?_⟩) (by assumption) ?_
    rotate_left 1
    · (intro wq hSw; (try dsimp only at hSw); go_simp; try with_reducible rfl)
    try simp only [Act.put, List.setIfInBounds_toArray, List.set_cons_zero, List.set_cons_succ]
    refine wpAnyH_take (i := 12) (oi := { dst := some 2, op := Op.assign (Operand.tmp 17), type := 4, pos := "l04_msg.go:60", after := #[{ on := 11, ground := Ground.data }, { on := 10, ground := Ground.chain }, { on := 0, ground := Ground.phase }, { on := 1, ground := Ground.phase }, { on := 2, ground := Ground.phase }, { on := 3, ground := Ground.phase }, { on := 4, ground := Ground.phase }, { on := 5, ground := Ground.phase }, { on := 6, ground := Ground.phase }, { on := 7, ground := Ground.phase }, { on := 8, ground := Ground.phase }, { on := 9, ground := Ground.phase }, { on := 10, ground := Ground.phase }, { on := 11, ground := Ground.phase }], guard := none }) (v := ?_) rfl (by kernel_rfl) (by kernel_rfl) (by kernel_rfl) (fun _ _ _ h => h) (Or.inl ⟨by rfl, ?_⟩) (by assumption) ?_
    rotate_left 1
    · (intro wq hSw; (try dsimp only at hSw); go_simp; try with_reducible rfl)
    try simp only [Act.put, List.setIfInBounds_toArray, List.set_cons_zero, List.set_cons_succ]
    refine wpAnyH_done (by kernel_rfl) ?_ _
    go_wp2
    go_ret
    cases b2 with
    | true => exact Tells.yes (HY.out.1 rfl) H8.out.2.2
    | false => exact Tells.no (fun x => absurd (HY.out.2 x) (by simp)) H8.out.2.2

set_option maxHeartbeats 1000000 in
set_option maxRecDepth 100000 in
theorem msgok5i (ao : Option Addr) (n cap : Nat) (f : Nat → Int) (c v h : Int) (w : World) (hn : n ≤ 1048576) (hcap : n ≤ cap) (hs : SL .i64 w ao n f) :
    Calls Try.prog 22 #[.agg #[.int .i64 5, .int .i64 c, .int .i64 v, .int .i64 h, .slice ao n cap]] w fun e w' => Tells w w' e (MOk 5 c v h f n) := by
  have HM : Hid (MOk 5 c v h f n ↔ ((0 ≤ v ∧ v ≤ 200) ∧ GOk f n) ∧ ((5 : Int) = 5 ∧ c = 0 ∧ v = v ∧ h = 0) ∧ SameI f f n n) := by
    show _ ↔ _
    unfold MOk SameI
    constructor
    · rintro (x | x)
      all_goals first
        | exact absurd x.1 (by omega)
        | exact ⟨⟨by omega, x.2.1⟩, by omega, rfl, fun _ _ => rfl⟩
        | exact ⟨by have := x.2.2.2.1; split at this <;> omega, by omega, by omega, fun _ _ => rfl⟩
    · rintro ⟨x, y, z, _⟩
      first
        | exact .inl ⟨rfl, x.2, by omega, by omega, by omega⟩
        | exact .inr ⟨by omega, by omega, by omega, by split <;> omega, by omega⟩
  obtain ⟨W, hW⟩ : ∃ W, W = w.alloc (.cells #[.int .i64 5, .int .i64 c, .int .i64 v, .int .i64 h, .slice ao n cap] 26) := ⟨_, rfl⟩
  have M1 : MB W w.heap.size 26 5 c v h ao n cap := by rw [hW]; exact MB.new w _ _ c v h ao n cap
  have hb : Below w.heap.size w W := by rw [hW]; exact (Below.refl _ _).alloc (Nat.le_refl _) _
  have HA := hide (hs.below hb)
  have HB0 := hide hb
  clear hs hb
  obtain ⟨b, hbb⟩ := tellsB ((0 ≤ v ∧ v ≤ 200) ∧ GOk f n)
  have hbnd : Hid (∀ W, SL .i64 W ao n f → Calls Try.prog 129 #[.agg #[.int .i64 v, .slice ao n cap]] W fun e w' => e = .returned (.bool b) ∧ Below W.heap.size W w') := fun W hW => bnd_done ao n cap f v W hn hcap hW b hbb
  obtain ⟨b2, hbb2⟩ := tellsB (((5 : Int) = 5 ∧ c = 0 ∧ v = v ∧ h = 0) ∧ SameI f f n n)
  have hsame : Hid (∀ W, SL .i64 W ao n f → Calls Try.prog 67 #[.agg #[.int .i64 5, .int .i64 c, .int .i64 v, .int .i64 h, .slice ao n cap], .agg #[.int .i64 5, .int .i64 0, .int .i64 v, .int .i64 0, .slice ao n cap]] W fun e w' => e = .returned (.bool b2) ∧ Below W.heap.size W w') := fun W hW => samemsg_b ao ao n n cap cap f f 5 c v h 5 0 v 0 W hn hW hW b2 hbb2
  have HN : b = false → Hid (¬ MOk 5 c v h f n) := fun e x => by rw [e] at hbb; exact absurd (hbb.2 (HM.out.1 x).1) (by simp)
  have HY : b = true → Hid (b2 = true ↔ MOk 5 c v h f n) := fun e => (show _ ↔ _ from ⟨fun e2 => HM.out.2 ⟨hbb.1 e, hbb2.1 e2⟩, fun x => hbb2.2 (HM.out.1 x).2⟩)
  clear hbb hbb2 HM
  cases b with
  | false =>
    clear HY hsame
    replace HN := HN rfl
    go_enter Try.func22, Try.ntmps22
    go_wp2_with fail
    rw [← hW]
    refine (sayof5 ao n cap c v h _).mono ?_
    rintro e w1 ⟨rfl, b1⟩
    have H5 : Hid (MB w1.drew w.heap.size 26 5 c v h ao n cap ∧ SL .i64 w1.drew ao n f ∧ Below w.heap.size w w1.drew) := ⟨M1.below (Below.drawn b1 1) M1.lt, HA.out.below (Below.drawn b1 1), HB0.out.trans ((Below.drawn b1 1).mono HB0.out.size)⟩
    clear hW M1 HA HB0 b1
    go_wp2_with fail
    obtain ⟨m0, m1, m2, m3, m4⟩ := (show MB w1 w.heap.size 26 5 c v h ao n cap from H5.out.1).cells
    refine wp_region_held_drew (S := (fun w' => w'.cell? ⟨w.heap.size, 0, none⟩ = some (.int .i64 5) ∧ w'.cell? ⟨w.heap.size, 1, none⟩ = some (.int .i64 c) ∧ w'.cell? ⟨w.heap.size, 2, none⟩ = some (.int .i64 v) ∧ w'.cell? ⟨w.heap.size, 3, none⟩ = some (.int .i64 h) ∧ w'.cell? ⟨w.heap.size, 4, none⟩ = some (.slice ao n cap))) (by kernel_rfl) ?_ (fun hHeld => ?_)
    · exact ⟨m0, m1, m2, m3, m4⟩
    refine wpAnyH_take (i := 0) (oi := { dst := some 6, op := Op.move (Operand.tmp 3), type := 78, pos := "l04_msg.go:60", after := #[], guard := none }) (v := ?_) rfl (by kernel_rfl) (by kernel_rfl) (by kernel_rfl) (fun _ _ _ h => h) (Or.inl ⟨by rfl, ?_⟩) (by assumption) ?_
    rotate_left 1
    · (intro wq hSw; (try dsimp only at hSw); go_simp; try with_reducible rfl)
    try simp only [Act.put, List.setIfInBounds_toArray, List.set_cons_zero, List.set_cons_succ]
    refine wpAnyH_take (i := 1) (oi := { dst := some 7, op := Op.binOp BinOp.neq 78 (Operand.tmp 6) (Operand.const Value.nilIface) 78, type := 4, pos := "l04_msg.go:60", after := #[{ on := 0, ground := Ground.data }], guard := none }) (v := ?_) rfl (by kernel_rfl) (by kernel_rfl) (by kernel_rfl) (fun _ _ _ h => h) (Or.inl ⟨by rfl, ?_⟩) (by assumption) ?_
    rotate_left 1
    · (intro wq hSw; (try dsimp only at hSw); go_simp; try with_reducible rfl)
    try simp only [Act.put, List.setIfInBounds_toArray, List.set_cons_zero, List.set_cons_succ]
    refine wpAnyH_take (i := 2) (oi := { dst := some 8, op := Op.move (Operand.tmp 7), type := 4, pos := "l04_msg.go:60", after := #[{ on := 1, ground := Ground.data }], guard := none }) (v := ?_) rfl (by kernel_rfl) (by kernel_rfl) (by kernel_rfl) (fun _ _ _ h => h) (Or.inl ⟨by rfl, ?_⟩) (by assumption) ?_
    rotate_left 1
    · (intro wq hSw; (try dsimp only at hSw); go_simp; try with_reducible rfl)
    try simp only [Act.put, List.setIfInBounds_toArray, List.set_cons_zero, List.set_cons_succ]
    refine wpAnyH_take (i := 3) (oi := { dst := some 9, op := Op.move (Operand.tmp 3), type := 78, pos := "l04_msg.go:60", after := #[{ on := 2, ground := Ground.guard }], guard := some (2, true) }) (v := ?_) rfl (by kernel_rfl) (by kernel_rfl) (by kernel_rfl) (fun _ _ _ h => h) (Or.inl ⟨by rfl, ?_⟩) (by assumption) ?_
    rotate_left 1
    · (intro wq hSw; (try dsimp only at hSw); go_simp; try with_reducible rfl)
    try simp only [Act.put, List.setIfInBounds_toArray, List.set_cons_zero, List.set_cons_succ]
    refine wpAnyH_ready (rs := [4]) (by kernel_rfl) (by simp) ?_
    refine AllReadyH.cons (o := { dst := some 10, op := Op.call { callee := Callee.invoke (Operand.tmp 9) "loop.example/g00399/impl.inBounds", args := #[], argTypes := #[] }, type := 4, pos := "l04_msg.go:60", after := #[{ on := 3, ground := Ground.data }, { on := 2, ground := Ground.chain }, { on := 2, ground := Ground.guard }], guard := some (2, true) }) rfl (fun K hK => ?_) AllReadyH.nil
    go_simp
    refine (hbnd.out _ H5.out.2.1).mono ?_
    rintro e w6 ⟨rfl, b6⟩
    have H6 : Hid (MB w6 w.heap.size 26 5 c v h ao n cap ∧ SL .i64 w6 ao n f ∧ Below w.heap.size w w6) := ⟨H5.out.1.below b6 H5.out.1.lt, H5.out.2.1.below b6, H5.out.2.2.trans (b6.mono H5.out.2.2.size)⟩
    have hk6 := H6.out.1.cells
    clear b6
    go_wp2_with fail
    refine hK.out _ _ ?_ (fun hHeld => ?_)
    · exact hk6
    clear hK K
    try simp only [Act.put, List.setIfInBounds_toArray, List.set_cons_zero, List.set_cons_succ]
    refine wpAnyH_take (i := 5) (oi := { dst := some 11, op := Op.pick (Operand.tmp 8) (Operand.tmp 10) (Operand.const (Value.bool false)), type := 4, pos := "l04_msg.go:60", after := #[{ on := 2, ground := Ground.data }, { on := 4, ground := Ground.data }], guard := none }) (v := ?_) rfl (by kernel_rfl) (by kernel_rfl) (by kernel_rfl) (fun _ _ _ h => h) (Or.inl ⟨by rfl, ?_⟩) (by assumption) ?_
    rotate_left 1
    · (intro wq hSw; (try dsimp only at hSw); go_simp; try with_reducible rfl)
    try simp only [Act.put, List.setIfInBounds_toArray, List.set_cons_zero, List.set_cons_succ]
    refine wpAnyH_take (i := 6) (oi := { dst := some 12, op := Op.move (Operand.tmp 11), type := 4, pos := "l04_msg.go:60", after := #[{ on := 5, ground := Ground.data }, { on := 4, ground := Ground.chain }], guard := none }) (v := ?_) rfl (by kernel_rfl) (by kernel_rfl) (by kernel_rfl) (fun _ _ _ h => h) (Or.inl ⟨by rfl, ?_⟩) (by assumption) ?_
    rotate_left 1
    · (intro wq hSw; (try dsimp only at hSw); go_simp; try with_reducible rfl)
    try simp only [Act.put, List.setIfInBounds_toArray, List.set_cons_zero, List.set_cons_succ]
    refine wpAnyH_take (i := 7) (oi := { dst := some 13, op := Op.load 26 (Operand.tmp 1), type := 26, pos := "l04_msg.go:60", after := #[{ on := 6, ground := Ground.guard }], guard := some (6, true) }) (v := undef) rfl (by kernel_rfl) (by kernel_rfl) (by kernel_rfl) (fun _ _ _ h => h) (Or.inr ⟨by rfl, rfl⟩) (by assumption) ?_
    try simp only [Act.put, List.setIfInBounds_toArray, List.set_cons_zero, List.set_cons_succ]
    refine wpAnyH_take (i := 8) (oi := { dst := some 14, op := Op.move (Operand.tmp 3), type := 78, pos := "l04_msg.go:60", after := #[{ on := 6, ground := Ground.guard }], guard := some (6, true) }) (v := undef) rfl (by kernel_rfl) (by kernel_rfl) (by kernel_rfl) (fun _ _ _ h => h) (Or.inr ⟨by rfl, rfl⟩) (by assumption) ?_
    try simp only [Act.put, List.setIfInBounds_toArray, List.set_cons_zero, List.set_cons_succ]
    refine wpAnyH_take (i := 9) (oi := { dst := some 15, op := Op.call { callee := Callee.value (Operand.func 68), args := #[Operand.tmp 14], argTypes := #[78] }, type := 26, pos := "l04_msg.go:60", after := #[{ on := 8, ground := Ground.data }, { on := 6, ground := Ground.chain }, { on := 6, ground := Ground.guard }], guard := some (6, true) }) (v := undef) rfl (by kernel_rfl) (by kernel_rfl) (by kernel_rfl) (fun _ _ _ h => h) (Or.inr ⟨by rfl, rfl⟩) (by assumption) ?_
    try simp only [Act.put, List.setIfInBounds_toArray, List.set_cons_zero, List.set_cons_succ]
    refine wpAnyH_take (i := 10) (oi := { dst := some 16, op := Op.call { callee := Callee.value (Operand.func 67), args := #[Operand.tmp 13, Operand.tmp 15], argTypes := #[26, 26] }, type := 4, pos := "l04_msg.go:60", after := #[{ on := 7, ground := Ground.data }, { on := 9, ground := Ground.data }, { on := 9, ground := Ground.chain }, { on := 6, ground := Ground.guard }], guard := some (6, true) }) (v := undef) rfl (by kernel_rfl) (by kernel_rfl) (by kernel_rfl) (fun _ _ _ h => h) (Or.inr ⟨by rfl, rfl⟩) (by assumption) ?_
    try simp only [Act.put, List.setIfInBounds_toArray, List.set_cons_zero, List.set_cons_succ]
    refine wpAnyH_take (i := 11) (oi := { dst := some 17, op := Op.pick (Operand.tmp 12) (Operand.tmp 16) (Operand.const (Value.bool false)), type := 4, pos := "l04_msg.go:60", after := #[{ on := 6, ground := Ground.data }, { on := 10, ground := Ground.data }], guard := none }) (v := ?_) rfl (by kernel_rfl) (by kernel_rfl) (by kernel_rfl) (fun _ _ _ h => h) (Or.inl ⟨by rfl, ?_⟩) (by assumption) ?_
    rotate_left 1
    · (intro wq hSw; (try dsimp only at hSw); go_simp; try with_reducible rfl)
    try simp only [Act.put, List.setIfInBounds_toArray, List.set_cons_zero, List.set_cons_succ]
    refine wpAnyH_take (i := 12) (oi := { dst := some 2, op := Op.assign (Operand.tmp 17), type := 4, pos := "l04_msg.go:60", after := #[{ on := 11, ground := Ground.data }, { on := 10, ground := Ground.chain }, { on := 0, ground := Ground.phase }, { on := 1, ground := Ground.phase }, { on := 2, ground := Ground.phase }, { on := 3, ground := Ground.phase }, { on := 4, ground := Ground.phase }, { on := 5, ground := Ground.phase }, { on := 6, ground := Ground.phase }, { on := 7, ground := Ground.phase }, { on := 8, ground := Ground.phase }, { on := 9, ground := Ground.phase }, { on := 10, ground := Ground.phase }, { on := 11, ground := Ground.phase }], guard := none }) (v := ?_) rfl (by kernel_rfl) (by kernel_rfl) (by kernel_rfl) (fun _ _ _ h => h) (Or.inl ⟨by rfl, ?_⟩) (by assumption) ?_
    rotate_left 1
    · (intro wq hSw; (try dsimp only at hSw); go_simp; try with_reducible rfl)
    try simp only [Act.put, List.setIfInBounds_toArray, List.set_cons_zero, List.set_cons_succ]
    refine wpAnyH_done (by kernel_rfl) ?_ _
    go_wp2
    go_ret
    exact Tells.no HN.out H6.out.2.2
  | true =>
    clear HN
    replace HY := HY rfl
    go_enter Try.func22, Try.ntmps22
    go_wp2_with fail
    rw [← hW]
    refine (sayof5 ao n cap c v h _).mono ?_
    rintro e w1 ⟨rfl, b1⟩
    have H5 : Hid (MB w1.drew w.heap.size 26 5 c v h ao n cap ∧ SL .i64 w1.drew ao n f ∧ Below w.heap.size w w1.drew) := ⟨M1.below (Below.drawn b1 1) M1.lt, HA.out.below (Below.drawn b1 1), HB0.out.trans ((Below.drawn b1 1).mono HB0.out.size)⟩
    clear hW M1 HA HB0 b1
    go_wp2_with fail
    obtain ⟨m0, m1, m2, m3, m4⟩ := (show MB w1 w.heap.size 26 5 c v h ao n cap from H5.out.1).cells
    refine wp_region_held_drew (S := (fun w' => w'.cell? ⟨w.heap.size, 0, none⟩ = some (.int .i64 5) ∧ w'.cell? ⟨w.heap.size, 1, none⟩ = some (.int .i64 c) ∧ w'.cell? ⟨w.heap.size, 2, none⟩ = some (.int .i64 v) ∧ w'.cell? ⟨w.heap.size, 3, none⟩ = some (.int .i64 h) ∧ w'.cell? ⟨w.heap.size, 4, none⟩ = some (.slice ao n cap))) (by kernel_rfl) ?_ (fun hHeld => ?_)
    · exact ⟨m0, m1, m2, m3, m4⟩
    refine wpAnyH_take (i := 0) (oi := { dst := some 6, op := Op.move (Operand.tmp 3), type := 78, pos := "l04_msg.go:60", after := #[], guard := none }) (v := ?_) rfl (by kernel_rfl) (by kernel_rfl) (by kernel_rfl) (fun _ _ _ h => h) (Or.inl ⟨by rfl, ?_⟩) (by assumption) ?_
    rotate_left 1
    · (intro wq hSw; (try dsimp only at hSw); go_simp; try with_reducible rfl)
    try simp only [Act.put, List.setIfInBounds_toArray, List.set_cons_zero, List.set_cons_succ]
    refine wpAnyH_take (i := 1) (oi := { dst := some 7, op := Op.binOp BinOp.neq 78 (Operand.tmp 6) (Operand.const Value.nilIface) 78, type := 4, pos := "l04_msg.go:60", after := #[{ on := 0, ground := Ground.data }], guard := none }) (v := ?_) rfl (by kernel_rfl) (by kernel_rfl) (by kernel_rfl) (fun _ _ _ h => h) (Or.inl ⟨by rfl, ?_⟩) (by assumption) ?_
    rotate_left 1
    · (intro wq hSw; (try dsimp only at hSw); go_simp; try with_reducible rfl)
    try simp only [Act.put, List.setIfInBounds_toArray, List.set_cons_zero, List.set_cons_succ]
    refine wpAnyH_take (i := 2) (oi := { dst := some 8, op := Op.move (Operand.tmp 7), type := 4, pos := "l04_msg.go:60", after := #[{ on := 1, ground := Ground.data }], guard := none }) (v := ?_) rfl (by kernel_rfl) (by kernel_rfl) (by kernel_rfl) (fun _ _ _ h => h) (Or.inl ⟨by rfl, ?_⟩) (by assumption) ?_
    rotate_left 1
    · (intro wq hSw; (try dsimp only at hSw); go_simp; try with_reducible rfl)
    try simp only [Act.put, List.setIfInBounds_toArray, List.set_cons_zero, List.set_cons_succ]
    refine wpAnyH_take (i := 3) (oi := { dst := some 9, op := Op.move (Operand.tmp 3), type := 78, pos := "l04_msg.go:60", after := #[{ on := 2, ground := Ground.guard }], guard := some (2, true) }) (v := ?_) rfl (by kernel_rfl) (by kernel_rfl) (by kernel_rfl) (fun _ _ _ h => h) (Or.inl ⟨by rfl, ?_⟩) (by assumption) ?_
    rotate_left 1
    · (intro wq hSw; (try dsimp only at hSw); go_simp; try with_reducible rfl)
    try simp only [Act.put, List.setIfInBounds_toArray, List.set_cons_zero, List.set_cons_succ]
    refine wpAnyH_ready (rs := [4]) (by kernel_rfl) (by simp) ?_
    refine AllReadyH.cons (o := { dst := some 10, op := Op.call { callee := Callee.invoke (Operand.tmp 9) "loop.example/g00399/impl.inBounds", args := #[], argTypes := #[] }, type := 4, pos := "l04_msg.go:60", after := #[{ on := 3, ground := Ground.data }, { on := 2, ground := Ground.chain }, { on := 2, ground := Ground.guard }], guard := some (2, true) }) rfl (fun K hK => ?_) AllReadyH.nil
    go_simp
    refine (hbnd.out _ H5.out.2.1).mono ?_
    rintro e w6 ⟨rfl, b6⟩
    have H6 : Hid (MB w6 w.heap.size 26 5 c v h ao n cap ∧ SL .i64 w6 ao n f ∧ Below w.heap.size w w6) := ⟨H5.out.1.below b6 H5.out.1.lt, H5.out.2.1.below b6, H5.out.2.2.trans (b6.mono H5.out.2.2.size)⟩
    have hk6 := H6.out.1.cells
    clear b6
    go_wp2_with fail
    refine hK.out _ _ ?_ (fun hHeld => ?_)
    · exact hk6
    clear hK K
    try simp only [Act.put, List.setIfInBounds_toArray, List.set_cons_zero, List.set_cons_succ]
    refine wpAnyH_take (i := 5) (oi := { dst := some 11, op := Op.pick (Operand.tmp 8) (Operand.tmp 10) (Operand.const (Value.bool false)), type := 4, pos := "l04_msg.go:60", after := #[{ on := 2, ground := Ground.data }, { on := 4, ground := Ground.data }], guard := none }) (v := ?_) rfl (by kernel_rfl) (by kernel_rfl) (by kernel_rfl) (fun _ _ _ h => h) (Or.inl ⟨by rfl, ?_⟩) (by assumption) ?_
    rotate_left 1
    · (intro wq hSw; (try dsimp only at hSw); go_simp; try with_reducible rfl)
    try simp only [Act.put, List.setIfInBounds_toArray, List.set_cons_zero, List.set_cons_succ]
    refine wpAnyH_take (i := 6) (oi := { dst := some 12, op := Op.move (Operand.tmp 11), type := 4, pos := "l04_msg.go:60", after := #[{ on := 5, ground := Ground.data }, { on := 4, ground := Ground.chain }], guard := none }) (v := ?_) rfl (by kernel_rfl) (by kernel_rfl) (by kernel_rfl) (fun _ _ _ h => h) (Or.inl ⟨by rfl, ?_⟩) (by assumption) ?_
    rotate_left 1
    · (intro wq hSw; (try dsimp only at hSw); go_simp; try with_reducible rfl)
    try simp only [Act.put, List.setIfInBounds_toArray, List.set_cons_zero, List.set_cons_succ]
    refine wpAnyH_take (i := 7) (oi := { dst := some 13, op := Op.load 26 (Operand.tmp 1), type := 26, pos := "l04_msg.go:60", after := #[{ on := 6, ground := Ground.guard }], guard := some (6, true) }) (v := ?_) rfl (by kernel_rfl) (by kernel_rfl) (by kernel_rfl) (fun _ _ _ h => h) (Or.inl ⟨by rfl, ?_⟩) (by assumption) ?_
    rotate_left 1
    · (intro wq hSw; (try dsimp only at hSw); go_simp; try with_reducible rfl)
    try simp only [Act.put, List.setIfInBounds_toArray, List.set_cons_zero, List.set_cons_succ]
    refine wpAnyH_take (i := 8) (oi := { dst := some 14, op := Op.move (Operand.tmp 3), type := 78, pos := "l04_msg.go:60", after := #[{ on := 6, ground := Ground.guard }], guard := some (6, true) }) (v := ?_) rfl (by kernel_rfl) (by kernel_rfl) (by kernel_rfl) (fun _ _ _ h => h) (Or.inl ⟨by rfl, ?_⟩) (by assumption) ?_
    rotate_left 1
    · (intro wq hSw; (try dsimp only at hSw); go_simp; try with_reducible rfl)
    try simp only [Act.put, List.setIfInBounds_toArray, List.set_cons_zero, List.set_cons_succ]
    refine wpAnyH_ready (rs := [9]) (by kernel_rfl) (by simp) ?_
    refine AllReadyH.cons (o := { dst := some 15, op := Op.call { callee := Callee.value (Operand.func 68), args := #[Operand.tmp 14], argTypes := #[78] }, type := 26, pos := "l04_msg.go:60", after := #[{ on := 8, ground := Ground.data }, { on := 6, ground := Ground.chain }, { on := 6, ground := Ground.guard }], guard := some (6, true) }) rfl (fun K hK => ?_) AllReadyH.nil
    go_simp
    refine (saidby5 ao n cap c v h _).mono ?_
    rintro e w7 ⟨rfl, b7⟩
    have H7 : Hid (MB w7 w.heap.size 26 5 c v h ao n cap ∧ SL .i64 w7 ao n f ∧ Below w.heap.size w w7) := ⟨H6.out.1.below b7 H6.out.1.lt, H6.out.2.1.below b7, H6.out.2.2.trans (b7.mono H6.out.2.2.size)⟩
    have hk7 := H7.out.1.cells
    clear b7
    go_wp2_with fail
    refine hK.out _ _ ?_ (fun hHeld => ?_)
    · exact hk7
    clear hK K
    try simp only [Act.put, List.setIfInBounds_toArray, List.set_cons_zero, List.set_cons_succ]
    refine wpAnyH_ready (rs := [10]) (by kernel_rfl) (by simp) ?_
    refine AllReadyH.cons (o := { dst := some 16, op := Op.call { callee := Callee.value (Operand.func 67), args := #[Operand.tmp 13, Operand.tmp 15], argTypes := #[26, 26] }, type := 4, pos := "l04_msg.go:60", after := #[{ on := 7, ground := Ground.data }, { on := 9, ground := Ground.data }, { on := 9, ground := Ground.chain }, { on := 6, ground := Ground.guard }], guard := some (6, true) }) rfl (fun K hK => ?_) AllReadyH.nil
    go_simp
    refine (hsame.out _ H7.out.2.1).mono ?_
    rintro e w8 ⟨rfl, b8⟩
    have H8 : Hid (MB w8 w.heap.size 26 5 c v h ao n cap ∧ SL .i64 w8 ao n f ∧ Below w.heap.size w w8) := ⟨H7.out.1.below b8 H7.out.1.lt, H7.out.2.1.below b8, H7.out.2.2.trans (b8.mono H7.out.2.2.size)⟩
    have hk8 := H8.out.1.cells
    clear b8
    go_wp2_with fail
    refine hK.out _ _ ?_ (fun hHeld => ?_)
    · exact hk8
    clear hK K
    try simp only [Act.put, List.setIfInBounds_toArray, List.set_cons_zero, List.set_cons_succ]
    refine wpAnyH_take (i := 11) (oi := { dst := some 17, op := Op.pick (Operand.tmp 12) (Operand.tmp 16) (Operand.const (Value.bool false)), type := 4, pos := "l04_msg.go:60", after := #[{ on := 6, ground := Ground.data }, { on := 10, ground := Ground.data }], guard := none }) (v := ?_) rfl (by kernel_rfl) (by kernel_rfl) (by kernel_rfl) (fun _ _ _ h => h) (Or.inl ⟨by rfl, ?_⟩) (by assumption) ?_
    rotate_left 1
    · (intro wq hSw; (try dsimp only at hSw); go_simp; try with_reducible rfl)
    try simp only [Act.put, List.setIfInBounds_toArray, List.set_cons_zero, List.set_cons_succ]
    refine wpAnyH_take (i := 12) (oi := { dst := some 2, op := Op.assign (Operand.tmp 17), type := 4, pos := "l04_msg.go:60", after := #[{ on := 11, ground := Ground.data }, { on := 10, ground := Ground.chain }, { on := 0, ground := Ground.phase }, { on := 1, ground := Ground.phase }, { on := 2, ground := Ground.phase }, { on := 3, ground := Ground.phase }, { on := 4, ground := Ground.phase }, { on := 5, ground := Ground.phase }, { on := 6, ground := Ground.phase }, { on := 7, ground := Ground.phase }, { on := 8, ground := Ground.phase }, { on := 9, ground := Ground.phase }, { on := 10, ground := Ground.phase }, { on := 11, ground := Ground.phase }], guard := none }) (v := ?_) rfl (by kernel_rfl) (by kernel_rfl) (by kernel_rfl) (fun _ _ _ h => h) (Or.inl ⟨by rfl, ?_⟩) (by assumption) ?_
    rotate_left 1
    · (intro wq hSw; (try dsimp only at hSw); go_simp; try with_reducible rfl)
    try simp only [Act.put, List.setIfInBounds_toArray, List.set_cons_zero, List.set_cons_succ]
    refine wpAnyH_done (by kernel_rfl) ?_ _
    go_wp2
    go_ret
    cases b2 with
    | true => exact Tells.yes (HY.out.1 rfl) H8.out.2.2
    | false => exact Tells.no (fun x => absurd (HY.out.2 x) (by simp)) H8.out.2.2

theorem sayof0 (ao : Option Addr) (n cap : Nat) (k c v h : Int) (w : World) (h5 : k ≠ 5) (h1 : k ≠ 1) (h2 : k ≠ 2) (h3 : k ≠ 3) (h4 : k ≠ 4) :
    Calls Try.prog 66 #[.agg #[.int .i64 k, .int .i64 c, .int .i64 v, .int .i64 h, .slice ao n cap]] w fun e w' => e = .returned .nilIface ∧ Below w.heap.size w w' := by
  have d5 : decide (k = 5) = false := by simpa using h5
  have d1 : decide (k = 1) = false := by simpa using h1
  have d2 : decide (k = 2) = false := by simpa using h2
  have d3 : decide (k = 3) = false := by simpa using h3
  have d4 : decide (k = 4) = false := by simpa using h4
  go_enter Try.func66, Try.ntmps66
  go_wp2
  go_ret
  exact ⟨rfl, (Below.refl _ _).alloc (Nat.le_refl _) _⟩
set_option maxHeartbeats 1000000 in
set_option maxRecDepth 100000 in
theorem msgok0i (ao : Option Addr) (n cap : Nat) (f : Nat → Int) (k c v h : Int) (w : World) (hs : SL .i64 w ao n f) (h5 : k ≠ 5) (h1 : k ≠ 1) (h2 : k ≠ 2) (h3 : k ≠ 3) (h4 : k ≠ 4) :
    Calls Try.prog 22 #[.agg #[.int .i64 k, .int .i64 c, .int .i64 v, .int .i64 h, .slice ao n cap]] w fun e w' => Tells w w' e (MOk k c v h f n) := by
  have HM : Hid (¬ MOk k c v h f n) := fun x => by unfold MOk at x; omega
  obtain ⟨W, hW⟩ : ∃ W, W = w.alloc (.cells #[.int .i64 k, .int .i64 c, .int .i64 v, .int .i64 h, .slice ao n cap] 26) := ⟨_, rfl⟩
  have M1 : MB W w.heap.size 26 k c v h ao n cap := by rw [hW]; exact MB.new w _ _ c v h ao n cap
  have hb : Below w.heap.size w W := by rw [hW]; exact (Below.refl _ _).alloc (Nat.le_refl _) _
  have HA := hide (hs.below hb)
  have HB0 := hide hb
  have hcall := hide (sayof0 ao n cap k c v h W h5 h1 h2 h3 h4)
  clear hs hb h5 h1 h2 h3 h4
  go_enter Try.func22, Try.ntmps22
  go_wp2_with fail
  rw [← hW]
  refine hcall.out.mono ?_
  rintro e w1 ⟨rfl, b1⟩
  have H5 : Hid (MB w1.drew w.heap.size 26 k c v h ao n cap ∧ SL .i64 w1.drew ao n f ∧ Below w.heap.size w w1.drew) := ⟨M1.below (Below.drawn b1 1) M1.lt, HA.out.below (Below.drawn b1 1), HB0.out.trans ((Below.drawn b1 1).mono HB0.out.size)⟩
  clear hW M1 HA HB0 b1 hcall
  go_wp2_with fail
  obtain ⟨m0, m1, m2, m3, m4⟩ := (show MB w1 w.heap.size 26 k c v h ao n cap from H5.out.1).cells
  refine wp_region_held_drew (S := (fun w' => w'.cell? ⟨w.heap.size, 0, none⟩ = some (.int .i64 k) ∧ w'.cell? ⟨w.heap.size, 1, none⟩ = some (.int .i64 c) ∧ w'.cell? ⟨w.heap.size, 2, none⟩ = some (.int .i64 v) ∧ w'.cell? ⟨w.heap.size, 3, none⟩ = some (.int .i64 h) ∧ w'.cell? ⟨w.heap.size, 4, none⟩ = some (.slice ao n cap))) (by kernel_rfl) ?_ (fun hHeld => ?_)
  · exact ⟨m0, m1, m2, m3, m4⟩
  refine wpAnyH_take (i := 0) (oi := { dst := some 6, op := Op.move (Operand.tmp 3), type := 78, pos := "l04_msg.go:60", after := #[], guard := none }) (v := ?_) rfl (by kernel_rfl) (by kernel_rfl) (by kernel_rfl) (fun _ _ _ h => h) (Or.inl ⟨by rfl, ?_⟩) (by assumption) ?_
  rotate_left 1
  · (intro wq hSw; (try dsimp only at hSw); go_simp; try with_reducible rfl)
  try simp only [Act.put, List.setIfInBounds_toArray, List.set_cons_zero, List.set_cons_succ]
  refine wpAnyH_take (i := 1) (oi := { dst := some 7, op := Op.binOp BinOp.neq 78 (Operand.tmp 6) (Operand.const Value.nilIface) 78, type := 4, pos := "l04_msg.go:60", after := #[{ on := 0, ground := Ground.data }], guard := none }) (v := ?_) rfl (by kernel_rfl) (by kernel_rfl) (by kernel_rfl) (fun _ _ _ h => h) (Or.inl ⟨by rfl, ?_⟩) (by assumption) ?_
  rotate_left 1
  · (intro wq hSw; (try dsimp only at hSw); go_simp; try with_reducible rfl)
  try simp only [Act.put, List.setIfInBounds_toArray, List.set_cons_zero, List.set_cons_succ]
  refine wpAnyH_take (i := 2) (oi := { dst := some 8, op := Op.move (Operand.tmp 7), type := 4, pos := "l04_msg.go:60", after := #[{ on := 1, ground := Ground.data }], guard := none }) (v := ?_) rfl (by kernel_rfl) (by kernel_rfl) (by kernel_rfl) (fun _ _ _ h => h) (Or.inl ⟨by rfl, ?_⟩) (by assumption) ?_
  rotate_left 1
  · (intro wq hSw; (try dsimp only at hSw); go_simp; try with_reducible rfl)
  try simp only [Act.put, List.setIfInBounds_toArray, List.set_cons_zero, List.set_cons_succ]
  refine wpAnyH_take (i := 3) (oi := { dst := some 9, op := Op.move (Operand.tmp 3), type := 78, pos := "l04_msg.go:60", after := #[{ on := 2, ground := Ground.guard }], guard := some (2, true) }) (v := undef) rfl (by kernel_rfl) (by kernel_rfl) (by kernel_rfl) (fun _ _ _ h => h) (Or.inr ⟨by rfl, rfl⟩) (by assumption) ?_
  try simp only [Act.put, List.setIfInBounds_toArray, List.set_cons_zero, List.set_cons_succ]
  refine wpAnyH_take (i := 4) (oi := { dst := some 10, op := Op.call { callee := Callee.invoke (Operand.tmp 9) "loop.example/g00399/impl.inBounds", args := #[], argTypes := #[] }, type := 4, pos := "l04_msg.go:60", after := #[{ on := 3, ground := Ground.data }, { on := 2, ground := Ground.chain }, { on := 2, ground := Ground.guard }], guard := some (2, true) }) (v := undef) rfl (by kernel_rfl) (by kernel_rfl) (by kernel_rfl) (fun _ _ _ h => h) (Or.inr ⟨by rfl, rfl⟩) (by assumption) ?_
  try simp only [Act.put, List.setIfInBounds_toArray, List.set_cons_zero, List.set_cons_succ]
  refine wpAnyH_take (i := 5) (oi := { dst := some 11, op := Op.pick (Operand.tmp 8) (Operand.tmp 10) (Operand.const (Value.bool false)), type := 4, pos := "l04_msg.go:60", after := #[{ on := 2, ground := Ground.data }, { on := 4, ground := Ground.data }], guard := none }) (v := ?_) rfl (by kernel_rfl) (by kernel_rfl) (by kernel_rfl) (fun _ _ _ h => h) (Or.inl ⟨by rfl, ?_⟩) (by assumption) ?_
  rotate_left 1
  · (intro wq hSw; (try dsimp only at hSw); go_simp; try with_reducible rfl)
  try simp only [Act.put, List.setIfInBounds_toArray, List.set_cons_zero, List.set_cons_succ]
  refine wpAnyH_take (i := 6) (oi := { dst := some 12, op := Op.move (Operand.tmp 11), type := 4, pos := "l04_msg.go:60", after := #[{ on := 5, ground := Ground.data }, { on := 4, ground := Ground.chain }], guard := none }) (v := ?_) rfl (by kernel_rfl) (by kernel_rfl) (by kernel_rfl) (fun _ _ _ h => h) (Or.inl ⟨by rfl, ?_⟩) (by assumption) ?_
  rotate_left 1
  · (intro wq hSw; (try dsimp only at hSw); go_simp; try with_reducible rfl)
  try simp only [Act.put, List.setIfInBounds_toArray, List.set_cons_zero, List.set_cons_succ]
  refine wpAnyH_take (i := 7) (oi := { dst := some 13, op := Op.load 26 (Operand.tmp 1), type := 26, pos := "l04_msg.go:60", after := #[{ on := 6, ground := Ground.guard }], guard := some (6, true) }) (v := undef) rfl (by kernel_rfl) (by kernel_rfl) (by kernel_rfl) (fun _ _ _ h => h) (Or.inr ⟨by rfl, rfl⟩) (by assumption) ?_
  try simp only [Act.put, List.setIfInBounds_toArray, List.set_cons_zero, List.set_cons_succ]
  refine wpAnyH_take (i := 8) (oi := { dst := some 14, op := Op.move (Operand.tmp 3), type := 78, pos := "l04_msg.go:60", after := #[{ on := 6, ground := Ground.guard }], guard := some (6, true) }) (v := undef) rfl (by kernel_rfl) (by kernel_rfl) (by kernel_rfl) (fun _ _ _ h => h) (Or.inr ⟨by rfl, rfl⟩) (by assumption) ?_
  try simp only [Act.put, List.setIfInBounds_toArray, List.set_cons_zero, List.set_cons_succ]
  refine wpAnyH_take (i := 9) (oi := { dst := some 15, op := Op.call { callee := Callee.value (Operand.func 68), args := #[Operand.tmp 14], argTypes := #[78] }, type := 26, pos := "l04_msg.go:60", after := #[{ on := 8, ground := Ground.data }, { on := 6, ground := Ground.chain }, { on := 6, ground := Ground.guard }], guard := some (6, true) }) (v := undef) rfl (by kernel_rfl) (by kernel_rfl) (by kernel_rfl) (fun _ _ _ h => h) (Or.inr ⟨by rfl, rfl⟩) (by assumption) ?_
  try simp only [Act.put, List.setIfInBounds_toArray, List.set_cons_zero, List.set_cons_succ]
  refine wpAnyH_take (i := 10) (oi := { dst := some 16, op := Op.call { callee := Callee.value (Operand.func 67), args := #[Operand.tmp 13, Operand.tmp 15], argTypes := #[26, 26] }, type := 4, pos := "l04_msg.go:60", after := #[{ on := 7, ground := Ground.data }, { on := 9, ground := Ground.data }, { on := 9, ground := Ground.chain }, { on := 6, ground := Ground.guard }], guard := some (6, true) }) (v := undef) rfl (by kernel_rfl) (by kernel_rfl) (by kernel_rfl) (fun _ _ _ h => h) (Or.inr ⟨by rfl, rfl⟩) (by assumption) ?_
  try simp only [Act.put, List.setIfInBounds_toArray, List.set_cons_zero, List.set_cons_succ]
  refine wpAnyH_take (i := 11) (oi := { dst := some 17, op := Op.pick (Operand.tmp 12) (Operand.tmp 16) (Operand.const (Value.bool false)), type := 4, pos := "l04_msg.go:60", after := #[{ on := 6, ground := Ground.data }, { on := 10, ground := Ground.data }], guard := none }) (v := ?_) rfl (by kernel_rfl) (by kernel_rfl) (by kernel_rfl) (fun _ _ _ h => h) (Or.inl ⟨by rfl, ?_⟩) (by assumption) ?_
  rotate_left 1
  · (intro wq hSw; (try dsimp only at hSw); go_simp; try with_reducible rfl)
  try simp only [Act.put, List.setIfInBounds_toArray, List.set_cons_zero, List.set_cons_succ]
  refine wpAnyH_take (i := 12) (oi := { dst := some 2, op := Op.assign (Operand.tmp 17), type := 4, pos := "l04_msg.go:60", after := #[{ on := 11, ground := Ground.data }, { on := 10, ground := Ground.chain }, { on := 0, ground := Ground.phase }, { on := 1, ground := Ground.phase }, { on := 2, ground := Ground.phase }, { on := 3, ground := Ground.phase }, { on := 4, ground := Ground.phase }, { on := 5, ground := Ground.phase }, { on := 6, ground := Ground.phase }, { on := 7, ground := Ground.phase }, { on := 8, ground := Ground.phase }, { on := 9, ground := Ground.phase }, { on := 10, ground := Ground.phase }, { on := 11, ground := Ground.phase }], guard := none }) (v := ?_) rfl (by kernel_rfl) (by kernel_rfl) (by kernel_rfl) (fun _ _ _ h => h) (Or.inl ⟨by rfl, ?_⟩) (by assumption) ?_
  rotate_left 1
  · (intro wq hSw; (try dsimp only at hSw); go_simp; try with_reducible rfl)
  try simp only [Act.put, List.setIfInBounds_toArray, List.set_cons_zero, List.set_cons_succ]
  refine wpAnyH_done (by kernel_rfl) ?_ _
  go_wp2
  go_ret
  exact Tells.no HM.out H5.out.2.2

theorem msgok_impl (ao : Option Addr) (n cap : Nat) (f : Nat → Int) (k c v h : Int) (w : World) (hn : n ≤ 1048576) (hcap : n ≤ cap) (hs : SL .i64 w ao n f) :
    Calls Try.prog 22 #[.agg #[.int .i64 k, .int .i64 c, .int .i64 v, .int .i64 h, .slice ao n cap]] w fun e w' => Tells w w' e (MOk k c v h f n) := by
  by_cases h5 : k = 5
  · subst h5; exact msgok5i ao n cap f c v h w hn hcap hs
  · by_cases h1 : k = 1
    · subst h1; exact msgok1i ao n cap f c v h w hn hcap hs
    · by_cases h2 : k = 2
      · subst h2; exact msgok2i ao n cap f c v h w hn hcap hs
      · by_cases h3 : k = 3
        · subst h3; exact msgok3i ao n cap f c v h w hn hcap hs
        · by_cases h4 : k = 4
          · subst h4; exact msgok4i ao n cap f c v h w hn hcap hs
          · exact msgok0i ao n cap f k c v h w hs h5 h1 h2 h3 h4
end Go.Proofs.Ythhkmfgccbkkhaa

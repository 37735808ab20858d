/- What is known, marked, and found so. -/
import Derived.Test.YtjbhgedbkajmdaaGd
import Derived.Test.YtjbhgedbkajmdaaGa
import Derived.Test.YtjbhgedbkajmdaaGc
import Derived.Deep.Cut
import Derived.Deep.RegionHeld3
import Derived.Deep.AppendLies

namespace Go.Proofs.Ytjbhgedbkajmdaa
open Go.ChangeShapes Go.WideShapes Go.ChangeAt Go.RowKit
set_option linter.unusedVariables false
set_option linter.unusedSimpArgs false
set_option maxRecDepth 100000

theorem kmark_own (g n cap B : Nat) (k0 : Int) (F : Nat → Value) (w : World) (hn : n ≤ 1048576) (h0 : 0 ≤ k0) (h1 : k0 ≤ 1099511627776) (ho : Own w B 3 (some ⟨g, 0, none⟩) n F) :
    Calls Try.prog 36 #[.slice (some ⟨g, 0, none⟩) n cap, .int .i64 k0] w fun e w' => e = .returned (.int .i64 (k0 + n)) ∧ Own w' B 3 (some ⟨g, 0, none⟩) n (fun j => .int .i64 (k0 + j)) ∧ Only g w w' := by
  go_enter Try.func36, Try.ntmps36
  go_wp2
  go_loopw [1, 5] (fun m i wr => ∃ k : Nat, k ≤ n ∧ i = .int .i64 k ∧ m = .int .i64 (k0 + k) ∧ Own wr B 3 (some ⟨g, 0, none⟩) n (fun j => if j < k then .int .i64 (k0 + j) else F j) ∧ Only g w wr) (fun _ i _ => n - (intOf i).toNat)
  case atStart => exact ⟨0, Nat.zero_le _, rfl, by simp, ho.congr (by intro i _; simp), Only.refl _ _⟩
  case round =>
    obtain ⟨k, hk, rfl, rfl, hrow, hbel⟩ := hrel
    by_cases hlt : k < n
    · obtain ⟨g', e, hB, hg, hc, hf⟩ := hrow.at hlt
      cases e
      have R := imark_step hrow
      have R2 := hbel.setCell (i := k) (.int .i64 (k0 + k))
      clear hrow ho
      go_wp2
      go_roundw
      case rel => exact ⟨k + 1, by omega, by go_num, by go_num, R, R2⟩
      case measure => simp [intOf]; omega
    · have hkn : k = n := by omega
      subst hkn
      go_wp2
      go_ret
      exact ⟨rfl, hrow.congr (by intro i hi; rw [if_pos (by omega)]), hbel⟩
theorem kmark_zero (ao : Option Addr) (cap : Nat) (k0 : Int) (w : World) :
    Calls Try.prog 36 #[.slice ao 0 cap, .int .i64 k0] w fun e w' => e = .returned (.int .i64 k0) ∧ w' = w := by
  go_enter Try.func36, Try.ntmps36
  go_wp2
  refine wp_loop_rounds 1 ?_
  rw [rounds_succ]
  go_wp2
  go_ret
  exact ⟨rfl, rfl⟩
/-- A row marked: what else there is stays as it was. -/
def Mkd (w w' : World) (B T n : Nat) (ao : Option Addr) (k : Int) : Prop :=
  (n = 0 ∧ w' = w) ∨ ∃ γ, ao = some ⟨γ, 0, none⟩ ∧ 0 < n ∧ Only γ w w' ∧ Rt w' B T ao n (fun t => .int .i64 (k + t))
theorem kmark_any (ao : Option Addr) (n cap B T : Nat) (k0 : Int) (F : Nat → Value) (w : World) (hn : n ≤ 1048576) (h0 : 0 ≤ k0) (h1 : k0 ≤ 1099511627776) (ho : Rt w B T ao n F) :
    Calls Try.prog 36 #[.slice ao n cap, .int .i64 k0] w fun e w' => e = .returned (.int .i64 (k0 + n)) ∧ Mkd w w' B T n ao k0 := by
  rcases Nat.eq_zero_or_pos n with rfl | hp
  · refine (kmark_zero ao cap k0 w).mono ?_
    rintro e w' ⟨rfl, rfl⟩
    exact ⟨by simp, .inl ⟨rfl, rfl⟩⟩
  · obtain ⟨γ, rfl, hB, hT⟩ := ho.at hp
    refine (kmark_own γ n cap B k0 F w hn h0 h1 ho.own).mono ?_
    rintro e w' ⟨rfl, h2, h3⟩
    refine ⟨rfl, .inr ⟨γ, rfl, hp, h3, ?_⟩⟩
    rcases h2 with h2 | ⟨γ', e, hB', r⟩
    · exact .inl h2
    · cases e
      exact .inr ⟨γ, rfl, ⟨hB, hT⟩, r⟩
/-- Of what there was, blocks from B on below T alone were written. -/
def OnB (B T : Nat) (w w' : World) : Prop := Below B w w' ∧ ∀ j, j < w.heap.size → T ≤ j → w'.heap[j]? = w.heap[j]?
theorem OnB.refl (B T : Nat) (w : World) : OnB B T w w := ⟨Below.refl _ _, fun _ _ _ => rfl⟩
theorem OnB.trans {B T : Nat} {w w1 w2 : World} (h : OnB B T w w1) (h' : OnB B T w1 w2) : OnB B T w w2 :=
  ⟨h.1.trans h'.1, fun j h1 h2 => (h'.2 j (Nat.lt_of_lt_of_le h1 h.1.size) h2).trans (h.2 j h1 h2)⟩
theorem OnB.of_below {B T : Nat} {w w1 : World} (h : Below w.heap.size w w1) (hB : B ≤ w.heap.size) : OnB B T w w1 := ⟨h.mono hB, fun j h1 _ => h.block j h1⟩
theorem OnB.only {B T γ : Nat} {w w1 : World} (h : Only γ w w1) (hγ : B ≤ γ ∧ γ < T) : OnB B T w w1 := ⟨h.1.mono hγ.1, fun j _ h2 => h.2.2 j (by omega)⟩
theorem Mkd.onb {w w' : World} {B T n : Nat} {ao : Option Addr} {k : Int} (h : Mkd w w' B T n ao k) : OnB B T w w' := by
  rcases h with ⟨_, rfl⟩ | ⟨γ, e, hp, ho, hr⟩
  · exact OnB.refl _ _ _
  · obtain ⟨γ', e', hg⟩ := hr.at hp
    rw [e] at e'
    cases e'
    exact OnB.only ho hg
theorem OR.mkd {w w' : World} {B T n j : Nat} {k : Int} {L : Nat → List Int} {R : Nat → Option Addr × Nat} (h : OR w B T n L R) (hj : j < n) (hw : Mkd w w' B T (L j).length (R j).1 k) : OR w' B T n (fun i => if i = j then mkl k (L j).length else L i) R := h.mark hj hw
theorem SR.mkd {w w' : World} {B T B' T' n m : Nat} {bo ao : Option Addr} {k : Int} {L : Nat → List Int} {R : Nat → Option Addr × Nat} {F : Nat → Value} (h : SR w B T bo n L R) (hr : Rt w B' T' ao m F) (hw : Mkd w w' B' T' m ao k) : SR w' B T bo n L R := by
  rcases hw with ⟨_, rfl⟩ | ⟨γ, e, hp, ho, _⟩
  · exact h
  · rcases hr with hr | ⟨g, e', _, c, hc, _⟩
    · omega
    · rw [e] at e'
      cases e'
      exact h.only hc ho

/-- .. also what it was marked by. -/
def mgs (g : List Int) (k : Int) : List Int := mkl k g.length
def mbs (g : List Int) (L : Nat → List Int) (n : Nat) (k : Int) : Nat → List Int := mrk L (k + g.length) n

end Go.Proofs.Ytjbhgedbkajmdaa

/- A block that holds what is known. -/
namespace Go.Proofs.Ytjbhgedbkajmdaa
open Go.ChangeShapes Go.WideShapes Go.ChangeAt Go.RowKit
set_option linter.unusedVariables false
set_option linter.unusedSimpArgs false

def KB (w : World) (b : Nat) (t : TypeId) (go : Option Addr) (gl gc : Nat) (bo : Option Addr) (n bc : Nat) (fi ol he : Bool) (la : Int) : Prop :=
  w.heap[b]? = some (.cells #[.slice go gl gc, .slice bo n bc, .bool fi, .bool ol, .bool he, .int .i64 la] t (0, 0))
theorem KB.lt {w : World} {b : Nat} {t : TypeId} {go : Option Addr} {gl gc : Nat} {bo : Option Addr} {n bc : Nat} {fi ol he : Bool} {la : Int} (h : KB w b t go gl gc bo n bc fi ol he la) : b < w.heap.size := (Array.getElem?_eq_some_iff.1 h).1
theorem KB.new (w : World) (t : TypeId) (go : Option Addr) (gl gc : Nat) (bo : Option Addr) (n bc : Nat) (fi ol he : Bool) (la : Int) : KB (w.alloc (.cells #[.slice go gl gc, .slice bo n bc, .bool fi, .bool ol, .bool he, .int .i64 la] t)) w.heap.size t go gl gc bo n bc fi ol he la := Deep.blk_alloc_new _ _
theorem KB.below {w w' : World} {b X : Nat} {t : TypeId} {go : Option Addr} {gl gc : Nat} {bo : Option Addr} {n bc : Nat} {fi ol he : Bool} {la : Int} (h : KB w b t go gl gc bo n bc fi ol he la) (hb : Below X w w') (hg : b < X) : KB w' b t go gl gc bo n bc fi ol he la := (hb.block b hg).trans h
theorem KB.b {w w' : World} {b : Nat} {t : TypeId} {go : Option Addr} {gl gc : Nat} {bo : Option Addr} {n bc : Nat} {fi ol he : Bool} {la : Int} (h : KB w b t go gl gc bo n bc fi ol he la) (hb : Below w.heap.size w w') : KB w' b t go gl gc bo n bc fi ol he la := (hb.block b h.lt).trans h
theorem KB.cells {w : World} {b : Nat} {t : TypeId} {go : Option Addr} {gl gc : Nat} {bo : Option Addr} {n bc : Nat} {fi ol he : Bool} {la : Int} (h : KB w b t go gl gc bo n bc fi ol he la) :
    w.cell? ⟨b, 0, none⟩ = some (.slice go gl gc) ∧ w.cell? ⟨b, 1, none⟩ = some (.slice bo n bc) ∧ w.cell? ⟨b, 2, none⟩ = some (.bool fi) ∧ w.cell? ⟨b, 3, none⟩ = some (.bool ol) ∧ w.cell? ⟨b, 4, none⟩ = some (.bool he) ∧ w.cell? ⟨b, 5, none⟩ = some (.int .i64 la) :=
  ⟨mblk h rfl, mblk h rfl, mblk h rfl, mblk h rfl, mblk h rfl, mblk h rfl⟩
theorem KB.froz {w : World} {b : Nat} {t : TypeId} {go : Option Addr} {gl gc : Nat} {bo : Option Addr} {n bc : Nat} {fi ol he : Bool} {la : Int} (h : KB w b t go gl gc bo n bc fi ol he la) : ∀ i, w.frozen? ⟨b, i, none⟩ = false := fun i => by
  unfold KB at h; simp [World.frozen?, h]
/-- What the laws take is not too long. -/
theorem bd_of {g : List Int} {n : Nat} {L : Nat → List Int} (h : (g.length : Int) + ((n : Int) + (psum L n : Int)) ≤ 1048576) : Bd g n L := by
  refine ⟨by omega, by omega, fun i hi => ?_⟩
  have := psum_one L i n hi
  omega
theorem bal1 (w : World) (o : Obj) : Below w.heap.size w (w.alloc o) := (Below.refl _ _).alloc (Nat.le_refl _) _
theorem alsz (w : World) (o : Obj) : (w.alloc o).heap.size = w.heap.size + 1 := by simp
end Go.Proofs.Ytjbhgedbkajmdaa

/- Mark of the model, as the draws want it. -/
namespace Go.Proofs.Ytjbhgedbkajmdaa
open Go.ChangeShapes Go.WideShapes Go.ChangeAt Go.RowKit
set_option linter.unusedVariables false
set_option linter.unusedSimpArgs false
set_option maxRecDepth 100000

theorem has_weak (ao : Option Addr) (n cap : Nat) (f : Nat → Int) (x : Int) (w : World) (hn : n ≤ 1048576) (hs : SL .i64 w ao n f) :
    Calls Try.prog 73 #[.slice ao n cap, .int .i64 x] w fun e w' => (∃ b : Bool, e = .returned (.bool b)) ∧ w' = w := by
  go_enter Try.func73, Try.ntmps73
  go_wp2
  go_loop [5] (fun i => ∃ k : Nat, k ≤ n ∧ i = .int .i64 k) (fun i => n - (intOf i).toNat)
  case atStart => exact ⟨0, by omega, rfl⟩
  case round =>
    obtain ⟨k, hk, rfl⟩ := hrel
    by_cases hlt : k < n
    · obtain ⟨b, off, rfl, hb, hc⟩ := hs k hlt
      clear hs
      generalize f k = y at *
      by_cases he : y = x
      · subst he
        go_wp2
        go_ret
        exact ⟨.inr rfl, rfl⟩
      · have hd : decide (y = x) = false := by simpa using he
        go_wp2
        go_round
        case rel => exact ⟨k + 1, by omega, by go_num⟩
        case measure => simp [intOf]; omega
    · obtain rfl : k = n := by omega
      go_wp2
      go_ret
      exact ⟨.inl rfl, rfl⟩
theorem in_weak (x lo hi : Int) (w : World) : Calls Try.prog 63 #[.int .i64 x, .int .i64 lo, .int .i64 hi] w fun e w' => (∃ b : Bool, e = .returned (.bool b)) ∧ w' = w := by
  by_cases h : lo ≤ x ∧ x ≤ hi
  · exact (in_yes x lo hi w h.1 h.2).mono fun e w' ⟨h1, h2⟩ => ⟨⟨true, h1⟩, h2⟩
  · exact (in_no x lo hi w (by omega)).mono fun e w' ⟨h1, h2⟩ => ⟨⟨false, h1⟩, h2⟩
/-- A row of marks that a draw has made. -/
def MkRow (w w' : World) (e : Ending) (N : Nat) : Prop := ∃ v, ∃ M : List Int, e = .returned v ∧ M.length ≤ N ∧ w'.ownsRow w.heap.size 3 1 v M.length (M.map (.int .i64)) ∧ Below w.heap.size w w'
theorem osrc {w : World} {g cap k : Nat} {M : List Int} (ho : ∀ j, j < M.length → w.cell? ⟨g, j, none⟩ = some (.int .i64 (M.getD j 0))) (hk : k ≤ M.length) : Src .i64 w (.slice (some ⟨g, 0, none⟩) k cap) (M.take k) := by
  refine .inr ⟨⟨g, 0, none⟩, cap, by simp [Nat.min_eq_left hk], fun j u hu => ?_⟩
  have hj : j < k := by
    by_cases hj : j < k
    · exact hj
    · rw [List.getElem?_eq_none (by simp; omega)] at hu; cases hu
  rw [Addr.add_lit, Nat.zero_add, ho j (by omega)]
  simpa [List.getD, List.getElem?_take, hj, show j < M.length by omega] using hu
theorem osrc_drop {w : World} {g cap k : Nat} {M : List Int} (ho : ∀ j, j < M.length → w.cell? ⟨g, j, none⟩ = some (.int .i64 (M.getD j 0))) (hk : k ≤ M.length) : Src .i64 w (.slice (some ⟨g, k, none⟩) (M.length - k) cap) (M.drop k) := by
  refine .inr ⟨⟨g, k, none⟩, cap, by simp, fun j u hu => ?_⟩
  have hj : j < M.length - k := by
    by_cases hj : j < M.length - k
    · exact hj
    · rw [List.getElem?_eq_none (by simp; omega)] at hu; cases hu
  rw [Addr.add_lit, ho (k + j) (by omega)]
  simpa [List.getD, show k + j < M.length by omega] using hu

theorem cells_b {w w' : World} {g : Nat} {M : List Int} (h : ∀ j, j < M.length → w.cell? ⟨g, j, none⟩ = some (.int .i64 (M.getD j 0))) (hb : Below w.heap.size w w') : ∀ j, j < M.length → w'.cell? ⟨g, j, none⟩ = some (.int .i64 (M.getD j 0)) :=
  fun j hj => (hb.cell (p := ⟨g, j, none⟩) (lt_of_cell (h j hj))).trans (h j hj)
theorem osrc_if {w : World} {g c0 cap k : Nat} {M : List Int} (ho : ∀ j, j < M.length → w.cell? ⟨g, j, none⟩ = some (.int .i64 (M.getD j 0))) (hk : k ≤ M.length) (hc : M.length ≤ c0) : Src .i64 w (.slice (if c0 = k then some ⟨g, 0, none⟩ else some ⟨g, k, none⟩) (M.length - k) cap) (M.drop k) := by
  by_cases e : c0 = k
  · rw [if_pos e]
    have h0 : M.drop k = [] := List.drop_eq_nil_iff.2 (by omega)
    rw [h0, show M.length - k = 0 by omega]
    exact .inr ⟨_, cap, rfl, fun j u hu => by simp at hu⟩
  · rw [if_neg e]
    exact osrc_drop ho hk
theorem one_lit (w : World) (z : Int) : (w.alloc (.cells #[.int .i64 z] 3)).ownsRow w.heap.size 3 1 (.slice (some ⟨w.heap.size, 0, none⟩) 1 1) [z].length ([z].map (.int .i64)) :=
  ⟨rfl, .inr ⟨_, _, #[.int .i64 z], rfl, Nat.le_refl _, Deep.blk_alloc_new _ _, by simp, by simp [maxLen], by simp, by simp⟩⟩
set_option maxHeartbeats 1000000 in
theorem mark_weak (v : Value) (M : List Int) (x : Int) (B : Nat) (w : World) (hM : M.length ≤ 20) (ho : w.ownsRow B 3 1 v M.length (M.map (.int .i64))) :
    Calls Try.prog 83 #[v, .int .i64 x] w fun e w' => MkRow w w' e (M.length + 1) := by
  obtain ⟨i0, hi, hz0, hz1, hz2⟩ := info_parts Try.info3
  have hsrc := Src.of_owns ho
  obtain ⟨ao, cap, rfl⟩ := hsrc.form
  have ba : Below w.heap.size w (w.alloc (.cells #[] 3)) := bal1 _ _
  have S0 := hide (hsrc.below ba)
  have HB := hide ba
  have hhas := hide (has_weak ao M.length cap _ x w (by omega) hsrc.slu)
  have stay : Hid (∀ v3 w3, w3.ownsRow w.heap.size 3 1 v3 (([] : List Int) ++ M).length ((([] : List Int) ++ M).map (.int .i64)) → (w.alloc (.cells #[] 3)).grownBy w3 (Value.slice (some ⟨w.heap.size, 0, none⟩) 0 0).ownBlock → MkRow w w3 (.returned v3) (M.length + 1)) := fun v3 w3 h1 h2 => ⟨v3, M, rfl, by omega, by simpa using h1, ggrown HB.out HB.out.size (gempty (ik := .i64) (t := 3) (Nat.le_refl _)) h2⟩
  have HO := hide ho
  have hnb : (Value.slice ao M.length cap = .slice none 0 0 ∧ M = []) ∨ ∃ g, ao = some ⟨g, 0, none⟩ ∧ M.length ≤ cap ∧ ∀ j, j < M.length → w.cell? ⟨g, j, none⟩ = some (.int .i64 (M.getD j 0)) := by
    rcases ho.2 with ⟨e, h0⟩ | ⟨g, cp, cur, e, _, _, hn, _⟩
    · exact .inl ⟨e, List.length_eq_zero_iff.1 h0⟩
    · injection e with e1 _ e3
      refine .inr ⟨g, e1, by rw [e3]; exact hn, fun j hj => ?_⟩
      obtain ⟨b, off, e4, _, hc⟩ := hsrc.slu j hj
      rw [e1] at e4
      cases e4
      simpa using hc
  clear hsrc ba ho
  go_enter Try.func83, Try.ntmps83
  go_wp2_with fail
  refine hhas.out.mono ?_
  rintro e w' ⟨⟨b, rfl⟩, hw⟩
  rw [hw]
  clear hw hhas
  cases b with
  | true =>
    go_wp2_with (first
      | (at_builtin; refine wpList_append_src rfl _ _ 24 rfl w.heap.size 3 i0 (.int .i64 0) 8 Try.underlying24 hi hz0 hz1 hz2 rfl .i64 _ [] rfl (gempty (Nat.le_refl _)) _ M rfl S0.out (by unfold maxLen; simp; omega) (by simp; omega) HB.out.size ?_; intro v3 w3 ho3 hg3; have R := hide (stay.out v3 w3 ho3 hg3); clear ho3 hg3))
    go_ret
    exact R.out
  | false =>
    go_wp2_with fail
    refine (in_weak x 0 7 w).mono ?_
    rintro e w' ⟨⟨b, rfl⟩, hw⟩
    rw [hw]
    clear hw
    cases b with
    | false =>
      go_wp2_with (first
        | (at_builtin; refine wpList_append_src rfl _ _ 24 rfl w.heap.size 3 i0 (.int .i64 0) 8 Try.underlying24 hi hz0 hz1 hz2 rfl .i64 _ [] rfl (gempty (Nat.le_refl _)) _ M rfl S0.out (by unfold maxLen; simp; omega) (by simp; omega) HB.out.size ?_; intro v3 w3 ho3 hg3; have R := hide (stay.out v3 w3 ho3 hg3); clear ho3 hg3))
      go_ret
      exact R.out
    | true =>
      rcases hnb with ⟨hv, hM0⟩ | ⟨g, hv, hcap, hcel⟩
      · subst hM0
        injection hv with h1 _ h3
        subst h1 h3
        go_wp2
        refine wp_loop_rounds 1 ?_
        rw [rounds_succ]
        go_wp2_with (first
          | (at_builtin; refine wpList_append_src rfl _ _ 24 rfl w.heap.size 3 i0 (.int .i64 0) 8 Try.underlying24 hi hz0 hz1 hz2 rfl .i64 _ N2 rfl O5.out _ ([] : List Int) rfl (.inl ⟨rfl, rfl⟩) (by unfold maxLen; simp <;> omega) (by simp <;> omega) B5.out.size ?_; intro v6 w6 ho6 hg6; have hl6 : (N2 ++ ([] : List Int)).length = N2.length + ([] : List Int).length := (by simp); generalize N2 ++ ([] : List Int) = N3 at ho6 hl6; have HL6 := hide hl6; clear hl6; have R := hide (And.intro ho6 (ggrown B5.out B5.out.size O5.out hg6)); clear ho6 hg6)
          | (at_builtin; refine wpList_append_src rfl _ _ 24 rfl w.heap.size 3 i0 (.int .i64 0) 8 Try.underlying24 hi hz0 hz1 hz2 rfl .i64 _ N1 rfl O4.out _ [x] rfl S4.out (by unfold maxLen; simp <;> omega) (by simp <;> omega) B4.out.size ?_; intro v5 w5 ho5 hg5; have hl5 : (N1 ++ [x]).length = N1.length + 1 := (by simp); have hm5 : (N1 ++ [x]).length ≤ 21 := (by omega); generalize N1 ++ [x] = N2 at ho5 hl5 hm5; have HL5 := hide hl5; clear hl5; have B5 := hide (ggrown B4.out B4.out.size O4.out hg5); have O5 := hide ho5; have HC5 := hide (B5.out); clear ho5 hg5)
          | (at_builtin; refine wpList_append_src rfl _ _ 24 rfl w.heap.size 3 i0 (.int .i64 0) 8 Try.underlying24 hi hz0 hz1 hz2 rfl .i64 _ [] rfl (gempty (Nat.le_refl _)) _ ([] : List Int) rfl (.inl ⟨rfl, rfl⟩) (by unfold maxLen; simp <;> omega) (by simp <;> omega) HB.out.size ?_; intro v3 w3 ho3 hg3; have hl3 : ([] ++ ([] : List Int)).length = 0 := (by simp <;> omega); have hm3 : ([] ++ ([] : List Int)).length ≤ 20 := (by omega); generalize [] ++ ([] : List Int) = N1 at ho3 hl3 hm3; have HL3 := hide hl3; clear hl3; have B3 := hide (ggrown HB.out HB.out.size (gempty (ik := .i64) (t := 3) (Nat.le_refl _)) hg3); have O4 := hide (ho3.alloc (.cells #[.int .i64 x] 3)); have S4 := hide (Src.of_owns (one_lit w3 x)); have B4 := hide (B3.out.alloc B3.out.size (.cells #[.int .i64 x] 3)); clear ho3 hg3)
          | go_in)
        go_ret
        exact ⟨_, N3, rfl, by rw [HL6.out, HL5.out, HL3.out]; simp, R.out.1, R.out.2⟩
      · subst hv
        have HC0 := hide hcel
        have HC1 : Hid (∀ j, j < M.length → (w.alloc (.cells #[] 3)).cell? ⟨g, j, none⟩ = some (.int .i64 (M.getD j 0))) := fun j hj => (HB.out.cell (p := ⟨g, j, none⟩) (lt_of_cell (hcel j hj))).trans (hcel j hj)
        clear hcel
        go_wp2
        go_loop [5] (fun i => ∃ k : Nat, k ≤ M.length ∧ i = .int .i64 k) (fun i => M.length - (intOf i).toNat)
        case atStart => exact ⟨0, by omega, rfl⟩
        case round =>
          obtain ⟨k, hk, rfl⟩ := hrel
          have hk0 : (0 : Int) ≤ (k : Int) := by omega
          have hkn : (k : Int) ≤ (M.length : Int) := by omega
          have hkc : (k : Int) ≤ (cap : Int) := by omega
          by_cases hlt : k < M.length
          · have hlt2 : (k : Int) < (M.length : Int) := by omega
            obtain ⟨y, hy0⟩ : ∃ y, M.getD k 0 = y := ⟨_, rfl⟩
            have hc2 : w.cell? ⟨g, k, none⟩ = some (.int .i64 y) := by rw [← hy0]; exact HC0.out k hlt
            clear hy0
            by_cases hy : y < x
            · go_wp2
              go_round
              case rel => exact ⟨k + 1, by omega, by go_num⟩
              case measure => simp [intOf]; omega
            · have hd : decide (y < x) = false := by simpa using hy
              go_wp2_with (first
                | (at_builtin; refine wpList_append_src rfl _ _ 24 rfl w.heap.size 3 i0 (.int .i64 0) 8 Try.underlying24 hi hz0 hz1 hz2 rfl .i64 _ N2 rfl O5.out _ (M.drop k) rfl (osrc_drop (w := w5) (cells_b HC0.out HC5.out) hk) (by unfold maxLen; simp; omega) (by simp; omega) B5.out.size ?_; intro v6 w6 ho6 hg6; have hl6 : (N2 ++ (M.drop k)).length = N2.length + (M.drop k).length := (by simp); generalize N2 ++ (M.drop k) = N3 at ho6 hl6; have HL6 := hide hl6; clear hl6; have R := hide (And.intro ho6 (ggrown B5.out B5.out.size O5.out hg6)); clear ho6 hg6)
                | (at_builtin; refine wpList_append_src rfl _ _ 24 rfl w.heap.size 3 i0 (.int .i64 0) 8 Try.underlying24 hi hz0 hz1 hz2 rfl .i64 _ N1 rfl O4.out _ [x] rfl S4.out (by unfold maxLen; simp; omega) (by simp; omega) B4.out.size ?_; intro v5 w5 ho5 hg5; have hl5 : (N1 ++ [x]).length = N1.length + 1 := (by simp); have hm5 : (N1 ++ [x]).length ≤ 21 := (by omega); generalize N1 ++ [x] = N2 at ho5 hl5 hm5; have HL5 := hide hl5; clear hl5; have B5 := hide (ggrown B4.out B4.out.size O4.out hg5); have O5 := hide ho5; have HC5 := hide (B5.out); clear ho5 hg5)
                | (at_builtin; refine wpList_append_src rfl _ _ 24 rfl w.heap.size 3 i0 (.int .i64 0) 8 Try.underlying24 hi hz0 hz1 hz2 rfl .i64 _ [] rfl (gempty (Nat.le_refl _)) _ (M.take k) rfl (osrc HC1.out hk) (by unfold maxLen; simp; omega) (by simp; omega) HB.out.size ?_; intro v3 w3 ho3 hg3; have hl3 : ([] ++ (M.take k)).length = k := (by simp <;> omega); have hm3 : ([] ++ (M.take k)).length ≤ 20 := (by omega); generalize [] ++ (M.take k) = N1 at ho3 hl3 hm3; have HL3 := hide hl3; clear hl3; have B3 := hide (ggrown HB.out HB.out.size (gempty (ik := .i64) (t := 3) (Nat.le_refl _)) hg3); have O4 := hide (ho3.alloc (.cells #[.int .i64 x] 3)); have S4 := hide (Src.of_owns (one_lit w3 x)); have B4 := hide (B3.out.alloc B3.out.size (.cells #[.int .i64 x] 3)); clear ho3 hg3)
                | go_in)
              go_ret
              exact ⟨_, N3, rfl, by rw [HL6.out, HL5.out, HL3.out]; simp; omega, R.out.1, R.out.2⟩
          · have hlt2 : ¬ (k : Int) < (M.length : Int) := by omega
            have hlt3 : decide ((k : Int) < (M.length : Int)) = false := by simpa using hlt2
            have hlt4 : decide (k < M.length) = false := by simpa using hlt
            go_wp2_with (first
              | (at_builtin; refine wpList_append_src rfl _ _ 24 rfl w.heap.size 3 i0 (.int .i64 0) 8 Try.underlying24 hi hz0 hz1 hz2 rfl .i64 _ N2 rfl O5.out _ (M.drop k) rfl (osrc_if (w := w5) (cells_b HC0.out HC5.out) hk hcap) (by unfold maxLen; simp; omega) (by simp; omega) B5.out.size ?_; intro v6 w6 ho6 hg6; have hl6 : (N2 ++ (M.drop k)).length = N2.length + (M.drop k).length := (by simp); generalize N2 ++ (M.drop k) = N3 at ho6 hl6; have HL6 := hide hl6; clear hl6; have R := hide (And.intro ho6 (ggrown B5.out B5.out.size O5.out hg6)); clear ho6 hg6)
              | (at_builtin; refine wpList_append_src rfl _ _ 24 rfl w.heap.size 3 i0 (.int .i64 0) 8 Try.underlying24 hi hz0 hz1 hz2 rfl .i64 _ N1 rfl O4.out _ [x] rfl S4.out (by unfold maxLen; simp; omega) (by simp; omega) B4.out.size ?_; intro v5 w5 ho5 hg5; have hl5 : (N1 ++ [x]).length = N1.length + 1 := (by simp); have hm5 : (N1 ++ [x]).length ≤ 21 := (by omega); generalize N1 ++ [x] = N2 at ho5 hl5 hm5; have HL5 := hide hl5; clear hl5; have B5 := hide (ggrown B4.out B4.out.size O4.out hg5); have O5 := hide ho5; have HC5 := hide (B5.out); clear ho5 hg5)
              | (at_builtin; refine wpList_append_src rfl _ _ 24 rfl w.heap.size 3 i0 (.int .i64 0) 8 Try.underlying24 hi hz0 hz1 hz2 rfl .i64 _ [] rfl (gempty (Nat.le_refl _)) _ (M.take k) rfl (osrc HC1.out hk) (by unfold maxLen; simp; omega) (by simp; omega) HB.out.size ?_; intro v3 w3 ho3 hg3; have hl3 : ([] ++ (M.take k)).length = k := (by simp <;> omega); have hm3 : ([] ++ (M.take k)).length ≤ 20 := (by omega); generalize [] ++ (M.take k) = N1 at ho3 hl3 hm3; have HL3 := hide hl3; clear hl3; have B3 := hide (ggrown HB.out HB.out.size (gempty (ik := .i64) (t := 3) (Nat.le_refl _)) hg3); have O4 := hide (ho3.alloc (.cells #[.int .i64 x] 3)); have S4 := hide (Src.of_owns (one_lit w3 x)); have B4 := hide (B3.out.alloc B3.out.size (.cells #[.int .i64 x] 3)); clear ho3 hg3)
              | go_in)
            all_goals
              go_ret
              exact ⟨_, N3, rfl, by rw [HL6.out, HL5.out, HL3.out]; simp; omega, R.out.1, R.out.2⟩
end Go.Proofs.Ytjbhgedbkajmdaa

/- What is one, of the model. -/
namespace Go.Proofs.Ytjbhgedbkajmdaa
open Go.ChangeShapes Go.WideShapes Go.ChangeAt Go.RowKit
set_option linter.unusedVariables false
set_option linter.unusedSimpArgs false

set_option maxHeartbeats 4000000 in
set_option maxRecDepth 100000 in
theorem mtok_spec (go bo : Option Addr) (gc bc : Nat) (g : List Int) (n : Nat) (L : Nat → List Int) (fi ol he : Bool) (la : Int) (w : World) (hd : Bd g n L) (hv : MV w go gc bo bc g n L) :
    Calls Try.prog 19 #[.agg #[.slice go g.length gc, .slice bo n bc, .bool fi, .bool ol, .bool he, .int .i64 la]] w fun e w' => Tells w w' e (MtOk g n L ol he la) := by
  obtain ⟨hg, hn, hLn⟩ := hd
  obtain ⟨W, hW⟩ : ∃ W, W = w.alloc (.cells #[.slice go g.length gc, .slice bo n bc, .bool fi, .bool ol, .bool he, .int .i64 la] 27) := ⟨_, rfl⟩
  have hb : Below w.heap.size w W := by rw [hW]; exact (Below.refl _ _).alloc (Nat.le_refl _) _
  have hblk : W.heap[w.heap.size]? = some (.cells #[.slice go g.length gc, .slice bo n bc, .bool fi, .bool ol, .bool he, .int .i64 la] 27 (0, 0)) := by rw [hW]; exact Deep.blk_alloc_new _ _
  have c0 : W.cell? ⟨w.heap.size, 0, none⟩ = some (.slice go g.length gc) := mblk hblk rfl
  have c1 : W.cell? ⟨w.heap.size, 1, none⟩ = some (.slice bo n bc) := mblk hblk rfl
  have c3 : W.cell? ⟨w.heap.size, 3, none⟩ = some (.bool ol) := mblk hblk rfl
  have c4 : W.cell? ⟨w.heap.size, 4, none⟩ = some (.bool he) := mblk hblk rfl
  have c5 : W.cell? ⟨w.heap.size, 5, none⟩ = some (.int .i64 la) := mblk hblk rfl
  have HB : Hid (∀ q, Below w.heap.size w (W.drewN q)) := fun q => Below.drawn hb q
  have hv' := hv.below hb
  have HG : Hid (∀ q, SL .i64 (W.drewN q) go g.length (fun i => g.getD i 0)) := fun q => hv'.2.1
  have HV : Hid (∀ q, BV (W.drewN q) bo n L) := fun q => hv'.2.2
  have HL := hide hLn
  have hgc := hv.1.1
  clear hv hv' hLn hblk hb
  go_enter Try.func19, Try.ntmps19
  go_wp2
  rw [← hW]
  clear hW
  go_loopw [3] (fun i wr => ∃ k : Nat, k ≤ n ∧ i = .int .i64 k ∧ Hid (∀ j, j < k → KOk (L j)) ∧ ∃ q, wr = W.drewN q) (fun i _ => n - (intOf i).toNat)
  case atStart => exact ⟨0, by omega, rfl, (fun j hj => absurd hj (by omega)), 0, rfl⟩
  case round =>
    obtain ⟨k, hk, rfl, A, q, rfl⟩ := hrel
    by_cases hlt : k < n
    · obtain ⟨b, off, ro, rc, rfl, hc, hrc, hsl⟩ := HV.out q k hlt
      have hcall := hide (marks_spec ro rc (L k) (W.drewN q) (HL.out k hlt) hsl)
      clear hsl hrc
      go_wp2_with fail
      refine hcall.out.mono ?_
      rintro e w1 ⟨h1, q1, rfl⟩
      clear hcall
      rcases h1 with ⟨hok, rfl⟩ | ⟨hok, rfl⟩
      · have HK := hide hok
        clear hok
        go_wp2
        go_roundw
        case rel =>
          refine ⟨k + 1, by omega, by go_num, fun j hj => ?_, _, rfl⟩
          by_cases e : j = k
          · subst e; exact HK.out
          · exact A.out j (by omega)
        case measure => simp [intOf]; omega
      · have HK : Hid (¬ MtOk g n L ol he la) := fun x => hok (x.2.1.2 k hlt)
        clear hok
        go_wp2
        go_ret
        exact Tells.no HK.out (HB.out _)
    · obtain rfl : k = n := by omega
      by_cases h1 : GOk (fun i => g.getD i 0) g.length
      · by_cases h2 : 0 < g.length
        · by_cases h3 : k = 3
          · have d3 : decide ((k : Int) = 3) = true := by simp; omega
            have d2 : decide ((0 : Int) < (g.length : Int)) = true := by simp; omega
            by_cases h4 : 0 ≤ la ∧ la ≤ 200
            · have HA : Hid (¬ (ol = true ∧ he = true) → MtOk g k L ol he la) := fun x => ⟨⟨h1, h2⟩, ⟨h3, A.out⟩, h4, x⟩
              have HN : Hid ((ol = true ∧ he = true) → ¬ MtOk g k L ol he la) := fun x y => y.2.2.2 x
              cases ol with
              | false =>
                go_wp2_with (first
                  | (go_at_call 32; refine (gens_yes _ _ _ _ _ hg hgc (HG.out _) h1).mono ?_; rintro e9 w9 ⟨rfl, q9, hw9⟩; rw [hw9]; clear hw9)
                  | (go_at_call 63; refine (in_yes _ _ _ _ h4.1 h4.2).mono ?_; rintro e9 w9 ⟨rfl, hw9⟩; rw [hw9]; clear hw9)
                  | fail)
                go_ret
                simp only [World.drewN_drewN]
                exact Tells.yes (HA.out (by simp)) (HB.out _)
              | true =>
                cases he with
                | false =>
                  go_wp2_with (first
                    | (go_at_call 32; refine (gens_yes _ _ _ _ _ hg hgc (HG.out _) h1).mono ?_; rintro e9 w9 ⟨rfl, q9, hw9⟩; rw [hw9]; clear hw9)
                    | (go_at_call 63; refine (in_yes _ _ _ _ h4.1 h4.2).mono ?_; rintro e9 w9 ⟨rfl, hw9⟩; rw [hw9]; clear hw9)
                    | fail)
                  go_ret
                  simp only [World.drewN_drewN]
                  exact Tells.yes (HA.out (by simp)) (HB.out _)
                | true =>
                  go_wp2_with (first
                    | (go_at_call 32; refine (gens_yes _ _ _ _ _ hg hgc (HG.out _) h1).mono ?_; rintro e9 w9 ⟨rfl, q9, hw9⟩; rw [hw9]; clear hw9)
                    | (go_at_call 63; refine (in_yes _ _ _ _ h4.1 h4.2).mono ?_; rintro e9 w9 ⟨rfl, hw9⟩; rw [hw9]; clear hw9)
                    | fail)
                  go_ret
                  simp only [World.drewN_drewN]
                  exact Tells.no (HN.out (by simp)) (HB.out _)
            · have h4' : la < 0 ∨ 200 < la := by omega
              have HN : Hid (¬ MtOk g k L ol he la) := fun x => h4 x.2.2.1
              clear h4
              go_wp2_with (first
                | (go_at_call 32; refine (gens_yes _ _ _ _ _ hg hgc (HG.out _) h1).mono ?_; rintro e9 w9 ⟨rfl, q9, hw9⟩; rw [hw9]; clear hw9)
                | (go_at_call 63; refine (in_no _ _ _ _ h4').mono ?_; rintro e9 w9 ⟨rfl, hw9⟩; rw [hw9]; clear hw9)
                | fail)
              go_ret
              simp only [World.drewN_drewN]
              exact Tells.no (HN.out) (HB.out _)
          · have d3 : decide ((k : Int) = 3) = false := by simp; omega
            have d3' : ((k : Int) == 3) = false := by simp; omega
            have d2 : decide ((0 : Int) < (g.length : Int)) = true := by simp; omega
            have HN : Hid (¬ MtOk g k L ol he la) := fun x => h3 x.2.1.1
            go_wp2_with (first
              | (go_at_call 32; refine (gens_yes _ _ _ _ _ hg hgc (HG.out _) h1).mono ?_; rintro e9 w9 ⟨rfl, q9, hw9⟩; rw [hw9]; clear hw9)
              | fail)
            go_ret
            simp only [World.drewN_drewN]
            exact Tells.no (HN.out) (HB.out _)
        · have d2 : decide ((0 : Int) < (g.length : Int)) = false := decide_eq_false (by omega)
          have HN : Hid (¬ MtOk g k L ol he la) := fun x => h2 x.1.2
          go_wp2_with (first
            | (go_at_call 32; refine (gens_yes _ _ _ _ _ hg hgc (HG.out _) h1).mono ?_; rintro e9 w9 ⟨rfl, q9, hw9⟩; rw [hw9]; clear hw9)
            | fail)
          go_ret
          simp only [World.drewN_drewN]
          exact Tells.no (HN.out) (HB.out _)
      · have HN : Hid (¬ MtOk g k L ol he la) := fun x => h1 x.1.1
        go_wp2_with (first
          | (go_at_call 32; refine (gens_no _ _ _ _ _ hg hgc (HG.out _) h1).mono ?_; rintro e9 w9 ⟨rfl, q9, hw9⟩; rw [hw9]; clear hw9)
          | fail)
        go_ret
        simp only [World.drewN_drewN]
        exact Tells.no (HN.out) (HB.out _)
end Go.Proofs.Ytjbhgedbkajmdaa

/- What is one, of the program. -/
namespace Go.Proofs.Ytjbhgedbkajmdaa
open Go.ChangeShapes Go.WideShapes Go.ChangeAt Go.RowKit
set_option linter.unusedVariables false
set_option linter.unusedSimpArgs false

theorem gensi_yes (ao : Option Addr) (n cap : Nat) (f : Nat → Int) (w : World) (hn : n ≤ 1048576) (hcap : n ≤ cap) (hs : SL .i64 w ao n f) (h : GOk f n) :
    Calls Try.prog 31 #[.slice ao n cap] w fun e w' => e = .returned (.bool true) ∧ ∃ q, w' = w.drewN q :=
  (gensok_impl ao n cap f w hn hcap hs).mono fun _ _ ⟨h1, h2⟩ => ⟨h1.elim (·.2) (fun x => absurd h x.1), h2⟩
theorem gensi_no (ao : Option Addr) (n cap : Nat) (f : Nat → Int) (w : World) (hn : n ≤ 1048576) (hcap : n ≤ cap) (hs : SL .i64 w ao n f) (h : ¬ GOk f n) :
    Calls Try.prog 31 #[.slice ao n cap] w fun e w' => e = .returned (.bool false) ∧ ∃ q, w' = w.drewN q :=
  (gensok_impl ao n cap f w hn hcap hs).mono fun _ _ ⟨h1, h2⟩ => ⟨h1.elim (fun x => absurd x.1 h) (·.2), h2⟩

theorem bitsok_impl (bo : Option Addr) (n bc : Nat) (L : Nat → List Int) (w : World) (hn : n ≤ 1048576) (hL : ∀ i, i < n → (L i).length ≤ 1048576) (hv : BV w bo n L) :
    Calls Try.prog 60 #[.slice bo n bc] w fun e w' => (((n = 3 ∧ ∀ i, i < n → KOk (L i)) ∧ e = .returned (.bool true)) ∨ (¬ (n = 3 ∧ ∀ i, i < n → KOk (L i)) ∧ e = .returned (.bool false))) ∧ ∃ q, w' = w.drewN q := by
  have HV : Hid (∀ q, BV (w.drewN q) bo n L) := fun q => hv
  have HL := hide hL
  clear hv hL
  go_enter Try.func60, Try.ntmps60
  go_wp2
  go_loopw [4, 7] (fun _ i wr => ∃ k : Nat, k ≤ n ∧ i = .int .i64 k ∧ Hid (∀ j, j < k → KOk (L j)) ∧ ∃ q, wr = w.drewN q) (fun _ i _ => n - (intOf i).toNat)
  case atStart => exact ⟨0, by omega, rfl, (fun j hj => absurd hj (by omega)), 0, rfl⟩
  case round =>
    obtain ⟨k, hk, rfl, A, q, rfl⟩ := hrel
    by_cases hlt : k < n
    · obtain ⟨b, off, ro, rc, rfl, hc, hrc, hsl⟩ := HV.out q k hlt
      have hcall := hide (marks_impl ro rc (L k) (w.drewN q) (HL.out k hlt) hsl)
      clear hsl hrc
      go_wp2_with fail
      refine hcall.out.mono ?_
      rintro e w1 ⟨h1, q1, rfl⟩
      clear hcall
      rcases h1 with ⟨hok, rfl⟩ | ⟨hok, rfl⟩
      · have HK := hide hok
        clear hok
        go_wp2
        go_roundw
        case rel =>
          refine ⟨k + 1, by omega, by go_num, fun j hj => ?_, _, rfl⟩
          by_cases e : j = k
          · subst e; exact HK.out
          · exact A.out j (by omega)
        case measure => simp [intOf]; omega
      · have HK : Hid (¬ (n = 3 ∧ ∀ i, i < n → KOk (L i))) := fun x => hok (x.2 k hlt)
        clear hok
        go_wp2
        go_ret
        exact ⟨.inr ⟨HK.out, rfl⟩, _, rfl⟩
    · obtain rfl : k = n := by omega
      by_cases h3 : k = 3
      · have HK : Hid (k = 3 ∧ ∀ i, i < k → KOk (L i)) := ⟨h3, A.out⟩
        have d3 : decide ((k : Int) = 3) = true := by simp; omega
        go_wp2
        go_ret
        refine ⟨.inl ⟨HK.out, ?_⟩, _, rfl⟩
        first | rfl | (have := HK.out.1; simp; omega)
      · have HK : Hid (¬ (k = 3 ∧ ∀ i, i < k → KOk (L i))) := fun x => h3 x.1
        have d3 : decide ((k : Int) = 3) = false := by simp; omega
        have d3' : ((k : Int) == 3) = false := by simp; omega
        go_wp2
        go_ret
        exact ⟨.inr ⟨HK.out, rfl⟩, _, rfl⟩
theorem bitsok_yes (bo : Option Addr) (n bc : Nat) (L : Nat → List Int) (w : World) (hn : n ≤ 1048576) (hL : ∀ i, i < n → (L i).length ≤ 1048576) (hv : BV w bo n L) (h : n = 3 ∧ ∀ i, i < n → KOk (L i)) :
    Calls Try.prog 60 #[.slice bo n bc] w fun e w' => e = .returned (.bool true) ∧ ∃ q, w' = w.drewN q :=
  (bitsok_impl bo n bc L w hn hL hv).mono fun _ _ ⟨h1, h2⟩ => ⟨h1.elim (·.2) (fun x => absurd h x.1), h2⟩
theorem bitsok_no (bo : Option Addr) (n bc : Nat) (L : Nat → List Int) (w : World) (hn : n ≤ 1048576) (hL : ∀ i, i < n → (L i).length ≤ 1048576) (hv : BV w bo n L) (h : ¬ (n = 3 ∧ ∀ i, i < n → KOk (L i))) :
    Calls Try.prog 60 #[.slice bo n bc] w fun e w' => e = .returned (.bool false) ∧ ∃ q, w' = w.drewN q :=
  (bitsok_impl bo n bc L w hn hL hv).mono fun _ _ ⟨h1, h2⟩ => ⟨h1.elim (fun x => absurd x.1 h) (·.2), h2⟩

set_option maxHeartbeats 4000000 in
set_option maxRecDepth 100000 in
theorem mtok_impl (go bo : Option Addr) (gc bc : Nat) (g : List Int) (n : Nat) (L : Nat → List Int) (fi ol he : Bool) (la : Int) (w : World) (hd : Bd g n L) (hv : MV w go gc bo bc g n L) :
    Calls Try.prog 18 #[.agg #[.slice go g.length gc, .slice bo n bc, .bool fi, .bool ol, .bool he, .int .i64 la]] w fun e w' => Tells w w' e (MtOk g n L ol he la) := by
  obtain ⟨hg, hn, hLn⟩ := hd
  obtain ⟨W, hW⟩ : ∃ W, W = w.alloc (.cells #[.slice go g.length gc, .slice bo n bc, .bool fi, .bool ol, .bool he, .int .i64 la] 27) := ⟨_, rfl⟩
  have hb : Below w.heap.size w W := by rw [hW]; exact (Below.refl _ _).alloc (Nat.le_refl _) _
  have hblk : W.heap[w.heap.size]? = some (.cells #[.slice go g.length gc, .slice bo n bc, .bool fi, .bool ol, .bool he, .int .i64 la] 27 (0, 0)) := by rw [hW]; exact Deep.blk_alloc_new _ _
  have HB : Hid (∀ q, Below w.heap.size w ((w.alloc (.cells #[.slice go g.length gc, .slice bo n bc, .bool fi, .bool ol, .bool he, .int .i64 la] 27)).drewN q)) := fun q => by rw [← hW]; exact Below.drawn hb q
  have HB0 : Hid (Below w.heap.size w (w.alloc (.cells #[.slice go g.length gc, .slice bo n bc, .bool fi, .bool ol, .bool he, .int .i64 la] 27))) := by rw [← hW]; exact hb
  have hv' := hv.below hb
  rw [hW] at hv'
  have HG0 := hide hv'.2.1
  have HG : Hid (∀ q, SL .i64 ((w.alloc (.cells #[.slice go g.length gc, .slice bo n bc, .bool fi, .bool ol, .bool he, .int .i64 la] 27)).drewN q) go g.length (fun i => g.getD i 0)) := fun q => hv'.2.1
  have HV : Hid (∀ q, BV ((w.alloc (.cells #[.slice go g.length gc, .slice bo n bc, .bool fi, .bool ol, .bool he, .int .i64 la] 27)).drewN q) bo n L) := fun q => hv'.2.2
  have HL := hide hLn
  have hgc := hv.1.1
  clear hv hv' hLn hblk hb hW
  by_cases h2 : 0 < g.length
  · have d2 : decide ((0 : Int) < (g.length : Int)) = true := by simp; omega
    by_cases h1 : GOk (fun i => g.getD i 0) g.length
    · by_cases h3 : n = 3 ∧ ∀ i, i < n → KOk (L i)
      · have H3 := hide h3
        clear h3
        by_cases h4 : 0 ≤ la ∧ la ≤ 200
        · have HA : Hid (¬ (ol = true ∧ he = true) → MtOk g n L ol he la) := fun x => ⟨⟨h1, h2⟩, H3.out, h4, x⟩
          have HN : Hid ((ol = true ∧ he = true) → ¬ MtOk g n L ol he la) := fun x y => y.2.2.2 x
          have h4' : decide (la < 0 ∨ 200 < la) = false := decide_eq_false (by omega)
          cases ol with
          | false =>
            go_enter Try.func18, Try.ntmps18
            go_wp2_with (first
              | (go_at_call 31; refine (gensi_yes _ _ _ _ _ hg hgc HG0.out h1).mono ?_; rintro e9 w9 ⟨rfl, q9, hw9⟩; rw [hw9]; clear hw9)
              | (go_at_call 60; refine (bitsok_yes _ _ _ _ _ hn HL.out (HV.out _) H3.out).mono ?_; rintro e9 w9 ⟨rfl, q8, hw9⟩; rw [hw9]; clear hw9)
              | (go_at_call 61; refine (nowrite_any _ _).mono ?_; rintro e9 w9 ⟨rfl, hw9⟩; rw [hw9, h4']; clear hw9)
              | fail)
            go_ret
            (try simp only [World.drewN_drewN])
            exact Tells.yes (HA.out (by simp)) (HB.out _)
          | true =>
            cases he with
            | false =>
              go_enter Try.func18, Try.ntmps18
              go_wp2_with (first
                | (go_at_call 31; refine (gensi_yes _ _ _ _ _ hg hgc HG0.out h1).mono ?_; rintro e9 w9 ⟨rfl, q9, hw9⟩; rw [hw9]; clear hw9)
                | (go_at_call 60; refine (bitsok_yes _ _ _ _ _ hn HL.out (HV.out _) H3.out).mono ?_; rintro e9 w9 ⟨rfl, q8, hw9⟩; rw [hw9]; clear hw9)
                | (go_at_call 61; refine (nowrite_any _ _).mono ?_; rintro e9 w9 ⟨rfl, hw9⟩; rw [hw9, h4']; clear hw9)
                | fail)
              go_ret
              (try simp only [World.drewN_drewN])
              exact Tells.yes (HA.out (by simp)) (HB.out _)
            | true =>
              go_enter Try.func18, Try.ntmps18
              go_wp2_with (first
                | (go_at_call 31; refine (gensi_yes _ _ _ _ _ hg hgc HG0.out h1).mono ?_; rintro e9 w9 ⟨rfl, q9, hw9⟩; rw [hw9]; clear hw9)
                | (go_at_call 60; refine (bitsok_yes _ _ _ _ _ hn HL.out (HV.out _) H3.out).mono ?_; rintro e9 w9 ⟨rfl, q8, hw9⟩; rw [hw9]; clear hw9)
                | (go_at_call 61; refine (nowrite_any _ _).mono ?_; rintro e9 w9 ⟨rfl, hw9⟩; rw [hw9, h4']; clear hw9)
                | fail)
              go_ret
              (try simp only [World.drewN_drewN])
              exact Tells.no (HN.out (by simp)) (HB.out _)
        · have h4' : decide (la < 0 ∨ 200 < la) = true := decide_eq_true (by omega)
          have HN : Hid (¬ MtOk g n L ol he la) := fun x => h4 x.2.2.1
          clear h4
          go_enter Try.func18, Try.ntmps18
          go_wp2_with (first
            | (go_at_call 31; refine (gensi_yes _ _ _ _ _ hg hgc HG0.out h1).mono ?_; rintro e9 w9 ⟨rfl, q9, hw9⟩; rw [hw9]; clear hw9)
            | (go_at_call 60; refine (bitsok_yes _ _ _ _ _ hn HL.out (HV.out _) H3.out).mono ?_; rintro e9 w9 ⟨rfl, q8, hw9⟩; rw [hw9]; clear hw9)
            | (go_at_call 61; refine (nowrite_any _ _).mono ?_; rintro e9 w9 ⟨rfl, hw9⟩; rw [hw9, h4']; clear hw9)
            | fail)
          go_ret
          (try simp only [World.drewN_drewN])
          exact Tells.no (HN.out) (HB.out _)
      · have HN : Hid (¬ MtOk g n L ol he la) := fun x => h3 x.2.1
        have H3 := hide h3
        clear h3
        go_enter Try.func18, Try.ntmps18
        go_wp2_with (first
          | (go_at_call 31; refine (gensi_yes _ _ _ _ _ hg hgc HG0.out h1).mono ?_; rintro e9 w9 ⟨rfl, q9, hw9⟩; rw [hw9]; clear hw9)
          | (go_at_call 60; refine (bitsok_no _ _ _ _ _ hn HL.out (HV.out _) H3.out).mono ?_; rintro e9 w9 ⟨rfl, q8, hw9⟩; rw [hw9]; clear hw9)
          | fail)
        go_ret
        (try simp only [World.drewN_drewN])
        exact Tells.no (HN.out) (HB.out _)
    · have HN : Hid (¬ MtOk g n L ol he la) := fun x => h1 x.1.1
      go_enter Try.func18, Try.ntmps18
      go_wp2_with (first
        | (go_at_call 31; refine (gensi_no _ _ _ _ _ hg hgc HG0.out h1).mono ?_; rintro e9 w9 ⟨rfl, q9, hw9⟩; rw [hw9]; clear hw9)
        | fail)
      go_ret
      (try simp only [World.drewN_drewN])
      exact Tells.no (HN.out) (HB.out _)
  · have d2 : decide ((0 : Int) < (g.length : Int)) = false := decide_eq_false (by omega)
    have HN : Hid (¬ MtOk g n L ol he la) := fun x => h2 x.1.2
    go_enter Try.func18, Try.ntmps18
    go_wp2_with (first
      | fail)
    go_ret
    (try simp only [World.drewN_drewN])
    exact Tells.no (HN.out) (HB0.out)
end Go.Proofs.Ytjbhgedbkajmdaa

/- What is known at first, of both. -/
namespace Go.Proofs.Ytjbhgedbkajmdaa
open Go.ChangeShapes Go.WideShapes Go.ChangeAt Go.RowKit
set_option linter.unusedVariables false
set_option linter.unusedSimpArgs false
set_option maxRecDepth 100000

def nw (x : Int) : Bool := decide (1 ≤ x ∧ x ≤ 100000)
def nwg (x : Int) : List Int := bif nw x then [x] else []
def nwn (x : Int) : Nat := bif nw x then 3 else 0
theorem new_is (x : Int) : MtOk [x] 3 (fun _ => []) false false 0 ↔ 1 ≤ x ∧ x ≤ 100000 := by
  constructor
  · intro h
    exact (h.1.1.2 0 (by simp)).1
  · intro h
    refine ⟨⟨⟨by simp, fun i hi => ?_⟩, by simp⟩, ⟨rfl, fun i _ => ⟨fun j hj => absurd hj (by simp), fun j h1 h2 => absurd h2 (by simp)⟩⟩, by omega, by simp⟩
    obtain rfl : i = 0 := by simpa using hi
    exact ⟨h, fun j hj => absurd hj (by omega)⟩
theorem bal4 (w : World) (o1 o2 o3 o4 : Obj) : ((((w.alloc o1).alloc o2).alloc o3).alloc o4).heap[w.heap.size]? = some o1 ∧ ((((w.alloc o1).alloc o2).alloc o3).alloc o4).heap[w.heap.size + 1]? = some o2 ∧ ((((w.alloc o1).alloc o2).alloc o3).alloc o4).heap[w.heap.size + 1 + 1]? = some o3 ∧ ((((w.alloc o1).alloc o2).alloc o3).alloc o4).heap[w.heap.size + 1 + 1 + 1]? = some o4 ∧ ((((w.alloc o1).alloc o2).alloc o3).alloc o4).heap.size = w.heap.size + 1 + 1 + 1 + 1 := by
  have e : ∀ (w : World) (o : Obj), (w.alloc o).heap = w.heap.push o := fun _ _ => rfl
  refine ⟨?_, ?_, ?_, ?_, ?_⟩
  · simp only [e, Array.getElem?_push, Array.size_push]
    rw [if_neg (by omega), if_neg (by omega), if_neg (by omega), if_pos trivial]
  · simp only [e, Array.getElem?_push, Array.size_push]
    rw [if_neg (by omega), if_neg (by omega), if_pos trivial]
  · simp only [e, Array.getElem?_push, Array.size_push]
    rw [if_neg (by omega), if_pos trivial]
  · simp only [e, Array.getElem?_push, Array.size_push]
    rw [if_pos trivial]
  · simp only [e, Array.size_push]
theorem OKm.wider {w : World} {B T B' T' : Nat} {go : Option Addr} {gc : Nat} {bo : Option Addr} {bc : Nat} {g : List Int} {n : Nat} {L : Nat → List Int} (h : OKm w B T go gc bo bc g n L) (hB : B' ≤ B) (hT : T ≤ T') (hT' : T' ≤ w.heap.size) : OKm w B' T' go gc bo bc g n L := by
  obtain ⟨⟨h1, h2⟩, hb, R, ho, hs'⟩ := h
  exact ⟨⟨by omega, hT'⟩, hb, R, ho.wide hB hT, hs'.wide hB hT⟩
theorem none_ok {w : World} {B : Nat} (h : B ≤ w.heap.size) : OKm w B w.heap.size none 0 none 0 [] 0 (fun _ => []) := by
  refine ⟨⟨h, Nat.le_refl _⟩, Nat.le_refl _, fun _ => (none, 0), fun i hi => ?_, .inl rfl⟩
  obtain rfl : i = 0 := by omega
  exact ⟨Nat.le_refl _, .inl rfl, fun γ e => by cases e⟩
theorem new_ok {w W : World} {x : Int} (b1 : W.heap[w.heap.size + 1]? = some (.cells #[.int .i64 x] 3 (0, 0))) (b2 : W.heap[w.heap.size + 1 + 1]? = some (.cells (madeCells #[.slice none 0 0] 3) 24 (0, 0))) (b4 : W.heap.size = w.heap.size + 1 + 1 + 1 + 1) :
    OKm W (w.heap.size + 1) W.heap.size (some ⟨w.heap.size + 1, 0, none⟩) 1 (some ⟨w.heap.size + 1 + 1, 0, none⟩) 3 [x] 3 (fun _ => []) := by
  refine ⟨⟨by omega, Nat.le_refl _⟩, Nat.le_refl _, fun _ => (none, 0), fun i hi => ?_, .inr ⟨_, _, rfl, by omega, b2, by rw [size_madeCells]; exact Nat.le_refl _, fun i hi => ?_⟩⟩
  · match i with
    | 0 => exact ⟨Nat.le_refl _, .inr ⟨_, rfl, by omega, _, b1, by simp [rows], fun j hj => by
        have : j = 0 := by simpa [rows] using hj
        subst this
        rfl⟩, fun γ e hp j hj hne hpj => by
          match j, hne, hpj with
          | j + 1, _, hpj => exact absurd hpj (by simp [rows])⟩
    | i + 1 => exact ⟨Nat.le_refl _, .inl rfl, fun γ e hp => absurd hp (by simp [rows])⟩
  · rw [← Array.getElem?_toList, toList_madeCells_one, List.getElem?_replicate, if_pos hi]
    rfl

set_option maxHeartbeats 1000000 in
theorem mtnew_spec (x : Int) (w : World) :
    Calls Try.prog 21 #[.int .i64 x] w fun e w' => ∃ go bo gc bc, e = .returned (.agg #[.slice go (nwg x).length gc, .slice bo (nwn x) bc, .bool (nw x), .bool false, .bool false, .int .i64 0]) ∧ OKm w' w.heap.size w'.heap.size go gc bo bc (nwg x) (nwn x) (fun _ => []) ∧ Below w.heap.size w w' := by
  have hmk := run_make_row' (P := Try.prog) 25 24 (.slice none 0 0) 24 Try.underlying25 Try.infoSl rfl .i64 .i64 3 (by omega) (by omega)
  rw [show ((3 : Nat) : Int) = 3 from rfl] at hmk
  obtain ⟨W, hW⟩ : ∃ W, W = ((((w.alloc (.cells #[.slice none 0 0, .slice none 0 0, .bool false, .bool false, .bool false, .int .i64 0] 27)).alloc (.cells #[.int .i64 x] 3)).alloc (.cells (madeCells #[.slice none 0 0] 3) 24)).alloc (.cells #[.slice (some ⟨w.heap.size + 1, 0, none⟩) 1 1, .slice (some ⟨w.heap.size + 1 + 1, 0, none⟩) 3 3, .bool true, .bool false, .bool false, .int .i64 0] 27)) := ⟨_, rfl⟩
  obtain ⟨b0, b1, b2, b3, b4⟩ := bal4 w (.cells #[.slice none 0 0, .slice none 0 0, .bool false, .bool false, .bool false, .int .i64 0] 27) (.cells #[.int .i64 x] 3) (.cells (madeCells #[.slice none 0 0] 3) 24) (.cells #[.slice (some ⟨w.heap.size + 1, 0, none⟩) 1 1, .slice (some ⟨w.heap.size + 1 + 1, 0, none⟩) 3 3, .bool true, .bool false, .bool false, .int .i64 0] 27)
  rw [← hW] at b0 b1 b2 b3 b4
  have hB : Below w.heap.size w W := by rw [hW]; exact ((((Below.refl _ _).alloc (Nat.le_refl _) _).alloc (by simp) _).alloc (by simp; omega) _).alloc (by simp; omega) _
  have hO : OKm W (w.heap.size + 1) W.heap.size (some ⟨w.heap.size + 1, 0, none⟩) 1 (some ⟨w.heap.size + 1 + 1, 0, none⟩) 3 [x] 3 (fun _ => []) := new_ok b1 b2 b4
  have hcall := hide (mtok_spec _ _ _ _ [x] 3 (fun _ => []) true false false 0 W ⟨by simp, by omega, fun _ _ => by simp⟩ hO.mv)
  have HO := hide hO
  have HB := hide hB
  clear hO hB b1 b2
  go_enter Try.func21, Try.ntmps21
  go_wp2_with fail
  rw [← hW]
  clear hW hmk
  refine hcall.out.mono ?_
  rintro e w1 ⟨h1, hb⟩
  have f0 := (hb.block w.heap.size (by omega)).trans b0
  have f3 := (hb.block (w.heap.size + 1 + 1 + 1) (by omega)).trans b3
  have HO1 := hide (HO.out.below hb (Nat.le_refl _))
  have HB1 := hide (HB.out.trans (hb.mono HB.out.size))
  have hsz := hb.size
  clear hb b0 b3 hcall HO HB
  have r0 : w1.cell? ⟨w.heap.size, 0, none⟩ = some (.slice none 0 0) := mblk f0 rfl
  have r1 : w1.cell? ⟨w.heap.size, 1, none⟩ = some (.slice none 0 0) := mblk f0 rfl
  have r2 : w1.cell? ⟨w.heap.size, 2, none⟩ = some (.bool false) := mblk f0 rfl
  have r3 : w1.cell? ⟨w.heap.size, 3, none⟩ = some (.bool false) := mblk f0 rfl
  have r4 : w1.cell? ⟨w.heap.size, 4, none⟩ = some (.bool false) := mblk f0 rfl
  have r5 : w1.cell? ⟨w.heap.size, 5, none⟩ = some (.int .i64 0) := mblk f0 rfl
  have o0 : w1.cell? ⟨w.heap.size + 1 + 1 + 1, 0, none⟩ = some (.slice (some ⟨w.heap.size + 1, 0, none⟩) 1 1) := mblk f3 rfl
  have o1 : w1.cell? ⟨w.heap.size + 1 + 1 + 1, 1, none⟩ = some (.slice (some ⟨w.heap.size + 1 + 1, 0, none⟩) 3 3) := mblk f3 rfl
  have o2 : w1.cell? ⟨w.heap.size + 1 + 1 + 1, 2, none⟩ = some (.bool true) := mblk f3 rfl
  have o3 : w1.cell? ⟨w.heap.size + 1 + 1 + 1, 3, none⟩ = some (.bool false) := mblk f3 rfl
  have o4 : w1.cell? ⟨w.heap.size + 1 + 1 + 1, 4, none⟩ = some (.bool false) := mblk f3 rfl
  have o5 : w1.cell? ⟨w.heap.size + 1 + 1 + 1, 5, none⟩ = some (.int .i64 0) := mblk f3 rfl
  have z0 : ∀ i, w1.frozen? ⟨w.heap.size, i, none⟩ = false := fun i => by simp [World.frozen?, f0]
  clear f0 f3
  rcases h1 with ⟨hok, rfl⟩ | ⟨hok, rfl⟩
  · have hx := (new_is x).1 hok
    have HX : Hid (nw x = true ∧ nwg x = [x] ∧ nwn x = 3) := by unfold nwg nwn; rw [show nw x = true from decide_eq_true hx]; exact ⟨rfl, rfl, rfl⟩
    clear hok hx
    go_wp2
    refine bodyPost_ret (v := .agg #[.slice (some ⟨w.heap.size + 1, 0, none⟩) 1 1, .slice (some ⟨w.heap.size + 1 + 1, 0, none⟩) 3 3, .bool true, .bool false, .bool false, .int .i64 0]) (by simp [results, Try.results21, go_sem, r0, r1, r2, r3, r4, r5]) rfl ?_
    rw [HX.out.1, HX.out.2.1, HX.out.2.2]
    refine ⟨_, _, _, _, rfl, ?_, ?_⟩
    · have hfin : ∀ F : World, F.heap.size = w1.heap.size → (∀ j, w.heap.size + 1 ≤ j → F.heap[j]? = w1.heap[j]?) → OKm F w.heap.size F.heap.size (some ⟨w.heap.size + 1, 0, none⟩) 1 (some ⟨w.heap.size + 1 + 1, 0, none⟩) 3 [x] 3 (fun _ => []) := fun F hs hk =>
        (HO1.out.kept (fun j h1 _ => hk j h1) (by omega)).wider (by omega) (by omega) (Nat.le_refl _)
      refine hfin _ (by simp [World.setCell]) ?_
      intro j hj
      simp only [World.setCell, Array.getElem?_modify]
      repeat rw [if_neg (by omega)]
    · repeat (refine Below.setCell ?_ (by show w.heap.size ≤ w.heap.size; omega) _)
      exact HB1.out
  · have hx := fun h => hok ((new_is x).2 h)
    have HX : Hid (nw x = false ∧ nwg x = [] ∧ nwn x = 0) := by unfold nwg nwn; rw [show nw x = false from decide_eq_false hx]; exact ⟨rfl, rfl, rfl⟩
    clear hok hx
    go_wp2
    refine bodyPost_ret (v := .agg #[.slice none 0 0, .slice none 0 0, .bool false, .bool false, .bool false, .int .i64 0]) (by simp [results, Try.results21, go_sem, r0, r1, r2, r3, r4, r5]) rfl ?_
    rw [HX.out.1, HX.out.2.1, HX.out.2.2]
    refine ⟨none, none, 0, 0, rfl, ?_, ?_⟩
    · exact none_ok (by simp [World.setCell]; have := HB1.out.size; omega)
    · repeat (refine Below.setCell ?_ (by show w.heap.size ≤ w.heap.size; omega) _)
      exact HB1.out

set_option maxHeartbeats 1000000 in
theorem mtnew_impl (x : Int) (w : World) :
    Calls Try.prog 20 #[.int .i64 x] w fun e w' => ∃ go bo gc bc, e = .returned (.agg #[.slice go (nwg x).length gc, .slice bo (nwn x) bc, .bool (nw x), .bool false, .bool false, .int .i64 0]) ∧ OKm w' w.heap.size w'.heap.size go gc bo bc (nwg x) (nwn x) (fun _ => []) ∧ Below w.heap.size w w' := by
  have hmk := run_make_row' (P := Try.prog) 25 24 (.slice none 0 0) 24 Try.underlying25 Try.infoSl rfl .i64 .i64 3 (by omega) (by omega)
  rw [show ((3 : Nat) : Int) = 3 from rfl] at hmk
  obtain ⟨W, hW⟩ : ∃ W, W = ((((w.alloc (.cells #[.slice none 0 0, .slice none 0 0, .bool false, .bool false, .bool false, .int .i64 0] 27)).alloc (.cells #[.int .i64 x] 3)).alloc (.cells (madeCells #[.slice none 0 0] 3) 24)).alloc (.cells #[.slice (some ⟨w.heap.size + 1, 0, none⟩) 1 1, .slice (some ⟨w.heap.size + 1 + 1, 0, none⟩) 3 3, .bool true, .bool false, .bool false, .int .i64 0] 27)) := ⟨_, rfl⟩
  obtain ⟨b0, b1, b2, b3, b4⟩ := bal4 w (.cells #[.slice none 0 0, .slice none 0 0, .bool false, .bool false, .bool false, .int .i64 0] 27) (.cells #[.int .i64 x] 3) (.cells (madeCells #[.slice none 0 0] 3) 24) (.cells #[.slice (some ⟨w.heap.size + 1, 0, none⟩) 1 1, .slice (some ⟨w.heap.size + 1 + 1, 0, none⟩) 3 3, .bool true, .bool false, .bool false, .int .i64 0] 27)
  rw [← hW] at b0 b1 b2 b3 b4
  have hB : Below w.heap.size w W := by rw [hW]; exact ((((Below.refl _ _).alloc (Nat.le_refl _) _).alloc (by simp) _).alloc (by simp; omega) _).alloc (by simp; omega) _
  have hO : OKm W (w.heap.size + 1) W.heap.size (some ⟨w.heap.size + 1, 0, none⟩) 1 (some ⟨w.heap.size + 1 + 1, 0, none⟩) 3 [x] 3 (fun _ => []) := new_ok b1 b2 b4
  have hcall := hide (mtok_impl _ _ _ _ [x] 3 (fun _ => []) true false false 0 W ⟨by simp, by omega, fun _ _ => by simp⟩ hO.mv)
  have HO := hide hO
  have HB := hide hB
  clear hO hB b1 b2
  go_enter Try.func20, Try.ntmps20
  go_wp2_with fail
  rw [← hW]
  clear hW hmk
  refine hcall.out.mono ?_
  rintro e w1 ⟨h1, hb⟩
  have f0 := (hb.block w.heap.size (by omega)).trans b0
  have f3 := (hb.block (w.heap.size + 1 + 1 + 1) (by omega)).trans b3
  have HO1 := hide (HO.out.below hb (Nat.le_refl _))
  have HB1 := hide (HB.out.trans (hb.mono HB.out.size))
  have hsz := hb.size
  clear hb b0 b3 hcall HO HB
  have r0 : w1.cell? ⟨w.heap.size, 0, none⟩ = some (.slice none 0 0) := mblk f0 rfl
  have r1 : w1.cell? ⟨w.heap.size, 1, none⟩ = some (.slice none 0 0) := mblk f0 rfl
  have r2 : w1.cell? ⟨w.heap.size, 2, none⟩ = some (.bool false) := mblk f0 rfl
  have r3 : w1.cell? ⟨w.heap.size, 3, none⟩ = some (.bool false) := mblk f0 rfl
  have r4 : w1.cell? ⟨w.heap.size, 4, none⟩ = some (.bool false) := mblk f0 rfl
  have r5 : w1.cell? ⟨w.heap.size, 5, none⟩ = some (.int .i64 0) := mblk f0 rfl
  have o0 : w1.cell? ⟨w.heap.size + 1 + 1 + 1, 0, none⟩ = some (.slice (some ⟨w.heap.size + 1, 0, none⟩) 1 1) := mblk f3 rfl
  have o1 : w1.cell? ⟨w.heap.size + 1 + 1 + 1, 1, none⟩ = some (.slice (some ⟨w.heap.size + 1 + 1, 0, none⟩) 3 3) := mblk f3 rfl
  have o2 : w1.cell? ⟨w.heap.size + 1 + 1 + 1, 2, none⟩ = some (.bool true) := mblk f3 rfl
  have o3 : w1.cell? ⟨w.heap.size + 1 + 1 + 1, 3, none⟩ = some (.bool false) := mblk f3 rfl
  have o4 : w1.cell? ⟨w.heap.size + 1 + 1 + 1, 4, none⟩ = some (.bool false) := mblk f3 rfl
  have o5 : w1.cell? ⟨w.heap.size + 1 + 1 + 1, 5, none⟩ = some (.int .i64 0) := mblk f3 rfl
  have z0 : ∀ i, w1.frozen? ⟨w.heap.size, i, none⟩ = false := fun i => by simp [World.frozen?, f0]
  clear f0 f3
  rcases h1 with ⟨hok, rfl⟩ | ⟨hok, rfl⟩
  · have hx := (new_is x).1 hok
    have HX : Hid (nw x = true ∧ nwg x = [x] ∧ nwn x = 3) := by unfold nwg nwn; rw [show nw x = true from decide_eq_true hx]; exact ⟨rfl, rfl, rfl⟩
    clear hok hx
    go_wp2
    refine bodyPost_ret (v := .agg #[.slice (some ⟨w.heap.size + 1, 0, none⟩) 1 1, .slice (some ⟨w.heap.size + 1 + 1, 0, none⟩) 3 3, .bool true, .bool false, .bool false, .int .i64 0]) (by simp [results, Try.results20, go_sem, r0, r1, r2, r3, r4, r5]) rfl ?_
    rw [HX.out.1, HX.out.2.1, HX.out.2.2]
    refine ⟨_, _, _, _, rfl, ?_, ?_⟩
    · have hfin : ∀ F : World, F.heap.size = w1.heap.size → (∀ j, w.heap.size + 1 ≤ j → F.heap[j]? = w1.heap[j]?) → OKm F w.heap.size F.heap.size (some ⟨w.heap.size + 1, 0, none⟩) 1 (some ⟨w.heap.size + 1 + 1, 0, none⟩) 3 [x] 3 (fun _ => []) := fun F hs hk =>
        (HO1.out.kept (fun j h1 _ => hk j h1) (by omega)).wider (by omega) (by omega) (Nat.le_refl _)
      refine hfin _ (by simp [World.setCell]) ?_
      intro j hj
      simp only [World.setCell, Array.getElem?_modify]
      repeat rw [if_neg (by omega)]
    · repeat (refine Below.setCell ?_ (by show w.heap.size ≤ w.heap.size; omega) _)
      exact HB1.out
  · have hx := fun h => hok ((new_is x).2 h)
    have HX : Hid (nw x = false ∧ nwg x = [] ∧ nwn x = 0) := by unfold nwg nwn; rw [show nw x = false from decide_eq_false hx]; exact ⟨rfl, rfl, rfl⟩
    clear hok hx
    go_wp2
    refine bodyPost_ret (v := .agg #[.slice none 0 0, .slice none 0 0, .bool false, .bool false, .bool false, .int .i64 0]) (by simp [results, Try.results20, go_sem, r0, r1, r2, r3, r4, r5]) rfl ?_
    rw [HX.out.1, HX.out.2.1, HX.out.2.2]
    refine ⟨none, none, 0, 0, rfl, ?_, ?_⟩
    · exact none_ok (by simp [World.setCell]; have := HB1.out.size; omega)
    · repeat (refine Below.setCell ?_ (by show w.heap.size ≤ w.heap.size; omega) _)
      exact HB1.out
end Go.Proofs.Ytjbhgedbkajmdaa

/- What is known, as the draws make it: how it lies in memory under way. -/
namespace Go.Proofs.Ytjbhgedbkajmdaa
open Go.ChangeShapes Go.WideShapes Go.ChangeAt Go.RowKit
set_option linter.unusedVariables false
set_option linter.unusedSimpArgs false
set_option maxRecDepth 100000

/-- MetaNew of 1, cell by cell. -/
theorem mtnew1 (w : World) :
    Calls Try.prog 21 #[.int .i64 1] w fun e w' => e = .returned (.agg #[.slice (some ⟨w.heap.size + 1, 0, none⟩) 1 1, .slice (some ⟨w.heap.size + 1 + 1, 0, none⟩) 3 3, .bool true, .bool false, .bool false, .int .i64 0]) ∧
      w'.heap[w.heap.size + 1]? = some (.cells #[.int .i64 1] 3 (0, 0)) ∧ w'.rowIs (w.heap.size + 1 + 1) 24 3 (fun _ => .slice none 0 0) ∧ Below w.heap.size w w' := by
  have hmk := run_make_row' (P := Try.prog) 25 24 (.slice none 0 0) 24 Try.underlying25 Try.infoSl rfl .i64 .i64 3 (by omega) (by omega)
  rw [show ((3 : Nat) : Int) = 3 from rfl] at hmk
  obtain ⟨W, hW⟩ : ∃ W, W = ((((w.alloc (.cells #[.slice none 0 0, .slice none 0 0, .bool false, .bool false, .bool false, .int .i64 0] 27)).alloc (.cells #[.int .i64 1] 3)).alloc (.cells (madeCells #[.slice none 0 0] 3) 24)).alloc (.cells #[.slice (some ⟨w.heap.size + 1, 0, none⟩) 1 1, .slice (some ⟨w.heap.size + 1 + 1, 0, none⟩) 3 3, .bool true, .bool false, .bool false, .int .i64 0] 27)) := ⟨_, rfl⟩
  obtain ⟨b0, b1, b2, b3, b4⟩ := bal4 w (.cells #[.slice none 0 0, .slice none 0 0, .bool false, .bool false, .bool false, .int .i64 0] 27) (.cells #[.int .i64 1] 3) (.cells (madeCells #[.slice none 0 0] 3) 24) (.cells #[.slice (some ⟨w.heap.size + 1, 0, none⟩) 1 1, .slice (some ⟨w.heap.size + 1 + 1, 0, none⟩) 3 3, .bool true, .bool false, .bool false, .int .i64 0] 27)
  rw [← hW] at b0 b1 b2 b3 b4
  have hB : Below w.heap.size w W := by rw [hW]; exact ((((Below.refl _ _).alloc (Nat.le_refl _) _).alloc (by simp) _).alloc (by simp; omega) _).alloc (by simp; omega) _
  have hO : OKm W (w.heap.size + 1) W.heap.size (some ⟨w.heap.size + 1, 0, none⟩) 1 (some ⟨w.heap.size + 1 + 1, 0, none⟩) 3 [1] 3 (fun _ => []) := new_ok b1 b2 b4
  have hcall := hide (mtok_spec _ _ _ _ [1] 3 (fun _ => []) true false false 0 W ⟨by simp, by omega, fun _ _ => by simp⟩ hO.mv)
  have HB := hide hB
  clear hO hB
  go_enter Try.func21, Try.ntmps21
  go_wp2_with fail
  rw [← hW]
  clear hW hmk
  refine hcall.out.mono ?_
  rintro e w1 ⟨h1, hb⟩
  have f0 := (hb.block w.heap.size (by omega)).trans b0
  have f1 := hide ((hb.block (w.heap.size + 1) (by omega)).trans b1)
  have f2 : Hid (w1.rowIs (w.heap.size + 1 + 1) 24 3 (fun _ => .slice none 0 0)) := ⟨_, (hb.block (w.heap.size + 1 + 1) (by omega)).trans b2, by rw [size_madeCells], fun i hi => by rw [← Array.getElem?_toList, toList_madeCells_one, List.getElem?_replicate, if_pos hi]⟩
  have f3 := (hb.block (w.heap.size + 1 + 1 + 1) (by omega)).trans b3
  have HB1 := hide (HB.out.trans (hb.mono HB.out.size))
  clear hb b0 b1 b2 b3 hcall HB
  have r0 : w1.cell? ⟨w.heap.size, 0, none⟩ = some (.slice none 0 0) := mblk f0 rfl
  have r1 : w1.cell? ⟨w.heap.size, 1, none⟩ = some (.slice none 0 0) := mblk f0 rfl
  have r2 : w1.cell? ⟨w.heap.size, 2, none⟩ = some (.bool false) := mblk f0 rfl
  have r3 : w1.cell? ⟨w.heap.size, 3, none⟩ = some (.bool false) := mblk f0 rfl
  have r4 : w1.cell? ⟨w.heap.size, 4, none⟩ = some (.bool false) := mblk f0 rfl
  have r5 : w1.cell? ⟨w.heap.size, 5, none⟩ = some (.int .i64 0) := mblk f0 rfl
  have o0 : w1.cell? ⟨w.heap.size + 1 + 1 + 1, 0, none⟩ = some (.slice (some ⟨w.heap.size + 1, 0, none⟩) 1 1) := mblk f3 rfl
  have o1 : w1.cell? ⟨w.heap.size + 1 + 1 + 1, 1, none⟩ = some (.slice (some ⟨w.heap.size + 1 + 1, 0, none⟩) 3 3) := mblk f3 rfl
  have o2 : w1.cell? ⟨w.heap.size + 1 + 1 + 1, 2, none⟩ = some (.bool true) := mblk f3 rfl
  have o3 : w1.cell? ⟨w.heap.size + 1 + 1 + 1, 3, none⟩ = some (.bool false) := mblk f3 rfl
  have o4 : w1.cell? ⟨w.heap.size + 1 + 1 + 1, 4, none⟩ = some (.bool false) := mblk f3 rfl
  have o5 : w1.cell? ⟨w.heap.size + 1 + 1 + 1, 5, none⟩ = some (.int .i64 0) := mblk f3 rfl
  have z0 : ∀ i, w1.frozen? ⟨w.heap.size, i, none⟩ = false := fun i => by simp [World.frozen?, f0]
  clear f0 f3
  rcases h1 with ⟨hok, rfl⟩ | ⟨hok, rfl⟩
  · clear hok
    go_wp2
    refine bodyPost_ret (v := .agg #[.slice (some ⟨w.heap.size + 1, 0, none⟩) 1 1, .slice (some ⟨w.heap.size + 1 + 1, 0, none⟩) 3 3, .bool true, .bool false, .bool false, .int .i64 0]) (by simp [results, Try.results21, go_sem, r0, r1, r2, r3, r4, r5]) rfl ?_
    have hk : ∀ F : World, (∀ j, w.heap.size + 1 ≤ j → F.heap[j]? = w1.heap[j]?) → F.heap[w.heap.size + 1]? = some (.cells #[.int .i64 1] 3 (0, 0)) ∧ F.rowIs (w.heap.size + 1 + 1) 24 3 (fun _ => .slice none 0 0) := fun F hF => ⟨(hF _ (Nat.le_refl _)).trans f1.out, f2.out.of_block (hF _ (by omega))⟩
    refine ⟨rfl, ?_⟩
    rw [← and_assoc]
    refine ⟨hk _ ?_, ?_⟩
    · intro j hj
      simp only [World.setCell, Array.getElem?_modify]
      repeat rw [if_neg (by omega)]
    · repeat (refine Below.setCell ?_ (by show w.heap.size ≤ w.heap.size; omega) _)
      exact HB1.out
  · exact absurd ((new_is 1).2 (by omega)) hok

/-- A row's slice. -/
def sv (l : List Int) (r : Option Addr × Nat) : Value := .slice r.1 l.length r.2
/-- A list in memory from B on. -/
def Lw (B : Nat) (wr : World) (l : List Int) (r : Option Addr × Nat) : Prop := wr.ownsRow B 3 1 (sv l r) l.length (l.map (.int .i64))
/-- Generations and three rows of marks, in memory from B on, the rows' slices at block b. -/
def DMr (B : Nat) (wr : World) (b : Nat) (r : Option Addr × Nat) (g : List Int) (R : Nat → Option Addr × Nat) (L : Nat → List Int) : Prop :=
  wr.rowIs b 24 3 (fun i => sv (L i) (R i)) ∧ B ≤ b ∧ (Lw B wr g r ∧ (sv g r).ownBlock ≠ some b) ∧
  ∀ i, i < 3 → Lw B wr (L i) (R i) ∧ (sv (L i) (R i)).ownBlock ≠ some b ∧ ∀ t, (sv g r).ownBlock = some t → (sv (L i) (R i)).ownBlock ≠ some t
/-- Block X is none of them. -/
def DMx (X b : Nat) (r : Option Addr × Nat) (g : List Int) (R : Nat → Option Addr × Nat) (L : Nat → List Int) : Prop :=
  X ≠ b ∧ (sv g r).ownBlock ≠ some X ∧ ∀ i, i < 3 → (sv (L i) (R i)).ownBlock ≠ some X
theorem Lw.grown {B : Nat} {wr w1 : World} {l : List Int} {r : Option Addr × Nat} {row : Option Nat} (h : Lw B wr l r) (hg : wr.grownBy w1 row) (hr : ∀ k, row = some k → (sv l r).ownBlock ≠ some k) : Lw B w1 l r := by
  obtain ⟨h1, h2⟩ := h
  refine ⟨h1, ?_⟩
  rcases h2 with h2 | ⟨b, c, cur, e, hb, hh, q⟩
  · exact .inl h2
  · refine .inr ⟨b, c, cur, e, hb, (hg.block b (Array.getElem?_eq_some_iff.1 hh).1 (fun e2 => hr b e2.symm ?_)).trans hh, q⟩
    rw [e]; rfl
theorem Lw.lt {B : Nat} {wr : World} {l : List Int} {r : Option Addr × Nat} (h : Lw B wr l r) {t : Nat} (ht : (sv l r).ownBlock = some t) : B ≤ t ∧ t < wr.heap.size := World.ownsRow.lt h t ht
theorem DMr.grown {B : Nat} {wr w1 : World} {b : Nat} {r : Option Addr × Nat} {g : List Int} {R : Nat → Option Addr × Nat} {L : Nat → List Int} {row : Option Nat} (h : DMr B wr b r g R L) (hg : wr.grownBy w1 row) (hr : ∀ k, row = some k → k < B) : DMr B w1 b r g R L := by
  obtain ⟨h1, h2, h3, h4⟩ := h
  have key : ∀ l r', Lw B wr l r' → Lw B w1 l r' := fun l r' hl => hl.grown hg (fun k hk e => by have := (hl.lt e).1; have := hr k hk; omega)
  exact ⟨h1.of_block (hg.block b h1.lt (fun e => by have := hr b e.symm; omega)), h2, ⟨key _ _ h3.1, h3.2⟩, fun i hi => ⟨key _ _ (h4 i hi).1, (h4 i hi).2⟩⟩
theorem DMr.below {B : Nat} {wr w1 : World} {b : Nat} {r : Option Addr × Nat} {g : List Int} {R : Nat → Option Addr × Nat} {L : Nat → List Int} (h : DMr B wr b r g R L) (hb : Below wr.heap.size wr w1) : DMr B w1 b r g R L := h.grown (grown_of_below hb none) (fun k hk => by cases hk)
/-- A store into block X. -/
theorem DMr.far {B X i : Nat} {wr : World} {b : Nat} {r : Option Addr × Nat} {g : List Int} {R : Nat → Option Addr × Nat} {L : Nat → List Int} {v : Value} (h : DMr B wr b r g R L) (hx : DMx X b r g R L) : DMr B (wr.setCell ⟨X, i, none⟩ v) b r g R L := by
  obtain ⟨h1, h2, h3, h4⟩ := h
  have hg : wr.grownBy (wr.setCell ⟨X, i, none⟩ v) (some X) := ⟨rfl, rfl, rfl, by simp [World.setCell], fun k hk hne => cur_far (fun e => hne (by rw [e])) v⟩
  exact ⟨h1.of_block (cur_far (fun e => hx.1 e.symm) v), h2, ⟨h3.1.grown hg (fun k hk => by cases hk; exact hx.2.1), h3.2⟩, fun j hj => ⟨(h4 j hj).1.grown hg (fun k hk => by cases hk; exact hx.2.2 j hj), (h4 j hj).2⟩⟩
theorem DMr.fresh {B : Nat} {wr : World} {b : Nat} {r : Option Addr × Nat} {g : List Int} {R : Nat → Option Addr × Nat} {L : Nat → List Int} (h : DMr B wr b r g R L) : DMx wr.heap.size b r g R L := by
  refine ⟨fun e => ?_, fun e => ?_, fun i hi e => ?_⟩
  · have := h.1.lt; omega
  · have := (h.2.2.1.1.lt e).2; omega
  · have := ((h.2.2.2 i hi).1.lt e).2; omega
theorem DMr.mono {B B' : Nat} {wr : World} {b : Nat} {r : Option Addr × Nat} {g : List Int} {R : Nat → Option Addr × Nat} {L : Nat → List Int} (h : DMr B wr b r g R L) (hB : B' ≤ B) : DMr B' wr b r g R L :=
  ⟨h.1, Nat.le_trans hB h.2.1, ⟨gmono h.2.2.1.1 hB, h.2.2.1.2⟩, fun i hi => ⟨gmono (h.2.2.2 i hi).1 hB, (h.2.2.2 i hi).2⟩⟩
theorem Lw.sl {B : Nat} {wr : World} {l : List Int} {r : Option Addr × Nat} (h : Lw B wr l r) : SL .i64 wr r.1 l.length (fun i => l.getD i 0) ∧ l.length ≤ r.2 := by
  refine ⟨(Src.of_owns h).slu, ?_⟩
  rcases h.2 with ⟨e, h0⟩ | ⟨b, c, cur, e, hb, hh, hn, _⟩
  · omega
  · injection e with _ _ e3
    rw [e3]; exact hn
theorem DMr.mv {B : Nat} {wr : World} {b : Nat} {r : Option Addr × Nat} {g : List Int} {R : Nat → Option Addr × Nat} {L : Nat → List Int} (h : DMr B wr b r g R L) : MV wr r.1 r.2 (some ⟨b, 0, none⟩) 3 g 3 L :=
  ⟨⟨h.2.2.1.1.sl.2, Nat.le_refl _⟩, h.2.2.1.1.sl.1, fun i hi => ⟨b, 0, (R i).1, (R i).2, rfl, by simpa [sv] using h.1.cell hi, (h.2.2.2 i hi).1.sl.2, (h.2.2.2 i hi).1.sl.1⟩⟩
/-- A row put anew, of memory that is new. -/
theorem DMr.put {B k : Nat} {wr : World} {b : Nat} {r r' : Option Addr × Nat} {g M : List Int} {R : Nat → Option Addr × Nat} {L : Nat → List Int} (h : DMr B wr b r g R L) (hk : k < 3) (hM : Lw B wr M r') (hb : (sv M r').ownBlock ≠ some b) (hgn : ∀ t, (sv g r).ownBlock = some t → (sv M r').ownBlock ≠ some t) :
    DMr B (wr.setCell ⟨b, k, none⟩ (sv M r')) b r g (setr R k r') (fun i => if i = k then M else L i) := by
  obtain ⟨h1, h2, h3, h4⟩ := h
  have hg : wr.grownBy (wr.setCell ⟨b, k, none⟩ (sv M r')) (some b) := ⟨rfl, rfl, rfl, by simp [World.setCell], fun j hj hne => cur_far (fun e => hne (by rw [e])) _⟩
  refine ⟨(h1.set k (sv M r')).congr fun i hi => ?_, h2, ⟨h3.1.grown hg (fun t ht => by cases ht; exact h3.2), h3.2⟩, fun i hi => ?_⟩
  · by_cases e : i = k
    · subst e; simp [setr_at]
    · simp [e, setr_ne _ _ _ e]
  · by_cases e : i = k
    · subst e
      simp only [setr_at, if_true]
      exact ⟨hM.grown hg (fun t ht => by cases ht; exact hb), hb, hgn⟩
    · simp only [setr_ne _ _ _ e, e, if_false]
      exact ⟨(h4 i hi).1.grown hg (fun t ht => by cases ht; exact (h4 i hi).2.1), (h4 i hi).2⟩
theorem DMx.put {X b k : Nat} {r r' : Option Addr × Nat} {g M : List Int} {R : Nat → Option Addr × Nat} {L : Nat → List Int} (h : DMx X b r g R L) (hX : (sv M r').ownBlock ≠ some X) : DMx X b r g (setr R k r') (fun i => if i = k then M else L i) := by
  refine ⟨h.1, h.2.1, fun i hi => ?_⟩
  by_cases e : i = k
  · subst e; simp only [setr_at, if_true]; exact hX
  · simp only [setr_ne _ _ _ e, e, if_false]; exact h.2.2 i hi
/-- Generations put anew, by an append. -/
theorem DMr.gens {B : Nat} {wr w1 : World} {b : Nat} {r r' : Option Addr × Nat} {g g' : List Int} {R : Nat → Option Addr × Nat} {L : Nat → List Int} (h : DMr B wr b r g R L) (hg : wr.grownBy w1 (sv g r).ownBlock) (ho : Lw B w1 g' r') (hat : ∀ t, (sv g' r').ownBlock = some t → (sv g r).ownBlock = some t ∨ wr.heap.size ≤ t) : DMr B w1 b r' g' R L := by
  obtain ⟨h1, h2, h3, h4⟩ := h
  refine ⟨h1.of_block (hg.block b h1.lt (fun e => h3.2 e.symm)), h2, ⟨ho, fun e => ?_⟩, fun i hi => ⟨(h4 i hi).1.grown hg (fun k hk => (h4 i hi).2.2 k hk), (h4 i hi).2.1, fun t ht e => ?_⟩⟩
  · rcases hat b e with h5 | h5
    · exact h3.2 h5
    · have := h1.lt; omega
  · rcases hat t ht with h5 | h5
    · exact (h4 i hi).2.2 t h5 e
    · have := ((h4 i hi).1.lt e).2; omega
end Go.Proofs.Ytjbhgedbkajmdaa

/- l2DrawMarks, l5DrawRight of the model. -/
namespace Go.Proofs.Ytjbhgedbkajmdaa
open Go.ChangeShapes Go.WideShapes Go.ChangeAt Go.RowKit
set_option linter.unusedVariables false
set_option linter.unusedSimpArgs false
set_option maxRecDepth 100000

theorem drawmarks (g n cap : Nat) (ao : Option Addr) (f : Nat → Int) (w : World) (hc : Cur w g ao n cap f) :
    Calls Try.prog 77 #[.pointer (some ⟨g, 0, none⟩)] w fun e w' => ∃ (v : Value) (L : List Int), e = .returned v ∧ L.length ≤ 5 ∧ w'.ownsRow w.heap.size 3 1 v L.length (L.map (.int .i64)) ∧ CurW w w' g ao n cap f := by
  obtain ⟨i0, hi, hz0, hz1, hz2⟩ := info_parts Try.info3
  have HC := hide hc
  clear hc
  go_enter Try.func77, Try.ntmps77
  go_wp2
  go_loopw [3, 4] (fun v i wr => ∃ (k : Nat) (L : List Int), k ≤ 4 ∧ i = .int .i64 k ∧ L.length ≤ k ∧ Hid (wr.ownsRow w.heap.size 3 1 v L.length (L.map (.int .i64)) ∧ CurW w wr g ao n cap f)) (fun _ i _ => 5 - (intOf i).toNat)
  case atStart => exact ⟨0, [], by omega, rfl, by simp, gempty (Nat.le_refl _), (CurW.refl HC.out).alloc _⟩
  case round =>
    obtain ⟨k, L, hk, rfl, hL, HI⟩ := hrel
    go_wp2_with fail
    refine (below_any g n cap 5 ao f _ (by decide) (by decide) HI.out.2.1).mono ?_
    rintro e w1 ⟨⟨x, rfl, hx0, hx1⟩, hcur, hgr⟩
    have H1 : Hid (w1.ownsRow w.heap.size 3 1 u3 L.length (L.map (.int .i64)) ∧ CurW w w1 g ao n cap f) := ⟨owns_cur HI.out.1 hgr HI.out.2.2.2, HI.out.2.step hcur hgr⟩
    clear hcur hgr HI
    by_cases hlt : (k : Int) < x
    · go_wp2_with fail
      refine (below_any g n cap 8 ao f _ (by decide) (by decide) H1.out.2.1).mono ?_
      rintro e w2 ⟨⟨y, rfl, hy0, hy1⟩, hcur, hgr⟩
      have H2 : Hid (w2.ownsRow w.heap.size 3 1 u3 L.length (L.map (.int .i64)) ∧ CurW w w2 g ao n cap f) := ⟨owns_cur H1.out.1 hgr H1.out.2.2.2, H1.out.2.step hcur hgr⟩
      clear hcur hgr H1
      go_wp2_with fail
      refine (mark_weak u3 L y _ _ (by omega) H2.out.1).mono ?_
      rintro e w3 ⟨v3, L3, rfl, hL3, ho3, b3⟩
      have H3 : Hid (w3.ownsRow w.heap.size 3 1 v3 L3.length (L3.map (.int .i64)) ∧ CurW w w3 g ao n cap f) := ⟨gmono ho3 H2.out.2.2.1.size, H2.out.2.below b3⟩
      clear ho3 b3 H2
      go_wp2
      go_roundw
      case rel => exact ⟨k + 1, L3, by omega, by go_num, by omega, H3.out⟩
      case measure => simp [intOf]; omega
    · go_wp2_with fail
      refine (once_any g n cap 10 ao f _ (by decide) (by decide) H1.out.2.1).mono ?_
      rintro e w2 ⟨⟨x, rfl⟩, hcur, hgr⟩
      have H2 : Hid (w2.ownsRow w.heap.size 3 1 u3 L.length (L.map (.int .i64)) ∧ CurW w w2 g ao n cap f) := ⟨owns_cur H1.out.1 hgr H1.out.2.2.2, H1.out.2.step hcur hgr⟩
      clear hcur hgr H1
      cases x with
      | false =>
        go_wp2
        go_ret
        exact ⟨_, L, rfl, by omega, H2.out⟩
      | true =>
        go_wp2_with fail
        refine (pick_any g n cap 4 4 ao (some ⟨w2.heap.size, 0, none⟩) f (fun i => [-1, 0, 7, 8].getD i 0) _ (by decide) (by decide) (H2.out.2.alloc _).1 (lit_cells w2 [-1, 0, 7, 8] 3 g H2.out.2.1.lt)).mono ?_
        rintro e w3 ⟨⟨i, hi3, rfl⟩, hcur, hgr⟩
        generalize ([-1, 0, 7, 8] : List Int).getD i 0 = z at *
        have H3 : Hid (w3.ownsRow w.heap.size 3 1 u3 L.length (L.map (.int .i64)) ∧ CurW w w3 g ao n cap f) := ⟨owns_cur (H2.out.1.alloc _) hgr H2.out.2.2.2, (H2.out.2.alloc _).step hcur hgr⟩
        clear hcur hgr H2
        have HO4 := hide (H3.out.1.alloc (.cells #[.int .i64 z] 3))
        have HS4 := hide (Src.of_owns (one_lit w3 z))
        have hsz0 : w.heap.size ≤ (w3.alloc (.cells #[.int .i64 z] 3)).heap.size := by have := H3.out.2.2.1.size; simp; omega
        have hsz := hide hsz0
        clear hsz0
        go_wp2_with (first
          | (at_builtin; refine wpList_append_src rfl _ _ 24 rfl w.heap.size 3 i0 (.int .i64 0) 8 Try.underlying24 hi hz0 hz1 hz2 rfl .i64 _ L rfl HO4.out _ [z] rfl HS4.out (by unfold maxLen; simp; omega) (by simp; omega) hsz.out ?_; intro v5 w5 ho5 hg5; have hM5 : (L ++ [z]).length ≤ 5 := (by simp; omega); generalize L ++ [z] = M at ho5 hM5; have R := hide (And.intro ho5 hg5); clear ho5 hg5))
        go_ret
        exact ⟨_, M, rfl, hM5, R.out.1, (H3.out.2.alloc _).app R.out.2 (fun t ht => (World.ownsRow.lt H3.out.1 t ht).1)⟩

/-- The meta under way at block X: the result's block, the cursor. -/
def DT (w wr : World) (g : Nat) (ao : Option Addr) (n cap : Nat) (f : Nat → Int) (X b : Nat) (r : Option Addr × Nat) (G : List Int) (R : Nat → Option Addr × Nat) (L : Nat → List Int) (fi ol he : Bool) (la : Int) : Prop :=
  CurW w wr g ao n cap f ∧ KB wr w.heap.size 27 none 0 0 none 0 0 false false false 0 ∧ KB wr X 27 r.1 G.length r.2 (some ⟨b, 0, none⟩) 3 3 fi ol he la ∧ DMr (w.heap.size + 1) wr b r G R L ∧ DMx X b r G R L ∧ w.heap.size < X
theorem KB.cur {w w1 : World} {b g : Nat} {t : TypeId} {go : Option Addr} {gl gc : Nat} {bo : Option Addr} {n bc : Nat} {fi ol he : Bool} {la : Int} (h : KB w b t go gl gc bo n bc fi ol he la) (hg : w.grownBy w1 (some g)) (hne : g < b) : KB w1 b t go gl gc bo n bc fi ol he la :=
  (hg.block b h.lt (by simp; omega)).trans h
theorem DT.cur {w wr w1 : World} {g : Nat} {ao : Option Addr} {n cap : Nat} {f : Nat → Int} {X b : Nat} {r : Option Addr × Nat} {G : List Int} {R : Nat → Option Addr × Nat} {L : Nat → List Int} {fi ol he : Bool} {la : Int} (d : DT w wr g ao n cap f X b r G R L fi ol he la) (hc : Cur w1 g ao n cap f) (hg : wr.grownBy w1 (some g)) : DT w w1 g ao n cap f X b r G R L fi ol he la := by
  have hgl := d.1.2.2
  obtain ⟨h1, h2, h3, h4, h5, h6⟩ := d
  exact ⟨h1.step hc hg, h2.cur hg hgl, h3.cur hg (by omega), h4.grown hg (fun k hk => by cases hk; omega), h5, h6⟩
theorem DT.below {w wr w1 : World} {g : Nat} {ao : Option Addr} {n cap : Nat} {f : Nat → Int} {X b : Nat} {r : Option Addr × Nat} {G : List Int} {R : Nat → Option Addr × Nat} {L : Nat → List Int} {fi ol he : Bool} {la : Int} (d : DT w wr g ao n cap f X b r G R L fi ol he la) (hb : Below wr.heap.size wr w1) : DT w w1 g ao n cap f X b r G R L fi ol he la :=
  d.cur (d.1.1.grown (grown_of_below hb none) (fun k hk => by cases hk)) (grown_of_below hb _)
theorem DT.drawn {w wr : World} {g : Nat} {ao : Option Addr} {n cap : Nat} {f : Nat → Int} {X b : Nat} {r : Option Addr × Nat} {G : List Int} {R : Nat → Option Addr × Nat} {L : Nat → List Int} {fi ol he : Bool} {la : Int} (d : DT w wr g ao n cap f X b r G R L fi ol he la) : DT w wr.drew g ao n cap f X b r G R L fi ol he la := d.below (Below.drawn (Below.refl _ _) 1)
theorem DT.alloc {w wr : World} {g : Nat} {ao : Option Addr} {n cap : Nat} {f : Nat → Int} {X b : Nat} {r : Option Addr × Nat} {G : List Int} {R : Nat → Option Addr × Nat} {L : Nat → List Int} {fi ol he : Bool} {la : Int} (d : DT w wr g ao n cap f X b r G R L fi ol he la) (o : Obj) : DT w (wr.alloc o) g ao n cap f X b r G R L fi ol he la := d.below (bal1 _ _)
theorem kb_set {w : World} {X i : Nat} {t : TypeId} {c c' : Array Value} {v : Value} (h : w.heap[X]? = some (.cells c t (0, 0))) (e : c.setIfInBounds i v = c') : (w.setCell ⟨X, i, none⟩ v).heap[X]? = some (.cells c' t (0, 0)) := by
  simp [World.setCell, Array.getElem?_modify, h, e]
/-- A field stored. -/
theorem DT.set {w wr : World} {g : Nat} {ao : Option Addr} {n cap : Nat} {f : Nat → Int} {X b i : Nat} {r : Option Addr × Nat} {G : List Int} {R : Nat → Option Addr × Nat} {L : Nat → List Int} {fi ol he fi' ol' he' : Bool} {la la' : Int} {v : Value} (d : DT w wr g ao n cap f X b r G R L fi ol he la)
    (e : (#[.slice r.1 G.length r.2, .slice (some ⟨b, 0, none⟩) 3 3, .bool fi, .bool ol, .bool he, .int .i64 la] : Array Value).setIfInBounds i v = #[.slice r.1 G.length r.2, .slice (some ⟨b, 0, none⟩) 3 3, .bool fi', .bool ol', .bool he', .int .i64 la']) : DT w (wr.setCell ⟨X, i, none⟩ v) g ao n cap f X b r G R L fi' ol' he' la' := by
  obtain ⟨h1, h2, h3, h4, h5, h6⟩ := d
  exact ⟨h1.set (by omega), (cur_far (by omega) v).trans h2, kb_set h3 e, h4.far h5, h5, h6⟩
/-- A row of marks stored. -/
theorem DT.row {w wr : World} {g : Nat} {ao : Option Addr} {n cap : Nat} {f : Nat → Int} {X b k : Nat} {r r' : Option Addr × Nat} {G M : List Int} {R : Nat → Option Addr × Nat} {L : Nat → List Int} {fi ol he : Bool} {la : Int} (d : DT w wr g ao n cap f X b r G R L fi ol he la) (hk : k < 3)
    (hM : Lw (w.heap.size + 1) wr M r') (hb : (sv M r').ownBlock ≠ some b) (hX : (sv M r').ownBlock ≠ some X) (hgn : ∀ t, (sv G r).ownBlock = some t → (sv M r').ownBlock ≠ some t) : DT w (wr.setCell ⟨b, k, none⟩ (sv M r')) g ao n cap f X b r G (setr R k r') (fun i => if i = k then M else L i) fi ol he la := by
  obtain ⟨h1, h2, h3, h4, h5, h6⟩ := d
  have hbl := h4.2.1
  exact ⟨h1.set (by omega), (cur_far (by omega) _).trans h2, (cur_far h5.1 _).trans h3, h4.put hk hM hb hgn, h5.put hX, h6⟩
/-- .. of memory that is new. -/
theorem DT.rowf {w w6 w7 : World} {g : Nat} {ao : Option Addr} {n cap : Nat} {f : Nat → Int} {X b k rc : Nat} {ro : Option Addr} {r : Option Addr × Nat} {G M : List Int} {R : Nat → Option Addr × Nat} {L : Nat → List Int} {fi ol he : Bool} {la : Int} (d : DT w w7 g ao n cap f X b r G R L fi ol he la) (d6 : DT w w6 g ao n cap f X b r G R L fi ol he la) (hk : k < 3)
    (ho : w7.ownsRow w6.heap.size 3 1 (.slice ro M.length rc) M.length (M.map (.int .i64))) : DT w (w7.setCell ⟨b, k, none⟩ (.slice ro M.length rc)) g ao n cap f X b r G (setr R k (ro, rc)) (fun j => if j = k then M else L j) fi ol he la := by
  have hge : ∀ t, (sv M (ro, rc)).ownBlock = some t → w6.heap.size ≤ t := fun t ht => (World.ownsRow.lt ho t ht).1
  have hb := d6.2.2.2.1.1.lt
  have hX := d6.2.2.1.lt
  have hw := d6.2.1.lt
  have hM : Lw (w.heap.size + 1) w7 M (ro, rc) := by
    have hle : w.heap.size + 1 ≤ w6.heap.size := by omega
    exact gmono ho hle
  have h1 : (sv M (ro, rc)).ownBlock ≠ some b := fun e => by have := hge _ e; omega
  have h2 : (sv M (ro, rc)).ownBlock ≠ some X := fun e => by have := hge _ e; omega
  have h3 : ∀ t, (sv G r).ownBlock = some t → (sv M (ro, rc)).ownBlock ≠ some t := fun t ht e => by have := hge _ e; have := (d6.2.2.2.1.2.2.1.1.lt ht).2; omega
  exact DT.row d hk hM h1 h2 h3
end Go.Proofs.Ytjbhgedbkajmdaa

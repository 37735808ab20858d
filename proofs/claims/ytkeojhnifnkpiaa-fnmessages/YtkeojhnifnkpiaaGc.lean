/- MsgOk of the model, kind 2. -/
import Derived.Test.YtkeojhnifnkpiaaGb
import Derived.Test.YtkeojhnifnkpiaaGa
import Derived.Deep.AppendLies

namespace Go.Proofs.Ytkeojhnifnkpiaa
open Go.ChangeShapes Go.WideShapes Go.ChangeAt Go.RowKit
set_option linter.unusedVariables false
set_option linter.unusedSimpArgs false

set_option maxHeartbeats 4000000 in
theorem msgok2 (ao : Option Addr) (n cap : Nat) (f : Nat → Int) (c v h : Int) (w : World) (hn : n ≤ 1048576) (hcap : n ≤ cap) (hs : SL .i64 w ao n f) :
    Calls Try.prog 38 #[.agg #[.int .i64 2, .int .i64 c, .int .i64 v, .int .i64 h, .slice ao n cap]] w fun e w' => Tells w w' e (MOk 2 c v h f n) := by
  have HS : Hid (∀ o : Obj, SL .i64 (w.alloc o) ao n f) := fun o => hs.below ((Below.refl _ _).alloc (Nat.le_refl _) o)
  have HB : Hid (∀ (o : Obj) (q : Nat), Below w.heap.size w ((w.alloc o).drewN q)) := fun o q => Below.drawn ((Below.refl _ _).alloc (Nat.le_refl _) o) q
  have HB0 : Hid (∀ (o : Obj), Below w.heap.size w (w.alloc o)) := fun o => (Below.refl _ _).alloc (Nat.le_refl _) o
  clear hs
  by_cases hn0 : n = 0
  · skip
    subst hn0
    by_cases hc : 0 ≤ c ∧ c ≤ 7
    · skip
      by_cases hv : 0 ≤ v ∧ v ≤ 200
      · skip
        by_cases hh : h = 0
        · skip
          subst hh
          have hyes : MOk 2 c v 0 f 0 := .inr ⟨by omega, by omega, by omega, by first | omega | (rw [if_pos (by omega)]; omega) | (rw [if_neg (by omega)]; omega), by omega⟩
          go_enter Try.func38, Try.ntmps38
          go_wp2
          go_quiet (first
            | (go_at_call 77; refine Calls.quiet_of_same (in_yes _ _ _ _ hc.1 hc.2))
            | (go_at_call 67; refine Calls.quiet_of_same (bit_yes _))
            | (go_at_call 77; refine Calls.quiet_of_same (in_yes _ _ _ _ hv.1 hv.2))
            | fail)
          go_wp2
          go_ret
          exact Tells.yes hyes (HB.out _ _)
        · skip
          have hd : decide (h = 0) = false := by simpa using hh
          have hd2 : (h == 0) = false := by simpa using hh
          go_enter Try.func38, Try.ntmps38
          go_wp2
          go_quiet (first
            | (go_at_call 77; refine Calls.quiet_of_same (in_yes _ _ _ _ hc.1 hc.2))
            | (go_at_call 67; refine Calls.quiet_of_same (bit_yes _))
            | (go_at_call 77; refine Calls.quiet_of_same (in_yes _ _ _ _ hv.1 hv.2))
            | fail)
          go_wp2
          go_ret
          refine Tells.no (fun x => ?_) (HB.out _ _)
          unfold MOk at x
          omega
      · skip
        have hv' : v < 0 ∨ 200 < v := by omega
        go_enter Try.func38, Try.ntmps38
        go_wp2
        go_quiet (first
          | (go_at_call 77; refine Calls.quiet_of_same (in_yes _ _ _ _ hc.1 hc.2))
          | (go_at_call 67; refine Calls.quiet_of_same (bit_yes _))
          | (go_at_call 77; refine Calls.quiet_of_same (in_no _ _ _ _ hv'))
          | fail)
        go_wp2
        go_ret
        refine Tells.no (fun x => ?_) (HB.out _ _)
        unfold MOk at x
        omega
    · skip
      have hc' : c < 0 ∨ 7 < c := by omega
      go_enter Try.func38, Try.ntmps38
      go_wp2
      go_quiet (first
        | (go_at_call 77; refine Calls.quiet_of_same (in_no _ _ _ _ hc'))
        | (go_at_call 67; refine Calls.quiet_of_same (bit_yes _))
        | fail)
      go_wp2
      go_ret
      refine Tells.no (fun x => ?_) (HB.out _ _)
      unfold MOk at x
      omega
  · skip
    have hd : decide ((n : Int) = 0) = false := by simp; omega
    have hd2 : ((n : Int) == 0) = false := by simp; omega
    have hd3 : (n == 0) = false := by simp; omega
    have hd4 : decide (n = 0) = false := by simp; omega
    go_enter Try.func38, Try.ntmps38
    go_wp2
    go_quiet (first
      | fail)
    go_wp2
    go_ret
    refine Tells.no (fun x => ?_) (HB.out _ _)
    unfold MOk at x
    omega
end Go.Proofs.Ytkeojhnifnkpiaa

/- MsgOk of the model, kind 3. -/
namespace Go.Proofs.Ytkeojhnifnkpiaa
open Go.ChangeShapes Go.WideShapes Go.ChangeAt Go.RowKit
set_option linter.unusedVariables false
set_option linter.unusedSimpArgs false

set_option maxHeartbeats 4000000 in
theorem msgok3 (ao : Option Addr) (n cap : Nat) (f : Nat → Int) (c v h : Int) (w : World) (hn : n ≤ 1048576) (hcap : n ≤ cap) (hs : SL .i64 w ao n f) :
    Calls Try.prog 38 #[.agg #[.int .i64 3, .int .i64 c, .int .i64 v, .int .i64 h, .slice ao n cap]] w fun e w' => Tells w w' e (MOk 3 c v h f n) := by
  have HS : Hid (∀ o : Obj, SL .i64 (w.alloc o) ao n f) := fun o => hs.below ((Below.refl _ _).alloc (Nat.le_refl _) o)
  have HB : Hid (∀ (o : Obj) (q : Nat), Below w.heap.size w ((w.alloc o).drewN q)) := fun o q => Below.drawn ((Below.refl _ _).alloc (Nat.le_refl _) o) q
  have HB0 : Hid (∀ (o : Obj), Below w.heap.size w (w.alloc o)) := fun o => (Below.refl _ _).alloc (Nat.le_refl _) o
  clear hs
  by_cases hn0 : n = 0
  · skip
    subst hn0
    by_cases hc : 0 ≤ c ∧ c ≤ 7
    · skip
      by_cases hv : 1 ≤ v ∧ v ≤ 200
      · skip
        by_cases hh : 0 ≤ h ∧ h ≤ 2
        · skip
          have hyes : MOk 3 c v h f 0 := .inr ⟨by omega, by omega, by omega, by first | omega | (rw [if_pos (by omega)]; omega) | (rw [if_neg (by omega)]; omega), by omega⟩
          go_enter Try.func38, Try.ntmps38
          go_wp2
          go_quiet (first
            | (go_at_call 77; refine Calls.quiet_of_same (in_yes _ _ _ _ hc.1 hc.2))
            | (go_at_call 67; refine Calls.quiet_of_same (bit_no _))
            | (go_at_call 77; refine Calls.quiet_of_same (in_yes _ _ _ _ hv.1 hv.2))
            | (go_at_call 77; refine Calls.quiet_of_same (in_yes _ _ _ _ hh.1 hh.2))
            | fail)
          go_wp2
          go_ret
          exact Tells.yes hyes (HB.out _ _)
        · skip
          have hh' : h < 0 ∨ 2 < h := by omega
          have hd : decide (h = 0) = false := by simp; omega
          have hd2 : (h == 0) = false := by simp; omega
          go_enter Try.func38, Try.ntmps38
          go_wp2
          go_quiet (first
            | (go_at_call 77; refine Calls.quiet_of_same (in_yes _ _ _ _ hc.1 hc.2))
            | (go_at_call 67; refine Calls.quiet_of_same (bit_no _))
            | (go_at_call 77; refine Calls.quiet_of_same (in_yes _ _ _ _ hv.1 hv.2))
            | (go_at_call 77; refine Calls.quiet_of_same (in_no _ _ _ _ hh'))
            | fail)
          go_wp2
          go_ret
          refine Tells.no (fun x => ?_) (HB.out _ _)
          unfold MOk at x
          omega
      · skip
        have hv' : v < 1 ∨ 200 < v := by omega
        go_enter Try.func38, Try.ntmps38
        go_wp2
        go_quiet (first
          | (go_at_call 77; refine Calls.quiet_of_same (in_yes _ _ _ _ hc.1 hc.2))
          | (go_at_call 67; refine Calls.quiet_of_same (bit_no _))
          | (go_at_call 77; refine Calls.quiet_of_same (in_no _ _ _ _ hv'))
          | fail)
        go_wp2
        go_ret
        refine Tells.no (fun x => ?_) (HB.out _ _)
        unfold MOk at x
        omega
    · skip
      have hc' : c < 0 ∨ 7 < c := by omega
      go_enter Try.func38, Try.ntmps38
      go_wp2
      go_quiet (first
        | (go_at_call 77; refine Calls.quiet_of_same (in_no _ _ _ _ hc'))
        | (go_at_call 67; refine Calls.quiet_of_same (bit_no _))
        | fail)
      go_wp2
      go_ret
      refine Tells.no (fun x => ?_) (HB.out _ _)
      unfold MOk at x
      omega
  · skip
    have hd : decide ((n : Int) = 0) = false := by simp; omega
    have hd2 : ((n : Int) == 0) = false := by simp; omega
    have hd3 : (n == 0) = false := by simp; omega
    have hd4 : decide (n = 0) = false := by simp; omega
    go_enter Try.func38, Try.ntmps38
    go_wp2
    go_quiet (first
      | fail)
    go_wp2
    go_ret
    refine Tells.no (fun x => ?_) (HB.out _ _)
    unfold MOk at x
    omega
end Go.Proofs.Ytkeojhnifnkpiaa

/- MsgOk of the model, kind 4. -/
namespace Go.Proofs.Ytkeojhnifnkpiaa
open Go.ChangeShapes Go.WideShapes Go.ChangeAt Go.RowKit
set_option linter.unusedVariables false
set_option linter.unusedSimpArgs false

set_option maxHeartbeats 4000000 in
theorem msgok4 (ao : Option Addr) (n cap : Nat) (f : Nat → Int) (c v h : Int) (w : World) (hn : n ≤ 1048576) (hcap : n ≤ cap) (hs : SL .i64 w ao n f) :
    Calls Try.prog 38 #[.agg #[.int .i64 4, .int .i64 c, .int .i64 v, .int .i64 h, .slice ao n cap]] w fun e w' => Tells w w' e (MOk 4 c v h f n) := by
  have HS : Hid (∀ o : Obj, SL .i64 (w.alloc o) ao n f) := fun o => hs.below ((Below.refl _ _).alloc (Nat.le_refl _) o)
  have HB : Hid (∀ (o : Obj) (q : Nat), Below w.heap.size w ((w.alloc o).drewN q)) := fun o q => Below.drawn ((Below.refl _ _).alloc (Nat.le_refl _) o) q
  have HB0 : Hid (∀ (o : Obj), Below w.heap.size w (w.alloc o)) := fun o => (Below.refl _ _).alloc (Nat.le_refl _) o
  clear hs
  by_cases hn0 : n = 0
  · skip
    subst hn0
    by_cases hc : 0 ≤ c ∧ c ≤ 7
    · skip
      by_cases hv : 0 ≤ v ∧ v ≤ 200
      · skip
        by_cases hh : h = 0
        · skip
          subst hh
          have hyes : MOk 4 c v 0 f 0 := .inr ⟨by omega, by omega, by omega, by first | omega | (rw [if_pos (by omega)]; omega) | (rw [if_neg (by omega)]; omega), by omega⟩
          go_enter Try.func38, Try.ntmps38
          go_wp2
          go_quiet (first
            | (go_at_call 77; refine Calls.quiet_of_same (in_yes _ _ _ _ hc.1 hc.2))
            | (go_at_call 67; refine Calls.quiet_of_same (bit_yes _))
            | (go_at_call 77; refine Calls.quiet_of_same (in_yes _ _ _ _ hv.1 hv.2))
            | fail)
          go_wp2
          go_ret
          exact Tells.yes hyes (HB.out _ _)
        · skip
          have hd : decide (h = 0) = false := by simpa using hh
          have hd2 : (h == 0) = false := by simpa using hh
          go_enter Try.func38, Try.ntmps38
          go_wp2
          go_quiet (first
            | (go_at_call 77; refine Calls.quiet_of_same (in_yes _ _ _ _ hc.1 hc.2))
            | (go_at_call 67; refine Calls.quiet_of_same (bit_yes _))
            | (go_at_call 77; refine Calls.quiet_of_same (in_yes _ _ _ _ hv.1 hv.2))
            | fail)
          go_wp2
          go_ret
          refine Tells.no (fun x => ?_) (HB.out _ _)
          unfold MOk at x
          omega
      · skip
        have hv' : v < 0 ∨ 200 < v := by omega
        go_enter Try.func38, Try.ntmps38
        go_wp2
        go_quiet (first
          | (go_at_call 77; refine Calls.quiet_of_same (in_yes _ _ _ _ hc.1 hc.2))
          | (go_at_call 67; refine Calls.quiet_of_same (bit_yes _))
          | (go_at_call 77; refine Calls.quiet_of_same (in_no _ _ _ _ hv'))
          | fail)
        go_wp2
        go_ret
        refine Tells.no (fun x => ?_) (HB.out _ _)
        unfold MOk at x
        omega
    · skip
      have hc' : c < 0 ∨ 7 < c := by omega
      go_enter Try.func38, Try.ntmps38
      go_wp2
      go_quiet (first
        | (go_at_call 77; refine Calls.quiet_of_same (in_no _ _ _ _ hc'))
        | (go_at_call 67; refine Calls.quiet_of_same (bit_yes _))
        | fail)
      go_wp2
      go_ret
      refine Tells.no (fun x => ?_) (HB.out _ _)
      unfold MOk at x
      omega
  · skip
    have hd : decide ((n : Int) = 0) = false := by simp; omega
    have hd2 : ((n : Int) == 0) = false := by simp; omega
    have hd3 : (n == 0) = false := by simp; omega
    have hd4 : decide (n = 0) = false := by simp; omega
    go_enter Try.func38, Try.ntmps38
    go_wp2
    go_quiet (first
      | fail)
    go_wp2
    go_ret
    refine Tells.no (fun x => ?_) (HB.out _ _)
    unfold MOk at x
    omega
end Go.Proofs.Ytkeojhnifnkpiaa

/- MsgOk of the model. -/
namespace Go.Proofs.Ytkeojhnifnkpiaa
open Go.ChangeShapes Go.WideShapes Go.ChangeAt Go.RowKit
set_option linter.unusedVariables false
set_option linter.unusedSimpArgs false

theorem msgok_spec (ao : Option Addr) (n cap : Nat) (f : Nat → Int) (k c v h : Int) (w : World) (hn : n ≤ 1048576) (hcap : n ≤ cap) (hs : SL .i64 w ao n f) :
    Calls Try.prog 38 #[.agg #[.int .i64 k, .int .i64 c, .int .i64 v, .int .i64 h, .slice ao n cap]] w fun e w' => Tells w w' e (MOk k c v h f n) := by
  by_cases h5 : k = 5
  · subst h5; exact msgok5 ao n cap f c v h w hn hcap hs
  · by_cases h1 : k = 1
    · subst h1; exact msgok1 ao n cap f c v h w hn hcap hs
    · by_cases h2 : k = 2
      · subst h2; exact msgok2 ao n cap f c v h w hn hcap hs
      · by_cases h3 : k = 3
        · subst h3; exact msgok3 ao n cap f c v h w hn hcap hs
        · by_cases h4 : k = 4
          · subst h4; exact msgok4 ao n cap f c v h w hn hcap hs
          · exact msgok0 ao n cap f k c v h w hn hcap hs h5 h1 h2 h3 h4
end Go.Proofs.Ytkeojhnifnkpiaa

/- PutNum of the model, and numBytes of the program: the bytes of a number, in memory of the call's own. -/
namespace Go.Proofs.Ytkeojhnifnkpiaa
open Go.ChangeShapes Go.WideShapes Go.ChangeAt Go.RowKit
set_option linter.unusedVariables false
set_option linter.unusedSimpArgs false

/-- The bytes of a number. -/
def pb : Nat → Int → List Int
  | 0, x => [x]
  | fuel + 1, x => if x < 128 then [x] else (x % 128 + 128) :: pb fuel (x / 128)
/-- How great what is left may be behind k bytes. -/
def lim (k : Nat) : Int := if k = 0 then 2147483648 else if k = 1 then 16777216 else if k = 2 then 131072 else if k = 3 then 1024 else 8

theorem pb_last (fuel : Nat) (x : Int) (h : x < 128) : pb fuel x = [x] := by
  cases fuel with
  | zero => rfl
  | succ f => rw [pb, if_pos h]
theorem pb_more (fuel : Nat) (x : Int) (h : ¬ x < 128) : pb (fuel + 1) x = (x % 128 + 128) :: pb fuel (x / 128) := by rw [pb, if_neg h]
theorem pb_len (fuel : Nat) (x : Int) : (pb fuel x).length ≤ fuel + 1 := by
  induction fuel generalizing x with
  | zero => simp [pb]
  | succ f ih =>
    rw [pb]
    split
    · simp
    · have := ih (x / 128); simp; omega
theorem lim_step (k : Nat) (y : Int) (h : 128 ≤ y) (hy : y < lim k) : k < 4 ∧ 0 ≤ y / 128 ∧ y / 128 < lim (k + 1) := by
  unfold lim at *
  split at hy
  · subst_vars; simp; omega
  · split at hy
    · subst_vars; simp; omega
    · split at hy
      · subst_vars; simp; omega
      · split at hy
        · subst_vars; simp; omega
        · omega
theorem lim_le (k : Nat) : lim k ≤ 2147483648 := by unfold lim; repeat (split; omega); omega

theorem put_step {w wr w1 : World} {v v' : Value} {k : Nat} {y : Int} {L : List Int} {x : Int} (hk : k < 4) (hl : L.length = k) (hy : ¬ y < 128) (hp : L ++ pb (4 - k) y = pb 4 x)
    (h1 : w1.ownsRow w.heap.size 5 1 v' (k + 1) (L.map (.int .u8) ++ [.int .u8 (y % 128 + 128)])) (hb : Below w.heap.size w wr) (ho : wr.ownsRow w.heap.size 5 1 v k (L.map (.int .u8)))
    (hg : (wr.alloc (.cells #[.int .u8 (y % 128 + 128)] 5)).grownBy w1 v.ownBlock) :
    (L ++ [y % 128 + 128]).length = k + 1 ∧ (L ++ [y % 128 + 128]) ++ pb (4 - (k + 1)) (y / 128) = pb 4 x ∧ w1.ownsRow w.heap.size 5 1 v' (k + 1) ((L ++ [y % 128 + 128]).map (.int .u8)) ∧ Below w.heap.size w w1 := by
  refine ⟨by simp [hl], ?_, by simpa using h1, ?_⟩
  · rw [← hp, show 4 - k = (4 - (k + 1)) + 1 by omega, pb_more _ _ hy]; simp
  · refine (hb.alloc hb.size _).grown hg (by have := hb.size; simp; omega) ?_
    intro g hgv
    rcases ho.2 with ⟨rfl, _⟩ | ⟨g', cap, cur, rfl, hge, _⟩
    · simp [Value.ownBlock] at hgv
    · simp [Value.ownBlock] at hgv; omega

theorem put_end {w wr w1 : World} {v v' : Value} {k : Nat} {y : Int} {L : List Int} {x : Int} (hl : L.length = k) (hy : y < 128) (hp : L ++ pb (4 - k) y = pb 4 x)
    (h1 : w1.ownsRow w.heap.size 5 1 v' (k + 1) (L.map (.int .u8) ++ [.int .u8 y])) (hb : Below w.heap.size w wr) (ho : wr.ownsRow w.heap.size 5 1 v k (L.map (.int .u8)))
    (hg : (wr.alloc (.cells #[.int .u8 y] 5)).grownBy w1 v.ownBlock) :
    w1.ownsRow w.heap.size 5 1 v' (pb 4 x).length ((pb 4 x).map (.int .u8)) ∧ Below w.heap.size w w1 := by
  refine ⟨?_, ?_⟩
  · rw [← hp, pb_last _ _ hy]; simpa [hl] using h1
  · refine (hb.alloc hb.size _).grown hg (by have := hb.size; simp; omega) ?_
    intro g hgv
    rcases ho.2 with ⟨rfl, _⟩ | ⟨g', cap, cur, rfl, hge, _⟩
    · simp [Value.ownBlock] at hgv
    · simp [Value.ownBlock] at hgv; omega

theorem app_cell (wr : World) (u : Value) (t : TypeId) : ∀ j u', [u][j]? = some u' → (wr.alloc (.cells #[u] t)).cell? ((⟨wr.heap.size, 0, none⟩ : Addr).add j) = some u' := by
  intro j u' hj
  match j, hj with
  | 0, hj => simp at hj; subst hj; simp [Addr.add]
theorem app_one (k : IntKind) (x : Int) : ∀ u ∈ [Value.int k x], u.oneCell' = true := by
  intro u hu; simp at hu; subst hu; rfl
theorem app_len {k : Nat} (h : k ≤ 1048576) : k + 1 ≤ maxLen := by unfold maxLen; omega

theorem put_spec_no (x : Int) (w : World) (h : x < 0 ∨ 2147483647 < x) :
    Calls Try.prog 66 #[.int .i64 x] w fun e w' => e = .returned (.slice (some ⟨w.heap.size, 0, none⟩) 0 0) ∧ Below w.heap.size w w' := by
  go_enter Try.func66, Try.ntmps66
  go_wp2_with (go_at_call 77; refine (in_no _ _ _ _ h).mono ?_; rintro e w' ⟨rfl, rfl⟩)
  go_ret
  exact ⟨rfl, (Below.refl _ _).alloc (Nat.le_refl _) _⟩

set_option maxRecDepth 100000 in
theorem put_spec (x : Int) (w : World) (h0 : 0 ≤ x) (h1 : x ≤ 2147483647) :
    Calls Try.prog 66 #[.int .i64 x] w fun e w' => ∃ v, e = .returned v ∧ w'.ownsRow w.heap.size 5 1 v (pb 4 x).length ((pb 4 x).map (.int .u8)) ∧ Below w.heap.size w w' := by
  obtain ⟨i0, hi, hz0, hz1, hz2⟩ := info_parts Try.info5
  go_enter Try.func66, Try.ntmps66
  go_wp2_with (go_at_call 77; refine (in_yes _ _ _ _ h0 h1).mono ?_; rintro e w' ⟨rfl, rfl⟩)
  go_loopw [0, 3] (fun xv v wr => ∃ (k : Nat) (y : Int) (L : List Int), k ≤ 4 ∧ Hid (L.length = k) ∧ 0 ≤ y ∧ y < lim k ∧ xv = .int .i64 y ∧ Hid (L ++ pb (4 - k) y = pb 4 x) ∧ wr.ownsRow w.heap.size 5 1 v k (L.map (.int .u8)) ∧ Below w.heap.size w wr) (fun xv _ _ => (intOf xv).toNat)
  case atStart => exact ⟨0, x, [], by omega, rfl, h0, by simp [lim]; omega, rfl, rfl, ⟨rfl, .inr ⟨_, _, #[], rfl, Nat.le_refl _, Deep.blk_alloc_new _ _, by simp, by simp, by simp, by simp⟩⟩, (Below.refl _ _).alloc (Nat.le_refl _) _⟩
  case round =>
    obtain ⟨k, y, L, hk, hl, hy0, hy1, rfl, hp, hown, hbel⟩ := hrel
    have hlim := lim_le k
    by_cases hlt : 128 ≤ y
    · obtain ⟨hk4, hd0, hd1⟩ := lim_step k y hlt hy1
      go_wp2_with (first
        | (at_builtin; refine wpList_append_own _ rfl _ _ 22 rfl w.heap.size 5 i0 (.int .u8 0) 1 1 Try.underlying22 hi hz0 hz1 hz2 rfl (by decide) _ _ _ rfl (hown.alloc _) ⟨wr.heap.size, 0, none⟩ 1 1 [.int .u8 (y % 128 + 128)] rfl rfl (app_cell _ _ _) (app_one _ _) (app_len (by omega)) (by omega) (by have := hbel.size; simp; omega) ?_; intro v' w1 hown' hgrow hnn))
      · have R := put_step hk4 hl.out (by omega) hp.out hown' hbel hown hgrow
        clear hown' hgrow hown
        go_wp2
        go_roundw
        case rel => exact ⟨k + 1, y / 128, _, by omega, R.1, hd0, hd1, by go_num, R.2.1, R.2.2.1, R.2.2.2⟩
        case measure => simp [intOf]; omega
    · go_wp2_with (first
        | (at_builtin; refine wpList_append_own _ rfl _ _ 22 rfl w.heap.size 5 i0 (.int .u8 0) 1 1 Try.underlying22 hi hz0 hz1 hz2 rfl (by decide) _ _ _ rfl (hown.alloc _) ⟨wr.heap.size, 0, none⟩ 1 1 [.int .u8 y] rfl rfl (app_cell _ _ _) (app_one _ _) (app_len (by omega)) (by omega) (by have := hbel.size; simp; omega) ?_; intro v' w1 hown' hgrow hnn))
      · have R := put_end hl.out (by omega) hp.out hown' hbel hown hgrow
        clear hown' hgrow hown
        go_wp2
        go_ret
        exact ⟨_, rfl, R⟩
end Go.Proofs.Ytkeojhnifnkpiaa

/- The body of a message: its numbers as bytes, one behind the other. -/
namespace Go.Proofs.Ytkeojhnifnkpiaa
open Go.ChangeShapes Go.WideShapes Go.ChangeAt Go.RowKit
set_option linter.unusedVariables false
set_option linter.unusedSimpArgs false

/-- Numbers as bytes, one behind the other. -/
def nums (l : List Int) : List Int := (l.map (pb 4)).flatten
theorem nums_nil : nums [] = [] := rfl
theorem nums_cons (x : Int) (l : List Int) : nums (x :: l) = pb 4 x ++ nums l := by simp [nums]
theorem nums_app (l m : List Int) : nums (l ++ m) = nums l ++ nums m := by simp [nums]
theorem nums_one (x : Int) : nums [x] = pb 4 x := by simp [nums]
theorem nums_len (l : List Int) : (nums l).length ≤ 5 * l.length := by
  induction l with
  | nil => simp [nums]
  | cons x l ih =>
    have := pb_len 4 x
    rw [nums_cons, List.length_append, List.length_cons]
    omega

theorem mpb_pos (fuel : Nat) (x : Int) : 0 < (pb fuel x).length := by
  cases fuel with
  | zero => simp [pb]
  | succ f => rw [pb]; split <;> simp
theorem mpb_255 (fuel : Nat) (x : Int) (k : Nat) (hk : k + fuel = 4) (h0 : 0 ≤ x) (h1 : x < lim k) : ∀ z ∈ pb fuel x, 0 ≤ z ∧ z ≤ 255 := by
  induction fuel generalizing x k with
  | zero =>
    intro z hz
    simp [pb] at hz
    subst hz
    have : k = 4 := by omega
    subst this
    simp [lim] at h1
    omega
  | succ f ih =>
    intro z hz
    rw [pb] at hz
    split at hz
    · simp at hz; omega
    · next h =>
      obtain ⟨_, g0, g1⟩ := lim_step k x (by omega) h1
      rcases List.mem_cons.1 hz with rfl | hz
      · omega
      · exact ih (x / 128) (k + 1) (by omega) g0 g1 z hz
theorem pb_byte (x : Int) (h0 : 0 ≤ x) (h1 : x ≤ 2147483647) : ∀ z ∈ pb 4 x, 0 ≤ z ∧ z ≤ 255 := mpb_255 4 x 0 rfl h0 (by simp [lim]; omega)
theorem nums_byte (l : List Int) (h : ∀ x ∈ l, 0 ≤ x ∧ x ≤ 2147483647) : ∀ z ∈ nums l, 0 ≤ z ∧ z ≤ 255 := by
  intro z hz
  simp only [nums, List.mem_flatten, List.mem_map] at hz
  obtain ⟨_, ⟨x, hx, rfl⟩, hz⟩ := hz
  exact pb_byte x (h x hx).1 (h x hx).2 z hz

theorem gbelow {B n s : Nat} {w w' : World} {e : TypeId} {v : Value} {xs : List Value} (h : w.ownsRow B e s v n xs) (hb : Below w.heap.size w w') : w'.ownsRow B e s v n xs := by
  refine ⟨h.1, ?_⟩
  rcases h.2 with h | ⟨g, cap, cur, e1, hge, hc, r⟩
  · exact .inl h
  · exact .inr ⟨g, cap, cur, e1, hge, (hb.block g (Array.getElem?_eq_some_iff.1 hc).1).trans hc, r⟩
theorem msrc {w : World} {B : Nat} {v : Value} {L : List Int} {k : IntKind} {t : TypeId} (h : w.ownsRow B t 1 v L.length (L.map (.int k))) (hne : 0 < L.length) :
    ∃ g cap, v = .slice (some ⟨g, 0, none⟩) L.length cap ∧ g < w.heap.size ∧ B ≤ g ∧ ∀ j u, (L.map (Value.int k))[j]? = some u → w.cell? ((⟨g, 0, none⟩ : Addr).add j) = some u := by
  rcases h.2 with ⟨_, h0⟩ | ⟨g, cap, cur, e, hge, hc, _⟩
  · omega
  · exact ⟨g, cap, e, (Array.getElem?_eq_some_iff.1 hc).1, hge, h.cells (by rw [e]; rfl)⟩

/-- Bytes that are built beside a list of numbers at block q, and a message at block p. -/
def Bo (w0 w : World) (p q : Nat) (v : Value) (L : List Int) : Prop :=
  w.ownsRow w0.heap.size 5 1 v L.length (L.map (.int .u8)) ∧ v.ownBlock ≠ some p ∧ v.ownBlock ≠ some q ∧ p < w.heap.size ∧ q < w.heap.size ∧ Below w0.heap.size w0 w

theorem Bo.step {w0 w w' : World} {p q : Nat} {v : Value} {L : List Int} (h : Bo w0 w p q v L) (hb : Below w.heap.size w w') : Bo w0 w' p q v L :=
  ⟨gbelow h.1 hb, h.2.1, h.2.2.1, Nat.lt_of_lt_of_le h.2.2.2.1 hb.size, Nat.lt_of_lt_of_le h.2.2.2.2.1 hb.size, h.2.2.2.2.2.trans (hb.mono h.2.2.2.2.2.size)⟩
theorem Bo.app {w0 w w' : World} {p q g cap : Nat} {v : Value} {L M : List Int} (h : Bo w0 w p q v L)
    (h1 : w'.ownsRow w0.heap.size 5 1 (.slice (some ⟨g, 0, none⟩) (L.length + M.length) cap) (L.length + M.length) (L.map (.int .u8) ++ M.map (.int .u8))) (hg : w.grownBy w' v.ownBlock) (hat : v.ownBlock = some g ∨ g = w.heap.size) :
    Bo w0 w' p q (.slice (some ⟨g, 0, none⟩) (L.length + M.length) cap) (L ++ M) := by
  obtain ⟨ho, hp, hq, lp, lq, hb⟩ := h
  refine ⟨by simpa using h1, ?_, ?_, Nat.lt_of_lt_of_le lp hg.size, Nat.lt_of_lt_of_le lq hg.size, ggrown hb hb.size ho hg⟩
  · rcases hat with e | e
    · intro c; exact hp (e.trans (by simpa [Value.ownBlock] using c))
    · intro c; simp [Value.ownBlock] at c; omega
  · rcases hat with e | e
    · intro c; exact hq (e.trans (by simpa [Value.ownBlock] using c))
    · intro c; simp [Value.ownBlock] at c; omega
theorem Bo.keep {w0 w w' : World} {p q : Nat} {v : Value} {L : List Int} (h : Bo w0 w p q v L) (hg : w.grownBy w' v.ownBlock) (a : Addr) (ha : a.block = p ∨ a.block = q) : w'.cell? a = w.cell? a := by
  rcases ha with e | e
  · exact hg.cell_far a (by rw [e]; exact h.2.2.2.1) (by rw [e]; exact fun c => h.2.1 c.symm)
  · exact hg.cell_far a (by rw [e]; exact h.2.2.2.2.1) (by rw [e]; exact fun c => h.2.2.1 c.symm)

theorem al3 (w : World) (o1 o2 o3 : Obj) : (((w.alloc o1).alloc o2).alloc o3).heap[w.heap.size]? = some o1 ∧ (((w.alloc o1).alloc o2).alloc o3).heap[w.heap.size + 1]? = some o2 ∧ (((w.alloc o1).alloc o2).alloc o3).heap[w.heap.size + 1 + 1]? = some o3 ∧ (((w.alloc o1).alloc o2).alloc o3).heap.size = w.heap.size + 1 + 1 + 1 := by
  have e : ∀ (w : World) (o : Obj), (w.alloc o).heap = w.heap.push o := fun _ _ => rfl
  refine ⟨?_, ?_, ?_, ?_⟩
  · simp only [e, Array.getElem?_push, Array.size_push]
    rw [if_neg (by omega), if_neg (by omega), if_pos trivial]
  · simp only [e, Array.getElem?_push, Array.size_push]
    rw [if_neg (by omega), if_pos trivial]
  · simp only [e, Array.getElem?_push, Array.size_push]
    rw [if_pos trivial]
  · simp only [e, Array.size_push]
theorem bo_start (w : World) (m l : Array Value) (t : TypeId) : Bo w (((w.alloc (.cells m t)).alloc (.cells #[] 5)).alloc (.cells l 3)) w.heap.size (w.heap.size + 1 + 1) (.slice (some ⟨w.heap.size + 1, 0, none⟩) 0 0) [] := by
  obtain ⟨h1, h2, h3, h4⟩ := al3 w (.cells m t) (.cells #[] 5) (.cells l 3)
  refine ⟨⟨rfl, .inr ⟨_, _, #[], rfl, by omega, h2, by simp, by simp, by simp, by simp⟩⟩, by simp [Value.ownBlock], by simp [Value.ownBlock], by omega, by omega, ?_⟩
  exact (((Below.refl _ _).alloc (Nat.le_refl _) _).alloc (by simp) _).alloc (by simp; omega) _
theorem blk_cell {w : World} {g i : Nat} {cs : Array Value} {t : TypeId} {fr : Nat × Nat} {v : Value} (h : w.heap[g]? = some (.cells cs t fr)) (hv : cs[i]? = some v) : w.cell? ⟨g, i, none⟩ = some v := by
  simp [World.cell?, h, hv]

set_option maxRecDepth 100000 in
theorem body_spec (ao : Option Addr) (n cap : Nat) (f : Nat → Int) (k c v h : Int) (w : World) (hn : n ≤ 12) (hs : SL .i64 w ao n f) (hf : ∀ i, i < n → 0 ≤ f i ∧ f i ≤ 2147483647)
    (hk : 0 ≤ k ∧ k ≤ 2147483647) (hc : 0 ≤ c ∧ c ≤ 2147483647) (hv : 0 ≤ v ∧ v ≤ 2147483647) (hh : 0 ≤ h ∧ h ≤ 2147483647) :
    Calls Try.prog 93 #[.agg #[.int .i64 k, .int .i64 c, .int .i64 v, .int .i64 h, .slice ao n cap]] w fun e w' => ∃ x, e = .returned x ∧ w'.ownsRow w.heap.size 5 1 x (nums ([k, c, v, h, (n : Int)] ++ (List.range n).map f)).length ((nums ([k, c, v, h, (n : Int)] ++ (List.range n).map f)).map (.int .u8)) ∧ Below w.heap.size w w' := by
  obtain ⟨i0, hi, hz0, hz1, hz2⟩ := info_parts Try.info5
  have HS := hide hs
  have HF := hide hf
  have H5 : Hid (∀ i, i < 5 → 0 ≤ ([k, c, v, h, (n : Int)] : List Int).getD i 0 ∧ ([k, c, v, h, (n : Int)] : List Int).getD i 0 ≤ 2147483647) := fun i hi => by
    match i, hi with
    | 0, _ => exact hk
    | 1, _ => exact hc
    | 2, _ => exact hv
    | 3, _ => exact hh
    | 4, _ => simp; omega
  clear hs hf hk hc hv hh
  generalize hR : nums ([k, c, v, h, (n : Int)] ++ (List.range n).map f) = R
  have HR := hide hR
  clear hR
  go_enter Try.func93, Try.ntmps93
  go_wp2
  obtain ⟨b1, _, b3, _⟩ := al3 w (.cells #[.int .i64 k, .int .i64 c, .int .i64 v, .int .i64 h, .slice ao n cap] 40) (.cells #[] 5) (.cells #[.int .i64 k, .int .i64 c, .int .i64 v, .int .i64 h, .int .i64 (n : Int)] 3)
  have hst := hide (bo_start w #[.int .i64 k, .int .i64 c, .int .i64 v, .int .i64 h, .slice ao n cap] #[.int .i64 k, .int .i64 c, .int .i64 v, .int .i64 h, .int .i64 (n : Int)] 40)
  have hst2 := hide (blk_cell (i := 4) b1 rfl)
  have hst3 : Hid (∀ j, j < 5 → (((w.alloc (.cells #[.int .i64 k, .int .i64 c, .int .i64 v, .int .i64 h, .slice ao n cap] 40)).alloc (.cells #[] 5)).alloc (.cells #[.int .i64 k, .int .i64 c, .int .i64 v, .int .i64 h, .int .i64 (n : Int)] 3)).cell? ⟨w.heap.size + 1 + 1, j, none⟩ = some (.int .i64 (([k, c, v, h, (n : Int)] : List Int).getD j 0))) := fun j hj => by
    match j, hj with
    | 0, _ => exact blk_cell b3 rfl
    | 1, _ => exact blk_cell b3 rfl
    | 2, _ => exact blk_cell b3 rfl
    | 3, _ => exact blk_cell b3 rfl
    | 4, _ => exact blk_cell b3 rfl
  clear b1 b3
  generalize hl5 : ([k, c, v, h, (n : Int)] : List Int) = l5 at *
  have HL5 : Hid (l5.length = 5) := (show _ = _ by rw [← hl5]; rfl)
  clear hl5
  go_loopw [3, 5] (fun x i wr => ∃ (j : Nat) (L : List Int), j ≤ 5 ∧ L.length ≤ 25 ∧ i = .int .i64 j ∧ Hid (L = nums (l5.take j)) ∧ Hid (Bo w wr w.heap.size (w.heap.size + 1 + 1) x L) ∧ Hid (wr.cell? ⟨w.heap.size, 4, none⟩ = some (.slice ao n cap)) ∧ Hid (∀ j, j < 5 → wr.cell? ⟨w.heap.size + 1 + 1, j, none⟩ = some (.int .i64 (l5.getD j 0)))) (fun _ i _ => 5 - (intOf i).toNat)
  case atStart => exact ⟨0, [], by omega, by simp, rfl, rfl, hst.out, hst2.out, hst3.out⟩
  case round =>
    clear hst hst2 hst3
    obtain ⟨j, L, hj, hLl, rfl, HL, HB, HP, HQ⟩ := hrel
    by_cases hlt : j < 5
    · have hcj := HQ.out j hlt
      obtain ⟨hz1', hz2'⟩ := H5.out j hlt
      have hnx : Hid (nums (l5.take (j + 1)) = L ++ pb 4 (l5.getD j 0)) := (show _ = _ by
        have e : l5.take (j + 1) = l5.take j ++ [l5.getD j 0] := by
          rw [List.take_add_one]
          have : j < l5.length := by rw [HL5.out]; exact hlt
          simp [List.getD, this]
        rw [e, nums_app, nums_one, ← HL.out])
      generalize l5.getD j 0 = z at *
      have hji : (j : Int) < 5 := by omega
      go_wp2_with fail
      refine (put_spec z _ hz1' hz2').mono ?_
      rintro e w3 ⟨v3, rfl, ho3, hb3⟩
      obtain ⟨g3, c3, rfl, hg3, _, hsrc⟩ := msrc ho3 (mpb_pos 4 z)
      have HB3 : Hid (Bo w w3 w.heap.size (w.heap.size + 1 + 1) u3 L) := HB.out.step hb3
      have HP3 : Hid (w3.cell? ⟨w.heap.size, 4, none⟩ = some (.slice ao n cap)) := (show _ = _ by rw [hb3.cell (p := ⟨w.heap.size, 4, none⟩) HB.out.2.2.2.1]; exact HP.out)
      have HQ3 : Hid (∀ j, j < 5 → w3.cell? ⟨w.heap.size + 1 + 1, j, none⟩ = some (.int .i64 (l5.getD j 0))) := fun i hi => by rw [hb3.cell (p := ⟨w.heap.size + 1 + 1, i, none⟩) HB.out.2.2.2.2.1]; exact HQ.out i hi
      have hpl := pb_len 4 z
      have hM0 := mpb_pos 4 z
      have HSR := hide hsrc
      generalize pb 4 z = M at hpl hM0 HSR hnx
      have hln : Hid ((L ++ M).length ≤ 5 * (j + 1)) := (show _ ≤ _ by rw [← hnx.out]; have := nums_len (l5.take (j + 1)); simp at this ⊢; omega)
      clear ho3 hb3 hsrc HP HQ HB
      go_wp2_with (at_builtin; refine wpList_append_lies _ rfl _ _ 22 rfl w.heap.size 5 i0 (.int .u8 0) 1 1 Try.underlying22 hi hz0 hz1 hz2 rfl (by decide) _ _ _ rfl HB3.out.1 ⟨g3, 0, none⟩ M.length c3 (M.map (.int .u8)) rfl (by simp) HSR.out (gones _ _) hM0 (glens (by omega)) (by omega) HB3.out.2.2.2.2.2.size _ rfl ?_; intro g4 c4 w4 hown4 hgrow4 hat4 hlt4)
      have HB4 := hide (HB3.out.app (M := M) hown4 hgrow4 hat4)
      have HP4 : Hid (w4.cell? ⟨w.heap.size, 4, none⟩ = some (.slice ao n cap)) := (show _ = _ by rw [HB3.out.keep hgrow4 _ (.inl rfl)]; exact HP3.out)
      have HQ4 : Hid (∀ j, j < 5 → w4.cell? ⟨w.heap.size + 1 + 1, j, none⟩ = some (.int .i64 (l5.getD j 0))) := fun i hi => by rw [HB3.out.keep hgrow4 _ (.inr rfl)]; exact HQ3.out i hi
      clear hown4 hgrow4 hat4 HB3 HP3 HQ3
      go_wp2
      go_roundw
      case rel => exact ⟨j + 1, L ++ M, by omega, by have := hln.out; omega, by go_num, (show _ = _ by rw [hnx.out]), HB4.out, HP4.out, HQ4.out⟩
      case measure => simp [intOf]; omega
    · have HL' : Hid (L = nums l5) := (show _ = _ by rw [HL.out, List.take_of_length_le (by rw [HL5.out]; omega)])
      clear HQ HL H5
      go_wp2
      go_loopw [3, 6] (fun x i wr => ∃ (j : Nat) (L : List Int), j ≤ n ∧ L.length ≤ 85 ∧ i = .int .i64 j ∧ Hid (L = nums (l5 ++ (List.range j).map f)) ∧ Hid (Bo w wr w.heap.size (w.heap.size + 1 + 1) x L) ∧ Hid (wr.cell? ⟨w.heap.size, 4, none⟩ = some (.slice ao n cap))) (fun _ i _ => n - (intOf i).toNat)
      case atStart => exact ⟨0, L, by omega, by omega, rfl, (show _ = _ by rw [HL'.out]; simp), HB.out, HP.out⟩
      case round =>
        clear HB HP HL' hLl
        obtain ⟨j, L, hj, hLl, rfl, HL, HB, HP⟩ := hrel
        have hcp := HP.out
        by_cases hlt : j < n
        · obtain ⟨b, off, rfl, hb, hcj0⟩ := HS.out j hlt
          have hcj := (HB.out.2.2.2.2.2.cell (p := ⟨b, off + j, none⟩) hb).trans hcj0
          obtain ⟨hz1', hz2'⟩ := HF.out j hlt
          have hnx : Hid (nums (l5 ++ (List.range (j + 1)).map f) = L ++ pb 4 (f j)) := (show _ = _ by
            rw [List.range_succ, List.map_append, ← List.append_assoc, nums_app, ← HL.out]; simp [nums_one])
          generalize f j = z at *
          clear hcj0
          go_wp2_with fail
          refine (put_spec z _ hz1' hz2').mono ?_
          rintro e w3 ⟨v3, rfl, ho3, hb3⟩
          obtain ⟨g3, c3, rfl, hg3, _, hsrc⟩ := msrc ho3 (mpb_pos 4 z)
          have HB3 : Hid (Bo w w3 w.heap.size (w.heap.size + 1 + 1) u3 L) := HB.out.step hb3
          have HP3 : Hid (w3.cell? ⟨w.heap.size, 4, none⟩ = some (.slice (some ⟨b, off, none⟩) n cap)) := (show _ = _ by rw [hb3.cell (p := ⟨w.heap.size, 4, none⟩) HB.out.2.2.2.1]; exact HP.out)
          have hpl := pb_len 4 z
          have hM0 := mpb_pos 4 z
          have HSR := hide hsrc
          generalize pb 4 z = M at hpl hM0 HSR hnx
          have hln : Hid ((L ++ M).length ≤ 5 * (5 + (j + 1))) := (show _ ≤ _ by rw [← hnx.out]; have := nums_len (l5 ++ (List.range (j + 1)).map f); simp [HL5.out] at this ⊢; omega)
          clear ho3 hb3 hsrc HP HB hcp hcj
          go_wp2_with (at_builtin; refine wpList_append_lies _ rfl _ _ 22 rfl w.heap.size 5 i0 (.int .u8 0) 1 1 Try.underlying22 hi hz0 hz1 hz2 rfl (by decide) _ _ _ rfl HB3.out.1 ⟨g3, 0, none⟩ M.length c3 (M.map (.int .u8)) rfl (by simp) HSR.out (gones _ _) hM0 (glens (by omega)) (by omega) HB3.out.2.2.2.2.2.size _ rfl ?_; intro g4 c4 w4 hown4 hgrow4 hat4 hlt4)
          have HB4 := hide (HB3.out.app (M := M) hown4 hgrow4 hat4)
          have HP4 : Hid (w4.cell? ⟨w.heap.size, 4, none⟩ = some (.slice (some ⟨b, off, none⟩) n cap)) := (show _ = _ by rw [HB3.out.keep hgrow4 _ (.inl rfl)]; exact HP3.out)
          clear hown4 hgrow4 hat4 HB3 HP3
          go_wp2
          go_roundw
          case rel => exact ⟨j + 1, L ++ M, by omega, by have := hln.out; omega, by go_num, (show _ = _ by rw [hnx.out]), HB4.out, HP4.out⟩
          case measure => simp [intOf]; omega
        · obtain rfl : j = n := by omega
          go_wp2
          go_ret
          refine ⟨_, rfl, ?_, HB.out.2.2.2.2.2⟩
          rw [← HR.out, ← HL.out]
          exact HB.out.1
end Go.Proofs.Ytkeojhnifnkpiaa

/- l4Num of the model: numbers read one behind the other; once there was none, none more. -/
namespace Go.Proofs.Ytkeojhnifnkpiaa
open Go.ChangeShapes Go.WideShapes Go.ChangeAt Go.RowKit
set_option linter.unusedVariables false
set_option linter.unusedSimpArgs false

/-- The number that begins at p, and the place behind it. -/
def rdI (n : Nat) (f : Nat → Int) (p : Int) : Option (Int × Int) := if p < 0 then none else gr n f p.toNat 5 0
/-- Where the next number begins; none: there was one that is none. -/
def nx (n : Nat) (f : Nat → Int) : Option Int → Option Int
  | none => none
  | some p => (rdI n f p).map (·.2)
def rdv (n : Nat) (f : Nat → Int) : Option Int → Int
  | none => 0
  | some p => ((rdI n f p).map (·.1)).getD 0

theorem gr_pos (n : Nat) (f : Nat → Int) (a fuel k : Nat) (x y : Int) (h : gr n f a fuel k = some (x, y)) : (a : Int) < y ∧ y ≤ n ∧ 0 ≤ x ∧ x ≤ 2147483647 := by
  induction fuel generalizing k with
  | zero => cases h
  | succ fuel ih =>
    rw [gr] at h
    split at h
    · split at h
      · split at h
        · cases h
        · next h1 =>
          simp only [Option.some.injEq, Prod.mk.injEq] at h
          have := (gacc_bd f a (k + 1)).1
          omega
      · exact ih _ h
    · cases h
theorem rdI_pos {n : Nat} {f : Nat → Int} {p x y : Int} (h : rdI n f p = some (x, y)) : 0 ≤ p ∧ p < y ∧ y ≤ n ∧ 0 ≤ x ∧ x ≤ 2147483647 := by
  unfold rdI at h
  split at h
  · cases h
  · have := gr_pos n f p.toNat 5 0 x y h
    omega

theorem get_any (ao : Option Addr) (n cap : Nat) (p : Int) (f : Nat → Int) (w : World) (hn : n ≤ 1048576) (hp : p ≤ 9223372036854775807) (hs : SL .u8 w ao n f) (hf : ∀ i, i < n → 0 ≤ f i ∧ f i ≤ 255) :
    Calls Try.prog 121 #[.slice ao n cap, .int .i64 p] w fun e w' => e = .returned (gres (rdI n f p)) ∧ w' = w := by
  by_cases h : p < 0
  · have e : rdI n f p = none := by unfold rdI; rw [if_pos h]
    rw [e]
    exact get_spec_neg ao n cap p w h
  · obtain ⟨a, rfl⟩ := Int.eq_ofNat_of_zero_le (Int.not_lt.1 h)
    have e : rdI n f (a : Int) = gr n f a 5 0 := by unfold rdI; rw [if_neg h]; simp
    rw [e]
    exact get_spec ao n cap a f w hn hp hs hf

/-- A cursor at block g. -/
def Cu (w : World) (g : Nat) (ao : Option Addr) (n cap : Nat) (st : Option Int) : Prop :=
  ∃ p : Int, w.heap[g]? = some (.cells #[.slice ao n cap, .int .i64 p, .bool st.isSome] 75 (0, 0)) ∧ (∀ q, st = some q → p = q) ∧ p ≤ 9223372036854775807

theorem Only.drawn {g : Nat} {w w' : World} (h : Only g w w') (q : Nat) : Only g w (w'.drewN q) := ⟨Below.drawn h.1 q, h.2.1, h.2.2⟩

theorem Cu.fail {w : World} {g : Nat} {ao : Option Addr} {n cap : Nat} {p : Int} {b : Bool} (h : w.heap[g]? = some (.cells #[.slice ao n cap, .int .i64 p, .bool b] 75 (0, 0))) (hp : p ≤ 9223372036854775807) (q : Nat) : Cu ((w.drewN q).setCell ⟨g, 2, none⟩ (.bool false)) g ao n cap none := by
  refine ⟨p, ?_, (fun _ e => by cases e), hp⟩
  have e : (w.drewN q).heap = w.heap := rfl
  simp [World.setCell, Array.getElem?_modify, e, h]
theorem Cu.next {w : World} {g : Nat} {ao : Option Addr} {n cap : Nat} {p y : Int} (h : w.heap[g]? = some (.cells #[.slice ao n cap, .int .i64 p, .bool true] 75 (0, 0))) (hy : y ≤ 9223372036854775807) (q : Nat) : Cu ((w.drewN q).setCell ⟨g, 1, none⟩ (.int .i64 y)) g ao n cap (some y) := by
  refine ⟨y, ?_, (fun _ e => by cases e; rfl), hy⟩
  have e : (w.drewN q).heap = w.heap := rfl
  simp [World.setCell, Array.getElem?_modify, e, h]

theorem num_any (g : Nat) (ao : Option Addr) (n cap : Nat) (f : Nat → Int) (st : Option Int) (w : World) (hn : n ≤ 1048576) (hs : SL .u8 w ao n f) (hf : ∀ i, i < n → 0 ≤ f i ∧ f i ≤ 255) (hc : Cu w g ao n cap st) :
    Calls Try.prog 62 #[.pointer (some ⟨g, 0, none⟩)] w fun e w' => e = .returned (.int .i64 (rdv n f st)) ∧ Cu w' g ao n cap (nx n f st) ∧ Only g w w' := by
  obtain ⟨p, hblk, hq, hp⟩ := hc
  have hget : Hid (∀ q, Calls Try.prog 121 #[.slice ao n cap, .int .i64 p] (w.drewN q) fun e w' => e = .returned (gres (rdI n f p)) ∧ w' = w.drewN q) := fun q => get_any ao n cap p f (w.drewN q) hn hp hs hf
  have c0 := blk_cell (i := 0) hblk rfl
  have c1 := blk_cell (i := 1) hblk rfl
  have c2 := blk_cell (i := 2) hblk rfl
  have z0 : ∀ i, w.frozen? ⟨g, i, none⟩ = false := fun i => by simp [World.frozen?, hblk]
  have HBK := hide hblk
  clear hs hf hblk
  change w.cell? ⟨g, 0, none⟩ = some (.slice ao n cap) at c0
  change w.cell? ⟨g, 1, none⟩ = some (.int .i64 p) at c1
  change w.cell? ⟨g, 2, none⟩ = some (.bool st.isSome) at c2
  cases st with
  | none =>
    have HR : Hid (rdv n f none = 0 ∧ nx n f none = none) := ⟨rfl, rfl⟩
    rw [HR.out.1, HR.out.2]
    simp only [Option.isSome_none] at c2
    cases hr : rdI n f p with
    | none =>
      rw [hr] at hget
      unfold gres at hget
      clear hr
      go_enter Try.func62, Try.ntmps62
      go_wp2
      go_quiet (first | (go_at_call 121; refine Calls.quiet_of_same (hget.out _)))
      go_wp2
      go_ret
      exact ⟨rfl, Cu.fail HBK.out hp nq, ((Only.refl g w).drawn nq).setCell _⟩
    | some xy =>
      obtain ⟨x, y⟩ := xy
      rw [hr] at hget
      unfold gres at hget
      clear hr
      go_enter Try.func62, Try.ntmps62
      go_wp2
      go_quiet (first | (go_at_call 121; refine Calls.quiet_of_same (hget.out _)))
      go_wp2
      go_ret
      exact ⟨rfl, Cu.fail HBK.out hp nq, ((Only.refl g w).drawn nq).setCell _⟩
  | some p' =>
    obtain rfl : p = p' := hq p' rfl
    simp only [Option.isSome_some] at c2
    cases hr : rdI n f p with
    | none =>
      have HR : Hid (rdv n f (some p) = 0 ∧ nx n f (some p) = none) := ⟨by simp [rdv, hr], by simp [nx, hr]⟩
      rw [HR.out.1, HR.out.2]
      rw [hr] at hget
      unfold gres at hget
      clear hr hq
      go_enter Try.func62, Try.ntmps62
      go_wp2
      go_quiet (first | (go_at_call 121; refine Calls.quiet_of_same (hget.out _)))
      go_wp2
      go_ret
      exact ⟨rfl, Cu.fail HBK.out hp nq, ((Only.refl g w).drawn nq).setCell _⟩
    | some xy =>
      obtain ⟨x, y⟩ := xy
      have HR : Hid (rdv n f (some p) = x ∧ nx n f (some p) = some y) := ⟨by simp [rdv, hr], by simp [nx, hr]⟩
      have hy := rdI_pos hr
      rw [HR.out.1, HR.out.2]
      rw [hr] at hget
      unfold gres at hget
      clear hr hq
      go_enter Try.func62, Try.ntmps62
      go_wp2
      go_quiet (first | (go_at_call 121; refine Calls.quiet_of_same (hget.out _)))
      go_wp2
      go_ret
      exact ⟨rfl, Cu.next HBK.out (by omega) nq, ((Only.refl g w).drawn nq).setCell _⟩
end Go.Proofs.Ytkeojhnifnkpiaa

/- SumOf, of the program and of its model, answers the same number: two running sums, each by 65521. -/
namespace Go.Proofs.Ytkeojhnifnkpiaa
open Go.ChangeShapes Go.WideShapes Go.ChangeAt Go.RowKit
set_option linter.unusedVariables false
set_option linter.unusedSimpArgs false

/-- The first running sum behind k bytes. -/
def sA (f : Nat → Int) : Nat → Int
  | 0 => 1
  | k + 1 => (sA f k + f k) % 65521
/-- The second one. -/
def sB (f : Nat → Int) : Nat → Int
  | 0 => 0
  | k + 1 => (sB f k + sA f (k + 1)) % 65521

theorem sA_bd (f : Nat → Int) (k : Nat) : 0 ≤ sA f k ∧ sA f k < 65521 := by
  cases k with
  | zero => simp [sA]
  | succ k => simp only [sA]; omega
theorem sB_bd (f : Nat → Int) (k : Nat) : 0 ≤ sB f k ∧ sB f k < 65521 := by
  cases k with
  | zero => simp [sB]
  | succ k => simp only [sB]; omega

theorem sum_spec (ao : Option Addr) (n cap : Nat) (f : Nat → Int) (w : World) (hn : n ≤ 1048576) (hs : SL .u8 w ao n f) (hf : ∀ i, i < n → 0 ≤ f i ∧ f i ≤ 255) :
    Calls Try.prog 95 #[.slice ao n cap] w fun e w' => e = .returned (.int .i64 (sB f n * 65536 + sA f n)) ∧ w' = w := by
  go_enter Try.func95, Try.ntmps95
  go_wp2
  go_loop [3, 4, 5] (fun x y i => ∃ k : Nat, k ≤ n ∧ i = .int .i64 k ∧ x = .int .i64 (sA f k) ∧ y = .int .i64 (sB f k)) (fun _ _ i => n - (intOf i).toNat)
  case atStart => exact ⟨0, Nat.zero_le _, rfl, rfl, rfl⟩
  case round =>
    obtain ⟨k, hk, rfl, rfl, rfl⟩ := hrel
    have ha := sA_bd f k
    have hb := sB_bd f k
    by_cases hlt : k < n
    · obtain ⟨b, off, rfl, hbs, hc⟩ := hs k hlt
      have hz := hf k hlt
      have ha' := sA_bd f (k + 1)
      have hb' := sB_bd f (k + 1)
      clear hs hf
      go_wp2
      go_round
      case rel => exact ⟨k + 1, by omega, by go_num, by simp [sA], by simp [sA, sB]⟩
      case measure => simp [intOf]; omega
    · have hkn : k = n := by omega
      subst hkn
      go_wp2
      go_ret
      exact ⟨rfl, rfl⟩
theorem sum_impl (ao : Option Addr) (n cap : Nat) (f : Nat → Int) (w : World) (hn : n ≤ 1048576) (hs : SL .u8 w ao n f) (hf : ∀ i, i < n → 0 ≤ f i ∧ f i ≤ 255) :
    Calls Try.prog 82 #[.slice ao n cap] w fun e w' => e = .returned (.int .i64 (sB f n * 65536 + sA f n)) ∧ w' = w := by
  go_enter Try.func82, Try.ntmps82
  go_wp2
  go_loop [3, 4, 9] (fun x y i => ∃ k : Nat, k ≤ n ∧ i = .int .i64 k ∧ x = .int .i64 (sA f k) ∧ y = .int .i64 (sB f k)) (fun _ _ i => n - (intOf i).toNat)
  case atStart => exact ⟨0, Nat.zero_le _, rfl, rfl, rfl⟩
  case round =>
    obtain ⟨k, hk, rfl, rfl, rfl⟩ := hrel
    have ha := sA_bd f k
    have hb := sB_bd f k
    by_cases hlt : k < n
    · obtain ⟨b, off, rfl, hbs, hc⟩ := hs k hlt
      have hz := hf k hlt
      clear hs hf
      go_wp2
      go_round
      case rel => exact ⟨k + 1, by omega, by go_num, by simp [sA], by simp [sA, sB]⟩
      case measure => simp [intOf]; omega
    · have hkn : k = n := by omega
      subst hkn
      go_wp2
      go_ret
      exact ⟨rfl, rfl⟩
end Go.Proofs.Ytkeojhnifnkpiaa

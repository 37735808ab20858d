/- l4Num of the model: numbers read one behind the other; once there was none, none more. -/
import Derived.Test.YtjjdbdkbpmbniabGreatDoorGet2Z
import Derived.Test.YtjjdbdkbpmbniabGreatDoorGa
import Derived.Test.YtjjdbdkbpmbniabGreatDoorGb

namespace Go.Proofs.YtjjdbdkbpmbniabGreatDoor
open Go.ChangeShapes Go.WideShapes Go.ChangeAt Go.RowKit
set_option linter.unusedVariables false
set_option linter.unusedSimpArgs false

/-- The number that begins at p, and the place behind it. -/
def rdI (n : Nat) (f : Nat → Int) (p : Int) : Option (Int × Int) := if p < 0 then none else gr n f p.toNat 5 0
/-- Where the next number begins; none: there was one that is none. -/
def nx (n : Nat) (f : Nat → Int) : Option Int → Option Int
  | none => none
  | some p => (rdI n f p).map (·.2)
def rdv (n : Nat) (f : Nat → Int) : Option Int → Int
  | none => 0
  | some p => ((rdI n f p).map (·.1)).getD 0

theorem gr_pos (n : Nat) (f : Nat → Int) (a fuel k : Nat) (x y : Int) (h : gr n f a fuel k = some (x, y)) : (a : Int) < y ∧ y ≤ n ∧ 0 ≤ x ∧ x ≤ 2147483647 := by
  induction fuel generalizing k with
  | zero => cases h
  | succ fuel ih =>
    rw [gr] at h
    split at h
    · split at h
      · split at h
        · cases h
        · next h1 =>
          simp only [Option.some.injEq, Prod.mk.injEq] at h
          have := (gacc_bd f a (k + 1)).1
          omega
      · exact ih _ h
    · cases h
theorem rdI_pos {n : Nat} {f : Nat → Int} {p x y : Int} (h : rdI n f p = some (x, y)) : 0 ≤ p ∧ p < y ∧ y ≤ n ∧ 0 ≤ x ∧ x ≤ 2147483647 := by
  unfold rdI at h
  split at h
  · cases h
  · have := gr_pos n f p.toNat 5 0 x y h
    omega

theorem get_any (ao : Option Addr) (n cap : Nat) (p : Int) (f : Nat → Int) (w : World) (hn : n ≤ 1048576) (hp : p ≤ 9223372036854775807) (hs : SL .u8 w ao n f) (hf : ∀ i, i < n → 0 ≤ f i ∧ f i ≤ 255) :
    Calls Tryz.prog 68 #[.slice ao n cap, .int .i64 p] w fun e w' => e = .returned (gres (rdI n f p)) ∧ w' = w := by
  by_cases h : p < 0
  · have e : rdI n f p = none := by unfold rdI; rw [if_pos h]
    rw [e]
    exact get_spec_neg ao n cap p w h
  · obtain ⟨a, rfl⟩ := Int.eq_ofNat_of_zero_le (Int.not_lt.1 h)
    have e : rdI n f (a : Int) = gr n f a 5 0 := by unfold rdI; rw [if_neg h]; simp
    rw [e]
    exact get_spec ao n cap a f w hn hp hs hf

/-- A cursor at block g. -/
def Cu (w : World) (g : Nat) (ao : Option Addr) (n cap : Nat) (st : Option Int) : Prop :=
  ∃ p : Int, w.heap[g]? = some (.cells #[.slice ao n cap, .int .i64 p, .bool st.isSome] 83 (0, 0)) ∧ (∀ q, st = some q → p = q) ∧ p ≤ 9223372036854775807

theorem Only.drawn {g : Nat} {w w' : World} (h : Only g w w') (q : Nat) : Only g w (w'.drewN q) := ⟨Below.drawn h.1 q, h.2.1, h.2.2⟩

theorem Cu.fail {w : World} {g : Nat} {ao : Option Addr} {n cap : Nat} {p : Int} {b : Bool} (h : w.heap[g]? = some (.cells #[.slice ao n cap, .int .i64 p, .bool b] 83 (0, 0))) (hp : p ≤ 9223372036854775807) (q : Nat) : Cu ((w.drewN q).setCell ⟨g, 2, none⟩ (.bool false)) g ao n cap none := by
  refine ⟨p, ?_, (fun _ e => by cases e), hp⟩
  have e : (w.drewN q).heap = w.heap := rfl
  simp [World.setCell, Array.getElem?_modify, e, h]
theorem Cu.next {w : World} {g : Nat} {ao : Option Addr} {n cap : Nat} {p y : Int} (h : w.heap[g]? = some (.cells #[.slice ao n cap, .int .i64 p, .bool true] 83 (0, 0))) (hy : y ≤ 9223372036854775807) (q : Nat) : Cu ((w.drewN q).setCell ⟨g, 1, none⟩ (.int .i64 y)) g ao n cap (some y) := by
  refine ⟨y, ?_, (fun _ e => by cases e; rfl), hy⟩
  have e : (w.drewN q).heap = w.heap := rfl
  simp [World.setCell, Array.getElem?_modify, e, h]

theorem num_any (g : Nat) (ao : Option Addr) (n cap : Nat) (f : Nat → Int) (st : Option Int) (w : World) (hn : n ≤ 1048576) (hs : SL .u8 w ao n f) (hf : ∀ i, i < n → 0 ≤ f i ∧ f i ≤ 255) (hc : Cu w g ao n cap st) :
    Calls Tryz.prog 61 #[.pointer (some ⟨g, 0, none⟩)] w fun e w' => e = .returned (.int .i64 (rdv n f st)) ∧ Cu w' g ao n cap (nx n f st) ∧ Only g w w' := by
  obtain ⟨p, hblk, hq, hp⟩ := hc
  have hget : Hid (∀ q, Calls Tryz.prog 68 #[.slice ao n cap, .int .i64 p] (w.drewN q) fun e w' => e = .returned (gres (rdI n f p)) ∧ w' = w.drewN q) := fun q => get_any ao n cap p f (w.drewN q) hn hp hs hf
  have c0 := blk_cell (i := 0) hblk rfl
  have c1 := blk_cell (i := 1) hblk rfl
  have c2 := blk_cell (i := 2) hblk rfl
  have z0 : ∀ i, w.frozen? ⟨g, i, none⟩ = false := fun i => by simp [World.frozen?, hblk]
  have HBK := hide hblk
  clear hs hf hblk
  change w.cell? ⟨g, 0, none⟩ = some (.slice ao n cap) at c0
  change w.cell? ⟨g, 1, none⟩ = some (.int .i64 p) at c1
  change w.cell? ⟨g, 2, none⟩ = some (.bool st.isSome) at c2
  cases st with
  | none =>
    have HR : Hid (rdv n f none = 0 ∧ nx n f none = none) := ⟨rfl, rfl⟩
    rw [HR.out.1, HR.out.2]
    simp only [Option.isSome_none] at c2
    cases hr : rdI n f p with
    | none =>
      rw [hr] at hget
      unfold gres at hget
      clear hr
      go_enter Tryz.func61, Tryz.ntmps61
      go_wp2
      go_quiet (first | (go_at_call 68; refine Calls.quiet_of_same (hget.out _)))
      go_wp2
      go_ret
      exact ⟨rfl, Cu.fail HBK.out hp nq, ((Only.refl g w).drawn nq).setCell _⟩
    | some xy =>
      obtain ⟨x, y⟩ := xy
      rw [hr] at hget
      unfold gres at hget
      clear hr
      go_enter Tryz.func61, Tryz.ntmps61
      go_wp2
      go_quiet (first | (go_at_call 68; refine Calls.quiet_of_same (hget.out _)))
      go_wp2
      go_ret
      exact ⟨rfl, Cu.fail HBK.out hp nq, ((Only.refl g w).drawn nq).setCell _⟩
  | some p' =>
    obtain rfl : p = p' := hq p' rfl
    simp only [Option.isSome_some] at c2
    cases hr : rdI n f p with
    | none =>
      have HR : Hid (rdv n f (some p) = 0 ∧ nx n f (some p) = none) := ⟨by simp [rdv, hr], by simp [nx, hr]⟩
      rw [HR.out.1, HR.out.2]
      rw [hr] at hget
      unfold gres at hget
      clear hr hq
      go_enter Tryz.func61, Tryz.ntmps61
      go_wp2
      go_quiet (first | (go_at_call 68; refine Calls.quiet_of_same (hget.out _)))
      go_wp2
      go_ret
      exact ⟨rfl, Cu.fail HBK.out hp nq, ((Only.refl g w).drawn nq).setCell _⟩
    | some xy =>
      obtain ⟨x, y⟩ := xy
      have HR : Hid (rdv n f (some p) = x ∧ nx n f (some p) = some y) := ⟨by simp [rdv, hr], by simp [nx, hr]⟩
      have hy := rdI_pos hr
      rw [HR.out.1, HR.out.2]
      rw [hr] at hget
      unfold gres at hget
      clear hr hq
      go_enter Tryz.func61, Tryz.ntmps61
      go_wp2
      go_quiet (first | (go_at_call 68; refine Calls.quiet_of_same (hget.out _)))
      go_wp2
      go_ret
      exact ⟨rfl, Cu.next HBK.out (by omega) nq, ((Only.refl g w).drawn nq).setCell _⟩
end Go.Proofs.YtjjdbdkbpmbniabGreatDoor

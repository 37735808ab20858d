/- readNum of the program reads the same number, or panics where there is none. -/
import Derived.Test.YtkeojhnifnkpiaaGa

namespace Go.Proofs.Ytkeojhnifnkpiaa
open Go.ChangeShapes Go.WideShapes Go.ChangeAt Go.RowKit
set_option linter.unusedVariables false
set_option linter.unusedSimpArgs false

/-- How readNum ends. -/
def rend (r : Option (Int × Int)) (e : Ending) : Prop :=
  match r with
  | some (x, y) => e = .returned (.tuple #[.int .i64 x, .int .i64 y])
  | none => ∃ pv, e = .panicked [{ v := .iface 143 pv, recovered := false }]

theorem read_neg (ao : Option Addr) (n cap : Nat) (x : Int) (w : World) (hx : x < 0) (hx' : -9223372036854775808 ≤ x) :
    Calls Try.prog 129 #[.slice ao n cap, .int .i64 x] w fun e w' => rend none e ∧ w' = w := by
  go_enter Try.func129, Try.ntmps129
  go_wp2
  refine wp_loop_rounds 1 ?_
  rw [rounds_succ]
  go_wp2_with (go_at_call 141; refine (byte_no ao n cap _ _ (.inl hx)).mono ?_; rintro e w' ⟨⟨pv, rfl⟩, rfl⟩)
  exact ⟨rfl, ⟨_, rfl⟩, rfl⟩

set_option maxHeartbeats 1000000 in
theorem read_any (ao : Option Addr) (n cap a : Nat) (f : Nat → Int) (w : World) (hn : n ≤ 1048576) (ha : (a : Int) ≤ 9223372036854775807) (hs : SL .u8 w ao n f) (hf : ∀ i, i < n → 0 ≤ f i ∧ f i ≤ 255) :
    Calls Try.prog 129 #[.slice ao n cap, .int .i64 a] w fun e w' => rend (gr n f a 5 0) e ∧ w' = w := by
  go_enter Try.func129, Try.ntmps129
  go_wp2
  go_loop [6, 9] (fun x i => ∃ k : Nat, k ≤ 5 ∧ (k = 0 ∨ a + k ≤ n) ∧ i = .int .i64 k ∧ x = .int .i64 (gacc f a k) ∧ Hid (gr n f a 5 0 = gr n f a (5 - k) k)) (fun _ i => 5 - (intOf i).toNat)
  case atStart => exact ⟨0, Nat.zero_le _, .inl rfl, rfl, rfl, rfl⟩
  case round =>
    obtain ⟨k, hk, hkn, rfl, rfl, hg⟩ := hrel
    have hb := (gacc_bd f a k).1
    have hak : (a : Int) + k ≤ 9223372036854775807 := by omega
    by_cases hk5 : k < 5
    · have e5 : 5 - k = (5 - (k + 1)) + 1 := by omega
      by_cases hin : a + k < n
      · obtain ⟨b, off, rfl, hbs, hc⟩ := hs (a + k) hin
        have hz := hf (a + k) hin
        have hsh := shl_step f a k hk5
        have hbd := shl_bd f a k hk5
        have hg2 := hg.out
        rw [e5, gr_in hin] at hg2
        have hG := (gacc_bd f a (k + 1)).1
        have hGe : gacc f a (k + 1) = gacc f a k + f (a + k) % 128 * 128 ^ k := rfl
        generalize hd : f (a + k) = d at hc hz hsh hbd hg2 hGe
        generalize d % 128 * 128 ^ k = D at hsh hbd hGe
        have HG : Hid (gacc f a (k + 1) = gacc f a k + D) := hGe
        rw [hGe] at hg2 hG
        clear hs hf hd hGe hg e5 hkn
        by_cases hd : d < 128
        · rw [if_pos hd] at hg2
          by_cases hno : (0 < k ∧ d = 0) ∨ 2147483647 < gacc f a k + D
          · rw [if_pos hno] at hg2
            have fin : Hid (gr n f a 5 0 = none) := hg2
            clear hg2 HG
            by_cases h0 : 0 < k ∧ d = 0
            · have h1 : Hid (d = 0) := h0.2
              have h0' : 0 < k := h0.1
              clear hno h0
              go_wp2_with (first
                | (go_at_call 141; refine (byte_yes b off n cap (a + k) _ d _ (by omega) hin hn hc hz).mono ?_; rintro e w' ⟨rfl, rfl⟩)
                | (go_at_call 142; refine (short_no d k _ h1.out (by omega)).mono ?_; rintro e w' ⟨⟨pv, rfl⟩, rfl⟩))
              exact ⟨rfl, by rw [fin.out]; exact ⟨_, rfl⟩, rfl⟩
            · have h2 : 2147483647 < gacc f a k + D := hno.resolve_left h0
              have h1 : Hid (¬ (0 < (k : Int) ∧ d = 0)) := fun x => h0 ⟨by omega, x.2⟩
              clear hno h0
              go_wp2_with (first
                | (go_at_call 141; refine (byte_yes b off n cap (a + k) _ d _ (by omega) hin hn hc hz).mono ?_; rintro e w' ⟨rfl, rfl⟩)
                | (go_at_call 142; refine (short_yes d k _ h1.out).mono ?_; rintro e w' ⟨rfl, rfl⟩)
                | (go_at_call 117; refine (num_no _ _ (.inr h2)).mono ?_; rintro e w' ⟨⟨pv, rfl⟩, rfl⟩))
              exact ⟨rfl, by rw [fin.out]; exact ⟨_, rfl⟩, rfl⟩
          · rw [if_neg hno] at hg2
            have fin : Hid (gr n f a 5 0 = some (gacc f a k + D, (a : Int) + k + 1)) := hg2
            have h2 : gacc f a k + D ≤ 2147483647 := Int.not_lt.1 fun x => hno (.inr x)
            have h1 : Hid (¬ (0 < (k : Int) ∧ d = 0)) := fun x => hno (.inl ⟨by omega, x.2⟩)
            clear hg2 HG hno
            go_wp2_with (first
              | (go_at_call 141; refine (byte_yes b off n cap (a + k) _ d _ (by omega) hin hn hc hz).mono ?_; rintro e w' ⟨rfl, rfl⟩)
              | (go_at_call 142; refine (short_yes d k _ h1.out).mono ?_; rintro e w' ⟨rfl, rfl⟩)
              | (go_at_call 117; refine (num_yes _ _ ⟨hG, h2⟩).mono ?_; rintro e w' ⟨rfl, rfl⟩))
            go_ret2
            exact ⟨by rw [fin.out]; rfl, rfl⟩
        · rw [if_neg hd] at hg2
          have Hg2 : Hid _ := hg2
          clear hg2
          go_wp2_with (go_at_call 141; refine (byte_yes b off n cap (a + k) _ d _ (by omega) hin hn hc hz).mono ?_; rintro e w' ⟨rfl, rfl⟩)
          go_round
          case rel => exact ⟨k + 1, by omega, by omega, by go_num, by rw [HG.out], Hg2⟩
          case measure => simp [intOf]; omega
      · have hg2 := hg.out
        rw [e5, gr_out hin] at hg2
        have fin : Hid (gr n f a 5 0 = none) := hg2
        clear hg2 hg hs hf e5 hkn
        go_wp2_with (go_at_call 141; refine (byte_no ao n cap _ _ (by omega)).mono ?_; rintro e w' ⟨⟨pv, rfl⟩, rfl⟩)
        exact ⟨rfl, by rw [fin.out]; exact ⟨_, rfl⟩, rfl⟩
    · have e5 : k = 5 := by omega
      subst e5
      have fin : Hid (gr n f a 5 0 = none) := hg.out
      clear hs hf hg
      go_wp2
      exact ⟨rfl, by rw [fin.out]; exact ⟨_, rfl⟩, rfl⟩
end Go.Proofs.Ytkeojhnifnkpiaa

/- GetNum of the program, whose panics are recovered at its face, hands back what GetNum of the model does. -/
namespace Go.Proofs.Ytkeojhnifnkpiaa
open Go.ChangeShapes Go.WideShapes Go.ChangeAt Go.RowKit
set_option linter.unusedVariables false
set_option linter.unusedSimpArgs false

theorem catch20 (u : TypeId) (pv : Value) (older : List PanicEntry) (w : World) :
    CallsD Try.prog 128 #[] (.panicking ({ v := .iface u pv, recovered := false } :: older)) w fun e u' w' =>
      e = .returned (.tuple #[]) ∧ u' = .panicking ({ v := .iface u pv, recovered := true } :: older) ∧ w' = w := by
  refine callsD_of_wpS Try.func128 rfl fun c₀ cs hu => ?_
  apply wpS_region
  simp [wpOpsS, go_sem, recoverD, hu, Try.ntmps128, bodyPostS, results, Try.results128]

theorem idle20 (w : World) :
    CallsD Try.prog 128 #[] .returning w fun e u' w' => e = .returned (.tuple #[]) ∧ u' = .returning ∧ w' = w := by
  refine callsD_of_wpS Try.func128 rfl fun c₀ cs hu => ?_
  apply wpS_region
  simp [wpOpsS, go_sem, recoverD, hu, Try.ntmps128, bodyPostS, results, Try.results128]
  cases c₀
  simp_all

theorem get_impl_of (ao : Option Addr) (n cap : Nat) (x : Int) (r : Option (Int × Int)) (w : World)
    (h : Calls Try.prog 129 #[.slice ao n cap, .int .i64 x] w fun e w' => rend r e ∧ w' = w) :
    Calls Try.prog 85 #[.slice ao n cap, .int .i64 x] w fun e w' => e = .returned (gres r) ∧ w' = w := by
  have H : Hid (Calls Try.prog 129 #[.slice ao n cap, .int .i64 x] w fun e w' => rend r e ∧ w' = w) := h
  clear h
  rcases r with _ | ⟨y, z⟩
  · go_enter_defers Try.func85, Try.ntmps85
    go_wp2_with (go_at_call 129; refine H.out.mono ?_; rintro e w' ⟨⟨pv, rfl⟩, rfl⟩)
    refine leaves_cons (f := 128) (args := #[]) (by simp) (by simp [go_sem]) ?_
    refine (catch20 143 _ [] _).mono ?_
    rintro e u' w'' ⟨rfl, rfl, rfl⟩
    simp [Leaves, settle, results, Try.results85, go_sem, gres]
  · go_enter_defers Try.func85, Try.ntmps85
    go_wp2_with (go_at_call 129; refine H.out.mono ?_; rintro e w' ⟨he, rfl⟩; obtain rfl : e = .returned (.tuple #[.int .i64 y, .int .i64 z]) := he)
    refine leaves_cons (f := 128) (args := #[]) (by simp) (by simp [go_sem]) ?_
    refine (idle20 _).mono ?_
    rintro e u' w'' ⟨rfl, rfl, rfl⟩
    simp [Leaves, settle, results, Try.results85, go_sem, gres]
end Go.Proofs.Ytkeojhnifnkpiaa

/- markByteS writes a running number into memory that was handed back, heldByteS finds it there. -/
namespace Go.Proofs.Ytkeojhnifnkpiaa
open Go.ChangeShapes Go.WideShapes Go.ChangeAt Go.RowKit
set_option linter.unusedVariables false
set_option linter.unusedSimpArgs false

theorem mark_step {wr : World} {B g n k : Nat} {k0 : Int} {t : TypeId} {F : Nat → Value} (h : Own wr B t (some ⟨g, 0, none⟩) n (fun j => if j < k then .int .u8 ((k0 + j) % 256) else F j)) :
    Own (wr.setCell ⟨g, k, none⟩ (.int .u8 ((k0 + k) % 256))) B t (some ⟨g, 0, none⟩) n (fun j => if j < k + 1 then .int .u8 ((k0 + j) % 256) else F j) := by
  refine (h.set k _).congr fun j hj => ?_
  by_cases e : j = k
  · subst e; simp
  · simp only [if_neg e]
    by_cases e2 : j < k
    · rw [if_pos e2, if_pos (by omega)]
    · rw [if_neg e2, if_neg (by omega)]

theorem mark_any (ao : Option Addr) (n cap B : Nat) (k0 : Int) (F : Nat → Value) (w : World) (hn : n ≤ 1048576) (h0 : 0 ≤ k0) (h1 : k0 ≤ 1099511627776) (ho : Own w B 5 ao n F) :
    Calls Try.prog 47 #[.slice ao n cap, .int .i64 k0] w fun e w' => e = .returned (.int .i64 (k0 + n)) ∧ Own w' B 5 ao n (fun j => .int .u8 ((k0 + j) % 256)) ∧ Below B w w' := by
  go_enter Try.func47, Try.ntmps47
  go_wp2
  go_loopw [1, 5] (fun m i wr => ∃ k : Nat, k ≤ n ∧ i = .int .i64 k ∧ m = .int .i64 (k0 + k) ∧ Own wr B 5 ao n (fun j => if j < k then .int .u8 ((k0 + j) % 256) else F j) ∧ Below B w wr) (fun _ i _ => n - (intOf i).toNat)
  case atStart => exact ⟨0, Nat.zero_le _, rfl, by simp, ho.congr (by intro i _; simp), Below.refl _ _⟩
  case round =>
    obtain ⟨k, hk, rfl, rfl, hrow, hbel⟩ := hrel
    by_cases hlt : k < n
    · obtain ⟨g, rfl, hB, hg, hc, hf⟩ := hrow.at hlt
      have R := mark_step hrow
      have R2 := hbel.setCell (p := ⟨g, k, none⟩) hB (.int .u8 ((k0 + k) % 256))
      clear hrow ho
      go_wp2
      go_roundw
      case rel => exact ⟨k + 1, by omega, by go_num, by go_num, R, R2⟩
      case measure => simp [intOf]; omega
    · have hkn : k = n := by omega
      subst hkn
      go_wp2
      go_ret
      exact ⟨rfl, hrow.congr (by intro i hi; rw [if_pos (by omega)]), hbel⟩

theorem held_any (ao : Option Addr) (n cap : Nat) (k0 : Int) (w : World) (hn : n ≤ 1048576) (h0 : 0 ≤ k0) (h1 : k0 ≤ 1099511627776) (hs : SL .u8 w ao n (fun j => (k0 + j) % 256)) :
    Calls Try.prog 48 #[.slice ao n cap, .int .i64 k0] w fun e w' => e = .returned (.int .i64 (k0 + n)) ∧ w' = w := by
  go_enter Try.func48, Try.ntmps48
  go_wp2
  go_loop [1, 5] (fun m i => ∃ k : Nat, k ≤ n ∧ i = .int .i64 k ∧ m = .int .i64 (k0 + k)) (fun _ i => n - (intOf i).toNat)
  case atStart => exact ⟨0, Nat.zero_le _, rfl, by simp⟩
  case round =>
    obtain ⟨k, hk, rfl, rfl⟩ := hrel
    by_cases hlt : k < n
    · obtain ⟨b, off, rfl, hb, hc⟩ := hs k hlt
      clear hs
      go_wp2
      go_round
      case rel => exact ⟨k + 1, by omega, by go_num, by go_num⟩
      case measure => simp [intOf]; omega
    · have hkn : k = n := by omega
      subst hkn
      go_wp2
      go_ret
      exact ⟨rfl, rfl⟩

/-- Block g alone was written. -/
def Only (g : Nat) (w w' : World) : Prop := Below g w w' ∧ w'.heap.size = w.heap.size ∧ ∀ j, j ≠ g → w'.heap[j]? = w.heap[j]?

theorem Only.refl (g : Nat) (w : World) : Only g w w := ⟨Below.refl _ _, rfl, fun _ _ => rfl⟩
theorem Only.setCell {g i : Nat} {w w' : World} (h : Only g w w') (v : Value) : Only g w (w'.setCell ⟨g, i, none⟩ v) :=
  ⟨h.1.setCell (p := ⟨g, i, none⟩) (Nat.le_refl _) v, by simpa [World.setCell] using h.2.1, fun j hj => by rw [← h.2.2 j hj]; simp [World.setCell, Array.getElem?_modify]; intro e; exact absurd e.symm hj⟩
theorem Only.row {g g' n : Nat} {w w' : World} {t : TypeId} {F : Nat → Value} (h : Only g w w') (hne : g' ≠ g) (r : w.rowIs g' t n F) : w'.rowIs g' t n F := r.of_block (h.2.2 g' hne)
theorem Only.own {g n B : Nat} {w w' : World} {t : TypeId} {ao : Option Addr} {F : Nat → Value} (h : Only g w w') (r : Own w B t ao n F) (hB : g < B) : Own w' B t ao n F := by
  rcases r with r | ⟨g', ea, hB', c, hc, hs, hF⟩
  · exact .inl r
  · exact .inr ⟨g', ea, hB', c, (h.2.2 g' (by omega)).trans hc, hs, hF⟩
/-- .. of memory that lay ahead of the block. -/
theorem Only.own' {g n B : Nat} {w w' : World} {t : TypeId} {ao : Option Addr} {F : Nat → Value} (h : Only g w w') (r : Own w B t ao n F) (hB : ∀ g', ao = some ⟨g', 0, none⟩ → g' ≠ g) : Own w' B t ao n F := by
  rcases r with r | ⟨g', ea, hB', c, hc, hs, hF⟩
  · exact .inl r
  · exact .inr ⟨g', ea, hB', c, (h.2.2 g' (hB g' ea)).trans hc, hs, hF⟩

theorem mark_row_step {wr : World} {g n k : Nat} {k0 : Int} {t : TypeId} {F : Nat → Value} (h : wr.rowIs g t n (fun j => if j < k then .int .u8 ((k0 + j) % 256) else F j)) :
    (wr.setCell ⟨g, k, none⟩ (.int .u8 ((k0 + k) % 256))).rowIs g t n (fun j => if j < k + 1 then .int .u8 ((k0 + j) % 256) else F j) := by
  refine (h.set k _).congr fun j hj => ?_
  by_cases e : j = k
  · subst e; simp
  · simp only [if_neg e]
    by_cases e2 : j < k
    · rw [if_pos e2, if_pos (by omega)]
    · rw [if_neg e2, if_neg (by omega)]

theorem mark_row (g n cap : Nat) (k0 : Int) (F : Nat → Value) (w : World) (hn : n ≤ 1048576) (h0 : 0 ≤ k0) (h1 : k0 ≤ 1099511627776) (ho : w.rowIs g 5 n F) :
    Calls Try.prog 47 #[.slice (some ⟨g, 0, none⟩) n cap, .int .i64 k0] w fun e w' => e = .returned (.int .i64 (k0 + n)) ∧ w'.rowIs g 5 n (fun j => .int .u8 ((k0 + j) % 256)) ∧ Only g w w' := by
  go_enter Try.func47, Try.ntmps47
  go_wp2
  go_loopw [1, 5] (fun m i wr => ∃ k : Nat, k ≤ n ∧ i = .int .i64 k ∧ m = .int .i64 (k0 + k) ∧ wr.rowIs g 5 n (fun j => if j < k then .int .u8 ((k0 + j) % 256) else F j) ∧ Only g w wr) (fun _ i _ => n - (intOf i).toNat)
  case atStart => exact ⟨0, Nat.zero_le _, rfl, by simp, ho.congr (by intro i _; simp), Only.refl _ _⟩
  case round =>
    obtain ⟨k, hk, rfl, rfl, hrow, hbel⟩ := hrel
    by_cases hlt : k < n
    · have hf := hrow.frozen k
      have hc := hrow.cell hlt
      have R := mark_row_step hrow
      have R2 := hbel.setCell (i := k) (.int .u8 ((k0 + k) % 256))
      clear hrow ho
      go_wp2
      go_roundw
      case rel => exact ⟨k + 1, by omega, by go_num, by go_num, R, R2⟩
      case measure => simp [intOf]; omega
    · have hkn : k = n := by omega
      subst hkn
      go_wp2
      go_ret
      exact ⟨rfl, hrow.congr (by intro i hi; rw [if_pos (by omega)]), hbel⟩
end Go.Proofs.Ytkeojhnifnkpiaa

/- append to a row of the call's own, of whatever integers. -/
namespace Go.Proofs.Ytkeojhnifnkpiaa
open Go.ChangeShapes Go.WideShapes Go.ChangeAt Go.RowKit
set_option linter.unusedVariables false
set_option linter.unusedSimpArgs false

theorem hide {p : Prop} (h : p) : Hid p := h
theorem gcells (wr : World) (us : List Value) (t : TypeId) : ∀ j u', us[j]? = some u' → (wr.alloc (.cells us.toArray t)).cell? ((⟨wr.heap.size, 0, none⟩ : Addr).add j) = some u' := by
  intro j u' hj
  have hb : (wr.alloc (.cells us.toArray t)).heap[wr.heap.size]? = some (.cells us.toArray t (0, 0)) := Deep.blk_alloc_new _ _
  rw [Addr.add_lit, Nat.zero_add]
  simp only [World.cell?, hb]
  simpa using hj
theorem gones (k : IntKind) (L : List Int) : ∀ u ∈ L.map (Value.int k), u.oneCell' = true := by
  intro u hu; simp at hu; obtain ⟨x, _, rfl⟩ := hu; rfl
theorem glens {k m : Nat} (h : k + m ≤ 8388608) : k + m ≤ maxLen := by unfold maxLen; omega
theorem ggrown {B : Nat} {w wr w0 w1 : World} {v : Value} {k : Nat} {e : TypeId} {xs : List Value} (hb : Below B w w0) (hw : B ≤ w0.heap.size) (ho : wr.ownsRow B e 1 v k xs) (hg : w0.grownBy w1 v.ownBlock) : Below B w w1 := by
  refine hb.grown hg hw ?_
  intro g hgv
  rcases ho.2 with ⟨rfl, _⟩ | ⟨g', cap, cur, rfl, hge, _⟩
  · simp [Value.ownBlock] at hgv
  · simp [Value.ownBlock] at hgv; omega
/-- Behind an append of what was just laid. -/
theorem gpush {B : Nat} {w wr w1 : World} {v v' : Value} {k m : Nat} {ik : IntKind} {t : TypeId} {L M : List Int} {o : Obj} (hb : Below B w wr) (hw : B ≤ wr.heap.size) (ho : wr.ownsRow B t 1 v k (L.map (.int ik)))
    (h1 : w1.ownsRow B t 1 v' (k + m) (L.map (.int ik) ++ M.map (.int ik))) (hg : (wr.alloc o).grownBy w1 v.ownBlock) :
    w1.ownsRow B t 1 v' (k + m) ((L ++ M).map (.int ik)) ∧ Below B w w1 :=
  ⟨by simpa using h1, ggrown (hb.alloc hw _) (by simp; omega) ho hg⟩
theorem gnil {B : Nat} {w : World} {t : TypeId} {ik : IntKind} : w.ownsRow B t 1 (.slice none 0 0) 0 (([] : List Int).map (.int ik)) := ⟨rfl, .inl ⟨rfl, rfl⟩⟩
theorem gempty {B : Nat} {w : World} {t : TypeId} {ik : IntKind} (hB : B ≤ w.heap.size) : (w.alloc (.cells #[] t)).ownsRow B t 1 (.slice (some ⟨w.heap.size, 0, none⟩) 0 0) 0 (([] : List Int).map (.int ik)) :=
  ⟨rfl, .inr ⟨_, _, #[], rfl, hB, Deep.blk_alloc_new _ _, by simp, by simp, by simp, by simp⟩⟩
theorem gmono {B B' n s : Nat} {w : World} {e : TypeId} {v : Value} {xs : List Value} (h : w.ownsRow B e s v n xs) (hB : B' ≤ B) : w.ownsRow B' e s v n xs := by
  refine ⟨h.1, ?_⟩
  rcases h.2 with h | ⟨g, cap, cur, e1, hge, h⟩
  · exact .inl h
  · exact .inr ⟨g, cap, cur, e1, Nat.le_trans hB hge, h⟩
theorem gdrawn {B n s : Nat} {w : World} {e : TypeId} {v : Value} {xs : List Value} (h : w.ownsRow B e s v n xs) (q : Nat) : (w.drewN q).ownsRow B e s v n xs := h
end Go.Proofs.Ytkeojhnifnkpiaa

/- l1In: whether a number lies between two. -/
namespace Go.Proofs.Ytkeojhnifnkpiaa
open Go.ChangeShapes Go.WideShapes Go.ChangeAt Go.RowKit
set_option linter.unusedVariables false
set_option linter.unusedSimpArgs false

/-- A callee that draws nothing, met in a quiet region whose world has drawn already. -/
theorem quiet_q {P : Program} {f : FuncId} {args : Array Value} {w : World} {q n : Nat} {v : Value}
    (h : Calls P f args (w.drewN (q + n)) fun e w' => e = .returned v ∧ w' = w.drewN (q + n)) : Calls P f args (w.drewN (q + n)) fun e w'' => e = .returned v ∧ ∃ m, w'' = w.drewN (q + m) :=
  h.mono fun _ _ ⟨he, hm⟩ => ⟨he, n, hm⟩
/-- .. that may draw. -/
theorem quiet_qq {P : Program} {f : FuncId} {args : Array Value} {w : World} {q n : Nat} {v : Value}
    (h : Calls P f args (w.drewN (q + n)) fun e w' => e = .returned v ∧ ∃ m, w' = (w.drewN (q + n)).drewN m) : Calls P f args (w.drewN (q + n)) fun e w'' => e = .returned v ∧ ∃ m, w'' = w.drewN (q + m) :=
  h.mono fun _ _ ⟨he, m, hm⟩ => ⟨he, n + m, by rw [hm, World.drewN_drewN, Nat.add_assoc]⟩

theorem in_yes (x lo hi : Int) (w : World) (h0 : lo ≤ x) (h1 : x ≤ hi) : Calls Try.prog 77 #[.int .i64 x, .int .i64 lo, .int .i64 hi] w fun e w' => e = .returned (.bool true) ∧ w' = w := by
  go_enter Try.func77, Try.ntmps77
  go_wp2
  go_ret
  exact ⟨rfl, rfl⟩
theorem in_no (x lo hi : Int) (w : World) (h : x < lo ∨ hi < x) : Calls Try.prog 77 #[.int .i64 x, .int .i64 lo, .int .i64 hi] w fun e w' => e = .returned (.bool false) ∧ w' = w := by
  by_cases h0 : x < lo
  · go_enter Try.func77, Try.ntmps77
    go_wp2
    go_ret
    exact ⟨rfl, rfl⟩
  · have h1 : hi < x := by omega
    have h2 : decide (x ≤ hi) = false := by simpa using h1
    go_enter Try.func77, Try.ntmps77
    go_wp2
    go_ret
    exact ⟨by simp, rfl⟩

end Go.Proofs.Ytkeojhnifnkpiaa

/- GensOk of the model. -/
namespace Go.Proofs.Ytkeojhnifnkpiaa
open Go.ChangeShapes Go.WideShapes Go.ChangeAt Go.RowKit
set_option linter.unusedVariables false
set_option linter.unusedSimpArgs false

theorem has_yes (ao : Option Addr) (n cap : Nat) (f : Nat → Int) (x : Int) (w : World) (hn : n ≤ 1048576) (hs : SL .i64 w ao n f) (h : ∃ i, i < n ∧ f i = x) :
    Calls Try.prog 125 #[.slice ao n cap, .int .i64 x] w fun e w' => e = .returned (.bool true) ∧ w' = w := by
  have H := hide h
  clear h
  go_enter Try.func125, Try.ntmps125
  go_wp2
  go_loop [5] (fun i => ∃ k : Nat, k ≤ n ∧ i = .int .i64 k ∧ Hid (∀ j, j < k → f j ≠ x)) (fun i => n - (intOf i).toNat)
  case atStart => exact ⟨0, by omega, rfl, fun j hj => absurd hj (by omega)⟩
  case round =>
    obtain ⟨k, hk, rfl, A⟩ := hrel
    by_cases hlt : k < n
    · obtain ⟨b, off, rfl, hb, hc⟩ := hs k hlt
      clear hs
      generalize hy : f k = y at *
      have B := hide hy
      clear hy
      by_cases he : y = x
      · subst he
        go_wp2
        go_ret
        exact ⟨rfl, rfl⟩
      · have hd : decide (y = x) = false := by simpa using he
        go_wp2
        go_round
        case rel =>
          refine ⟨k + 1, by omega, by go_num, fun j hj => ?_⟩
          by_cases e : j = k
          · subst e; rw [B.out]; exact he
          · exact A.out j (by omega)
        case measure => simp [intOf]; omega
    · obtain rfl : k = n := by omega
      obtain ⟨i, hi, e⟩ := H.out
      exact absurd e (A.out i hi)

theorem has_no (ao : Option Addr) (n cap : Nat) (f : Nat → Int) (x : Int) (w : World) (hn : n ≤ 1048576) (hs : SL .i64 w ao n f) (h : ∀ i, i < n → f i ≠ x) :
    Calls Try.prog 125 #[.slice ao n cap, .int .i64 x] w fun e w' => e = .returned (.bool false) ∧ w' = w := by
  have H := hide h
  clear h
  go_enter Try.func125, Try.ntmps125
  go_wp2
  go_loop [5] (fun i => ∃ k : Nat, k ≤ n ∧ i = .int .i64 k) (fun i => n - (intOf i).toNat)
  case atStart => exact ⟨0, by omega, rfl⟩
  case round =>
    obtain ⟨k, hk, rfl⟩ := hrel
    by_cases hlt : k < n
    · obtain ⟨b, off, rfl, hb, hc⟩ := hs k hlt
      have he := H.out k hlt
      clear hs
      generalize f k = y at *
      have hd : decide (y = x) = false := by simpa using he
      go_wp2
      go_round
      case rel => exact ⟨k + 1, by omega, by go_num⟩
      case measure => simp [intOf]; omega
    · obtain rfl : k = n := by omega
      go_wp2
      go_ret
      exact ⟨rfl, rfl⟩

/-- Generations: twelve at most, each from 1 to 100000, no two alike. -/
def GIn (f : Nat → Int) (n : Nat) : Prop := ∀ i, i < n → (1 ≤ f i ∧ f i ≤ 100000) ∧ ∀ j, j < i → f j ≠ f i
def GOk (f : Nat → Int) (n : Nat) : Prop := n ≤ 12 ∧ GIn f n

theorem gens_any (ao : Option Addr) (n cap : Nat) (f : Nat → Int) (w : World) (hn : n ≤ 1048576) (hcap : n ≤ cap) (hs : SL .i64 w ao n f) :
    Calls Try.prog 76 #[.slice ao n cap] w fun e w' => ((GOk f n ∧ e = .returned (.bool true)) ∨ (¬ GOk f n ∧ e = .returned (.bool false))) ∧ ∃ q, w' = w.drewN q := by
  have HS := hide hs
  clear hs
  go_enter Try.func76, Try.ntmps76
  go_wp2
  go_loopw [3] (fun i wr => ∃ k : Nat, k ≤ n ∧ i = .int .i64 k ∧ Hid (GIn f k) ∧ ∃ q, wr = w.drewN q) (fun i _ => n - (intOf i).toNat)
  case atStart => exact ⟨0, by omega, rfl, fun j hj => absurd hj (by omega), 0, rfl⟩
  case round =>
    obtain ⟨k, hk, rfl, A, q, rfl⟩ := hrel
    by_cases hlt : k < n
    · obtain ⟨b, off, rfl, hb, hc⟩ := HS.out k hlt
      have hpre : Hid (∀ q, SL .i64 (w.drewN q) (some ⟨b, off, none⟩) k f) := fun q i hi => HS.out i (by omega)
      generalize hy : f k = y at *
      have B := hide hy
      clear hy
      have hk0 : (0 : Int) ≤ (k : Int) := by omega
      have hkn : (k : Int) ≤ (n : Int) := by omega
      have hkc : (k : Int) ≤ (cap : Int) := by omega
      by_cases h1 : 1 ≤ y ∧ y ≤ 100000
      · by_cases h2 : ∃ j, j < k ∧ f j = y
        · have hbad : Hid (¬ GOk f n) := fun h => by obtain ⟨j, hj, e⟩ := h2; exact (h.2 k hlt).2 j hj (e.trans B.out.symm)
          have H2 := hide h2
          clear h2
          go_wp2
          go_quiet (first
            | (go_at_call 77; refine quiet_q (in_yes _ _ _ _ h1.1 h1.2))
            | (go_at_call 125; refine quiet_q (has_yes _ _ _ f _ _ (by omega) (hpre.out _) H2.out)))
          go_wp2
          go_ret
          exact ⟨.inr ⟨hbad.out, rfl⟩, _, World.drewN_drewN ..⟩
        · have H2 : Hid (∀ j, j < k → f j ≠ y) := fun j hj e => h2 ⟨j, hj, e⟩
          clear h2
          go_wp2
          go_quiet (first
            | (go_at_call 77; refine quiet_q (in_yes _ _ _ _ h1.1 h1.2))
            | (go_at_call 125; refine quiet_q (has_no _ _ _ f _ _ (by omega) (hpre.out _) H2.out)))
          go_wp2
          go_roundw
          case rel =>
            refine ⟨k + 1, by omega, by go_num, fun i hi => ?_, _, rfl⟩
            by_cases e : i = k
            · subst e; exact ⟨by rw [B.out]; exact h1, fun j hj => by rw [B.out]; exact H2.out j hj⟩
            · exact A.out i (by omega)
          case measure => simp [intOf]; omega
      · have hno : y < 1 ∨ 100000 < y := by omega
        have hbad : Hid (¬ GOk f n) := fun h => h1 (B.out ▸ (h.2 k hlt).1)
        go_wp2
        go_quiet (first | (go_at_call 77; refine quiet_q (in_no _ _ _ _ hno)))
        go_wp2
        go_ret
        exact ⟨.inr ⟨hbad.out, rfl⟩, _, World.drewN_drewN ..⟩
    · obtain rfl : k = n := by omega
      by_cases h12 : k ≤ 12
      · have hd : (k : Int) ≤ 12 := by omega
        go_wp2
        go_ret
        exact ⟨.inl ⟨⟨h12, A.out⟩, rfl⟩, q, rfl⟩
      · have hd : ¬ (k : Int) ≤ 12 := by omega
        go_wp2
        go_ret
        exact ⟨.inr ⟨fun h => h12 h.1, rfl⟩, q, rfl⟩
end Go.Proofs.Ytkeojhnifnkpiaa

/- MsgOk of the model. -/
namespace Go.Proofs.Ytkeojhnifnkpiaa
open Go.ChangeShapes Go.WideShapes Go.ChangeAt Go.RowKit
set_option linter.unusedVariables false
set_option linter.unusedSimpArgs false

theorem gens_yes (ao : Option Addr) (n cap : Nat) (f : Nat → Int) (w : World) (hn : n ≤ 1048576) (hcap : n ≤ cap) (hs : SL .i64 w ao n f) (h : GOk f n) :
    Calls Try.prog 76 #[.slice ao n cap] w fun e w' => e = .returned (.bool true) ∧ ∃ q, w' = w.drewN q :=
  (gens_any ao n cap f w hn hcap hs).mono fun _ _ ⟨h1, h2⟩ => ⟨h1.elim (·.2) (fun x => absurd h x.1), h2⟩
theorem gens_no (ao : Option Addr) (n cap : Nat) (f : Nat → Int) (w : World) (hn : n ≤ 1048576) (hcap : n ≤ cap) (hs : SL .i64 w ao n f) (h : ¬ GOk f n) :
    Calls Try.prog 76 #[.slice ao n cap] w fun e w' => e = .returned (.bool false) ∧ ∃ q, w' = w.drewN q :=
  (gens_any ao n cap f w hn hcap hs).mono fun _ _ ⟨h1, h2⟩ => ⟨h1.elim (fun x => absurd x.1 h) (·.2), h2⟩

theorem bit_yes (w : World) : Calls Try.prog 67 #[.bool true] w fun e w' => e = .returned (.int .i64 1) ∧ w' = w := by
  go_enter Try.func67, Try.ntmps67
  go_wp2
  go_ret
  exact ⟨rfl, rfl⟩
theorem bit_no (w : World) : Calls Try.prog 67 #[.bool false] w fun e w' => e = .returned (.int .i64 0) ∧ w' = w := by
  go_enter Try.func67, Try.ntmps67
  go_wp2
  go_ret
  exact ⟨rfl, rfl⟩

/-- A message that is one: its kind, cell, write, node, and its generations. -/
def MOk (k c v h : Int) (f : Nat → Int) (n : Nat) : Prop :=
  (k = 5 ∧ GOk f n ∧ (0 ≤ v ∧ v ≤ 200) ∧ c = 0 ∧ h = 0) ∨
  ((k = 1 ∨ k = 2 ∨ k = 3 ∨ k = 4) ∧ n = 0 ∧ (0 ≤ c ∧ c ≤ 7) ∧ ((if k = 4 ∨ k = 2 then 0 else 1) ≤ v ∧ v ≤ 200) ∧ ((k = 3 ∧ 0 ≤ h ∧ h ≤ 2) ∨ h = 0))

/-- What tells whether it is one. -/
def Tells (w w' : World) (e : Ending) (p : Prop) : Prop := ((p ∧ e = .returned (.bool true)) ∨ (¬ p ∧ e = .returned (.bool false))) ∧ Below w.heap.size w w'
theorem Tells.yes {w w' : World} {p : Prop} (h : p) (hb : Below w.heap.size w w') : Tells w w' (.returned (.bool true)) p := ⟨.inl ⟨h, rfl⟩, hb⟩
theorem Tells.no {w w' : World} {p : Prop} (h : ¬ p) (hb : Below w.heap.size w w') : Tells w w' (.returned (.bool false)) p := ⟨.inr ⟨h, rfl⟩, hb⟩

set_option maxHeartbeats 4000000 in
theorem msgok5 (ao : Option Addr) (n cap : Nat) (f : Nat → Int) (c v h : Int) (w : World) (hn : n ≤ 1048576) (hcap : n ≤ cap) (hs : SL .i64 w ao n f) :
    Calls Try.prog 38 #[.agg #[.int .i64 5, .int .i64 c, .int .i64 v, .int .i64 h, .slice ao n cap]] w fun e w' => Tells w w' e (MOk 5 c v h f n) := by
  have HS : Hid (∀ o : Obj, SL .i64 (w.alloc o) ao n f) := fun o => hs.below ((Below.refl _ _).alloc (Nat.le_refl _) o)
  have HB : Hid (∀ (o : Obj) (q : Nat), Below w.heap.size w ((w.alloc o).drewN q)) := fun o q => Below.drawn ((Below.refl _ _).alloc (Nat.le_refl _) o) q
  have HB0 : Hid (∀ (o : Obj), Below w.heap.size w (w.alloc o)) := fun o => (Below.refl _ _).alloc (Nat.le_refl _) o
  clear hs
  by_cases hg : GOk f n
  · skip
    by_cases hv : 0 ≤ v ∧ v ≤ 200
    · skip
      by_cases hc : c = 0
      · skip
        subst hc
        by_cases hh : h = 0
        · skip
          subst hh
          go_enter Try.func38, Try.ntmps38
          go_wp2_with (first
            | (go_at_call 76; refine (gens_yes ao n cap f _ hn hcap (HS.out _) hg).mono ?_; rintro e9 w9 ⟨rfl, q9, hw9⟩; rw [hw9]; clear hw9)
            | (go_at_call 77; refine (in_yes _ _ _ _ hv.1 hv.2).mono ?_; rintro e9 w9 ⟨rfl, hw9⟩; rw [hw9]; clear hw9)
            | fail)
          go_ret
          exact Tells.yes (.inl ⟨rfl, hg, hv, rfl, rfl⟩) (HB.out _ _)
        · skip
          have hd : decide (h = 0) = false := by simpa using hh
          have hd2 : (h == 0) = false := by simpa using hh
          go_enter Try.func38, Try.ntmps38
          go_wp2_with (first
            | (go_at_call 76; refine (gens_yes ao n cap f _ hn hcap (HS.out _) hg).mono ?_; rintro e9 w9 ⟨rfl, q9, hw9⟩; rw [hw9]; clear hw9)
            | (go_at_call 77; refine (in_yes _ _ _ _ hv.1 hv.2).mono ?_; rintro e9 w9 ⟨rfl, hw9⟩; rw [hw9]; clear hw9)
            | fail)
          go_ret
          refine Tells.no (fun x => ?_) (HB.out _ _)
          unfold MOk at x
          omega
      · skip
        have hd : decide (c = 0) = false := by simpa using hc
        go_enter Try.func38, Try.ntmps38
        go_wp2_with (first
          | (go_at_call 76; refine (gens_yes ao n cap f _ hn hcap (HS.out _) hg).mono ?_; rintro e9 w9 ⟨rfl, q9, hw9⟩; rw [hw9]; clear hw9)
          | (go_at_call 77; refine (in_yes _ _ _ _ hv.1 hv.2).mono ?_; rintro e9 w9 ⟨rfl, hw9⟩; rw [hw9]; clear hw9)
          | fail)
        go_ret
        refine Tells.no (fun x => ?_) (HB.out _ _)
        unfold MOk at x
        omega
    · skip
      have hv' : v < 0 ∨ 200 < v := by omega
      go_enter Try.func38, Try.ntmps38
      go_wp2_with (first
        | (go_at_call 76; refine (gens_yes ao n cap f _ hn hcap (HS.out _) hg).mono ?_; rintro e9 w9 ⟨rfl, q9, hw9⟩; rw [hw9]; clear hw9)
        | (go_at_call 77; refine (in_no _ _ _ _ hv').mono ?_; rintro e9 w9 ⟨rfl, hw9⟩; rw [hw9]; clear hw9)
        | fail)
      go_ret
      refine Tells.no (fun x => ?_) (HB.out _ _)
      unfold MOk at x
      omega
  · skip
    have hno : ¬ MOk 5 c v h f n := fun x => by unfold MOk at x; rcases x with x | x; exact hg x.2.1; omega
    go_enter Try.func38, Try.ntmps38
    go_wp2_with (first
      | (go_at_call 76; refine (gens_no ao n cap f _ hn hcap (HS.out _) hg).mono ?_; rintro e9 w9 ⟨rfl, q9, hw9⟩; rw [hw9]; clear hw9)
      | fail)
    go_ret
    exact Tells.no hno (HB.out _ _)
theorem msgok0 (ao : Option Addr) (n cap : Nat) (f : Nat → Int) (k c v h : Int) (w : World) (hn : n ≤ 1048576) (hcap : n ≤ cap) (hs : SL .i64 w ao n f) (h5 : k ≠ 5) (h1 : k ≠ 1) (h2 : k ≠ 2) (h3 : k ≠ 3) (h4 : k ≠ 4) :
    Calls Try.prog 38 #[.agg #[.int .i64 k, .int .i64 c, .int .i64 v, .int .i64 h, .slice ao n cap]] w fun e w' => Tells w w' e (MOk k c v h f n) := by
  have HS : Hid (∀ o : Obj, SL .i64 (w.alloc o) ao n f) := fun o => hs.below ((Below.refl _ _).alloc (Nat.le_refl _) o)
  have HB : Hid (∀ (o : Obj) (q : Nat), Below w.heap.size w ((w.alloc o).drewN q)) := fun o q => Below.drawn ((Below.refl _ _).alloc (Nat.le_refl _) o) q
  have HB0 : Hid (∀ (o : Obj), Below w.heap.size w (w.alloc o)) := fun o => (Below.refl _ _).alloc (Nat.le_refl _) o
  clear hs
  have d5 : decide (k = 5) = false := by simpa using h5
  have d1 : decide (k = 1) = false := by simpa using h1
  have d2 : decide (k = 2) = false := by simpa using h2
  have d3 : decide (k = 3) = false := by simpa using h3
  have d4 : decide (k = 4) = false := by simpa using h4
  go_enter Try.func38, Try.ntmps38
  go_wp2
  go_ret
  refine Tells.no (fun x => ?_) (HB0.out _)
  unfold MOk at x
  omega
end Go.Proofs.Ytkeojhnifnkpiaa

/- MsgOk of the model, kind 1. -/
namespace Go.Proofs.Ytkeojhnifnkpiaa
open Go.ChangeShapes Go.WideShapes Go.ChangeAt Go.RowKit
set_option linter.unusedVariables false
set_option linter.unusedSimpArgs false

set_option maxHeartbeats 4000000 in
theorem msgok1 (ao : Option Addr) (n cap : Nat) (f : Nat → Int) (c v h : Int) (w : World) (hn : n ≤ 1048576) (hcap : n ≤ cap) (hs : SL .i64 w ao n f) :
    Calls Try.prog 38 #[.agg #[.int .i64 1, .int .i64 c, .int .i64 v, .int .i64 h, .slice ao n cap]] w fun e w' => Tells w w' e (MOk 1 c v h f n) := by
  have HS : Hid (∀ o : Obj, SL .i64 (w.alloc o) ao n f) := fun o => hs.below ((Below.refl _ _).alloc (Nat.le_refl _) o)
  have HB : Hid (∀ (o : Obj) (q : Nat), Below w.heap.size w ((w.alloc o).drewN q)) := fun o q => Below.drawn ((Below.refl _ _).alloc (Nat.le_refl _) o) q
  have HB0 : Hid (∀ (o : Obj), Below w.heap.size w (w.alloc o)) := fun o => (Below.refl _ _).alloc (Nat.le_refl _) o
  clear hs
  by_cases hn0 : n = 0
  · skip
    subst hn0
    by_cases hc : 0 ≤ c ∧ c ≤ 7
    · skip
      by_cases hv : 1 ≤ v ∧ v ≤ 200
      · skip
        by_cases hh : h = 0
        · skip
          subst hh
          have hyes : MOk 1 c v 0 f 0 := .inr ⟨by omega, by omega, by omega, by first | omega | (rw [if_pos (by omega)]; omega) | (rw [if_neg (by omega)]; omega), by omega⟩
          go_enter Try.func38, Try.ntmps38
          go_wp2
          go_quiet (first
            | (go_at_call 77; refine Calls.quiet_of_same (in_yes _ _ _ _ hc.1 hc.2))
            | (go_at_call 67; refine Calls.quiet_of_same (bit_no _))
            | (go_at_call 77; refine Calls.quiet_of_same (in_yes _ _ _ _ hv.1 hv.2))
            | fail)
          go_wp2
          go_ret
          exact Tells.yes hyes (HB.out _ _)
        · skip
          have hd : decide (h = 0) = false := by simpa using hh
          have hd2 : (h == 0) = false := by simpa using hh
          go_enter Try.func38, Try.ntmps38
          go_wp2
          go_quiet (first
            | (go_at_call 77; refine Calls.quiet_of_same (in_yes _ _ _ _ hc.1 hc.2))
            | (go_at_call 67; refine Calls.quiet_of_same (bit_no _))
            | (go_at_call 77; refine Calls.quiet_of_same (in_yes _ _ _ _ hv.1 hv.2))
            | fail)
          go_wp2
          go_ret
          refine Tells.no (fun x => ?_) (HB.out _ _)
          unfold MOk at x
          omega
      · skip
        have hv' : v < 1 ∨ 200 < v := by omega
        go_enter Try.func38, Try.ntmps38
        go_wp2
        go_quiet (first
          | (go_at_call 77; refine Calls.quiet_of_same (in_yes _ _ _ _ hc.1 hc.2))
          | (go_at_call 67; refine Calls.quiet_of_same (bit_no _))
          | (go_at_call 77; refine Calls.quiet_of_same (in_no _ _ _ _ hv'))
          | fail)
        go_wp2
        go_ret
        refine Tells.no (fun x => ?_) (HB.out _ _)
        unfold MOk at x
        omega
    · skip
      have hc' : c < 0 ∨ 7 < c := by omega
      go_enter Try.func38, Try.ntmps38
      go_wp2
      go_quiet (first
        | (go_at_call 77; refine Calls.quiet_of_same (in_no _ _ _ _ hc'))
        | (go_at_call 67; refine Calls.quiet_of_same (bit_no _))
        | fail)
      go_wp2
      go_ret
      refine Tells.no (fun x => ?_) (HB.out _ _)
      unfold MOk at x
      omega
  · skip
    have hd : decide ((n : Int) = 0) = false := by simp; omega
    have hd2 : ((n : Int) == 0) = false := by simp; omega
    have hd3 : (n == 0) = false := by simp; omega
    have hd4 : decide (n = 0) = false := by simp; omega
    go_enter Try.func38, Try.ntmps38
    go_wp2
    go_quiet (first
      | fail)
    go_wp2
    go_ret
    refine Tells.no (fun x => ?_) (HB.out _ _)
    unfold MOk at x
    omega
end Go.Proofs.Ytkeojhnifnkpiaa

/- Slices of integers, read as functions of the place. -/
import Derived.Test.YtkndnndildnbpaaGreatDoorRows
import Derived.WalkKit
import Derived.ProofKit
import Derived.OpenShut
import Derived.ShutString
import Derived.ChangeOld
import Derived.Below
import Derived.Deep.OwnRows
import Derived.Deep.QuietTactic
import Derived.BigQuiet
import Derived.Shelf.Abstract

namespace Go.Proofs.YtkndnndildnbpaaGreatDoor
open Go.ChangeShapes Go.WideShapes Go.ChangeAt Go.RowKit
set_option linter.unusedVariables false
set_option linter.unusedSimpArgs false
theorem ly1 {α : Type _} (l : List α) (i : Nat) (a : α) : l.toArray.setIfInBounds i a = (l.set i a).toArray := List.setIfInBounds_toArray l i a
theorem ly2 {α : Type _} {x : α} {l : List α} {a : α} : (x :: l).set 0 a = a :: l := List.set_cons_zero
theorem ly3 {α : Type _} {x : α} {l : List α} {n : Nat} {a : α} : (x :: l).set (n + 1) a = x :: l.set n a := List.set_cons_succ

/-- The first n cells of a slice that begins at 'ao' hold the numbers f 0, f 1, .. -/
def SL (k : IntKind) (w : World) (ao : Option Addr) (n : Nat) (f : Nat → Int) : Prop :=
  ∀ i, i < n → ∃ b off, ao = some ⟨b, off, none⟩ ∧ b < w.heap.size ∧ w.cell? ⟨b, off + i, none⟩ = some (.int k (f i))

theorem SL.below {k : IntKind} {w w' : World} {ao : Option Addr} {n : Nat} {f : Nat → Int} (h : SL k w ao n f) (hb : Below w.heap.size w w') : SL k w' ao n f := by
  intro i hi
  obtain ⟨b, off, e, hlt, hc⟩ := h i hi
  exact ⟨b, off, e, Nat.lt_of_lt_of_le hlt hb.size, (hb.cell hlt).trans hc⟩

theorem SL.row {k : IntKind} {w : World} {g n : Nat} {t : TypeId} {f : Nat → Int} (h : w.rowIs g t n (fun i => .int k (f i))) : SL k w (some ⟨g, 0, none⟩) n f := by
  intro i hi
  exact ⟨g, 0, rfl, h.lt, by simpa using h.cell hi⟩

theorem row_below {w w' : World} {g n : Nat} {t : TypeId} {f : Nat → Value} {B : Nat} (h : w.rowIs g t n f) (hb : Below B w w') (hg : g < B) : w'.rowIs g t n f :=
  h.of_block (hb.block g hg)

theorem Tryz.info5 : (Tryz.prog.info? 5).map (fun i => (i.zero, i.size, i.bytes)) = some (some (.int .u8 0), 1, 1) := by kernel_rfl

theorem lt_of_cell {w : World} {a : Addr} {v : Value} (h : w.cell? a = some v) : a.block < w.heap.size := by
  cases hb : w.heap[a.block]? with
  | none => simp [World.cell?, hb] at h
  | some o => exact (Array.getElem?_eq_some_iff.1 hb).1

theorem view_u8 {f : Nat → Int} {n : Nat} (h : ∀ i, i < n → (Lit.int .u8 (f i)).wf = true) : ∀ i, i < n → 0 ≤ f i ∧ f i ≤ 255 := fun i hi => bounds_u8 (h i hi)

theorem Below.drawn {B : Nat} {a w : World} (h : Below B a w) (q : Nat) : Below B a (w.drewN q) := h.trans ⟨rfl, rfl, rfl, Nat.le_refl _, fun _ _ => rfl⟩
/-- The first place below n at which p holds, or -1. -/
def IsFirst (p : Nat → Bool) (n : Nat) (r : Int) : Prop :=
  (r = -1 ∧ ∀ i, i < n → p i = false) ∨ ∃ k : Nat, r = k ∧ k < n ∧ p k = true ∧ ∀ i, i < k → p i = false

theorem idx_any (g : Nat) (lb : Array Value) (p : Int → Bool) (ao : Option Addr) (n cap : Nat) (f : Nat → Int) (w : World)
    (eg : ∀ args w, (callFunc g args).run Tryz.prog w = .ok (.enter g args) w)
    (hp : ∀ x, Calls Tryz.prog g (#[.int .i64 x] ++ lb) w fun e w' => e = .returned (.bool (p x)) ∧ w' = w)
    (hn : n ≤ 1048576) (hs : SL .i64 w ao n f) :
    Calls Tryz.prog 227 #[.slice ao n cap, .func (.func g) #[] lb] w fun e w' => (∃ r : Int, e = .returned (.int .i64 r) ∧ IsFirst (fun i => p (f i)) n r) ∧ w' = w := by
  go_enter Tryz.func227, Tryz.ntmps227
  go_wp2
  go_loop [5, 8] (fun _ i => ∃ k : Nat, k ≤ n ∧ i = .int .i64 k ∧ Hid (∀ j, j < k → p (f j) = false)) (fun _ i => n - (intOf i).toNat)
  case atStart => exact ⟨0, Nat.zero_le _, rfl, fun j hj => absurd hj (Nat.not_lt_zero _)⟩
  case round =>
    obtain ⟨k, hk, rfl, A⟩ := hrel
    by_cases hlt : k < n
    · obtain ⟨b, off, rfl, hb, hc⟩ := hs k hlt
      have hcall := hp (f k)
      clear hs hp
      generalize hy : f k = y at *
      have B : Hid (f k = y) := hy
      clear hy
      cases hq : p y with
      | true =>
        rw [hq] at hcall
        go_wp2_with (go_at_fn g; refine hcall.mono ?_; rintro e w' ⟨rfl, rfl⟩)
        go_ret
        exact ⟨⟨_, rfl, .inr ⟨k, rfl, hlt, by show p (f k) = true; rw [B.out]; exact hq, A.out⟩⟩, rfl⟩
      | false =>
        rw [hq] at hcall
        go_wp2_with (go_at_fn g; refine hcall.mono ?_; rintro e w' ⟨rfl, rfl⟩)
        go_round
        case rel =>
          refine ⟨k + 1, by omega, by go_num, fun j hj => ?_⟩
          by_cases e : j = k
          · subst e; rw [B.out]; exact hq
          · exact A.out j (by omega)
        case measure => simp [intOf]; omega
    · have hkn : k = n := by omega
      subst hkn
      go_wp2
      go_ret
      exact ⟨⟨_, rfl, .inl ⟨rfl, A.out⟩⟩, rfl⟩

theorem cf_any (g : Nat) (lb : Array Value) (p : Int → Bool) (ao : Option Addr) (n cap : Nat) (f : Nat → Int) (w : World)
    (eg : ∀ args w, (callFunc g args).run Tryz.prog w = .ok (.enter g args) w)
    (hp : ∀ x, Calls Tryz.prog g (#[.int .i64 x] ++ lb) w fun e w' => e = .returned (.bool (p x)) ∧ w' = w)
    (hn : n ≤ 1048576) (hs : SL .i64 w ao n f) :
    Calls Tryz.prog 183 #[.slice ao n cap, .func (.func g) #[] lb] w fun e w' => (∃ b : Bool, e = .returned (.bool b) ∧ (b = true ↔ ∃ i, i < n ∧ p (f i) = true)) ∧ w' = w := by
  have hi := idx_any g lb p ao n cap f w eg hp hn hs
  clear hp hs eg
  go_enter Tryz.func183, Tryz.ntmps183
  go_wp2_with (go_at_call 227; refine hi.mono ?_; rintro e w' ⟨⟨r, rfl, hr⟩, rfl⟩)
  go_ret
  refine ⟨⟨_, rfl, ?_⟩, rfl⟩
  rcases hr with ⟨rfl, h⟩ | ⟨k, rfl, hk, h1, h2⟩
  · constructor
    · intro h0; simp at h0
    · rintro ⟨i, hi, h1⟩; exact absurd (h i hi) (by simp [h1])
  · constructor
    · intro _; exact ⟨k, hk, h1⟩
    · intro _; simp
/-- A slice of n cells that lies at the head of a block from B on, which may be written; cell i holds F i. -/
def Own (w : World) (B : Nat) (t : TypeId) (ao : Option Addr) (n : Nat) (F : Nat → Value) : Prop :=
  n = 0 ∨ ∃ g, ao = some ⟨g, 0, none⟩ ∧ B ≤ g ∧ ∃ c : Array Value, w.heap[g]? = some (.cells c t (0, 0)) ∧ n ≤ c.size ∧ ∀ i, i < n → c[i]? = some (F i)

theorem Own.at {w : World} {B : Nat} {t : TypeId} {ao : Option Addr} {n : Nat} {F : Nat → Value} (h : Own w B t ao n F) {i : Nat} (hi : i < n) :
    ∃ g, ao = some ⟨g, 0, none⟩ ∧ B ≤ g ∧ g < w.heap.size ∧ w.cell? ⟨g, i, none⟩ = some (F i) ∧ w.frozen? ⟨g, i, none⟩ = false := by
  rcases h with rfl | ⟨g, e, hB, c, hc, hs, hF⟩
  · omega
  · exact ⟨g, e, hB, (Array.getElem?_eq_some_iff.1 hc).1, by simp [World.cell?, hc, hF i hi], by simp [World.frozen?, hc]⟩

theorem Own.congr {w : World} {B : Nat} {t : TypeId} {ao : Option Addr} {n : Nat} {F G : Nat → Value} (h : Own w B t ao n F) (e : ∀ i, i < n → F i = G i) : Own w B t ao n G := by
  rcases h with h | ⟨g, ea, hB, c, hc, hs, hF⟩
  · exact .inl h
  · exact .inr ⟨g, ea, hB, c, hc, hs, fun i hi => by rw [hF i hi, e i hi]⟩

theorem Own.set {w : World} {B : Nat} {t : TypeId} {g n : Nat} {F : Nat → Value} (h : Own w B t (some ⟨g, 0, none⟩) n F) (i : Nat) (v : Value) :
    Own (w.setCell ⟨g, i, none⟩ v) B t (some ⟨g, 0, none⟩) n (fun j => if j = i then v else F j) := by
  rcases h with h | ⟨g', ea, hB, c, hc, hs, hF⟩
  · exact .inl h
  · simp at ea
    subst ea
    refine .inr ⟨g, rfl, hB, c.setIfInBounds i v, ?_, by simpa using hs, fun j hj => ?_⟩
    · simp [World.setCell, Array.getElem?_modify, hc]
    · show (c.setIfInBounds i v)[j]? = some (if j = i then v else F j)
      rw [Array.getElem?_setIfInBounds]
      by_cases e : j = i
      · subst e
        rw [if_pos rfl, if_pos rfl, if_pos (by omega)]
      · rw [if_neg (fun h => e h.symm), if_neg e]
        exact hF j hj

theorem Own.below {w w' : World} {B : Nat} {t : TypeId} {ao : Option Addr} {n : Nat} {F : Nat → Value} (h : Own w B t ao n F) (hb : Below w.heap.size w w') : Own w' B t ao n F := by
  rcases h with h | ⟨g, ea, hB, c, hc, hs, hF⟩
  · exact .inl h
  · exact .inr ⟨g, ea, hB, c, (hb.block g (Array.getElem?_eq_some_iff.1 hc).1).trans hc, hs, hF⟩

theorem Own.drawn {w : World} {B : Nat} {t : TypeId} {ao : Option Addr} {n : Nat} {F : Nat → Value} (h : Own w B t ao n F) (q : Nat) : Own (w.drewN q) B t ao n F := h

theorem Own.sl {w : World} {B : Nat} {t : TypeId} {ao : Option Addr} {n : Nat} {k : IntKind} {f : Nat → Int} (h : Own w B t ao n (fun i => .int k (f i))) : SL k w ao n f := by
  intro i hi
  obtain ⟨g, e, _, hlt, hc, _⟩ := h.at hi
  exact ⟨g, 0, e, hlt, by simpa using hc⟩

theorem Own.of_row {w : World} {B g n : Nat} {t : TypeId} {F : Nat → Value} (h : w.rowIs g t n F) (hB : B ≤ g) : Own w B t (some ⟨g, 0, none⟩) n F := by
  obtain ⟨c, hc, hn, hF⟩ := h
  exact .inr ⟨g, rfl, hB, c, hc, by omega, hF⟩

/-- What append has built. -/
theorem Own.of_owns {w : World} {B : Nat} {t : TypeId} {v : Value} {n : Nat} {k : IntKind} {L : List Int} (h : w.ownsRow B t 1 v n (L.map (.int k))) :
    ∃ ao cap, v = .slice ao n cap ∧ (n = L.length ∧ n ≤ cap ∧ cap ≤ maxLen) ∧ Own w B t ao n (fun i => .int k (L.getD i 0)) := by
  obtain ⟨hl, h⟩ := h
  have hl' : L.length = n := by simpa using hl
  rcases h with ⟨rfl, rfl⟩ | ⟨g, cap, cur, rfl, hB, hc, hn, hm, hs, ht⟩
  · exact ⟨none, 0, rfl, ⟨hl'.symm, Nat.le_refl _, Nat.zero_le _⟩, .inl rfl⟩
  · refine ⟨_, cap, rfl, ⟨hl'.symm, hn, hm⟩, .inr ⟨g, rfl, hB, cur, hc, by omega, fun i hi => ?_⟩⟩
    have e : (cur.toList.take (n * 1))[i]? = (L.map (Value.int k))[i]? := by rw [ht]
    rw [List.getElem?_take, if_pos (by omega)] at e
    have hi' : i < L.length := by omega
    simpa [List.getD, hi'] using e
theorem hide {p : Prop} (h : p) : Hid p := h
theorem gcells (wr : World) (us : List Value) (t : TypeId) : ∀ j u', us[j]? = some u' → (wr.alloc (.cells us.toArray t)).cell? ((⟨wr.heap.size, 0, none⟩ : Addr).add j) = some u' := by
  intro j u' hj
  have hb : (wr.alloc (.cells us.toArray t)).heap[wr.heap.size]? = some (.cells us.toArray t (0, 0)) := Deep.blk_alloc_new _ _
  rw [Addr.add_lit, Nat.zero_add]
  simp only [World.cell?, hb]
  simpa using hj
theorem gones (k : IntKind) (L : List Int) : ∀ u ∈ L.map (Value.int k), u.oneCell' = true := by
  intro u hu; simp at hu; obtain ⟨x, _, rfl⟩ := hu; rfl
theorem glens {k m : Nat} (h : k + m ≤ 8388608) : k + m ≤ maxLen := by unfold maxLen; omega
theorem ggrown {B : Nat} {w wr w0 w1 : World} {v : Value} {k : Nat} {e : TypeId} {xs : List Value} (hb : Below B w w0) (hw : B ≤ w0.heap.size) (ho : wr.ownsRow B e 1 v k xs) (hg : w0.grownBy w1 v.ownBlock) : Below B w w1 := by
  refine hb.grown hg hw ?_
  intro g hgv
  rcases ho.2 with ⟨rfl, _⟩ | ⟨g', cap, cur, rfl, hge, _⟩
  · simp [Value.ownBlock] at hgv
  · simp [Value.ownBlock] at hgv; omega
theorem gnil {B : Nat} {w : World} {t : TypeId} {ik : IntKind} : w.ownsRow B t 1 (.slice none 0 0) 0 (([] : List Int).map (.int ik)) := ⟨rfl, .inl ⟨rfl, rfl⟩⟩
theorem gempty {B : Nat} {w : World} {t : TypeId} {ik : IntKind} (hB : B ≤ w.heap.size) : (w.alloc (.cells #[] t)).ownsRow B t 1 (.slice (some ⟨w.heap.size, 0, none⟩) 0 0) 0 (([] : List Int).map (.int ik)) :=
  ⟨rfl, .inr ⟨_, _, #[], rfl, hB, Deep.blk_alloc_new _ _, by simp, by simp, by simp, by simp⟩⟩
theorem gmono {B B' n s : Nat} {w : World} {e : TypeId} {v : Value} {xs : List Value} (h : w.ownsRow B e s v n xs) (hB : B' ≤ B) : w.ownsRow B' e s v n xs := by
  refine ⟨h.1, ?_⟩
  rcases h.2 with h | ⟨g, cap, cur, e1, hge, h⟩
  · exact .inl h
  · exact .inr ⟨g, cap, cur, e1, Nat.le_trans hB hge, h⟩
theorem gdrawn {B n s : Nat} {w : World} {e : TypeId} {v : Value} {xs : List Value} (h : w.ownsRow B e s v n xs) (q : Nat) : (w.drewN q).ownsRow B e s v n xs := h
/-- A callee that draws nothing, met in a quiet region whose world has drawn already. -/
theorem quiet_q {P : Program} {f : FuncId} {args : Array Value} {w : World} {q n : Nat} {v : Value}
    (h : Calls P f args (w.drewN (q + n)) fun e w' => e = .returned v ∧ w' = w.drewN (q + n)) : Calls P f args (w.drewN (q + n)) fun e w'' => e = .returned v ∧ ∃ m, w'' = w.drewN (q + m) :=
  h.mono fun _ _ ⟨he, hm⟩ => ⟨he, n, hm⟩
/-- .. that may draw. -/
theorem quiet_qq {P : Program} {f : FuncId} {args : Array Value} {w : World} {q n : Nat} {v : Value}
    (h : Calls P f args (w.drewN (q + n)) fun e w' => e = .returned v ∧ ∃ m, w' = (w.drewN (q + n)).drewN m) : Calls P f args (w.drewN (q + n)) fun e w'' => e = .returned v ∧ ∃ m, w'' = w.drewN (q + m) :=
  h.mono fun _ _ ⟨he, m, hm⟩ => ⟨he, n + m, by rw [hm, World.drewN_drewN, Nat.add_assoc]⟩

theorem in_yes (x lo hi : Int) (w : World) (h0 : lo ≤ x) (h1 : x ≤ hi) : Calls Tryz.prog 51 #[.int .i64 x, .int .i64 lo, .int .i64 hi] w fun e w' => e = .returned (.bool true) ∧ w' = w := by
  go_enter Tryz.func51, Tryz.ntmps51
  go_wp2
  go_ret
  exact ⟨rfl, rfl⟩
theorem in_no (x lo hi : Int) (w : World) (h : x < lo ∨ hi < x) : Calls Tryz.prog 51 #[.int .i64 x, .int .i64 lo, .int .i64 hi] w fun e w' => e = .returned (.bool false) ∧ w' = w := by
  by_cases h0 : x < lo
  · go_enter Tryz.func51, Tryz.ntmps51
    go_wp2
    go_ret
    exact ⟨rfl, rfl⟩
  · have h1 : hi < x := by omega
    have h2 : decide (x ≤ hi) = false := by simpa using h1
    go_enter Tryz.func51, Tryz.ntmps51
    go_wp2
    go_ret
    exact ⟨by simp, rfl⟩
theorem has_yes (ao : Option Addr) (n cap : Nat) (f : Nat → Int) (x : Int) (w : World) (hn : n ≤ 1048576) (hs : SL .i64 w ao n f) (h : ∃ i, i < n ∧ f i = x) :
    Calls Tryz.prog 122 #[.slice ao n cap, .int .i64 x] w fun e w' => e = .returned (.bool true) ∧ w' = w := by
  have H := hide h
  clear h
  go_enter Tryz.func122, Tryz.ntmps122
  go_wp2
  go_loop [5] (fun i => ∃ k : Nat, k ≤ n ∧ i = .int .i64 k ∧ Hid (∀ j, j < k → f j ≠ x)) (fun i => n - (intOf i).toNat)
  case atStart => exact ⟨0, by omega, rfl, fun j hj => absurd hj (by omega)⟩
  case round =>
    obtain ⟨k, hk, rfl, A⟩ := hrel
    by_cases hlt : k < n
    · obtain ⟨b, off, rfl, hb, hc⟩ := hs k hlt
      clear hs
      generalize hy : f k = y at *
      have B := hide hy
      clear hy
      by_cases he : y = x
      · subst he
        go_wp2
        go_ret
        exact ⟨rfl, rfl⟩
      · have hd : decide (y = x) = false := by simpa using he
        go_wp2
        go_round
        case rel =>
          refine ⟨k + 1, by omega, by go_num, fun j hj => ?_⟩
          by_cases e : j = k
          · subst e; rw [B.out]; exact he
          · exact A.out j (by omega)
        case measure => simp [intOf]; omega
    · obtain rfl : k = n := by omega
      obtain ⟨i, hi, e⟩ := H.out
      exact absurd e (A.out i hi)

theorem has_no (ao : Option Addr) (n cap : Nat) (f : Nat → Int) (x : Int) (w : World) (hn : n ≤ 1048576) (hs : SL .i64 w ao n f) (h : ∀ i, i < n → f i ≠ x) :
    Calls Tryz.prog 122 #[.slice ao n cap, .int .i64 x] w fun e w' => e = .returned (.bool false) ∧ w' = w := by
  have H := hide h
  clear h
  go_enter Tryz.func122, Tryz.ntmps122
  go_wp2
  go_loop [5] (fun i => ∃ k : Nat, k ≤ n ∧ i = .int .i64 k) (fun i => n - (intOf i).toNat)
  case atStart => exact ⟨0, by omega, rfl⟩
  case round =>
    obtain ⟨k, hk, rfl⟩ := hrel
    by_cases hlt : k < n
    · obtain ⟨b, off, rfl, hb, hc⟩ := hs k hlt
      have he := H.out k hlt
      clear hs
      generalize f k = y at *
      have hd : decide (y = x) = false := by simpa using he
      go_wp2
      go_round
      case rel => exact ⟨k + 1, by omega, by go_num⟩
      case measure => simp [intOf]; omega
    · obtain rfl : k = n := by omega
      go_wp2
      go_ret
      exact ⟨rfl, rfl⟩

/-- Generations: twelve at most, each from 1 to 100000, no two alike. -/
def GIn (f : Nat → Int) (n : Nat) : Prop := ∀ i, i < n → (1 ≤ f i ∧ f i ≤ 100000) ∧ ∀ j, j < i → f j ≠ f i
def GOk (f : Nat → Int) (n : Nat) : Prop := n ≤ 12 ∧ GIn f n

theorem gens_any (ao : Option Addr) (n cap : Nat) (f : Nat → Int) (w : World) (hn : n ≤ 1048576) (hcap : n ≤ cap) (hs : SL .i64 w ao n f) :
    Calls Tryz.prog 172 #[.slice ao n cap] w fun e w' => ((GOk f n ∧ e = .returned (.bool true)) ∨ (¬ GOk f n ∧ e = .returned (.bool false))) ∧ ∃ q, w' = w.drewN q := by
  have HS := hide hs
  clear hs
  go_enter Tryz.func172, Tryz.ntmps172
  go_wp2
  go_loopw [3] (fun i wr => ∃ k : Nat, k ≤ n ∧ i = .int .i64 k ∧ Hid (GIn f k) ∧ ∃ q, wr = w.drewN q) (fun i _ => n - (intOf i).toNat)
  case atStart => exact ⟨0, by omega, rfl, fun j hj => absurd hj (by omega), 0, rfl⟩
  case round =>
    obtain ⟨k, hk, rfl, A, q, rfl⟩ := hrel
    by_cases hlt : k < n
    · obtain ⟨b, off, rfl, hb, hc⟩ := HS.out k hlt
      have hpre : Hid (∀ q, SL .i64 (w.drewN q) (some ⟨b, off, none⟩) k f) := fun q i hi => HS.out i (by omega)
      generalize hy : f k = y at *
      have B := hide hy
      clear hy
      have hk0 : (0 : Int) ≤ (k : Int) := by omega
      have hkn : (k : Int) ≤ (n : Int) := by omega
      have hkc : (k : Int) ≤ (cap : Int) := by omega
      by_cases h1 : 1 ≤ y ∧ y ≤ 100000
      · by_cases h2 : ∃ j, j < k ∧ f j = y
        · have hbad : Hid (¬ GOk f n) := fun h => by obtain ⟨j, hj, e⟩ := h2; exact (h.2 k hlt).2 j hj (e.trans B.out.symm)
          have H2 := hide h2
          clear h2
          go_wp2
          go_quiet (first
            | (go_at_call 51; refine quiet_q (in_yes _ _ _ _ h1.1 h1.2))
            | (go_at_call 122; refine quiet_q (has_yes _ _ _ f _ _ (by omega) (hpre.out _) H2.out)))
          go_wp2
          go_ret
          exact ⟨.inr ⟨hbad.out, rfl⟩, _, World.drewN_drewN ..⟩
        · have H2 : Hid (∀ j, j < k → f j ≠ y) := fun j hj e => h2 ⟨j, hj, e⟩
          clear h2
          go_wp2
          go_quiet (first
            | (go_at_call 51; refine quiet_q (in_yes _ _ _ _ h1.1 h1.2))
            | (go_at_call 122; refine quiet_q (has_no _ _ _ f _ _ (by omega) (hpre.out _) H2.out)))
          go_wp2
          go_roundw
          case rel =>
            refine ⟨k + 1, by omega, by go_num, fun i hi => ?_, _, rfl⟩
            by_cases e : i = k
            · subst e; exact ⟨by rw [B.out]; exact h1, fun j hj => by rw [B.out]; exact H2.out j hj⟩
            · exact A.out i (by omega)
          case measure => simp [intOf]; omega
      · have hno : y < 1 ∨ 100000 < y := by omega
        have hbad : Hid (¬ GOk f n) := fun h => h1 (B.out ▸ (h.2 k hlt).1)
        go_wp2
        go_quiet (first | (go_at_call 51; refine quiet_q (in_no _ _ _ _ hno)))
        go_wp2
        go_ret
        exact ⟨.inr ⟨hbad.out, rfl⟩, _, World.drewN_drewN ..⟩
    · obtain rfl : k = n := by omega
      by_cases h12 : k ≤ 12
      · have hd : (k : Int) ≤ 12 := by omega
        go_wp2
        go_ret
        exact ⟨.inl ⟨⟨h12, A.out⟩, rfl⟩, q, rfl⟩
      · have hd : ¬ (k : Int) ≤ 12 := by omega
        go_wp2
        go_ret
        exact ⟨.inr ⟨fun h => h12 h.1, rfl⟩, q, rfl⟩
theorem gens_yes (ao : Option Addr) (n cap : Nat) (f : Nat → Int) (w : World) (hn : n ≤ 1048576) (hcap : n ≤ cap) (hs : SL .i64 w ao n f) (h : GOk f n) :
    Calls Tryz.prog 172 #[.slice ao n cap] w fun e w' => e = .returned (.bool true) ∧ ∃ q, w' = w.drewN q :=
  (gens_any ao n cap f w hn hcap hs).mono fun _ _ ⟨h1, h2⟩ => ⟨h1.elim (·.2) (fun x => absurd h x.1), h2⟩
theorem gens_no (ao : Option Addr) (n cap : Nat) (f : Nat → Int) (w : World) (hn : n ≤ 1048576) (hcap : n ≤ cap) (hs : SL .i64 w ao n f) (h : ¬ GOk f n) :
    Calls Tryz.prog 172 #[.slice ao n cap] w fun e w' => e = .returned (.bool false) ∧ ∃ q, w' = w.drewN q :=
  (gens_any ao n cap f w hn hcap hs).mono fun _ _ ⟨h1, h2⟩ => ⟨h1.elim (fun x => absurd x.1 h) (·.2), h2⟩

theorem bit_yes (w : World) : Calls Tryz.prog 161 #[.bool true] w fun e w' => e = .returned (.int .i64 1) ∧ w' = w := by
  go_enter Tryz.func161, Tryz.ntmps161
  go_wp2
  go_ret
  exact ⟨rfl, rfl⟩
theorem bit_no (w : World) : Calls Tryz.prog 161 #[.bool false] w fun e w' => e = .returned (.int .i64 0) ∧ w' = w := by
  go_enter Tryz.func161, Tryz.ntmps161
  go_wp2
  go_ret
  exact ⟨rfl, rfl⟩

/-- What tells whether it is one. -/
def Tells (w w' : World) (e : Ending) (p : Prop) : Prop := ((p ∧ e = .returned (.bool true)) ∨ (¬ p ∧ e = .returned (.bool false))) ∧ Below w.heap.size w w'
theorem Tells.yes {w w' : World} {p : Prop} (h : p) (hb : Below w.heap.size w w') : Tells w w' (.returned (.bool true)) p := ⟨.inl ⟨h, rfl⟩, hb⟩
theorem Tells.no {w w' : World} {p : Prop} (h : ¬ p) (hb : Below w.heap.size w w') : Tells w w' (.returned (.bool false)) p := ⟨.inr ⟨h, rfl⟩, hb⟩

theorem nocell_any (x : Int) (w : World) : Calls Tryz.prog 88 #[.int .i64 x] w fun e w' => e = .returned (.bool (decide (x < 0 ∨ 8 ≤ x))) ∧ w' = w := by
  by_cases h0 : x < 0
  · go_enter Tryz.func88, Tryz.ntmps88
    go_wp2
    go_ret
    exact ⟨by simp [h0], rfl⟩
  · go_enter Tryz.func88, Tryz.ntmps88
    go_wp2
    go_ret
    exact ⟨by simp [Int.not_lt.2 h0], rfl⟩
theorem nowrite_any (x : Int) (w : World) : Calls Tryz.prog 203 #[.int .i64 x] w fun e w' => e = .returned (.bool (decide (x < 0 ∨ 200 < x))) ∧ w' = w := by
  by_cases h0 : x < 0
  · go_enter Tryz.func203, Tryz.ntmps203
    go_wp2
    go_ret
    exact ⟨by simp [h0], rfl⟩
  · go_enter Tryz.func203, Tryz.ntmps203
    go_wp2
    go_ret
    exact ⟨by simp [Int.not_lt.2 h0], rfl⟩
theorem nonode_any (x : Int) (w : World) : Calls Tryz.prog 55 #[.int .i64 x] w fun e w' => e = .returned (.bool (decide (x < 0 ∨ 3 ≤ x))) ∧ w' = w := by
  by_cases h0 : x < 0
  · go_enter Tryz.func55, Tryz.ntmps55
    go_wp2
    go_ret
    exact ⟨by simp [h0], rfl⟩
  · go_enter Tryz.func55, Tryz.ntmps55
    go_wp2
    go_ret
    exact ⟨by simp [Int.not_lt.2 h0], rfl⟩
theorem nogen_any (x : Int) (w : World) : Calls Tryz.prog 124 #[.int .i64 x] w fun e w' => e = .returned (.bool (decide (x < 1 ∨ 100000 < x))) ∧ w' = w := by
  by_cases h0 : x < 1
  · go_enter Tryz.func124, Tryz.ntmps124
    go_wp2
    go_ret
    exact ⟨by simp [h0], rfl⟩
  · go_enter Tryz.func124, Tryz.ntmps124
    go_wp2
    go_ret
    exact ⟨by simp [Int.not_lt.2 h0], rfl⟩
theorem asc_any (ao : Option Addr) (n cap : Nat) (f : Nat → Int) (w : World) (hn : n ≤ 1048576) (hs : SL .i64 w ao n f) :
    Calls Tryz.prog 213 #[.slice ao n cap] w fun e w' => (∃ b : Bool, e = .returned (.bool b) ∧ (b = true ↔ ∀ i, 1 ≤ i → i < n → f (i - 1) < f i)) ∧ ∃ q, w' = w.drewN q := by
  go_enter Tryz.func213, Tryz.ntmps213
  go_wp2
  go_loopw [3] (fun i wr => ∃ k : Nat, 1 ≤ k ∧ k ≤ n + 1 ∧ i = .int .i64 k ∧ Hid (∀ j, 1 ≤ j → j < k → f (j - 1) < f j) ∧ ∃ q, wr = w.drewN q) (fun i _ => n + 1 - (intOf i).toNat)
  case atStart => exact ⟨1, Nat.le_refl _, by omega, rfl, (fun j h1 h2 => absurd h2 (by omega)), 0, rfl⟩
  case round =>
    obtain ⟨k, h1k, hk, rfl, A, q, rfl⟩ := hrel
    by_cases hlt : k < n
    · obtain ⟨b, off, e1, hb, hc⟩ := hs k hlt
      obtain ⟨b', off', e2, hb', hc'⟩ := hs (k - 1) (by omega)
      subst e1
      simp only [Option.some.injEq, Addr.mk.injEq] at e2
      obtain ⟨rfl, rfl, _⟩ := e2
      obtain ⟨k, rfl⟩ : ∃ k', k = k' + 1 := ⟨k - 1, by omega⟩
      rw [show k + 1 - 1 = k by omega] at hc'
      have hsub : ((k + 1 : Nat) : Int) - 1 = (k : Int) := by omega
      clear hs
      generalize hy : f (k + 1) = y at *
      generalize hx : f k = x at *
      have B : Hid (f (k + 1) = y ∧ f k = x) := ⟨hy, hx⟩
      clear hy hx
      by_cases hle : y ≤ x
      · have hd : decide (y ≤ x) = true := by simpa using hle
        go_wp2
        go_quiet (fail)
        go_wp2
        go_ret
        refine ⟨⟨_, rfl, ?_⟩, _, World.drewN_drewN ..⟩
        constructor
        · intro h; cases h
        · intro h
          have := h (k + 1) (by omega) hlt
          rw [show k + 1 - 1 = k by omega, B.out.1, B.out.2] at this
          omega
      · have hd : decide (y ≤ x) = false := by simpa using hle
        go_wp2
        go_quiet (fail)
        go_wp2
        go_roundw
        case rel =>
          refine ⟨k + 1 + 1, by omega, by omega, by go_num, fun j h1 h2 => ?_, _, rfl⟩
          by_cases e : j = k + 1
          · subst e; rw [show k + 1 - 1 = k by omega, B.out.1, B.out.2]; omega
          · exact A.out j h1 (by omega)
        case measure => simp [intOf]; omega
    · go_wp2
      go_ret
      exact ⟨⟨_, rfl, ⟨fun _ i h1 h2 => A.out i h1 (by omega), fun _ => rfl⟩⟩, q, rfl⟩

/-- Ascending, each once, in 0 .. 7. -/
def KIn (f : Nat → Int) (n : Nat) : Prop := (∀ i, i < n → 0 ≤ f i ∧ f i ≤ 7) ∧ ∀ i, 1 ≤ i → i < n → f (i - 1) < f i

theorem marksok_spec (ao : Option Addr) (n cap : Nat) (f : Nat → Int) (w : World) (hn : n ≤ 1048576) (hs : SL .i64 w ao n f) :
    Calls Tryz.prog 197 #[.slice ao n cap] w fun e w' => (∃ b : Bool, e = .returned (.bool b) ∧ (b = true ↔ KIn f n)) ∧ ∃ q, w' = w.drewN q := by
  go_enter Tryz.func197, Tryz.ntmps197
  go_wp2
  go_loopw [3] (fun i wr => ∃ k : Nat, k ≤ n ∧ i = .int .i64 k ∧ Hid (KIn f k) ∧ ∃ q, wr = w.drewN q) (fun i _ => n - (intOf i).toNat)
  case atStart => exact ⟨0, by omega, rfl, ⟨fun i hi => absurd hi (by omega), fun i h1 h2 => absurd h2 (by omega)⟩, 0, rfl⟩
  case round =>
    obtain ⟨k, hk, rfl, A, q, rfl⟩ := hrel
    by_cases hlt : k < n
    · obtain ⟨b, off, e1, hb, hc⟩ := hs k hlt
      by_cases hin : 0 ≤ f k ∧ f k ≤ 7
      · by_cases hk0 : k = 0
        · subst hk0
          obtain ⟨hin0, hin1⟩ := hin
          subst e1
          rw [Nat.add_zero] at hc
          have hd : decide ((0 : Int) < ((0 : Nat) : Int)) = false := by simp
          clear hs
          generalize hy : f 0 = y at *
          have B : Hid (f 0 = y) := hy
          clear hy
          go_wp2
          go_quiet (first | (go_at_call 51; refine quiet_q (in_yes _ _ _ _ hin0 hin1)))
          go_wp2
          go_roundw
          case rel =>
            refine ⟨1, by omega, by go_num, ⟨fun i hi => ?_, fun i h1 h2 => absurd h2 (by omega)⟩, _, rfl⟩
            obtain rfl : i = 0 := by omega
            rw [B.out]; omega
          case measure => simp [intOf]; omega
        · obtain ⟨b', off', e2, hb', hc'⟩ := hs (k - 1) (by omega)
          subst e1
          simp only [Option.some.injEq, Addr.mk.injEq] at e2
          obtain ⟨rfl, rfl, _⟩ := e2
          obtain ⟨k, rfl⟩ : ∃ k', k = k' + 1 := ⟨k - 1, by omega⟩
          rw [show k + 1 - 1 = k by omega] at hc'
          obtain ⟨hin0, hin1⟩ := hin
          have hpos : decide ((0 : Int) < ((k + 1 : Nat) : Int)) = true := by simp
          clear hs hk0
          generalize hy : f (k + 1) = y at *
          generalize hx : f k = x at *
          have B : Hid (f (k + 1) = y ∧ f k = x) := ⟨hy, hx⟩
          clear hy hx
          by_cases hle : y ≤ x
          · have hd : decide (y ≤ x) = true := by simpa using hle
            go_wp2
            go_quiet (first | (go_at_call 51; refine quiet_q (in_yes _ _ _ _ hin0 hin1)))
            go_wp2
            go_ret
            refine ⟨⟨_, rfl, ?_⟩, _, World.drewN_drewN ..⟩
            constructor
            · intro h; cases h
            · intro h
              have := h.2 (k + 1) (by omega) hlt
              rw [show k + 1 - 1 = k by omega, B.out.1, B.out.2] at this
              omega
          · have hd : decide (y ≤ x) = false := by simpa using hle
            go_wp2
            go_quiet (first | (go_at_call 51; refine quiet_q (in_yes _ _ _ _ hin0 hin1)))
            go_wp2
            go_roundw
            case rel =>
              refine ⟨k + 1 + 1, by omega, by go_num, ⟨fun i hi => ?_, fun j h1 h2 => ?_⟩, _, rfl⟩
              · by_cases e : i = k + 1
                · subst e; rw [B.out.1]; omega
                · exact A.out.1 i (by omega)
              · by_cases e : j = k + 1
                · subst e; rw [show k + 1 - 1 = k by omega, B.out.1, B.out.2]; omega
                · exact A.out.2 j h1 (by omega)
            case measure => simp [intOf]; omega
      · have hno : f k < 0 ∨ 7 < f k := by omega
        subst e1
        clear hs
        go_wp2
        go_quiet (first | (go_at_call 51; refine quiet_q (in_no _ _ _ _ hno)))
        go_wp2
        go_ret
        refine ⟨⟨_, rfl, ?_⟩, _, World.drewN_drewN ..⟩
        constructor
        · intro h; cases h
        · intro h; exact absurd (h.1 k hlt) hin
    · have hkn : k = n := by omega
      subst hkn
      go_wp2
      go_ret
      exact ⟨⟨_, rfl, ⟨fun _ => A.out, fun _ => rfl⟩⟩, q, rfl⟩

theorem marksok_impl (ao : Option Addr) (n cap : Nat) (f : Nat → Int) (w : World) (hn : n ≤ 1048576) (hs : SL .i64 w ao n f) :
    Calls Tryz.prog 235 #[.slice ao n cap] w fun e w' => (∃ b : Bool, e = .returned (.bool b) ∧ (b = true ↔ KIn f n)) ∧ ∃ q, w' = w.drewN q := by
  have h1 := asc_any ao n cap f w hn hs
  have h2 : Hid (∀ q, Calls Tryz.prog 183 #[.slice ao n cap, .func (.func 88) #[] #[]] (w.drewN q) fun e w' => (∃ b : Bool, e = .returned (.bool b) ∧ (b = true ↔ ∃ i, i < n ∧ decide (f i < 0 ∨ 8 ≤ f i) = true)) ∧ w' = w.drewN q) :=
    fun q => cf_any 88 #[] (fun x => decide (x < 0 ∨ 8 ≤ x)) ao n cap f (w.drewN q) (enters_of Tryz.func88 (by kernel_rfl) rfl) (fun x => nocell_any x _) hn hs
  clear hs
  go_enter Tryz.func235, Tryz.ntmps235
  go_wp2_with fail
  refine h1.mono ?_
  rintro e w1 ⟨⟨b, rfl, hb0⟩, q, rfl⟩
  have hb : Hid (b = true ↔ ∀ i, 1 ≤ i → i < n → f (i - 1) < f i) := hb0
  clear hb0 h1
  cases b with
  | false =>
    go_wp2
    go_ret
    refine ⟨⟨_, rfl, ?_⟩, q, rfl⟩
    constructor
    · intro h; cases h
    · intro h; exact hb.out.2 h.2
  | true =>
    go_wp2_with fail
    refine (h2.out q).mono ?_
    rintro e w2 ⟨⟨c, rfl, hc⟩, rfl⟩
    go_wp2
    go_ret
    refine ⟨⟨_, rfl, ?_⟩, q, rfl⟩
    cases c with
    | true =>
      obtain ⟨i, hi, hx⟩ := hc.1 rfl
      constructor
      · intro h; cases h
      · intro h
        have := h.1 i hi
        simp at hx
        omega
    | false =>
      refine ⟨fun _ => ⟨fun i hi => ?_, hb.out.1 trivial⟩, fun _ => rfl⟩
      have hx : ¬ (decide (f i < 0 ∨ 8 ≤ f i) = true) := fun hx => by have := hc.2 ⟨i, hi, hx⟩; cases this
      simp at hx
      omega

/-- Of a list. -/
def KOk (l : List Int) : Prop := KIn (fun i => l.getD i 0) l.length
theorem marks_spec (ro : Option Addr) (rc : Nat) (l : List Int) (w : World) (hl : l.length ≤ 1048576) (hs : SL .i64 w ro l.length (fun i => l.getD i 0)) :
    Calls Tryz.prog 197 #[.slice ro l.length rc] w fun e w' => ((KOk l ∧ e = .returned (.bool true)) ∨ (¬ KOk l ∧ e = .returned (.bool false))) ∧ ∃ q, w' = w.drewN q := by
  refine (marksok_spec ro l.length rc (fun i => l.getD i 0) w hl hs).mono ?_
  rintro e w' ⟨⟨b, rfl, hb⟩, hq⟩
  refine ⟨?_, hq⟩
  cases b with
  | true => exact .inl ⟨hb.1 rfl, rfl⟩
  | false => exact .inr ⟨(fun h => by have := hb.2 h; cases this), rfl⟩
theorem marks_impl (ro : Option Addr) (rc : Nat) (l : List Int) (w : World) (hl : l.length ≤ 1048576) (hs : SL .i64 w ro l.length (fun i => l.getD i 0)) :
    Calls Tryz.prog 235 #[.slice ro l.length rc] w fun e w' => ((KOk l ∧ e = .returned (.bool true)) ∨ (¬ KOk l ∧ e = .returned (.bool false))) ∧ ∃ q, w' = w.drewN q := by
  refine (marksok_impl ro l.length rc (fun i => l.getD i 0) w hl hs).mono ?_
  rintro e w' ⟨⟨b, rfl, hb⟩, hq⟩
  refine ⟨?_, hq⟩
  cases b with
  | true => exact .inl ⟨hb.1 rfl, rfl⟩
  | false => exact .inr ⟨(fun h => by have := hb.2 h; cases this), rfl⟩
theorem Tryz.info3 : (Tryz.prog.info? 3).map (fun i => (i.zero, i.size, i.bytes)) = some (some (.int .i64 0), 1, 8) := by kernel_rfl

theorem ito_step {wr : World} {g n k : Nat} {t : TypeId} {f : Nat → Int} (h : wr.rowIs g t n (fun j => if j < k then .int .i64 (f j) else .int .i64 0)) :
    (wr.setCell ⟨g, k, none⟩ (.int .i64 (f k))).rowIs g t n (fun j => if j < k + 1 then .int .i64 (f j) else .int .i64 0) := by
  refine (h.set k (.int .i64 (f k))).congr fun j hj => ?_
  by_cases e : j = k
  · subst e; simp
  · simp only [if_neg e]
    by_cases e2 : j < k
    · rw [if_pos e2, if_pos (by omega)]
    · rw [if_neg e2, if_neg (by omega)]

theorem ito_any (ao : Option Addr) (n cap : Nat) (f : Nat → Int) (w : World) (hn : n ≤ 1048576) (hs : SL .i64 w ao n f) :
    Calls Tryz.prog 82 #[.slice ao n cap] w fun e w' => e = .returned (.slice (some ⟨w.heap.size, 0, none⟩) n n) ∧ w'.rowIs w.heap.size 3 n (fun i => .int .i64 (f i)) ∧ Below w.heap.size w w' := by
  have hmk := run_make_row' (P := Tryz.prog) 22 3 (.int .i64 0) 8 Tryz.underlying22 Tryz.info3 rfl .i64 .i64 n (by omega) (by omega)
  go_enter Tryz.func82, Tryz.ntmps82
  go_wp2
  go_loopw [4] (fun i wr => ∃ k : Nat, k ≤ n ∧ i = .int .i64 k ∧ wr.rowIs w.heap.size 3 n (fun j => if j < k then .int .i64 (f j) else .int .i64 0) ∧ Below w.heap.size w wr) (fun i _ => n - (intOf i).toNat)
  case atStart => exact ⟨0, Nat.zero_le _, rfl, (World.rowIs_made _ _ _ _).congr (by intro i _; simp), (Below.refl _ _).alloc (Nat.le_refl _) _⟩
  case round =>
    obtain ⟨k, hk, rfl, hrow, hbel⟩ := hrel
    clear hmk
    by_cases hlt : k < n
    · obtain ⟨b, off, rfl, hb, hc⟩ := hs k hlt
      have hc' := (hbel.cell (p := ⟨b, off + k, none⟩) hb).trans hc
      have hf := hrow.frozen k
      have hcell := hrow.cell hlt
      have R := ito_step (f := f) hrow
      have R2 := hbel.setCell (p := ⟨w.heap.size, k, none⟩) (Nat.le_refl _) (.int .i64 (f k))
      clear hc hs hrow
      go_wp2
      go_roundw
      case rel => exact ⟨k + 1, by omega, by go_num, R, R2⟩
      case measure => simp [intOf]; omega
    · have hkn : n = k := by omega
      go_wp2
      go_ret
      exact ⟨rfl, hrow.congr (by intro i hi; rw [if_pos (by omega)]), hbel⟩

theorem ieq_yes (ao bo : Option Addr) (n ca cb : Nat) (f g : Nat → Int) (w : World) (hn : n ≤ 1048576) (hA : SL .i64 w ao n f) (hB : SL .i64 w bo n g) (he : ∀ i, i < n → f i = g i) :
    Calls Tryz.prog 59 #[.slice ao n ca, .slice bo n cb] w fun e w' => e = .returned (.bool true) ∧ ∃ q, w' = w.drewN q := by
  go_enter Tryz.func59, Tryz.ntmps59
  go_wp2
  go_loopw [5] (fun i wr => ∃ k : Nat, k ≤ n ∧ i = .int .i64 k ∧ ∃ q, wr = w.drewN q) (fun i _ => n - (intOf i).toNat)
  case atStart => exact ⟨0, Nat.zero_le _, rfl, 0, rfl⟩
  case round =>
    obtain ⟨k, hk, rfl, q, rfl⟩ := hrel
    by_cases hlt : k < n
    · obtain ⟨b, off, rfl, hb, hc⟩ := hA k hlt
      obtain ⟨b', off', rfl, hb', hc'⟩ := hB k hlt
      rw [← he k hlt] at hc'
      clear hA hB he
      go_wp2
      go_quiet (fail)
      go_wp2
      go_roundw
      case rel => exact ⟨k + 1, by omega, by go_num, _, rfl⟩
      case measure => simp [intOf]; omega
    · go_wp2
      go_ret
      exact ⟨rfl, q, rfl⟩
theorem mark_step {wr : World} {B g n k : Nat} {k0 : Int} {t : TypeId} {F : Nat → Value} (h : Own wr B t (some ⟨g, 0, none⟩) n (fun j => if j < k then .int .u8 ((k0 + j) % 256) else F j)) :
    Own (wr.setCell ⟨g, k, none⟩ (.int .u8 ((k0 + k) % 256))) B t (some ⟨g, 0, none⟩) n (fun j => if j < k + 1 then .int .u8 ((k0 + j) % 256) else F j) := by
  refine (h.set k _).congr fun j hj => ?_
  by_cases e : j = k
  · subst e; simp
  · simp only [if_neg e]
    by_cases e2 : j < k
    · rw [if_pos e2, if_pos (by omega)]
    · rw [if_neg e2, if_neg (by omega)]

theorem held_any (ao : Option Addr) (n cap : Nat) (k0 : Int) (w : World) (hn : n ≤ 1048576) (h0 : 0 ≤ k0) (h1 : k0 ≤ 1099511627776) (hs : SL .u8 w ao n (fun j => (k0 + j) % 256)) :
    Calls Tryz.prog 142 #[.slice ao n cap, .int .i64 k0] w fun e w' => e = .returned (.int .i64 (k0 + n)) ∧ w' = w := by
  go_enter Tryz.func142, Tryz.ntmps142
  go_wp2
  go_loop [1, 5] (fun m i => ∃ k : Nat, k ≤ n ∧ i = .int .i64 k ∧ m = .int .i64 (k0 + k)) (fun _ i => n - (intOf i).toNat)
  case atStart => exact ⟨0, Nat.zero_le _, rfl, by simp⟩
  case round =>
    obtain ⟨k, hk, rfl, rfl⟩ := hrel
    by_cases hlt : k < n
    · obtain ⟨b, off, rfl, hb, hc⟩ := hs k hlt
      clear hs
      go_wp2
      go_round
      case rel => exact ⟨k + 1, by omega, by go_num, by go_num⟩
      case measure => simp [intOf]; omega
    · have hkn : k = n := by omega
      subst hkn
      go_wp2
      go_ret
      exact ⟨rfl, rfl⟩

/-- Block g alone was written. -/
def Only (g : Nat) (w w' : World) : Prop := Below g w w' ∧ w'.heap.size = w.heap.size ∧ ∀ j, j ≠ g → w'.heap[j]? = w.heap[j]?

theorem Only.refl (g : Nat) (w : World) : Only g w w := ⟨Below.refl _ _, rfl, fun _ _ => rfl⟩
theorem Only.setCell {g i : Nat} {w w' : World} (h : Only g w w') (v : Value) : Only g w (w'.setCell ⟨g, i, none⟩ v) :=
  ⟨h.1.setCell (p := ⟨g, i, none⟩) (Nat.le_refl _) v, by simpa [World.setCell] using h.2.1, fun j hj => by rw [← h.2.2 j hj]; simp [World.setCell, Array.getElem?_modify]; intro e; exact absurd e.symm hj⟩
theorem Only.row {g g' n : Nat} {w w' : World} {t : TypeId} {F : Nat → Value} (h : Only g w w') (hne : g' ≠ g) (r : w.rowIs g' t n F) : w'.rowIs g' t n F := r.of_block (h.2.2 g' hne)
theorem Only.own {g n B : Nat} {w w' : World} {t : TypeId} {ao : Option Addr} {F : Nat → Value} (h : Only g w w') (r : Own w B t ao n F) (hB : g < B) : Own w' B t ao n F := by
  rcases r with r | ⟨g', ea, hB', c, hc, hs, hF⟩
  · exact .inl r
  · exact .inr ⟨g', ea, hB', c, (h.2.2 g' (by omega)).trans hc, hs, hF⟩
end Go.Proofs.YtkndnndildnbpaaGreatDoor

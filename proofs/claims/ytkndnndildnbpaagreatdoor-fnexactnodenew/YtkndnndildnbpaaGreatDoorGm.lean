/- Slices of bools, as the laws hand them on: sized, made, held against another, marked. -/
import Derived.Test.YtkndnndildnbpaaGreatDoorSlW3Z
import Derived.Test.YtkndnndildnbpaaGreatDoorGa
import Derived.Test.YtkndnndildnbpaaGreatDoorGl

namespace Go.Proofs.YtkndnndildnbpaaGreatDoor
open Go.ChangeShapes Go.WideShapes Go.ChangeAt Go.RowKit
set_option linter.unusedVariables false
set_option linter.unusedSimpArgs false
set_option maxRecDepth 100000

/-- The cells of a slice hold the bools of l. -/
def SLb (w : World) (ao : Option Addr) (n : Nat) (f : Nat → Bool) : Prop :=
  ∀ i, i < n → ∃ b off, ao = some ⟨b, off, none⟩ ∧ b < w.heap.size ∧ w.cell? ⟨b, off + i, none⟩ = some (.bool (f i))
theorem SLb.below {w w' : World} {ao : Option Addr} {n : Nat} {f : Nat → Bool} (h : SLb w ao n f) (hb : Below w.heap.size w w') : SLb w' ao n f := by
  intro i hi
  obtain ⟨b, off, e, hlt, hc⟩ := h i hi
  exact ⟨b, off, e, Nat.lt_of_lt_of_le hlt hb.size, (hb.cell hlt).trans hc⟩
theorem SLb.row {w : World} {g n : Nat} {t : TypeId} {f : Nat → Bool} (h : w.rowIs g t n (fun i => .bool (f i))) : SLb w (some ⟨g, 0, none⟩) n f := by
  intro i hi
  exact ⟨g, 0, rfl, h.lt, by simpa using h.cell hi⟩
theorem Own.slb {w : World} {B : Nat} {t : TypeId} {ao : Option Addr} {n : Nat} {f : Nat → Bool} (h : Own w B t ao n (fun i => .bool (f i))) : SLb w ao n f := by
  intro i hi
  obtain ⟨g, e, _, hlt, hc, _⟩ := h.at hi
  exact ⟨g, 0, e, hlt, by simpa using hc⟩

theorem Tryz.info4 : (Tryz.prog.info? 4).map (fun i => (i.zero, i.size, i.bytes)) = some (some (.bool false), 1, 1) := by kernel_rfl

theorem szbs_any (ao : Option Addr) (n cap : Nat) (x : Int) (w : World) (hn : n ≤ 9223372036854775807) (h0 : 0 ≤ x) (h1 : x ≤ 1048576) :
    Calls Tryz.prog 77 #[.slice ao n cap, .int .i64 x] w fun e w' => Sz n x e ∧ w' = w := by
  by_cases h : (n : Int) ≤ x
  · have hd : ¬ x - (n : Int) < 0 := by omega
    go_enter Tryz.func77, Tryz.ntmps77
    go_wp2
    go_ret
    exact ⟨Sz.yes h rfl, rfl⟩
  · have hd : x - (n : Int) < 0 := by omega
    go_enter Tryz.func77, Tryz.ntmps77
    go_wp2
    go_ret
    exact ⟨Sz.no, rfl⟩

theorem bto_step {wr : World} {g n k : Nat} {t : TypeId} {f : Nat → Bool} (h : wr.rowIs g t n (fun j => if j < k then .bool (f j) else .bool false)) :
    (wr.setCell ⟨g, k, none⟩ (.bool (f k))).rowIs g t n (fun j => if j < k + 1 then .bool (f j) else .bool false) := by
  refine (h.set k (.bool (f k))).congr fun j hj => ?_
  by_cases e : j = k
  · subst e; simp
  · simp only [if_neg e]
    by_cases e2 : j < k
    · rw [if_pos e2, if_pos (by omega)]
    · rw [if_neg e2, if_neg (by omega)]

theorem tobs_any (ao : Option Addr) (n cap : Nat) (f : Nat → Bool) (w : World) (hn : n ≤ 1048576) (hs : SLb w ao n f) :
    Calls Tryz.prog 85 #[.slice ao n cap] w fun e w' => e = .returned (.slice (some ⟨w.heap.size, 0, none⟩) n n) ∧ w'.rowIs w.heap.size 4 n (fun i => .bool (f i)) ∧ Below w.heap.size w w' := by
  have hmk := run_make_row' (P := Tryz.prog) 29 4 (.bool false) 1 Tryz.underlying29 Tryz.info4 rfl .i64 .i64 n (by omega) (by omega)
  go_enter Tryz.func85, Tryz.ntmps85
  go_wp2
  go_loopw [4] (fun i wr => ∃ k : Nat, k ≤ n ∧ i = .int .i64 k ∧ wr.rowIs w.heap.size 4 n (fun j => if j < k then .bool (f j) else .bool false) ∧ Below w.heap.size w wr) (fun i _ => n - (intOf i).toNat)
  case atStart => exact ⟨0, Nat.zero_le _, rfl, (World.rowIs_made _ _ _ _).congr (by intro i _; simp), (Below.refl _ _).alloc (Nat.le_refl _) _⟩
  case round =>
    obtain ⟨k, hk, rfl, hrow, hbel⟩ := hrel
    clear hmk
    by_cases hlt : k < n
    · obtain ⟨b, off, rfl, hb, hc⟩ := hs k hlt
      have hc' := (hbel.cell (p := ⟨b, off + k, none⟩) hb).trans hc
      have hf := hrow.frozen k
      have hcell := hrow.cell hlt
      have R := bto_step (f := f) hrow
      have R2 := hbel.setCell (p := ⟨w.heap.size, k, none⟩) (Nat.le_refl _) (.bool (f k))
      clear hc hs hrow
      generalize f k = fk at *
      go_wp2
      go_roundw
      case rel => exact ⟨k + 1, by omega, by go_num, R, R2⟩
      case measure => simp [intOf]; omega
    · have hkn : n = k := by omega
      go_wp2
      go_ret
      exact ⟨rfl, hrow.congr (by intro i hi; rw [if_pos (by omega)]), hbel⟩

theorem eqbs_yes (ao bo : Option Addr) (n ca cb : Nat) (f g : Nat → Bool) (w : World) (hn : n ≤ 1048576) (hA : SLb w ao n f) (hB : SLb w bo n g) (he : ∀ i, i < n → f i = g i) :
    Calls Tryz.prog 62 #[.slice ao n ca, .slice bo n cb] w fun e w' => e = .returned (.bool true) ∧ ∃ q, w' = w.drewN q := by
  go_enter Tryz.func62, Tryz.ntmps62
  go_wp2
  go_loopw [5] (fun i wr => ∃ k : Nat, k ≤ n ∧ i = .int .i64 k ∧ ∃ q, wr = w.drewN q) (fun i _ => n - (intOf i).toNat)
  case atStart => exact ⟨0, Nat.zero_le _, rfl, 0, rfl⟩
  case round =>
    obtain ⟨k, hk, rfl, q, rfl⟩ := hrel
    by_cases hlt : k < n
    · obtain ⟨b, off, rfl, hb, hc⟩ := hA k hlt
      obtain ⟨b', off', rfl, hb', hc'⟩ := hB k hlt
      rw [← he k hlt] at hc'
      clear hA hB he
      generalize f k = fk at *
      go_wp2
      go_quiet (fail)
      go_wp2
      go_roundw
      case rel => exact ⟨k + 1, by omega, by go_num, _, rfl⟩
      case measure => simp [intOf]; omega
    · go_wp2
      go_ret
      exact ⟨rfl, q, rfl⟩

/-- What a bool is marked by. -/
def mkB (k : Int) : Bool := decide (k % 3 = 0)
theorem bmark_step {wr : World} {B g n k : Nat} {k0 : Int} {t : TypeId} {F : Nat → Value} (h : Own wr B t (some ⟨g, 0, none⟩) n (fun j => if j < k then .bool (mkB (k0 + j)) else F j)) :
    Own (wr.setCell ⟨g, k, none⟩ (.bool (mkB (k0 + k)))) B t (some ⟨g, 0, none⟩) n (fun j => if j < k + 1 then .bool (mkB (k0 + j)) else F j) := by
  refine (h.set k _).congr fun j hj => ?_
  by_cases e : j = k
  · subst e; simp
  · simp only [if_neg e]
    by_cases e2 : j < k
    · rw [if_pos e2, if_pos (by omega)]
    · rw [if_neg e2, if_neg (by omega)]
theorem tmod3 {x : Int} (h : 0 ≤ x) : x.tmod 3 = x % 3 := by rw [Int.tmod_eq_emod_of_nonneg h]

theorem bmark_own (g n cap B : Nat) (k0 : Int) (F : Nat → Value) (w : World) (hn : n ≤ 1048576) (h0 : 0 ≤ k0) (h1 : k0 ≤ 1099511627776) (ho : Own w B 4 (some ⟨g, 0, none⟩) n F) :
    Calls Tryz.prog 67 #[.slice (some ⟨g, 0, none⟩) n cap, .int .i64 k0] w fun e w' => e = .returned (.int .i64 (k0 + n)) ∧ Own w' B 4 (some ⟨g, 0, none⟩) n (fun j => .bool (mkB (k0 + j))) ∧ Only g w w' := by
  go_enter Tryz.func67, Tryz.ntmps67
  go_wp2
  go_loopw [1, 5] (fun m i wr => ∃ k : Nat, k ≤ n ∧ i = .int .i64 k ∧ m = .int .i64 (k0 + k) ∧ Own wr B 4 (some ⟨g, 0, none⟩) n (fun j => if j < k then .bool (mkB (k0 + j)) else F j) ∧ Only g w wr) (fun _ i _ => n - (intOf i).toNat)
  case atStart => exact ⟨0, Nat.zero_le _, rfl, by simp, ho.congr (by intro i _; simp), Only.refl _ _⟩
  case round =>
    obtain ⟨k, hk, rfl, rfl, hrow, hbel⟩ := hrel
    by_cases hlt : k < n
    · obtain ⟨g', e, hB, hg, hc, hf⟩ := hrow.at hlt
      cases e
      have R := bmark_step hrow
      have R2 := hbel.setCell (i := k) (.bool (mkB (k0 + k)))
      have hm := tmod3 (x := k0 + k) (by omega)
      have hz : ((k0 + k) % 3 == 0) = mkB (k0 + k) := by unfold mkB; by_cases h : (k0 + (k : Int)) % 3 = 0 <;> simp [h]
      clear hrow ho
      go_wp2
      go_roundw
      case rel => exact ⟨k + 1, by omega, by go_num, by go_num, R, R2⟩
      case measure => simp [intOf]; omega
    · have hkn : k = n := by omega
      subst hkn
      go_wp2
      go_ret
      exact ⟨rfl, hrow.congr (by intro i hi; rw [if_pos (by omega)]), hbel⟩
theorem bmark_zero (ao : Option Addr) (cap : Nat) (k0 : Int) (w : World) :
    Calls Tryz.prog 67 #[.slice ao 0 cap, .int .i64 k0] w fun e w' => e = .returned (.int .i64 k0) ∧ w' = w := by
  go_enter Tryz.func67, Tryz.ntmps67
  go_wp2
  refine wp_loop_rounds 1 ?_
  rw [rounds_succ]
  go_wp2
  go_ret
  exact ⟨rfl, rfl⟩
theorem bheld_any (ao : Option Addr) (n cap : Nat) (k0 : Int) (w : World) (hn : n ≤ 1048576) (h0 : 0 ≤ k0) (h1 : k0 ≤ 1099511627776) (hs : SLb w ao n (fun j => mkB (k0 + j))) :
    Calls Tryz.prog 72 #[.slice ao n cap, .int .i64 k0] w fun e w' => e = .returned (.int .i64 (k0 + n)) ∧ w' = w := by
  go_enter Tryz.func72, Tryz.ntmps72
  go_wp2
  go_loop [1, 5] (fun m i => ∃ k : Nat, k ≤ n ∧ i = .int .i64 k ∧ m = .int .i64 (k0 + k)) (fun _ i => n - (intOf i).toNat)
  case atStart => exact ⟨0, Nat.zero_le _, rfl, by simp⟩
  case round =>
    obtain ⟨k, hk, rfl, rfl⟩ := hrel
    by_cases hlt : k < n
    · obtain ⟨b, off, rfl, hb, hc⟩ := hs k hlt
      have hm := tmod3 (x := k0 + k) (by omega)
      have hz : ((k0 + k) % 3 == 0) = mkB (k0 + k) := by unfold mkB; by_cases h : (k0 + (k : Int)) % 3 = 0 <;> simp [h]
      clear hs
      dsimp only at hc
      generalize mkB (k0 + k) = z at *
      cases z <;>
      · go_wp2
        go_round
        case rel => exact ⟨k + 1, by omega, by go_num, by go_num⟩
        case measure => simp [intOf]; omega
    · have hkn : k = n := by omega
      subst hkn
      go_wp2
      go_ret
      exact ⟨rfl, rfl⟩
structure Rw where
  t : TypeId
  ao : Option Addr
  cap : Nat
  vs : List Value
/-- It lies at the head of a block between two marks of the heap. -/
def RwOk (w : World) (B T : Nat) (r : Rw) : Prop :=
  r.vs.length ≤ r.cap ∧ (r.vs = [] ∨ ∃ g, r.ao = some ⟨g, 0, none⟩ ∧ (B ≤ g ∧ g < T) ∧ ∃ c : Array Value, w.heap[g]? = some (.cells c r.t (0, 0)) ∧ r.vs.length ≤ c.size ∧ ∀ i, i < r.vs.length → c[i]? = r.vs[i]?)
def Apt (r s : Rw) : Prop := r.vs ≠ [] → s.vs ≠ [] → r.ao ≠ s.ao
theorem Apt.symm {r s : Rw} (h : Apt r s) : Apt s r := fun h1 h2 e => h h2 h1 e.symm
def Ap (xs ys : List Rw) : Prop := ∀ r ∈ xs, ∀ s ∈ ys, Apt r s
def RS (w : World) (B T : Nat) (rs : List Rw) : Prop := (∀ r ∈ rs, RwOk w B T r) ∧ rs.Pairwise Apt

theorem RwOk.kept {w w' : World} {B T : Nat} {r : Rw} (h : RwOk w B T r) (hk : ∀ j, B ≤ j → j < T → w'.heap[j]? = w.heap[j]?) : RwOk w' B T r := by
  obtain ⟨h0, h⟩ := h
  refine ⟨h0, ?_⟩
  rcases h with h | ⟨g, e, hB, c, hc, q⟩
  · exact .inl h
  · exact .inr ⟨g, e, hB, c, (hk g hB.1 hB.2).trans hc, q⟩
theorem RwOk.wide {w : World} {B T B' T' : Nat} {r : Rw} (h : RwOk w B T r) (hB : B' ≤ B) (hT : T ≤ T') : RwOk w B' T' r := by
  obtain ⟨h0, h⟩ := h
  refine ⟨h0, ?_⟩
  rcases h with h | ⟨g, e, hg, q⟩
  · exact .inl h
  · exact .inr ⟨g, e, by omega, q⟩
theorem RwOk.at {w : World} {B T : Nat} {r : Rw} (h : RwOk w B T r) (hn : r.vs ≠ []) : ∃ g, r.ao = some ⟨g, 0, none⟩ ∧ B ≤ g ∧ g < T := by
  rcases h.2 with h | ⟨g, e, hg, _⟩
  · exact absurd h hn
  · exact ⟨g, e, hg.1, hg.2⟩
theorem RS.kept {w w' : World} {B T : Nat} {rs : List Rw} (h : RS w B T rs) (hk : ∀ j, B ≤ j → j < T → w'.heap[j]? = w.heap[j]?) : RS w' B T rs := ⟨fun r hr => (h.1 r hr).kept hk, h.2⟩
theorem RS.below {w w' : World} {B T X : Nat} {rs : List Rw} (h : RS w B T rs) (hb : Below X w w') (hX : T ≤ X) : RS w' B T rs := h.kept fun j _ hj => hb.block j (by omega)
theorem RS.wide {w : World} {B T B' T' : Nat} {rs : List Rw} (h : RS w B T rs) (hB : B' ≤ B) (hT : T ≤ T') : RS w B' T' rs := ⟨fun r hr => (h.1 r hr).wide hB hT, h.2⟩
theorem RS.nil {w : World} {B T : Nat} : RS w B T [] := ⟨fun _ h => absurd h (by simp), .nil⟩
theorem RS.one {w : World} {B T : Nat} {r : Rw} (h : RwOk w B T r) : RS w B T [r] := ⟨fun s hs => by rw [List.mem_singleton.1 hs]; exact h, List.pairwise_singleton _ _⟩
theorem RS.app {w : World} {B T : Nat} {xs ys : List Rw} (h : RS w B T xs) (h' : RS w B T ys) (ha : Ap xs ys) : RS w B T (xs ++ ys) :=
  ⟨fun r hr => (List.mem_append.1 hr).elim (h.1 r) (h'.1 r), List.pairwise_append.2 ⟨h.2, h'.2, ha⟩⟩
theorem RS.left {w : World} {B T : Nat} {xs ys : List Rw} (h : RS w B T (xs ++ ys)) : RS w B T xs := ⟨fun r hr => h.1 r (List.mem_append_left _ hr), (List.pairwise_append.1 h.2).1⟩
theorem RS.right {w : World} {B T : Nat} {xs ys : List Rw} (h : RS w B T (xs ++ ys)) : RS w B T ys := ⟨fun r hr => h.1 r (List.mem_append_right _ hr), (List.pairwise_append.1 h.2).2.1⟩
theorem RS.ap {w : World} {B T : Nat} {xs ys : List Rw} (h : RS w B T (xs ++ ys)) : Ap xs ys := (List.pairwise_append.1 h.2).2.2
theorem RS.head {w : World} {B T : Nat} {r : Rw} {ys : List Rw} (h : RS w B T (r :: ys)) : RwOk w B T r := h.1 r (by simp)
theorem RS.tail {w : World} {B T : Nat} {r : Rw} {ys : List Rw} (h : RS w B T (r :: ys)) : RS w B T ys := RS.right (xs := [r]) h
/-- What lies behind is apart. -/
theorem ap_of {w w' : World} {B T T' T2 : Nat} {xs ys : List Rw} (h : RS w B T xs) (h' : RS w' T' T2 ys) (hT : T ≤ T') : Ap xs ys := fun r hr s hs h1 h2 e => by
  obtain ⟨g, e1, _, g1⟩ := (h.1 r hr).at h1
  obtain ⟨g', e2, g2, _⟩ := (h'.1 s hs).at h2
  rw [e, e2] at e1
  cases e1
  omega
theorem Ap.symm {xs ys : List Rw} (h : Ap xs ys) : Ap ys xs := fun r hr s hs => (h s hs r hr).symm
theorem Ap.right {xs ys zs : List Rw} (h : Ap xs ys) (h' : Ap xs zs) : Ap xs (ys ++ zs) := fun r hr s hs => (List.mem_append.1 hs).elim (h r hr s) (h' r hr s)
theorem Ap.left {xs ys zs : List Rw} (h : Ap xs zs) (h' : Ap ys zs) : Ap (xs ++ ys) zs := fun r hr s hs => (List.mem_append.1 hr).elim (fun x => h r x s hs) (fun x => h' r x s hs)
theorem RS.push {w : World} {B T T' : Nat} {xs ys : List Rw} (h : RS w B T xs) (h' : RS w T T' ys) (hB : B ≤ T) (hT : T ≤ T') : RS w B T' (xs ++ ys) :=
  (h.wide (Nat.le_refl _) hT).app (h'.wide hB (Nat.le_refl _)) (ap_of h h' (Nat.le_refl _))
/-- A part in the middle made anew, apart from the others. -/
theorem RS.swap {w : World} {B T : Nat} {xs ys zs ys' : List Rw} (h : RS w B T (xs ++ (ys ++ zs))) (h' : RS w B T ys') (h1 : Ap ys' xs) (h2 : Ap ys' zs) : RS w B T (xs ++ (ys' ++ zs)) :=
  h.left.app (h'.app h.right.right h2) (h1.symm.right (fun r hr s hs => h.ap r hr s (List.mem_append_right _ hs)))
/-- A part in the middle made anew, behind all. -/
theorem RS.renew {w : World} {B T T' : Nat} {xs ys zs ys' : List Rw} (h : RS w B T (xs ++ (ys ++ zs))) (h' : RS w T T' ys') (hB : B ≤ T) (hT : T ≤ T') : RS w B T' (xs ++ (ys' ++ zs)) :=
  (h.wide (Nat.le_refl _) hT).swap (h'.wide hB (Nat.le_refl _)) (ap_of h.left h' (Nat.le_refl _)).symm (ap_of h.right.right h' (Nat.le_refl _)).symm

/-- A row written anew: what else there is stays as it was. -/
def Wr (w w' : World) (B T : Nat) (r r' : Rw) : Prop :=
  (r.vs = [] ∧ r' = r ∧ w' = w) ∨ ∃ γ, r.ao = some ⟨γ, 0, none⟩ ∧ r.vs ≠ [] ∧ Only γ w w' ∧ (B ≤ γ ∧ γ < T) ∧ r'.ao = r.ao ∧ RwOk w' B T r'
theorem Wr.onb {w w' : World} {B T : Nat} {r r' : Rw} (h : Wr w w' B T r r') : OnB B T w w' := by
  rcases h with ⟨_, _, rfl⟩ | ⟨γ, e, hp, ho, hg, _⟩
  · exact OnB.refl _ _ _
  · exact OnB.only ho hg
theorem RwOk.only {w w' : World} {B T γ : Nat} {s : Rw} (h : RwOk w B T s) (ho : Only γ w w') (hne : s.vs ≠ [] → s.ao ≠ some ⟨γ, 0, none⟩) : RwOk w' B T s := by
  obtain ⟨h0, h⟩ := h
  refine ⟨h0, ?_⟩
  rcases h with h | ⟨g, e, hB, c, hc, q⟩
  · exact .inl h
  · by_cases hs : s.vs = []
    · exact .inl hs
    · refine .inr ⟨g, e, hB, c, (ho.2.2 g (fun e2 => ?_)).trans hc, q⟩
      subst e2
      exact hne hs e
theorem RS.wr {w w' : World} {B T : Nat} {xs ys : List Rw} {r r' : Rw} (h : RS w B T (xs ++ r :: ys)) (hw : Wr w w' B T r r') : RS w' B T (xs ++ r' :: ys) := by
  rcases hw with ⟨_, rfl, rfl⟩ | ⟨γ, e, hp, ho, hg, e', hr⟩
  · exact h
  · have h2 := List.pairwise_append.1 h.2
    have h3 := List.pairwise_cons.1 h2.2.1
    refine ⟨fun s hs => ?_, List.pairwise_append.2 ⟨h2.1, List.pairwise_cons.2 ⟨fun s hs h1 h4 => ?_, h3.2⟩, fun s hs q hq => ?_⟩⟩
    · rcases List.mem_append.1 hs with hs | hs
      · exact (h.1 s (List.mem_append_left _ hs)).only ho fun hn e2 => h2.2.2 s hs r (by simp) hn hp (by rw [e2, e])
      · rcases List.mem_cons.1 hs with rfl | hs
        · exact hr
        · exact (h.1 s (List.mem_append_right _ (List.mem_cons_of_mem _ hs))).only ho fun hn e2 => h3.1 s hs hp hn (by rw [e2, e])
    · rw [e']; exact h3.1 s hs hp h4
    · rcases List.mem_cons.1 hq with rfl | hq
      · intro h1 _; rw [e']; exact h2.2.2 s hs r (by simp) h1 hp
      · exact h2.2.2 s hs q (List.mem_cons_of_mem _ hq)

/-- Numbers, bytes, bools as cells. -/
def ir (l : List Int) : List Value := l.map (.int .i64)
def yr (l : List Int) : List Value := l.map (.int .u8)
def br (l : List Bool) : List Value := l.map .bool
theorem ir_len (l : List Int) : (ir l).length = l.length := by simp [ir]
theorem yr_len (l : List Int) : (yr l).length = l.length := by simp [yr]
theorem br_len (l : List Bool) : (br l).length = l.length := by simp [br]
theorem ir_get (l : List Int) (i : Nat) (h : i < l.length) : (ir l)[i]? = some (.int .i64 (l.getD i 0)) := by simp [ir, List.getD, h]
theorem yr_get (l : List Int) (i : Nat) (h : i < l.length) : (yr l)[i]? = some (.int .u8 (l.getD i 0)) := by simp [yr, List.getD, h]
theorem br_get (l : List Bool) (i : Nat) (h : i < l.length) : (br l)[i]? = some (.bool (l.getD i false)) := by simp [br, List.getD, h]
theorem ir_nil {l : List Int} (h : ir l = []) : l = [] := by simpa [ir] using h
theorem yr_nil {l : List Int} (h : yr l = []) : l = [] := by simpa [yr] using h
theorem br_nil {l : List Bool} (h : br l = []) : l = [] := by simpa [br] using h
/-- n cells at the head of a block between two marks of the heap. -/
def OwnT0 (w : World) (B T : Nat) (t : TypeId) (ao : Option Addr) (n : Nat) (F : Nat → Value) : Prop :=
  n = 0 ∨ ∃ g, ao = some ⟨g, 0, none⟩ ∧ (B ≤ g ∧ g < T) ∧ ∃ c : Array Value, w.heap[g]? = some (.cells c t (0, 0)) ∧ n ≤ c.size ∧ ∀ i, i < n → c[i]? = some (F i)
/-- A row that a block holds, as a row of its own. -/
theorem RwOk.of {w : World} {B T n : Nat} {t : TypeId} {ao : Option Addr} {cap : Nat} {F : Nat → Value} {vs : List Value} (h : OwnT0 w B T t ao n F) (hn : vs.length = n) (hc : n ≤ cap) (hF : ∀ i, i < n → vs[i]? = some (F i)) : RwOk w B T ⟨t, ao, cap, vs⟩ := by
  refine ⟨by simpa [hn] using hc, ?_⟩
  show vs = [] ∨ ∃ g, ao = some ⟨g, 0, none⟩ ∧ (B ≤ g ∧ g < T) ∧ ∃ c : Array Value, w.heap[g]? = some (.cells c t (0, 0)) ∧ vs.length ≤ c.size ∧ ∀ i, i < vs.length → c[i]? = vs[i]?
  rcases h with h | ⟨g, e, hg, c, hcc, hs, hf⟩
  · exact .inl (List.length_eq_zero_iff.1 (by omega))
  · exact .inr ⟨g, e, hg, c, hcc, by omega, fun i hi => by rw [hf i (by omega), hF i (by omega)]⟩
theorem RwOk.to {w : World} {B T : Nat} {r : Rw} {F : Nat → Value} (h : RwOk w B T r) (hF : ∀ i, i < r.vs.length → r.vs[i]? = some (F i)) : OwnT0 w B T r.t r.ao r.vs.length F := by
  rcases h.2 with h | ⟨g, e, hg, c, hcc, hs, hf⟩
  · exact .inl (by rw [h]; rfl)
  · exact .inr ⟨g, e, hg, c, hcc, hs, fun i hi => by rw [hf i hi, hF i hi]⟩
/-- Eight numbers in 0 .. 200. -/
def IOk (f : Nat → Int) (n : Nat) : Prop := n = 8 ∧ ∀ i, i < n → 0 ≤ f i ∧ f i ≤ 200

theorem imageok_spec (ao : Option Addr) (n cap : Nat) (f : Nat → Int) (w : World) (hn : n ≤ 1048576) (hs : SL .i64 w ao n f) :
    Calls Tryz.prog 144 #[.slice ao n cap] w fun e w' => (∃ b : Bool, e = .returned (.bool b) ∧ (b = true ↔ IOk f n)) ∧ w' = w := by
  go_enter Tryz.func144, Tryz.ntmps144
  go_wp2
  go_loop [3] (fun i => ∃ k : Nat, k ≤ n ∧ i = .int .i64 k ∧ Hid (∀ j, j < k → 0 ≤ f j ∧ f j ≤ 200)) (fun i => n - (intOf i).toNat)
  case atStart => exact ⟨0, by omega, rfl, fun j hj => absurd hj (by omega)⟩
  case round =>
    obtain ⟨k, hk, rfl, A⟩ := hrel
    by_cases hlt : k < n
    · obtain ⟨b, off, rfl, hb, hc⟩ := hs k hlt
      clear hs
      by_cases hin : 0 ≤ f k ∧ f k ≤ 200
      · have B : Hid (0 ≤ f k ∧ f k ≤ 200) := hin
        obtain ⟨hin0, hin1⟩ := hin
        go_wp2_with (go_at_call 51; refine (in_yes _ _ _ _ hin0 hin1).mono ?_; rintro e w' ⟨rfl, rfl⟩)
        go_round
        case rel =>
          refine ⟨k + 1, by omega, by go_num, fun j hj => ?_⟩
          by_cases e : j = k
          · subst e; exact B.out
          · exact A.out j (by omega)
        case measure => simp [intOf]; omega
      · have hno : f k < 0 ∨ 200 < f k := by omega
        go_wp2_with (go_at_call 51; refine (in_no _ _ _ _ hno).mono ?_; rintro e w' ⟨rfl, rfl⟩)
        go_ret
        refine ⟨⟨_, rfl, ?_⟩, rfl⟩
        constructor
        · intro h; cases h
        · intro h; exact absurd (h.2 k hlt) hin
    · have hkn : k = n := by omega
      subst hkn
      by_cases h8 : k = 8
      · subst h8
        go_wp2
        go_ret
        exact ⟨.inr ⟨rfl, rfl, A.out⟩, rfl⟩
      · have hd : ((k : Int) == 8) = false := by simp; omega
        go_wp2
        go_ret
        exact ⟨.inl ⟨rfl, fun h => absurd h.1 h8⟩, rfl⟩

theorem imageok_impl (ao : Option Addr) (n cap : Nat) (f : Nat → Int) (w : World) (hn : n ≤ 1048576) (hs : SL .i64 w ao n f) :
    Calls Tryz.prog 149 #[.slice ao n cap] w fun e w' => (∃ b : Bool, e = .returned (.bool b) ∧ (b = true ↔ IOk f n)) ∧ w' = w := by
  have h2 : Hid (Calls Tryz.prog 183 #[.slice ao n cap, .func (.func 203) #[] #[]] w fun e w' => (∃ b : Bool, e = .returned (.bool b) ∧ (b = true ↔ ∃ i, i < n ∧ decide (f i < 0 ∨ 200 < f i) = true)) ∧ w' = w) :=
    cf_any 203 #[] (fun x => decide (x < 0 ∨ 200 < x)) ao n cap f w (enters_of Tryz.func203 (by kernel_rfl) rfl) (fun x => nowrite_any x _) hn hs
  clear hs
  by_cases h8 : n = 8
  · subst h8
    go_enter Tryz.func149, Tryz.ntmps149
    go_wp2_with fail
    refine h2.out.mono ?_
    rintro e w2 ⟨⟨c, rfl, hc⟩, rfl⟩
    clear h2
    go_wp2
    go_ret
    refine ⟨⟨_, rfl, ?_⟩, rfl⟩
    cases c with
    | true =>
      obtain ⟨i, hi, hx⟩ := hc.1 rfl
      constructor
      · intro h; cases h
      · intro h
        have := h.2 i hi
        simp at hx
        omega
    | false =>
      refine ⟨fun _ => ⟨rfl, fun i hi => ?_⟩, fun _ => rfl⟩
      have hx : ¬ (decide (f i < 0 ∨ 200 < f i) = true) := fun hx => by have := hc.2 ⟨i, hi, hx⟩; cases this
      simp at hx
      omega
  · have hd : decide ((n : Int) = 8) = false := by simp; omega
    clear h2
    go_enter Tryz.func149, Tryz.ntmps149
    go_wp2
    go_ret
    refine ⟨⟨_, rfl, ?_⟩, rfl⟩
    constructor
    · intro h; cases h
    · intro h; exact absurd h.1 h8
/-- What a node holds. -/
structure Nd where
  id : Int
  up : Bool
  pr : Bool
  im : List Int
  g : List Int
  n : Nat
  L : Nat → List Int
  fi : Bool
  ol : Bool
  he : Bool
  la : Int
  A : List Int
  C : List Int
  co : List Bool
  m : Nat
  S : Nat → List Int
  cp : List Bool
  wt : List Int
/-- Where its slices lie. -/
structure Na where
  im : Option Addr
  imc : Nat
  go : Option Addr
  gc : Nat
  bo : Option Addr
  bc : Nat
  aA : Option Addr
  cA : Nat
  aB : Option Addr
  cB : Nat
  co : Option Addr
  coc : Nat
  so : Option Addr
  sc : Nat
  cp : Option Addr
  cpc : Nat
  wt : Option Addr
  wtc : Nat
def nds (a : Na) (d : Nd) : Array Value := #[.int .i64 d.id, .bool d.up, .bool d.pr, .slice a.im d.im.length a.imc, .slice a.go d.g.length a.gc, .slice a.bo d.n a.bc, .bool d.fi, .bool d.ol, .bool d.he, .int .i64 d.la, .slice a.aA d.A.length a.cA, .slice a.aB d.C.length a.cB, .slice a.co d.co.length a.coc, .slice a.so d.m a.sc, .slice a.cp d.cp.length a.cpc, .slice a.wt d.wt.length a.wtc]
def nv (a : Na) (d : Nd) : Value := .agg (nds a d)
/-- A block that holds it. -/
def NB (w : World) (b : Nat) (t : TypeId) (a : Na) (d : Nd) : Prop := w.heap[b]? = some (.cells (nds a d) t (0, 0))
theorem NB.lt {w : World} {b : Nat} {t : TypeId} {a : Na} {d : Nd} (h : NB w b t a d) : b < w.heap.size := (Array.getElem?_eq_some_iff.1 h).1
theorem NB.b {w w' : World} {b : Nat} {t : TypeId} {a : Na} {d : Nd} (h : NB w b t a d) (hb : Below w.heap.size w w') : NB w' b t a d := (hb.block b h.lt).trans h
theorem NB.below {w w' : World} {b X : Nat} {t : TypeId} {a : Na} {d : Nd} (h : NB w b t a d) (hb : Below X w w') (hX : b < X) : NB w' b t a d := (hb.block b hX).trans h
theorem NB.new (w : World) (t : TypeId) (a : Na) (d : Nd) : NB (w.alloc (.cells (nds a d) t)) w.heap.size t a d := Deep.blk_alloc_new _ _
theorem NB.cells {w : World} {b : Nat} {t : TypeId} {a : Na} {d : Nd} (h : NB w b t a d) :
    w.cell? ⟨b, 0, none⟩ = some (.int .i64 d.id) ∧ w.cell? ⟨b, 1, none⟩ = some (.bool d.up) ∧ w.cell? ⟨b, 2, none⟩ = some (.bool d.pr) ∧ w.cell? ⟨b, 3, none⟩ = some (.slice a.im d.im.length a.imc) ∧
    w.cell? ⟨b, 4, none⟩ = some (.slice a.go d.g.length a.gc) ∧ w.cell? ⟨b, 5, none⟩ = some (.slice a.bo d.n a.bc) ∧ w.cell? ⟨b, 6, none⟩ = some (.bool d.fi) ∧ w.cell? ⟨b, 7, none⟩ = some (.bool d.ol) ∧
    w.cell? ⟨b, 8, none⟩ = some (.bool d.he) ∧ w.cell? ⟨b, 9, none⟩ = some (.int .i64 d.la) ∧ w.cell? ⟨b, 10, none⟩ = some (.slice a.aA d.A.length a.cA) ∧ w.cell? ⟨b, 11, none⟩ = some (.slice a.aB d.C.length a.cB) ∧
    w.cell? ⟨b, 12, none⟩ = some (.slice a.co d.co.length a.coc) ∧ w.cell? ⟨b, 13, none⟩ = some (.slice a.so d.m a.sc) ∧ w.cell? ⟨b, 14, none⟩ = some (.slice a.cp d.cp.length a.cpc) ∧ w.cell? ⟨b, 15, none⟩ = some (.slice a.wt d.wt.length a.wtc) :=
  ⟨mblk h rfl, mblk h rfl, mblk h rfl, mblk h rfl, mblk h rfl, mblk h rfl, mblk h rfl, mblk h rfl, mblk h rfl, mblk h rfl, mblk h rfl, mblk h rfl, mblk h rfl, mblk h rfl, mblk h rfl, mblk h rfl⟩
theorem NB.froz {w : World} {b : Nat} {t : TypeId} {a : Na} {d : Nd} (h : NB w b t a d) : ∀ i, w.frozen? ⟨b, i, none⟩ = false := fun i => fblk h i

/-- Bytes that are bytes. -/
def Byr (A : List Int) : Prop := ∀ i, i < A.length → 0 ≤ A.getD i 0 ∧ A.getD i 0 ≤ 255
/-- What it holds lies there. -/
def NV (w : World) (a : Na) (d : Nd) : Prop :=
  (SL .i64 w a.im d.im.length (fun i => d.im.getD i 0) ∧ d.im.length ≤ a.imc) ∧ MV w a.go a.gc a.bo a.bc d.g d.n d.L ∧
  ((SL .u8 w a.aA d.A.length (fun i => d.A.getD i 0) ∧ d.A.length ≤ a.cA ∧ Byr d.A) ∧ (SL .u8 w a.aB d.C.length (fun i => d.C.getD i 0) ∧ d.C.length ≤ a.cB ∧ Byr d.C)) ∧
  (SLb w a.co d.co.length (fun i => d.co.getD i false) ∧ d.co.length ≤ a.coc) ∧ (BV w a.so d.m d.S ∧ d.m ≤ a.sc) ∧
  (SLb w a.cp d.cp.length (fun i => d.cp.getD i false) ∧ d.cp.length ≤ a.cpc) ∧ (SL .i64 w a.wt d.wt.length (fun i => d.wt.getD i 0) ∧ d.wt.length ≤ a.wtc)
theorem NV.below {w w' : World} {a : Na} {d : Nd} (h : NV w a d) (hb : Below w.heap.size w w') : NV w' a d :=
  ⟨⟨h.1.1.below hb, h.1.2⟩, h.2.1.below hb, ⟨⟨h.2.2.1.1.1.below hb, h.2.2.1.1.2⟩, ⟨h.2.2.1.2.1.below hb, h.2.2.1.2.2⟩⟩, ⟨h.2.2.2.1.1.below hb, h.2.2.2.1.2⟩, ⟨h.2.2.2.2.1.1.below hb, h.2.2.2.2.1.2⟩, ⟨h.2.2.2.2.2.1.1.below hb, h.2.2.2.2.2.1.2⟩, ⟨h.2.2.2.2.2.2.1.below hb, h.2.2.2.2.2.2.2⟩⟩
/-- Nothing of it is too long. -/
def NBd (d : Nd) : Prop := d.im.length ≤ 1048576 ∧ Bd d.g d.n d.L ∧ (d.A.length ≤ 1048576 ∧ d.C.length ≤ 1048576) ∧ d.co.length ≤ 1048576 ∧ (d.m ≤ 1048576 ∧ ∀ i, i < d.m → (d.S i).length ≤ 1048576) ∧ d.cp.length ≤ 1048576 ∧ d.wt.length ≤ 1048576
theorem NV.vA {w : World} {a : Na} {d : Nd} (h : NV w a d) (hd : NBd d) : VBy w a.aA a.cA d.A := ⟨h.2.2.1.1.1, h.2.2.1.1.2.1, hd.2.2.1.1, h.2.2.1.1.2.2⟩
theorem NV.vC {w : World} {a : Na} {d : Nd} (h : NV w a d) (hd : NBd d) : VBy w a.aB a.cB d.C := ⟨h.2.2.1.2.1, h.2.2.1.2.2.1, hd.2.2.1.2, h.2.2.1.2.2.2⟩
/-- How much there is of it. -/
def ntot (d : Nd) : Int := (d.im.length : Int) + ((d.g.length + (d.n + psum d.L d.n) : Int) + ((d.A.length + d.C.length : Int) + (d.co.length + ((d.m + psum d.S d.m : Int) + (d.cp.length + d.wt.length)))))
theorem nbd_of {d : Nd} (h : ntot d ≤ 1048576) : NBd d := by
  unfold ntot at h
  refine ⟨by omega, bd_of (by omega), ⟨by omega, by omega⟩, by omega, ⟨by omega, fun i hi => ?_⟩, by omega, by omega⟩
  have := psum_one d.S i d.m hi
  omega
/-- Where nothing lies there is no room. -/
def NNC (a : Na) : Prop := NC a.aA a.cA ∧ NC a.aB a.cB

/-- A slice of slices as rows. -/
def outer (R : Nat → Option Addr × Nat) (n : Nat) (L : Nat → List Int) : List Value := (List.range n).map fun i => .slice (R i).1 (L i).length (R i).2
def inner (R : Nat → Option Addr × Nat) (n : Nat) (L : Nat → List Int) : List Rw := (List.range n).map fun i => ⟨3, (R i).1, (R i).2, ir (L i)⟩
def srows (bo : Option Addr) (bc : Nat) (R : Nat → Option Addr × Nat) (n : Nat) (L : Nat → List Int) : List Rw := ⟨22, bo, bc, outer R n L⟩ :: inner R n L
def mrows (go : Option Addr) (gc : Nat) (bo : Option Addr) (bc : Nat) (R : Nat → Option Addr × Nat) (g : List Int) (n : Nat) (L : Nat → List Int) : List Rw := ⟨3, go, gc, ir g⟩ :: srows bo bc R n L
def nrows (a : Na) (R Q : Nat → Option Addr × Nat) (d : Nd) : List Rw :=
  ⟨3, a.im, a.imc, ir d.im⟩ :: (mrows a.go a.gc a.bo a.bc R d.g d.n d.L ++ (⟨5, a.aA, a.cA, yr d.A⟩ :: ⟨5, a.aB, a.cB, yr d.C⟩ :: ⟨4, a.co, a.coc, br d.co⟩ :: (srows a.so a.sc Q d.m d.S ++ [⟨4, a.cp, a.cpc, br d.cp⟩, ⟨3, a.wt, a.wtc, ir d.wt⟩])))
/-- A node in memory of its own. -/
def ON (w : World) (B T : Nat) (a : Na) (d : Nd) : Prop := (B ≤ T ∧ T ≤ w.heap.size) ∧ NNC a ∧ (Byr d.A ∧ Byr d.C) ∧ ∃ R Q, RS w B T (nrows a R Q d)

theorem outer_len (R : Nat → Option Addr × Nat) (n : Nat) (L : Nat → List Int) : (outer R n L).length = n := by simp [outer]
theorem outer_get (R : Nat → Option Addr × Nat) (n : Nat) (L : Nat → List Int) (i : Nat) (h : i < n) : (outer R n L)[i]? = some (.slice (R i).1 (L i).length (R i).2) := by simp [outer, h]
theorem inner_mem {R : Nat → Option Addr × Nat} {n : Nat} {L : Nat → List Int} {i : Nat} (h : i < n) : (⟨3, (R i).1, (R i).2, ir (L i)⟩ : Rw) ∈ inner R n L := List.mem_map.2 ⟨i, List.mem_range.2 h, rfl⟩

theorem RwOk.sl {w : World} {B T : Nat} {t : TypeId} {ao : Option Addr} {cap : Nat} {l : List Int} (h : RwOk w B T ⟨t, ao, cap, ir l⟩) : SL .i64 w ao l.length (fun i => l.getD i 0) := by
  intro i hi
  rcases h.2 with h | ⟨g, e, hg, c, hcc, hs, hf⟩
  · have := ir_nil h; subst this; simp at hi
  · refine ⟨g, 0, e, (Array.getElem?_eq_some_iff.1 hcc).1, ?_⟩
    have := hf i (by rw [ir_len]; exact hi)
    rw [ir_get _ _ hi] at this
    simp only [World.cell?, hcc, Nat.zero_add]
    exact this
theorem RwOk.sy {w : World} {B T : Nat} {t : TypeId} {ao : Option Addr} {cap : Nat} {l : List Int} (h : RwOk w B T ⟨t, ao, cap, yr l⟩) : SL .u8 w ao l.length (fun i => l.getD i 0) := by
  intro i hi
  rcases h.2 with h | ⟨g, e, hg, c, hcc, hs, hf⟩
  · have := yr_nil h; subst this; simp at hi
  · refine ⟨g, 0, e, (Array.getElem?_eq_some_iff.1 hcc).1, ?_⟩
    have := hf i (by rw [yr_len]; exact hi)
    rw [yr_get _ _ hi] at this
    simp only [World.cell?, hcc, Nat.zero_add]
    exact this
theorem RwOk.sb {w : World} {B T : Nat} {t : TypeId} {ao : Option Addr} {cap : Nat} {l : List Bool} (h : RwOk w B T ⟨t, ao, cap, br l⟩) : SLb w ao l.length (fun i => l.getD i false) := by
  intro i hi
  rcases h.2 with h | ⟨g, e, hg, c, hcc, hs, hf⟩
  · have := br_nil h; subst this; simp at hi
  · refine ⟨g, 0, e, (Array.getElem?_eq_some_iff.1 hcc).1, ?_⟩
    have := hf i (by rw [br_len]; exact hi)
    rw [br_get _ _ hi] at this
    simp only [World.cell?, hcc, Nat.zero_add]
    exact this
theorem RS.bv {w : World} {B T : Nat} {bo : Option Addr} {bc : Nat} {R : Nat → Option Addr × Nat} {n : Nat} {L : Nat → List Int} (h : RS w B T (srows bo bc R n L)) : BV w bo n L ∧ n ≤ bc := by
  refine ⟨fun i hi => ?_, by have := h.head.1; rwa [outer_len] at this⟩
  have hr := h.tail.1 _ (inner_mem (R := R) (L := L) hi)
  rcases h.head.2 with h0 | ⟨b, e, hb, c, hc, hs, hF⟩
  · have h0' : outer R n L = [] := h0
    have : (outer R n L).length = 0 := by rw [h0']; rfl
    rw [outer_len] at this
    omega
  · refine ⟨b, 0, (R i).1, (R i).2, e, ?_, by have := hr.1; rwa [show (Rw.mk 3 (R i).1 (R i).2 (ir (L i))).vs.length = (L i).length from ir_len _] at this, hr.sl⟩
    have := hF i (by show i < (outer R n L).length; rw [outer_len]; exact hi)
    rw [show (Rw.mk 22 bo bc (outer R n L)).vs[i]? = _ from outer_get R n L i hi] at this
    simp only [World.cell?, hc, Nat.zero_add]
    exact this
theorem RS.mv {w : World} {B T : Nat} {go : Option Addr} {gc : Nat} {bo : Option Addr} {bc : Nat} {R : Nat → Option Addr × Nat} {g : List Int} {n : Nat} {L : Nat → List Int} (h : RS w B T (mrows go gc bo bc R g n L)) : MV w go gc bo bc g n L := by
  have h1 := h.head
  have h2 := (RS.tail (ys := srows bo bc R n L) h).bv
  exact ⟨⟨by have := h1.1; rwa [show (Rw.mk 3 go gc (ir g)).vs.length = g.length from ir_len _] at this, h2.2⟩, h1.sl, h2.1⟩
theorem ON.nv {w : World} {B T : Nat} {a : Na} {d : Nd} (h : ON w B T a d) : NV w a d := by
  obtain ⟨_, _, hby, R, Q, h⟩ := h
  have h1 := RS.tail h
  have h2 := h1.right
  have h3 := RS.tail (RS.tail (RS.tail h2))
  have h4 := h3.right
  have k1 := h.head
  have k2 := h2.head
  have k3 := (RS.tail h2).head
  have k4 := (RS.tail (RS.tail h2)).head
  have k5 := h3.left.bv
  have k6 := h4.head
  have k7 := (RS.tail h4).head
  have e1 : ∀ (t : TypeId) (x : Option Addr) (c : Nat) (l : List Int), RwOk w B T ⟨t, x, c, ir l⟩ → l.length ≤ c := fun t x c l q => by have := q.1; rwa [show (Rw.mk t x c (ir l)).vs.length = l.length from ir_len _] at this
  have e2 : ∀ (t : TypeId) (x : Option Addr) (c : Nat) (l : List Int), RwOk w B T ⟨t, x, c, yr l⟩ → l.length ≤ c := fun t x c l q => by have := q.1; rwa [show (Rw.mk t x c (yr l)).vs.length = l.length from yr_len _] at this
  have e3 : ∀ (t : TypeId) (x : Option Addr) (c : Nat) (l : List Bool), RwOk w B T ⟨t, x, c, br l⟩ → l.length ≤ c := fun t x c l q => by have := q.1; rwa [show (Rw.mk t x c (br l)).vs.length = l.length from br_len _] at this
  exact ⟨⟨k1.sl, e1 _ _ _ _ k1⟩, h1.left.mv, ⟨⟨k2.sy, e2 _ _ _ _ k2, hby.1⟩, ⟨k3.sy, e2 _ _ _ _ k3, hby.2⟩⟩, ⟨k4.sb, e3 _ _ _ _ k4⟩, k5, ⟨k6.sb, e3 _ _ _ _ k6⟩, ⟨k7.sl, e1 _ _ _ _ k7⟩⟩
theorem ON.kept {w w' : World} {B T : Nat} {a : Na} {d : Nd} (h : ON w B T a d) (hk : ∀ j, B ≤ j → j < T → w'.heap[j]? = w.heap[j]?) (hs : w.heap.size ≤ w'.heap.size) : ON w' B T a d := by
  obtain ⟨⟨h1, h2⟩, h3, h4, R, Q, h5⟩ := h
  exact ⟨⟨h1, by omega⟩, h3, h4, R, Q, h5.kept hk⟩
theorem ON.below {w w' : World} {B T X : Nat} {a : Na} {d : Nd} (h : ON w B T a d) (hb : Below X w w') (hX : T ≤ X) : ON w' B T a d := h.kept (fun j _ hj => hb.block j (by omega)) hb.size
theorem ON.wide {w : World} {B T B' T' : Nat} {a : Na} {d : Nd} (h : ON w B T a d) (hB : B' ≤ B) (hT : T ≤ T') (hw : T' ≤ w.heap.size) : ON w B' T' a d := by
  obtain ⟨⟨h1, h2⟩, h3, h4, R, Q, h5⟩ := h
  exact ⟨⟨by omega, hw⟩, h3, h4, R, Q, h5.wide hB hT⟩

/-- Rows of two types are apart. -/
theorem apt_types {w : World} {B T B' T' : Nat} {r s : Rw} (h : RwOk w B T r) (h' : RwOk w B' T' s) (hne : r.t ≠ s.t) : Apt r s := fun h1 h2 e => by
  rcases h.2 with h | ⟨g, e1, _, c, hc, _⟩
  · exact h1 h
  · rcases h'.2 with h' | ⟨g', e2, _, c', hc', _⟩
    · exact h2 h'
    · rw [e, e2] at e1
      cases e1
      rw [hc] at hc'
      simp only [Option.some.injEq, Obj.cells.injEq] at hc'
      exact hne hc'.2.1
theorem row_rt {w : World} {B T : Nat} {ao : Option Addr} {cap : Nat} {l : List Int} (h : Rt w B T ao l.length (lv l)) (hc : l.length ≤ cap) : RwOk w B T ⟨3, ao, cap, ir l⟩ :=
  RwOk.of (F := lv l) h (ir_len l) hc fun i hi => ir_get l i hi
theorem rt_row {w : World} {B T : Nat} {ao : Option Addr} {cap : Nat} {l : List Int} (h : RwOk w B T ⟨3, ao, cap, ir l⟩) : Rt w B T ao l.length (lv l) := by
  have := h.to (F := lv l) (fun i hi => by rw [show (Rw.mk 3 ao cap (ir l)).vs.length = l.length from ir_len _] at hi; exact ir_get l i hi)
  rwa [show (Rw.mk 3 ao cap (ir l)).vs.length = l.length from ir_len _] at this
theorem row_yb {w : World} {B T : Nat} {ao : Option Addr} {cap : Nat} {l : List Int} (h : Rb w B T ao l.length (bv l)) (hc : l.length ≤ cap) : RwOk w B T ⟨5, ao, cap, yr l⟩ :=
  RwOk.of (F := bv l) h (yr_len l) hc fun i hi => yr_get l i hi
theorem rb_row {w : World} {B T : Nat} {ao : Option Addr} {cap : Nat} {l : List Int} (h : RwOk w B T ⟨5, ao, cap, yr l⟩) : Rb w B T ao l.length (bv l) := by
  have := h.to (F := bv l) (fun i hi => by rw [show (Rw.mk 5 ao cap (yr l)).vs.length = l.length from yr_len _] at hi; exact yr_get l i hi)
  rwa [show (Rw.mk 5 ao cap (yr l)).vs.length = l.length from yr_len _] at this
/-- Rows of numbers in a row of slices, as rows. -/
theorem rs_or {w : World} {B T n : Nat} {bo : Option Addr} {bc : Nat} {L : Nat → List Int} {R : Nat → Option Addr × Nat} (h : OR w B T n L R) (hs : SR w B T bo n L R) (hc : n ≤ bc) : RS w B T (srows bo bc R n L) := by
  have h1 : ∀ r ∈ inner R n L, RwOk w B T r := fun r hr => by
    obtain ⟨i, hi, rfl⟩ := List.mem_map.1 hr
    obtain ⟨q1, q2, _⟩ := h i (List.mem_range.1 hi)
    exact row_rt q2 q1
  have h2 : RwOk w B T ⟨22, bo, bc, outer R n L⟩ := by
    refine ⟨by show (outer R n L).length ≤ bc; rw [outer_len]; exact hc, ?_⟩
    rcases hs with h0 | ⟨b, c, e, hb, hcc, hcs, hF⟩
    · left; subst h0; rfl
    · refine .inr ⟨b, e, hb, c, hcc, by show (outer R n L).length ≤ _; rw [outer_len]; exact hcs, fun i hi => ?_⟩
      have hi' : i < n := by rw [show (Rw.mk 22 bo bc (outer R n L)).vs.length = n from outer_len _ _ _] at hi; exact hi
      rw [hF i hi']; exact (outer_get R n L i hi').symm
  refine ⟨fun r hr => ?_, List.pairwise_cons.2 ⟨fun s hs' => apt_types h2 (h1 s hs') (by obtain ⟨i, hi, rfl⟩ := List.mem_map.1 hs'; show (22 : Nat) ≠ 3; decide), ?_⟩⟩
  · rcases List.mem_cons.1 hr with rfl | hr
    · exact h2
    · exact h1 r hr
  · refine List.pairwise_map.2 ((List.pairwise_lt_range (n := n)).imp_of_mem fun {i j} hi hj hij p1 p2 e => ?_)
    have hi' := List.mem_range.1 hi
    have hj' := List.mem_range.1 hj
    have q1 : 0 < (L i).length := by rcases Nat.eq_zero_or_pos (L i).length with h0 | h0; exact absurd (by rw [List.length_eq_zero_iff.1 h0]; rfl) p1; exact h0
    have q2 : 0 < (L j).length := by rcases Nat.eq_zero_or_pos (L j).length with h0 | h0; exact absurd (by rw [List.length_eq_zero_iff.1 h0]; rfl) p2; exact h0
    obtain ⟨_, r2, r3⟩ := h i hi'
    obtain ⟨γ, eγ, _⟩ := r2.at q1
    exact r3 γ eγ q1 j hj' (by omega) q2 (by rw [← eγ]; exact e.symm)
theorem rs_okm {w : World} {B T : Nat} {go : Option Addr} {gc : Nat} {bo : Option Addr} {bc : Nat} {g : List Int} {n : Nat} {L : Nat → List Int} (h : OKm w B T go gc bo bc g n L) : ∃ R, RS w B T (mrows go gc bo bc R g n L) := by
  obtain ⟨_, hb, R, ho, hs⟩ := h
  have h1 := rs_or ho.tail hs hb
  have h0 : RwOk w B T ⟨3, go, gc, ir g⟩ := row_rt (ho 0 (by omega)).2.1 (ho 0 (by omega)).1
  refine ⟨R, ⟨fun r hr => ?_, List.pairwise_cons.2 ⟨fun s hs' => ?_, h1.2⟩⟩⟩
  · rcases List.mem_cons.1 hr with rfl | hr
    · exact h0
    · exact h1.1 r hr
  · rcases List.mem_cons.1 hs' with rfl | hs'
    · exact apt_types h0 h1.head (show (3 : Nat) ≠ 22 by decide)
    · obtain ⟨i, hi, rfl⟩ := List.mem_map.1 hs'
      have hi' := List.mem_range.1 hi
      intro p1 p2 e
      have q1 : 0 < g.length := by rcases Nat.eq_zero_or_pos g.length with h0 | h0; exact absurd (by rw [List.length_eq_zero_iff.1 h0]; rfl) p1; exact h0
      have q2 : 0 < (L i).length := by rcases Nat.eq_zero_or_pos (L i).length with h0 | h0; exact absurd (by rw [List.length_eq_zero_iff.1 h0]; rfl) p2; exact h0
      obtain ⟨_, r2, r3⟩ := ho 0 (by omega)
      obtain ⟨γ, eγ, _⟩ := r2.at q1
      exact r3 γ eγ q1 (i + 1) (by omega) (by omega) q2 (by rw [← eγ]; exact e.symm)
theorem rs_osl {w : World} {B T : Nat} {aA : Option Addr} {cA : Nat} {aB : Option Addr} {cB : Nat} {A C : List Int} (h : OSl w B T aA cA aB cB A C) : RS w B T [⟨5, aA, cA, yr A⟩, ⟨5, aB, cB, yr C⟩] := by
  obtain ⟨_, ⟨h1, h2⟩, r1, r2, h3⟩ := h
  refine (RS.one (row_yb r1 h1)).app (RS.one (row_yb r2 h2)) fun r hr s hs p1 p2 e => ?_
  rw [List.mem_singleton.1 hr] at p1 e
  rw [List.mem_singleton.1 hs] at p2 e
  have q1 : 0 < A.length := by rcases Nat.eq_zero_or_pos A.length with h0 | h0; exact absurd (by rw [List.length_eq_zero_iff.1 h0]; rfl) p1; exact h0
  have q2 : 0 < C.length := by rcases Nat.eq_zero_or_pos C.length with h0 | h0; exact absurd (by rw [List.length_eq_zero_iff.1 h0]; rfl) p2; exact h0
  rcases r1 with r1 | ⟨γ, eγ, _⟩
  · omega
  · exact h3 γ eγ q1 q2 (by rw [← eγ]; exact e.symm)
end Go.Proofs.YtkndnndildnbpaaGreatDoor

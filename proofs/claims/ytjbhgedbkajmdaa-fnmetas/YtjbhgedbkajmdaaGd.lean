/- Messages as the laws hand them on: szMsg, toMsg, eqMsg, markMsg, heldMsg. -/
import Derived.Test.YtjbhgedbkajmdaaGc
import Derived.Laws.StructEq
import Derived.Deep.RegionHeld3

namespace Go.Proofs.Ytjbhgedbkajmdaa
open Go.ChangeShapes Go.WideShapes Go.ChangeAt Go.RowKit
set_option linter.unusedVariables false
set_option linter.unusedSimpArgs false

theorem row_set {w : World} {g n : Nat} {t : TypeId} {F : Nat → Value} (h : w.rowIs g t n F) (p : Addr) (hp : p.block ≠ g) (v : Value) : (w.setCell p v).rowIs g t n F :=
  h.of_block (by simp only [World.setCell, Array.getElem?_modify]; rw [if_neg hp])

/-- Of what was there block g alone was written. -/
def OnlyG (g : Nat) (w w' : World) : Prop := Below g w w' ∧ ∀ j, j < w.heap.size → j ≠ g → w'.heap[j]? = w.heap[j]?
theorem OnlyG.own {g n B : Nat} {w w' : World} {t : TypeId} {ao : Option Addr} {F : Nat → Value} (h : OnlyG g w w') (r : Own w B t ao n F) (hB : g < B) : Own w' B t ao n F := by
  rcases r with r | ⟨g', ea, hB', c, hc, hs, hF⟩
  · exact .inl r
  · exact .inr ⟨g', ea, hB', c, (h.2 g' (Array.getElem?_eq_some_iff.1 hc).1 (by omega)).trans hc, hs, hF⟩
theorem OnlyG.own' {g n B : Nat} {w w' : World} {t : TypeId} {ao : Option Addr} {F : Nat → Value} (h : OnlyG g w w') (r : Own w B t ao n F) (hB : ∀ g', ao = some ⟨g', 0, none⟩ → g' ≠ g) : Own w' B t ao n F := by
  rcases r with r | ⟨g', ea, hB', c, hc, hs, hF⟩
  · exact .inl r
  · exact .inr ⟨g', ea, hB', c, (h.2 g' (Array.getElem?_eq_some_iff.1 hc).1 (hB g' ea)).trans hc, hs, hF⟩

end Go.Proofs.Ytjbhgedbkajmdaa

/- A message in a block. -/
namespace Go.Proofs.Ytjbhgedbkajmdaa
open Go.ChangeShapes Go.WideShapes Go.ChangeAt Go.RowKit
set_option linter.unusedVariables false
set_option linter.unusedSimpArgs false

/-- Block g holds a message. -/
def MB (w : World) (g : Nat) (t : TypeId) (k c v d : Int) (ao : Option Addr) (n cap : Nat) : Prop :=
  w.heap[g]? = some (.cells #[.int .i64 k, .int .i64 c, .int .i64 v, .int .i64 d, .slice ao n cap] t (0, 0))
theorem MB.lt {w : World} {g : Nat} {t : TypeId} {k c v d : Int} {ao : Option Addr} {n cap : Nat} (h : MB w g t k c v d ao n cap) : g < w.heap.size := (Array.getElem?_eq_some_iff.1 h).1
theorem MB.new (w : World) (t : TypeId) (k c v d : Int) (ao : Option Addr) (n cap : Nat) : MB (w.alloc (.cells #[.int .i64 k, .int .i64 c, .int .i64 v, .int .i64 d, .slice ao n cap] t)) w.heap.size t k c v d ao n cap := Deep.blk_alloc_new _ _
theorem MB.below {w w' : World} {g B : Nat} {t : TypeId} {k c v d : Int} {ao : Option Addr} {n cap : Nat} (h : MB w g t k c v d ao n cap) (hb : Below B w w') (hg : g < B) : MB w' g t k c v d ao n cap := (hb.block g hg).trans h
theorem MB.cells {w : World} {g : Nat} {t : TypeId} {k c v d : Int} {ao : Option Addr} {n cap : Nat} (h : MB w g t k c v d ao n cap) :
    w.cell? ⟨g, 0, none⟩ = some (.int .i64 k) ∧ w.cell? ⟨g, 1, none⟩ = some (.int .i64 c) ∧ w.cell? ⟨g, 2, none⟩ = some (.int .i64 v) ∧ w.cell? ⟨g, 3, none⟩ = some (.int .i64 d) ∧ w.cell? ⟨g, 4, none⟩ = some (.slice ao n cap) :=
  ⟨blk_cell h rfl, blk_cell h rfl, blk_cell h rfl, blk_cell h rfl, blk_cell h rfl⟩
end Go.Proofs.Ytjbhgedbkajmdaa

/- MsgOk of the program: messages held against each other, generations. -/
namespace Go.Proofs.Ytjbhgedbkajmdaa
open Go.ChangeShapes Go.WideShapes Go.ChangeAt Go.RowKit
set_option linter.unusedVariables false
set_option linter.unusedSimpArgs false

theorem sindex_any (ao : Option Addr) (n cap : Nat) (f : Nat → Int) (x : Int) (w : World) (hn : n ≤ 1048576) (hs : SL .i64 w ao n f) :
    Calls Try.prog 91 #[.slice ao n cap, .int .i64 x] w fun e w' => ((∃ i : Nat, i < n ∧ f i = x ∧ e = .returned (.int .i64 i)) ∨ ((∀ i, i < n → f i ≠ x) ∧ e = .returned (.int .i64 (-1)))) ∧ w' = w := by
  have HS := hide hs
  clear hs
  go_enter Try.func91, Try.ntmps91
  go_wp2
  go_loop [5, 8] (fun _ i => ∃ k : Nat, k ≤ n ∧ i = .int .i64 k ∧ Hid (∀ j, j < k → f j ≠ x)) (fun _ i => n - (intOf i).toNat)
  case atStart => exact ⟨0, by omega, rfl, fun j hj => absurd hj (by omega)⟩
  case round =>
    obtain ⟨k, hk, rfl, A⟩ := hrel
    by_cases hlt : k < n
    · obtain ⟨b, off, rfl, hb, hc⟩ := HS.out k hlt
      generalize hy : f k = y at *
      have B := hide hy
      clear hy
      by_cases he : x = y
      · subst he
        go_wp2
        go_ret
        exact ⟨.inl ⟨k, hlt, B.out, rfl⟩, rfl⟩
      · have hd : decide (x = y) = false := by simpa using he
        go_wp2
        go_round
        case rel =>
          refine ⟨k + 1, by omega, by go_num, fun j hj => ?_⟩
          by_cases e : j = k
          · subst e; rw [B.out]; exact fun e => he e.symm
          · exact A.out j (by omega)
        case measure => simp [intOf]; omega
    · obtain rfl : k = n := by omega
      go_wp2
      go_ret
      exact ⟨.inr ⟨A.out, rfl⟩, rfl⟩
theorem scontains_yes (ao : Option Addr) (n cap : Nat) (f : Nat → Int) (x : Int) (w : World) (hn : n ≤ 1048576) (hs : SL .i64 w ao n f) (h : ∃ i, i < n ∧ f i = x) :
    Calls Try.prog 75 #[.slice ao n cap, .int .i64 x] w fun e w' => e = .returned (.bool true) ∧ w' = w := by
  have hc := hide (sindex_any ao n cap f x w hn hs)
  have H := hide h
  clear hs h
  go_enter Try.func75, Try.ntmps75
  go_wp2_with fail
  refine hc.out.mono ?_
  rintro e w' ⟨h, hw⟩
  rw [hw]
  clear hw hc
  rcases h with ⟨i, hi, _, rfl⟩ | ⟨h, _⟩
  · go_wp2
    go_ret
    exact ⟨by simp, rfl⟩
  · obtain ⟨i, hi, e⟩ := H.out
    exact absurd e (h i hi)
theorem scontains_no (ao : Option Addr) (n cap : Nat) (f : Nat → Int) (x : Int) (w : World) (hn : n ≤ 1048576) (hs : SL .i64 w ao n f) (h : ∀ i, i < n → f i ≠ x) :
    Calls Try.prog 75 #[.slice ao n cap, .int .i64 x] w fun e w' => e = .returned (.bool false) ∧ w' = w := by
  have hc := hide (sindex_any ao n cap f x w hn hs)
  have H := hide h
  clear hs h
  go_enter Try.func75, Try.ntmps75
  go_wp2_with fail
  refine hc.out.mono ?_
  rintro e w' ⟨h, hw⟩
  rw [hw]
  clear hw hc
  rcases h with ⟨i, hi, e, rfl⟩ | ⟨_, rfl⟩
  · exact absurd e (H.out i hi)
  · go_wp2
    go_ret
    exact ⟨rfl, rfl⟩
/-- Two lists of numbers that are the same. -/
def SameI (f g : Nat → Int) (n m : Nat) : Prop := n = m ∧ ∀ i, i < n → f i = g i
theorem sequal_any (ao bo : Option Addr) (n m ca cb : Nat) (f g : Nat → Int) (w : World) (hn : n ≤ 1048576) (hA : SL .i64 w ao n f) (hB : SL .i64 w bo m g) :
    Calls Try.prog 57 #[.slice ao n ca, .slice bo m cb] w fun e w' => ((SameI f g n m ∧ e = .returned (.bool true)) ∨ (¬ SameI f g n m ∧ e = .returned (.bool false))) ∧ ∃ q, w' = w.drewN q := by
  have HA := hide hA
  have HB := hide hB
  clear hA hB
  by_cases hnm : n = m
  · subst hnm
    go_enter Try.func57, Try.ntmps57
    go_wp2
    go_loopw [5, 13] (fun _ i wr => ∃ k : Nat, k ≤ n ∧ i = .int .i64 k ∧ Hid (∀ j, j < k → f j = g j) ∧ ∃ q, wr = w.drewN q) (fun _ i _ => n - (intOf i).toNat)
    case atStart => exact ⟨0, by omega, rfl, fun j hj => absurd hj (by omega), 0, rfl⟩
    case round =>
      obtain ⟨k, hk, rfl, A, q, rfl⟩ := hrel
      by_cases hlt : k < n
      · obtain ⟨b, off, rfl, hb, hc⟩ := HA.out k hlt
        obtain ⟨b', off', rfl, hb', hc'⟩ := HB.out k hlt
        generalize hy : f k = y at *
        generalize hz : g k = z at *
        have B := hide hy
        have C := hide hz
        clear hy hz
        by_cases he : y = z
        · subst he
          go_wp2
          go_quiet (fail)
          go_wp2
          go_roundw
          case rel =>
            refine ⟨k + 1, by omega, by go_num, fun j hj => ?_, _, rfl⟩
            by_cases e : j = k
            · subst e; rw [B.out, C.out]
            · exact A.out j (by omega)
          case measure => simp [intOf]; omega
        · have hd : decide (y = z) = false := by simpa using he
          have hno : Hid (¬ SameI f g n n) := fun h => he (by rw [← B.out, ← C.out]; exact h.2 k hlt)
          go_wp2
          go_quiet (fail)
          go_wp2
          go_ret
          exact ⟨.inr ⟨hno.out, rfl⟩, _, World.drewN_drewN ..⟩
      · obtain rfl : k = n := by omega
        go_wp2
        go_ret
        exact ⟨.inl ⟨⟨rfl, A.out⟩, rfl⟩, q, rfl⟩
  · have hd : ((n : Int) == (m : Int)) = false := by simp; omega
    have hd2 : decide ((n : Int) = (m : Int)) = false := by simp; omega
    have hd3 : ¬ (n : Int) = (m : Int) := by omega
    go_enter Try.func57, Try.ntmps57
    go_wp2
    go_ret
    exact ⟨.inr ⟨fun h => hnm h.1, rfl⟩, 0, rfl⟩
theorem gensok_impl (ao : Option Addr) (n cap : Nat) (f : Nat → Int) (w : World) (hn : n ≤ 1048576) (hcap : n ≤ cap) (hs : SL .i64 w ao n f) :
    Calls Try.prog 31 #[.slice ao n cap] w fun e w' => ((GOk f n ∧ e = .returned (.bool true)) ∨ (¬ GOk f n ∧ e = .returned (.bool false))) ∧ ∃ q, w' = w.drewN q := by
  have HS := hide hs
  clear hs
  by_cases h12 : n ≤ 12
  · have hd : (n : Int) ≤ 12 := by omega
    go_enter Try.func31, Try.ntmps31
    go_wp2
    go_loopw [3, 4, 10] (fun _ _ i wr => ∃ k : Nat, k ≤ n ∧ i = .int .i64 k ∧ Hid (GIn f k) ∧ ∃ q, wr = w.drewN q) (fun _ _ i _ => n - (intOf i).toNat)
    case atStart => exact ⟨0, by omega, rfl, fun j hj => absurd hj (by omega), 0, rfl⟩
    case round =>
      obtain ⟨k, hk, rfl, A, q, rfl⟩ := hrel
      by_cases hlt : k < n
      · obtain ⟨b, off, rfl, hb, hc⟩ := HS.out k hlt
        have hpre : Hid (∀ q, SL .i64 (w.drewN q) (some ⟨b, off, none⟩) k f) := fun q i hi => HS.out i (by omega)
        generalize hy : f k = y at *
        have B := hide hy
        clear hy
        have hk0 : (0 : Int) ≤ (k : Int) := by omega
        have hkn : (k : Int) ≤ (n : Int) := by omega
        have hkc : (k : Int) ≤ (cap : Int) := by omega
        by_cases h1 : y < 1 ∨ 100000 < y
        · have hbad : Hid (¬ GOk f n) := fun h => by have := (h.2 k hlt).1; rw [B.out] at this; omega
          have hdec : decide (y < 1 ∨ 100000 < y) = true := by simpa using h1
          go_wp2_with (first
            | (go_at_call 74; refine (nogen_any _ _).mono ?_; rintro e9 w9 ⟨rfl, hw9⟩; rw [hw9, hdec]; clear hw9)
            | fail)
          go_ret
          exact ⟨.inr ⟨hbad.out, rfl⟩, _, rfl⟩
        · have hdec : decide (y < 1 ∨ 100000 < y) = false := by simpa using h1
          by_cases h2 : ∃ j, j < k ∧ f j = y
          · have hbad : Hid (¬ GOk f n) := fun h => by obtain ⟨j, hj, e⟩ := h2; exact (h.2 k hlt).2 j hj (e.trans B.out.symm)
            have H2 := hide h2
            clear h2
            go_wp2_with (first
              | (go_at_call 74; refine (nogen_any _ _).mono ?_; rintro e9 w9 ⟨rfl, hw9⟩; rw [hw9, hdec]; clear hw9)
              | (go_at_call 75; refine (scontains_yes _ _ _ f _ _ (by omega) (hpre.out _) H2.out).mono ?_; rintro e9 w9 ⟨rfl, hw9⟩; rw [hw9]; clear hw9)
              | fail)
            go_ret
            exact ⟨.inr ⟨hbad.out, rfl⟩, _, rfl⟩
          · have H2 : Hid (∀ j, j < k → f j ≠ y) := fun j hj e => h2 ⟨j, hj, e⟩
            have H1 := hide h1
            clear h2 h1
            go_wp2_with (first
              | (go_at_call 74; refine (nogen_any _ _).mono ?_; rintro e9 w9 ⟨rfl, hw9⟩; rw [hw9, hdec]; clear hw9)
              | (go_at_call 75; refine (scontains_no _ _ _ f _ _ (by omega) (hpre.out _) H2.out).mono ?_; rintro e9 w9 ⟨rfl, hw9⟩; rw [hw9]; clear hw9)
              | fail)
            go_roundw
            case rel =>
              refine ⟨k + 1, by omega, by go_num, fun i hi => ?_, _, rfl⟩
              by_cases e : i = k
              · subst e; exact ⟨by rw [B.out]; have := H1.out; omega, fun j hj => by rw [B.out]; exact H2.out j hj⟩
              · exact A.out i (by omega)
            case measure => simp [intOf]; omega
      · obtain rfl : k = n := by omega
        go_wp2
        go_ret
        exact ⟨.inl ⟨⟨h12, A.out⟩, rfl⟩, q, rfl⟩
  · have hd : ¬ (n : Int) ≤ 12 := by omega
    go_enter Try.func31, Try.ntmps31
    go_wp2
    go_ret
    exact ⟨.inr ⟨fun h => h12 h.1, rfl⟩, 0, rfl⟩
theorem sequal_yes (ao bo : Option Addr) (n m ca cb : Nat) (f g : Nat → Int) (w : World) (hn : n ≤ 1048576) (hA : SL .i64 w ao n f) (hB : SL .i64 w bo m g) (h : SameI f g n m) :
    Calls Try.prog 57 #[.slice ao n ca, .slice bo m cb] w fun e w' => e = .returned (.bool true) ∧ ∃ q, w' = w.drewN q :=
  (sequal_any ao bo n m ca cb f g w hn hA hB).mono fun _ _ ⟨h1, h2⟩ => ⟨h1.elim (·.2) (fun x => absurd h x.1), h2⟩
theorem sequal_no (ao bo : Option Addr) (n m ca cb : Nat) (f g : Nat → Int) (w : World) (hn : n ≤ 1048576) (hA : SL .i64 w ao n f) (hB : SL .i64 w bo m g) (h : ¬ SameI f g n m) :
    Calls Try.prog 57 #[.slice ao n ca, .slice bo m cb] w fun e w' => e = .returned (.bool false) ∧ ∃ q, w' = w.drewN q :=
  (sequal_any ao bo n m ca cb f g w hn hA hB).mono fun _ _ ⟨h1, h2⟩ => ⟨h1.elim (fun x => absurd x.1 h) (·.2), h2⟩

end Go.Proofs.Ytjbhgedbkajmdaa

/- What is known of others: how it lies in memory, and what is one. -/
namespace Go.Proofs.Ytjbhgedbkajmdaa
open Go.ChangeShapes Go.WideShapes Go.ChangeAt Go.RowKit
set_option linter.unusedVariables false
set_option linter.unusedSimpArgs false

theorem mblk {w : World} {g i : Nat} {cs : Array Value} {t : TypeId} {fr : Nat × Nat} {v : Value} (h : w.heap[g]? = some (.cells cs t fr)) (hv : cs[i]? = some v) : w.cell? ⟨g, i, none⟩ = some v := by
  simp [World.cell?, h, hv]
/-- The first n of a slice of slices of numbers. -/
def BV (w : World) (bo : Option Addr) (n : Nat) (L : Nat → List Int) : Prop :=
  ∀ i, i < n → ∃ b off ro rc, bo = some ⟨b, off, none⟩ ∧ w.cell? ⟨b, off + i, none⟩ = some (.slice ro (L i).length rc) ∧ (L i).length ≤ rc ∧ SL .i64 w ro (L i).length (fun j => (L i).getD j 0)
theorem BV.below {w w' : World} {bo : Option Addr} {n : Nat} {L : Nat → List Int} (h : BV w bo n L) (hb : Below w.heap.size w w') : BV w' bo n L := fun i hi => by
  obtain ⟨b, off, ro, rc, e, hc, hr, hs⟩ := h i hi
  exact ⟨b, off, ro, rc, e, (hb.cell (lt_of_cell hc)).trans hc, hr, hs.below hb⟩
/-- Generations and marks. -/
def MV (w : World) (go : Option Addr) (gc : Nat) (bo : Option Addr) (bc : Nat) (g : List Int) (n : Nat) (L : Nat → List Int) : Prop :=
  (g.length ≤ gc ∧ n ≤ bc) ∧ SL .i64 w go g.length (fun i => g.getD i 0) ∧ BV w bo n L
theorem MV.below {w w' : World} {go bo : Option Addr} {gc bc n : Nat} {g : List Int} {L : Nat → List Int} (h : MV w go gc bo bc g n L) (hb : Below w.heap.size w w') : MV w' go gc bo bc g n L :=
  ⟨h.1, h.2.1.below hb, h.2.2.below hb⟩
/-- Nothing of it is too long. -/
def Bd (g : List Int) (n : Nat) (L : Nat → List Int) : Prop := g.length ≤ 1048576 ∧ n ≤ 1048576 ∧ ∀ i, i < n → (L i).length ≤ 1048576
/-- What is one. -/
def MtOk (g : List Int) (n : Nat) (L : Nat → List Int) (ol he : Bool) (la : Int) : Prop :=
  (GOk (fun i => g.getD i 0) g.length ∧ 0 < g.length) ∧ (n = 3 ∧ ∀ i, i < n → KOk (L i)) ∧ (0 ≤ la ∧ la ≤ 200) ∧ ¬ (ol = true ∧ he = true)
end Go.Proofs.Ytjbhgedbkajmdaa

/- Rows of numbers, each in memory of its own between two marks of the heap. -/
namespace Go.Proofs.Ytjbhgedbkajmdaa
open Go.ChangeShapes Go.WideShapes Go.ChangeAt Go.RowKit
set_option linter.unusedVariables false
set_option linter.unusedSimpArgs false

def Rt (w : World) (B T : Nat) (ao : Option Addr) (n : Nat) (F : Nat → Value) : Prop :=
  n = 0 ∨ ∃ g, ao = some ⟨g, 0, none⟩ ∧ (B ≤ g ∧ g < T) ∧ ∃ c : Array Value, w.heap[g]? = some (.cells c 3 (0, 0)) ∧ n ≤ c.size ∧ ∀ i, i < n → c[i]? = some (F i)
theorem Rt.own {w : World} {B T : Nat} {ao : Option Addr} {n : Nat} {F : Nat → Value} (h : Rt w B T ao n F) : Own w B 3 ao n F := by
  rcases h with h | ⟨g, e, hB, c, r⟩
  · exact .inl h
  · exact .inr ⟨g, e, hB.1, c, r⟩
theorem Rt.of {w : World} {B : Nat} {ao : Option Addr} {n : Nat} {F : Nat → Value} (h : Own w B 3 ao n F) : Rt w B w.heap.size ao n F := by
  rcases h with h | ⟨g, e, hB, c, hc, r⟩
  · exact .inl h
  · exact .inr ⟨g, e, ⟨hB, (Array.getElem?_eq_some_iff.1 hc).1⟩, c, hc, r⟩
theorem Rt.kept {w w' : World} {B T : Nat} {ao : Option Addr} {n : Nat} {F : Nat → Value} (h : Rt w B T ao n F) (hk : ∀ j, B ≤ j → j < T → w'.heap[j]? = w.heap[j]?) : Rt w' B T ao n F := by
  rcases h with h | ⟨g, e, hB, c, hc, r⟩
  · exact .inl h
  · exact .inr ⟨g, e, hB, c, (hk g hB.1 hB.2).trans hc, r⟩
theorem Rt.wide {w : World} {B T B' T' : Nat} {ao : Option Addr} {n : Nat} {F : Nat → Value} (h : Rt w B T ao n F) (hB : B' ≤ B) (hT : T ≤ T') : Rt w B' T' ao n F := by
  rcases h with h | ⟨g, e, hg, r⟩
  · exact .inl h
  · exact .inr ⟨g, e, by omega, r⟩
theorem Rt.congr {w : World} {B T : Nat} {ao : Option Addr} {n : Nat} {F G : Nat → Value} (h : Rt w B T ao n F) (e : ∀ i, i < n → F i = G i) : Rt w B T ao n G := by
  rcases h with h | ⟨g, ea, hB, c, hc, hs, hF⟩
  · exact .inl h
  · exact .inr ⟨g, ea, hB, c, hc, hs, fun i hi => by rw [hF i hi, e i hi]⟩
theorem Rt.at {w : World} {B T : Nat} {ao : Option Addr} {n : Nat} {F : Nat → Value} (h : Rt w B T ao n F) (hn : 0 < n) : ∃ g, ao = some ⟨g, 0, none⟩ ∧ B ≤ g ∧ g < T := by
  rcases h with h | ⟨g, e, hg, _⟩
  · omega
  · exact ⟨g, e, hg.1, hg.2⟩

/-- The numbers of a row. -/
def lv (l : List Int) (j : Nat) : Value := .int .i64 (l.getD j 0)
def OR (w : World) (B T n : Nat) (L : Nat → List Int) (R : Nat → Option Addr × Nat) : Prop :=
  ∀ i, i < n → (L i).length ≤ (R i).2 ∧ Rt w B T (R i).1 (L i).length (lv (L i)) ∧
    ∀ γ, (R i).1 = some ⟨γ, 0, none⟩ → 0 < (L i).length → ∀ j, j < n → j ≠ i → 0 < (L j).length → (R j).1 ≠ some ⟨γ, 0, none⟩
theorem OR.kept {w w' : World} {B T n : Nat} {L : Nat → List Int} {R : Nat → Option Addr × Nat} (h : OR w B T n L R) (hk : ∀ j, B ≤ j → j < T → w'.heap[j]? = w.heap[j]?) : OR w' B T n L R := fun i hi =>
  ⟨(h i hi).1, (h i hi).2.1.kept hk, (h i hi).2.2⟩
theorem OR.wide {w : World} {B T B' T' n : Nat} {L : Nat → List Int} {R : Nat → Option Addr × Nat} (h : OR w B T n L R) (hB : B' ≤ B) (hT : T ≤ T') : OR w B' T' n L R := fun i hi =>
  ⟨(h i hi).1, (h i hi).2.1.wide hB hT, (h i hi).2.2⟩
theorem OR.nil {w : World} {B T : Nat} {L : Nat → List Int} {R : Nat → Option Addr × Nat} : OR w B T 0 L R := fun i hi => absurd hi (Nat.not_lt_zero _)
theorem OR.sl {w : World} {B T n : Nat} {L : Nat → List Int} {R : Nat → Option Addr × Nat} (h : OR w B T n L R) {i : Nat} (hi : i < n) : SL .i64 w (R i).1 (L i).length (fun j => (L i).getD j 0) :=
  (h i hi).2.1.own.sl
def setr (R : Nat → Option Addr × Nat) (j : Nat) (r : Option Addr × Nat) (i : Nat) : Option Addr × Nat := if i = j then r else R i
theorem setr_at (R : Nat → Option Addr × Nat) (j : Nat) (r : Option Addr × Nat) : setr R j r j = r := if_pos rfl
theorem setr_ne (R : Nat → Option Addr × Nat) (j : Nat) (r : Option Addr × Nat) {i : Nat} (h : i ≠ j) : setr R j r i = R i := if_neg h
/-- One more row, behind T. -/
theorem OR.push {w : World} {B T T' n : Nat} {L : Nat → List Int} {R : Nat → Option Addr × Nat} {r : Option Addr × Nat} (h : OR w B T n L R) (hB : B ≤ T) (hT : T ≤ T') (hr : (L n).length ≤ r.2) (hR : Rt w T T' r.1 (L n).length (lv (L n))) : OR w B T' (n + 1) L (setr R n r) := by
  intro i hi
  by_cases e : i = n
  · subst e
    rw [setr_at]
    refine ⟨hr, hR.wide hB (Nat.le_refl _), fun γ eγ hp j hj hne hpj => ?_⟩
    rw [setr_ne _ _ _ hne]
    intro e2
    obtain ⟨g, e3, h3, h4⟩ := hR.at hp
    obtain ⟨g', e5, h5, h6⟩ := (h j (by omega)).2.1.at hpj
    rw [eγ] at e3
    rw [e2] at e5
    cases e3; cases e5
    omega
  · rw [setr_ne _ _ _ e]
    obtain ⟨h1, h2, h3⟩ := h i (by omega)
    refine ⟨h1, h2.wide (Nat.le_refl _) hT, fun γ eγ hp j hj hne hpj => ?_⟩
    by_cases ej : j = n
    · subst ej
      rw [setr_at]
      intro e2
      obtain ⟨g, e3, h3, h4⟩ := hR.at hpj
      obtain ⟨g', e5, h5, h6⟩ := h2.at hp
      rw [e2] at e3
      rw [eγ] at e5
      cases e3; cases e5
      omega
    · rw [setr_ne _ _ _ ej]
      exact h3 γ eγ hp j (by omega) hne hpj
/-- A row ahead of all. -/
def rows (g : List Int) (L : Nat → List Int) : Nat → List Int
  | 0 => g
  | i + 1 => L i
def rws (r : Option Addr × Nat) (R : Nat → Option Addr × Nat) : Nat → Option Addr × Nat
  | 0 => r
  | i + 1 => R i
theorem OR.cons {w : World} {B T T' n : Nat} {g : List Int} {L : Nat → List Int} {R : Nat → Option Addr × Nat} {r : Option Addr × Nat} (h : OR w T T' n L R) (hB : B ≤ T) (hT : T ≤ T') (hr : g.length ≤ r.2) (hR : Rt w B T r.1 g.length (lv g)) : OR w B T' (n + 1) (rows g L) (rws r R) := by
  intro i hi
  match i, hi with
  | 0, _ =>
    refine ⟨hr, hR.wide (Nat.le_refl _) hT, fun γ eγ hp j hj hne hpj => ?_⟩
    match j, hj, hne, hpj with
    | j + 1, hj, _, hpj =>
      intro e2
      obtain ⟨a, e3, h3, h4⟩ := hR.at hp
      obtain ⟨a', e5, h5, h6⟩ := (h j (by omega)).2.1.at hpj
      have e2' : (R j).1 = some ⟨γ, 0, none⟩ := e2
      have eγ' : r.1 = some ⟨γ, 0, none⟩ := eγ
      rw [eγ'] at e3
      rw [e2'] at e5
      cases e3; cases e5
      omega
  | i + 1, hi =>
    obtain ⟨h1, h2, h3⟩ := h i (by omega)
    refine ⟨h1, h2.wide hB (Nat.le_refl _), fun γ eγ hp j hj hne hpj => ?_⟩
    match j, hj, hne, hpj with
    | 0, _, _, hpj =>
      intro e2
      obtain ⟨a, e3, h3, h4⟩ := hR.at hpj
      obtain ⟨a', e5, h5, h6⟩ := h2.at hp
      have e2' : r.1 = some ⟨γ, 0, none⟩ := e2
      have eγ' : (R i).1 = some ⟨γ, 0, none⟩ := eγ
      rw [e2'] at e3
      rw [eγ'] at e5
      cases e3; cases e5
      omega
    | j + 1, hj, hne, hpj => exact h3 γ eγ hp j (by omega) (by omega) hpj
theorem OR.congr {w : World} {B T n : Nat} {L L' : Nat → List Int} {R : Nat → Option Addr × Nat} (h : OR w B T n L R) (e : ∀ i, i < n → L i = L' i) : OR w B T n L' R := by
  intro i hi
  obtain ⟨h1, h2, h3⟩ := h i hi
  rw [← e i hi]
  exact ⟨h1, h2, fun γ eγ hp j hj hne hpj => h3 γ eγ hp j hj hne (by rw [e j hj]; exact hpj)⟩

/-- Running numbers. -/
def mkl (k : Int) (n : Nat) : List Int := (List.range n).map (fun t : Nat => k + (t : Int))
theorem mkl_len (k : Int) (n : Nat) : (mkl k n).length = n := by simp [mkl]
theorem mkl_get (k : Int) (n t : Nat) (h : t < n) : (mkl k n).getD t 0 = k + t := by simp [mkl, List.getD, h]
/-- A row written anew. -/
theorem OR.mark {w w' : World} {B T n j : Nat} {k : Int} {L : Nat → List Int} {R : Nat → Option Addr × Nat} (h : OR w B T n L R) (hj : j < n)
    (hw : ((L j).length = 0 ∧ w' = w) ∨ ∃ γ, (R j).1 = some ⟨γ, 0, none⟩ ∧ 0 < (L j).length ∧ Only γ w w' ∧ Rt w' B T (R j).1 (L j).length (fun t => .int .i64 (k + t))) :
    OR w' B T n (fun i => if i = j then mkl k (L j).length else L i) R := by
  have hlen : ∀ i, (if i = j then mkl k (L j).length else L i).length = (L i).length := fun i => by
    by_cases e : i = j
    · subst e; rw [if_pos rfl, mkl_len]
    · rw [if_neg e]
  intro i hi
  obtain ⟨h1, h2, h3⟩ := h i hi
  refine ⟨by rw [hlen]; exact h1, ?_, fun γ eγ hp t ht hne hpt => h3 γ eγ (by rw [hlen] at hp; exact hp) t ht hne (by rw [hlen] at hpt; exact hpt)⟩
  show Rt w' B T (R i).1 (if i = j then mkl k (L j).length else L i).length (lv (if i = j then mkl k (L j).length else L i))
  rw [hlen]
  rcases hw with ⟨h0, rfl⟩ | ⟨γ, eγ, hp, ho, hr⟩
  · by_cases e : i = j
    · subst e; exact .inl h0
    · rw [if_neg e]; exact h2
  · by_cases e : i = j
    · subst e
      rw [if_pos rfl]
      exact hr.congr fun t ht => by show _ = Value.int .i64 _; rw [mkl_get _ _ _ ht]
    · rw [if_neg e]
      rcases h2 with h2 | ⟨γ', e', hg', c, hc, hs, hF⟩
      · exact .inl h2
      · by_cases h0 : (L i).length = 0
        · exact .inl h0
        · exact .inr ⟨γ', e', hg', c, (ho.2.2 γ' (fun e2 => (h j hj).2.2 γ eγ hp i hi e (by omega) (by rw [e', e2]))).trans hc, hs, hF⟩

/-- How many numbers stand ahead of row i. -/
def psum (L : Nat → List Int) : Nat → Nat
  | 0 => 0
  | i + 1 => psum L i + (L i).length
theorem psum_le (L : Nat → List Int) (i n : Nat) (h : i ≤ n) : psum L i ≤ psum L n := by
  induction n with
  | zero => obtain rfl : i = 0 := by omega
            exact Nat.le_refl _
  | succ n ih =>
    by_cases e : i = n + 1
    · subst e; exact Nat.le_refl _
    · have := ih (by omega); simp only [psum]; omega
theorem psum_one (L : Nat → List Int) (i n : Nat) (h : i < n) : psum L i + (L i).length ≤ psum L n := psum_le L (i + 1) n h
theorem psum_rows (g : List Int) (L : Nat → List Int) (n : Nat) : psum (rows g L) (n + 1) = g.length + psum L n := by
  induction n with
  | zero => simp [psum, rows]
  | succ n ih => rw [psum, ih]; simp only [psum, rows]; omega
/-- The first j rows marked from k on. -/
def mrk (L : Nat → List Int) (k : Int) (j i : Nat) : List Int := if i < j then mkl (k + psum L i) (L i).length else L i
theorem mrk_len (L : Nat → List Int) (k : Int) (j i : Nat) : (mrk L k j i).length = (L i).length := by
  unfold mrk; split
  · rw [mkl_len]
  · rfl
theorem mrk_zero (L : Nat → List Int) (k : Int) : mrk L k 0 = L := by funext i; simp [mrk]
theorem mrk_step (L : Nat → List Int) (k : Int) (j : Nat) : (fun i => if i = j then mkl (k + psum L j) (mrk L k j j).length else mrk L k j i) = mrk L k (j + 1) := by
  funext i
  by_cases e : i = j
  · subst e; rw [if_pos rfl, mrk_len]; unfold mrk; rw [if_pos (by omega)]
  · rw [if_neg e]; unfold mrk
    by_cases e2 : i < j
    · rw [if_pos e2, if_pos (by omega)]
    · rw [if_neg e2, if_neg (by omega)]

/-- Slices of numbers in a row of slices. -/
def SR (w : World) (B T : Nat) (bo : Option Addr) (n : Nat) (L : Nat → List Int) (R : Nat → Option Addr × Nat) : Prop :=
  n = 0 ∨ ∃ h c, bo = some ⟨h, 0, none⟩ ∧ (B ≤ h ∧ h < T) ∧ w.heap[h]? = some (.cells c 24 (0, 0)) ∧ n ≤ c.size ∧ ∀ i, i < n → c[i]? = some (.slice (R i).1 (L i).length (R i).2)
theorem SR.kept {w w' : World} {B T n : Nat} {bo : Option Addr} {L : Nat → List Int} {R : Nat → Option Addr × Nat} (h : SR w B T bo n L R) (hk : ∀ j, B ≤ j → j < T → w'.heap[j]? = w.heap[j]?) : SR w' B T bo n L R := by
  rcases h with h | ⟨b, c, e, hb, hc, r⟩
  · exact .inl h
  · exact .inr ⟨b, c, e, hb, (hk b hb.1 hb.2).trans hc, r⟩
theorem SR.wide {w : World} {B T B' T' n : Nat} {bo : Option Addr} {L : Nat → List Int} {R : Nat → Option Addr × Nat} (h : SR w B T bo n L R) (hB : B' ≤ B) (hT : T ≤ T') : SR w B' T' bo n L R := by
  rcases h with h | ⟨b, c, e, hb, r⟩
  · exact .inl h
  · exact .inr ⟨b, c, e, by omega, r⟩
theorem SR.lens {w : World} {B T n : Nat} {bo : Option Addr} {L L' : Nat → List Int} {R : Nat → Option Addr × Nat} (h : SR w B T bo n L R) (e : ∀ i, i < n → (L i).length = (L' i).length) : SR w B T bo n L' R := by
  rcases h with h | ⟨b, c, e', hb, hc, hs, hF⟩
  · exact .inl h
  · exact .inr ⟨b, c, e', hb, hc, hs, fun i hi => by rw [hF i hi, e i hi]⟩
/-- A row of numbers is no row of slices: what writes one alone leaves the other. -/
theorem SR.only {w w' : World} {B T n γ : Nat} {bo : Option Addr} {L : Nat → List Int} {R : Nat → Option Addr × Nat} {c3 : Array Value} (h : SR w B T bo n L R) (hγ : w.heap[γ]? = some (.cells c3 3 (0, 0))) (ho : Only γ w w') : SR w' B T bo n L R := by
  rcases h with h | ⟨b, c, e, hb, hc, r⟩
  · exact .inl h
  · refine .inr ⟨b, c, e, hb, (ho.2.2 b (fun e2 => ?_)).trans hc, r⟩
    subst e2
    rw [hγ] at hc
    simp at hc
theorem bv_of {w : World} {B T B' T' n : Nat} {bo : Option Addr} {L : Nat → List Int} {R : Nat → Option Addr × Nat} (h : SR w B T bo n L R) (ho : OR w B' T' n L R) : BV w bo n L := by
  intro i hi
  rcases h with h | ⟨b, c, e, hb, hc, hs, hF⟩
  · omega
  · exact ⟨b, 0, (R i).1, (R i).2, e, by simp only [World.cell?, hc, Nat.zero_add]; exact hF i hi, (ho i hi).1, ho.sl hi⟩

/-- What is known, in memory of its own. -/
def OKm (w : World) (B T : Nat) (go : Option Addr) (gc : Nat) (bo : Option Addr) (bc : Nat) (g : List Int) (n : Nat) (L : Nat → List Int) : Prop :=
  (B ≤ T ∧ T ≤ w.heap.size) ∧ n ≤ bc ∧ ∃ R, OR w B T (n + 1) (rows g L) (rws (go, gc) R) ∧ SR w B T bo n L R
theorem OR.tail {w : World} {B T n : Nat} {g : List Int} {L : Nat → List Int} {r : Option Addr × Nat} {R : Nat → Option Addr × Nat} (h : OR w B T (n + 1) (rows g L) (rws r R)) : OR w B T n L R := fun i hi => by
  obtain ⟨h1, h2, h3⟩ := h (i + 1) (by omega)
  exact ⟨h1, h2, fun γ e hp j hj hne hpj => h3 γ e hp (j + 1) (by omega) (by omega) hpj⟩
theorem OKm.mv {w : World} {B T : Nat} {go : Option Addr} {gc : Nat} {bo : Option Addr} {bc : Nat} {g : List Int} {n : Nat} {L : Nat → List Int} (h : OKm w B T go gc bo bc g n L) : MV w go gc bo bc g n L := by
  obtain ⟨_, hb, R, ho, hs⟩ := h
  exact ⟨⟨(ho 0 (by omega)).1, hb⟩, ho.sl (i := 0) (by omega), bv_of hs ho.tail⟩
theorem OKm.kept {w w' : World} {B T : Nat} {go : Option Addr} {gc : Nat} {bo : Option Addr} {bc : Nat} {g : List Int} {n : Nat} {L : Nat → List Int} (h : OKm w B T go gc bo bc g n L) (hk : ∀ j, B ≤ j → j < T → w'.heap[j]? = w.heap[j]?) (hs : w.heap.size ≤ w'.heap.size) : OKm w' B T go gc bo bc g n L := by
  obtain ⟨⟨hB, hT⟩, hb, R, ho, hs'⟩ := h
  exact ⟨⟨hB, by omega⟩, hb, R, ho.kept hk, hs'.kept hk⟩
theorem OKm.below {w w' : World} {B T X : Nat} {go : Option Addr} {gc : Nat} {bo : Option Addr} {bc : Nat} {g : List Int} {n : Nat} {L : Nat → List Int} (h : OKm w B T go gc bo bc g n L) (hb : Below X w w') (hX : T ≤ X) : OKm w' B T go gc bo bc g n L :=
  h.kept (fun j _ hj => hb.block j (by omega)) hb.size
theorem OKm.wide {w : World} {B T B' : Nat} {go : Option Addr} {gc : Nat} {bo : Option Addr} {bc : Nat} {g : List Int} {n : Nat} {L : Nat → List Int} (h : OKm w B T go gc bo bc g n L) (hB : B' ≤ B) : OKm w B' T go gc bo bc g n L := by
  obtain ⟨⟨h1, hT⟩, hb, R, ho, hs'⟩ := h
  exact ⟨⟨by omega, hT⟩, hb, R, ho.wide hB (Nat.le_refl _), hs'.wide hB (Nat.le_refl _)⟩
end Go.Proofs.Ytjbhgedbkajmdaa

/- What is known, as the laws hand it on. -/
namespace Go.Proofs.Ytjbhgedbkajmdaa
open Go.ChangeShapes Go.WideShapes Go.ChangeAt Go.RowKit
set_option linter.unusedVariables false
set_option linter.unusedSimpArgs false
set_option maxRecDepth 100000

/-- How much is left, or that it is too much. -/
def Sz (tot x : Int) (e : Ending) : Prop := (tot ≤ x ∧ e = .returned (.int .i64 (x - tot))) ∨ e = .returned (.int .i64 (-1))
theorem Sz.yes {tot x y : Int} (h : tot ≤ x) (hy : y = x - tot) : Sz tot x (.returned (.int .i64 y)) := .inl ⟨h, by rw [hy]⟩
theorem Sz.no {tot x : Int} : Sz tot x (.returned (.int .i64 (-1))) := .inr rfl

end Go.Proofs.Ytjbhgedbkajmdaa

/- What is known, copied and held against another one. -/
namespace Go.Proofs.Ytjbhgedbkajmdaa
open Go.ChangeShapes Go.WideShapes Go.ChangeAt Go.RowKit
set_option linter.unusedVariables false
set_option linter.unusedSimpArgs false
set_option maxRecDepth 100000

theorem Try.infoSl : (Try.prog.info? 24).map (fun i => (i.zero, i.size, i.bytes)) = some (some (.slice none 0 0), 1, 24) := by kernel_rfl
theorem al2 (w : World) (o1 o2 : Obj) : ((w.alloc o1).alloc o2).heap[w.heap.size]? = some o1 ∧ ((w.alloc o1).alloc o2).heap[w.heap.size + 1]? = some o2 ∧ ((w.alloc o1).alloc o2).heap.size = w.heap.size + 1 + 1 := by
  have e : ∀ (w : World) (o : Obj), (w.alloc o).heap = w.heap.push o := fun _ _ => rfl
  refine ⟨?_, ?_, ?_⟩
  · simp only [e, Array.getElem?_push, Array.size_push]
    rw [if_neg (by omega), if_pos trivial]
  · simp only [e, Array.getElem?_push, Array.size_push]
    rw [if_pos trivial]
  · simp only [e, Array.size_push]
theorem hfar {w : World} {R g j : Nat} (h : ¬ g = R) (v : Value) : (w.setCell ⟨R, j, none⟩ v).heap[g]? = w.heap[g]? := by
  simp only [World.setCell, Array.getElem?_modify]; rw [if_neg (fun e => h e.symm)]
theorem sblk {w : World} {g o : Nat} {x : Array Value} {t : TypeId} (v : Value) (h : w.heap[g]? = some (.cells x t (0, 0))) : (w.setCell ⟨g, o, none⟩ v).heap[g]? = some (.cells (x.setIfInBounds o v) t (0, 0)) := by
  simp [World.setCell, Array.getElem?_modify, h]

end Go.Proofs.Ytjbhgedbkajmdaa

/- What is known, copied into memory of its own. -/
namespace Go.Proofs.Ytjbhgedbkajmdaa
open Go.ChangeShapes Go.WideShapes Go.ChangeAt Go.RowKit
set_option linter.unusedVariables false
set_option linter.unusedSimpArgs false
set_option maxRecDepth 100000

theorem bal3 (w : World) (o1 o2 o3 : Obj) : (((w.alloc o1).alloc o2).alloc o3).heap[w.heap.size]? = some o1 ∧ (((w.alloc o1).alloc o2).alloc o3).heap[w.heap.size + 1]? = some o2 ∧ (((w.alloc o1).alloc o2).alloc o3).heap[w.heap.size + 1 + 1]? = some o3 ∧ (((w.alloc o1).alloc o2).alloc o3).heap.size = w.heap.size + 1 + 1 + 1 := by
  have e : ∀ (w : World) (o : Obj), (w.alloc o).heap = w.heap.push o := fun _ _ => rfl
  refine ⟨?_, ?_, ?_, ?_⟩
  · simp only [e, Array.getElem?_push, Array.size_push]
    rw [if_neg (by omega), if_neg (by omega), if_pos trivial]
  · simp only [e, Array.getElem?_push, Array.size_push]
    rw [if_neg (by omega), if_pos trivial]
  · simp only [e, Array.getElem?_push, Array.size_push]
    rw [if_pos trivial]
  · simp only [e, Array.size_push]
end Go.Proofs.Ytjbhgedbkajmdaa

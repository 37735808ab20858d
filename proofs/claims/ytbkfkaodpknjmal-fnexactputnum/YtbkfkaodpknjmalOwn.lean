/- Memory that a call made itself and handed back: markByteS writes a running number into it, heldByteS finds it there. -/
import Derived.Test.YtbkfkaodpknjmalBase
namespace Go.Proofs.Ytbkfkaodpknjmal
open Go.ChangeShapes Go.WideShapes Go.ChangeAt Go.RowKit

/-- A slice of n cells that lies at the head of a block from B on, which may be written; cell i holds F i. -/
def Own (w : World) (B : Nat) (t : TypeId) (ao : Option Addr) (n : Nat) (F : Nat → Value) : Prop :=
  n = 0 ∨ ∃ g, ao = some ⟨g, 0, none⟩ ∧ B ≤ g ∧ ∃ c : Array Value, w.heap[g]? = some (.cells c t (0, 0)) ∧ n ≤ c.size ∧ ∀ i, i < n → c[i]? = some (F i)

theorem Own.at {w : World} {B : Nat} {t : TypeId} {ao : Option Addr} {n : Nat} {F : Nat → Value} (h : Own w B t ao n F) {i : Nat} (hi : i < n) :
    ∃ g, ao = some ⟨g, 0, none⟩ ∧ B ≤ g ∧ g < w.heap.size ∧ w.cell? ⟨g, i, none⟩ = some (F i) ∧ w.frozen? ⟨g, i, none⟩ = false := by
  rcases h with rfl | ⟨g, e, hB, c, hc, hs, hF⟩
  · omega
  · exact ⟨g, e, hB, (Array.getElem?_eq_some_iff.1 hc).1, by simp [World.cell?, hc, hF i hi], by simp [World.frozen?, hc]⟩

theorem Own.congr {w : World} {B : Nat} {t : TypeId} {ao : Option Addr} {n : Nat} {F G : Nat → Value} (h : Own w B t ao n F) (e : ∀ i, i < n → F i = G i) : Own w B t ao n G := by
  rcases h with h | ⟨g, ea, hB, c, hc, hs, hF⟩
  · exact .inl h
  · exact .inr ⟨g, ea, hB, c, hc, hs, fun i hi => by rw [hF i hi, e i hi]⟩

theorem Own.set {w : World} {B : Nat} {t : TypeId} {g n : Nat} {F : Nat → Value} (h : Own w B t (some ⟨g, 0, none⟩) n F) (i : Nat) (v : Value) :
    Own (w.setCell ⟨g, i, none⟩ v) B t (some ⟨g, 0, none⟩) n (fun j => if j = i then v else F j) := by
  rcases h with h | ⟨g', ea, hB, c, hc, hs, hF⟩
  · exact .inl h
  · simp at ea
    subst ea
    refine .inr ⟨g, rfl, hB, c.setIfInBounds i v, ?_, by simpa using hs, fun j hj => ?_⟩
    · simp [World.setCell, Array.getElem?_modify, hc]
    · show (c.setIfInBounds i v)[j]? = some (if j = i then v else F j)
      rw [Array.getElem?_setIfInBounds]
      by_cases e : j = i
      · subst e
        rw [if_pos rfl, if_pos rfl, if_pos (by omega)]
      · rw [if_neg (fun h => e h.symm), if_neg e]
        exact hF j hj

theorem Own.below {w w' : World} {B : Nat} {t : TypeId} {ao : Option Addr} {n : Nat} {F : Nat → Value} (h : Own w B t ao n F) (hb : Below w.heap.size w w') : Own w' B t ao n F := by
  rcases h with h | ⟨g, ea, hB, c, hc, hs, hF⟩
  · exact .inl h
  · exact .inr ⟨g, ea, hB, c, (hb.block g (Array.getElem?_eq_some_iff.1 hc).1).trans hc, hs, hF⟩

theorem Own.drawn {w : World} {B : Nat} {t : TypeId} {ao : Option Addr} {n : Nat} {F : Nat → Value} (h : Own w B t ao n F) (q : Nat) : Own (w.drewN q) B t ao n F := h

theorem Own.sl {w : World} {B : Nat} {t : TypeId} {ao : Option Addr} {n : Nat} {k : IntKind} {f : Nat → Int} (h : Own w B t ao n (fun i => .int k (f i))) : SL k w ao n f := by
  intro i hi
  obtain ⟨g, e, _, hlt, hc, _⟩ := h.at hi
  exact ⟨g, 0, e, hlt, by simpa using hc⟩

theorem Own.of_row {w : World} {B g n : Nat} {t : TypeId} {F : Nat → Value} (h : w.rowIs g t n F) (hB : B ≤ g) : Own w B t (some ⟨g, 0, none⟩) n F := by
  obtain ⟨c, hc, hn, hF⟩ := h
  exact .inr ⟨g, rfl, hB, c, hc, by omega, hF⟩

/-- What append has built. -/
theorem Own.of_owns {w : World} {B : Nat} {t : TypeId} {v : Value} {n : Nat} {k : IntKind} {L : List Int} (h : w.ownsRow B t 1 v n (L.map (.int k))) :
    ∃ ao cap, v = .slice ao n cap ∧ n = L.length ∧ Own w B t ao n (fun i => .int k (L.getD i 0)) := by
  obtain ⟨hl, h⟩ := h
  have hl' : L.length = n := by simpa using hl
  rcases h with ⟨rfl, rfl⟩ | ⟨g, cap, cur, rfl, hB, hc, hn, hm, hs, ht⟩
  · exact ⟨none, 0, rfl, hl'.symm, .inl rfl⟩
  · refine ⟨_, cap, rfl, hl'.symm, .inr ⟨g, rfl, hB, cur, hc, by omega, fun i hi => ?_⟩⟩
    have e : (cur.toList.take (n * 1))[i]? = (L.map (Value.int k))[i]? := by rw [ht]
    rw [List.getElem?_take, if_pos (by omega)] at e
    have hi' : i < L.length := by omega
    simpa [List.getD, hi'] using e

theorem mark_step {wr : World} {B g n k : Nat} {k0 : Int} {t : TypeId} {F : Nat → Value} (h : Own wr B t (some ⟨g, 0, none⟩) n (fun j => if j < k then .int .u8 ((k0 + j) % 256) else F j)) :
    Own (wr.setCell ⟨g, k, none⟩ (.int .u8 ((k0 + k) % 256))) B t (some ⟨g, 0, none⟩) n (fun j => if j < k + 1 then .int .u8 ((k0 + j) % 256) else F j) := by
  refine (h.set k _).congr fun j hj => ?_
  by_cases e : j = k
  · subst e; simp
  · simp only [if_neg e]
    by_cases e2 : j < k
    · rw [if_pos e2, if_pos (by omega)]
    · rw [if_neg e2, if_neg (by omega)]

theorem mark_any (ao : Option Addr) (n cap B : Nat) (k0 : Int) (F : Nat → Value) (w : World) (hn : n ≤ 1048576) (h0 : 0 ≤ k0) (h1 : k0 ≤ 1099511627776) (ho : Own w B 5 ao n F) :
    Calls Try.prog 9 #[.slice ao n cap, .int .i64 k0] w fun e w' => e = .returned (.int .i64 (k0 + n)) ∧ Own w' B 5 ao n (fun j => .int .u8 ((k0 + j) % 256)) ∧ Below B w w' := by
  go_enter Try.func9, Try.ntmps9
  go_wp2
  go_loopw [1, 5] (fun m i wr => ∃ k : Nat, k ≤ n ∧ i = .int .i64 k ∧ m = .int .i64 (k0 + k) ∧ Own wr B 5 ao n (fun j => if j < k then .int .u8 ((k0 + j) % 256) else F j) ∧ Below B w wr) (fun _ i _ => n - (intOf i).toNat)
  case atStart => exact ⟨0, Nat.zero_le _, rfl, by simp, ho.congr (by intro i _; simp), Below.refl _ _⟩
  case round =>
    obtain ⟨k, hk, rfl, rfl, hrow, hbel⟩ := hrel
    by_cases hlt : k < n
    · obtain ⟨g, rfl, hB, hg, hc, hf⟩ := hrow.at hlt
      have R := mark_step hrow
      have R2 := hbel.setCell (p := ⟨g, k, none⟩) hB (.int .u8 ((k0 + k) % 256))
      clear hrow ho
      go_wp2
      go_roundw
      case rel => exact ⟨k + 1, by omega, by go_num, by go_num, R, R2⟩
      case measure => simp [intOf]; omega
    · have hkn : k = n := by omega
      subst hkn
      go_wp2
      go_ret
      exact ⟨rfl, hrow.congr (by intro i hi; rw [if_pos (by omega)]), hbel⟩

theorem held_any (ao : Option Addr) (n cap : Nat) (k0 : Int) (w : World) (hn : n ≤ 1048576) (h0 : 0 ≤ k0) (h1 : k0 ≤ 1099511627776) (hs : SL .u8 w ao n (fun j => (k0 + j) % 256)) :
    Calls Try.prog 10 #[.slice ao n cap, .int .i64 k0] w fun e w' => e = .returned (.int .i64 (k0 + n)) ∧ w' = w := by
  go_enter Try.func10, Try.ntmps10
  go_wp2
  go_loop [1, 5] (fun m i => ∃ k : Nat, k ≤ n ∧ i = .int .i64 k ∧ m = .int .i64 (k0 + k)) (fun _ i => n - (intOf i).toNat)
  case atStart => exact ⟨0, Nat.zero_le _, rfl, by simp⟩
  case round =>
    obtain ⟨k, hk, rfl, rfl⟩ := hrel
    by_cases hlt : k < n
    · obtain ⟨b, off, rfl, hb, hc⟩ := hs k hlt
      clear hs
      go_wp2
      go_round
      case rel => exact ⟨k + 1, by omega, by go_num, by go_num⟩
      case measure => simp [intOf]; omega
    · have hkn : k = n := by omega
      subst hkn
      go_wp2
      go_ret
      exact ⟨rfl, rfl⟩
end Go.Proofs.Ytbkfkaodpknjmal

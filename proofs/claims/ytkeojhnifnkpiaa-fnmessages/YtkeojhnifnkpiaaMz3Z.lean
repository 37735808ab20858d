/- What the law of messages asks at its end: bytes cut out, a pack unpacked again, a message read again, and cut short. -/
import Derived.Test.YtkeojhnifnkpiaaMz2Z

namespace Go.Proofs.Ytkeojhnifnkpiaa
open Go.ChangeShapes Go.WideShapes Go.ChangeAt Go.RowKit
set_option linter.unusedVariables false
set_option linter.unusedSimpArgs false
set_option maxRecDepth 100000

theorem VB.cut {W : World} {xo : Option Addr} {xc kk : Nat} {L M : List Int} (h : VB W xo L) (hc : L.length ≤ xc) (hl : kk + M.length ≤ L.length) (he : (L.drop kk).take M.length = M) : VB W (if xc = kk then xo else Option.map (fun x => x.add kk) xo) M := fun i hi => by
  obtain ⟨b, off, rfl, hb, hcell⟩ := h (kk + i) (by omega)
  rw [if_neg (by omega)]
  refine ⟨b, off + kk, by simp [Addr.add], hb, ?_⟩
  rw [Nat.add_assoc, hcell]
  have h1 : M.getD i 0 = L.getD (kk + i) 0 := by
    conv => lhs; rw [← he]
    simp only [List.getD, List.getElem?_take, if_pos hi, List.getElem?_drop]
  dsimp only
  rw [h1]
theorem VB.short {W : World} {xo : Option Addr} {L : List Int} {n : Nat} (h : VB W xo L) (hl : n ≤ L.length) : SL .u8 W xo n (fun i => L.getD i 0) := fun i hi => h i (by omega)
theorem pck_le (M : Nat → Mg) (k : Nat) : (pck M k).length ≤ 200 * k := by
  have h1 := frs_len M k
  have h2 := squeeze_len (fun i => (frs M k).getD i 0) (frs M k).length
  unfold pck
  omega
theorem unp_back (M : Nat → Mg) (k : Nat) (hk : k ≤ 30) (hok : ∀ i, i < k → MgOk (M i)) (W : World) (po : Option Addr) (pc : Nat) (hl : (pck M k).length ≤ 1048576) (h : VB W po (pck M k)) :
    Calls Try.prog 34 #[.slice po (pck M k).length pc] W fun e w' => ∃ uo uc, e = .returned (.tuple #[.slice uo k uc, .bool true]) ∧ ML w' uo k M ∧ Below W.heap.size W w' := by
  obtain ⟨U, ku, ok, _, _, h1, h2, _, h4⟩ := unp_both (pck M k) hl (pck_byte M k)
  have hu := upk_pck hk hok
  obtain rfl := h2 ⟨M, k, hu⟩
  obtain ⟨rfl, he⟩ := upk_one (h1 rfl) hu
  refine (h4 W po pc h).mono ?_
  rintro e w' ⟨uo, uc, rfl, hm, hb⟩
  refine ⟨uo, uc, rfl, fun i hi => ?_, hb⟩
  have := hm i hi
  rwa [he i hi] at this
theorem mof_back (m : Mg) (hok : MgOk m) (W : World) (bo : Option Addr) (bc : Nat) (hc : (mby m).length ≤ bc) (h : VB W bo (mby m)) :
    Calls Try.prog 28 #[.slice bo (mby m).length bc, .int .i64 0] W fun e w' => ∃ ro rc, e = .returned (.tuple #[.agg #[.int .i64 m.k, .int .i64 m.c, .int .i64 m.v, .int .i64 m.h, .slice ro m.g.length rc], .int .i64 ((mby m).length : Nat), .bool true]) ∧ m.g.length ≤ rc ∧ SL .i64 w' ro m.g.length (fun i => m.g.getD i 0) ∧ Below W.heap.size W w' := by
  have hl := mby_len m
  obtain ⟨r, nx, ok, _, h1, h2, _, _, _, h4⟩ := mof_both (mby m) 0 (by omega) (by omega) (by omega) (mby_byte m)
  have hr := mg_reads hok
  obtain rfl := h2 ⟨m, hr⟩
  obtain ⟨h3, hn⟩ := h1 rfl
  obtain rfl := bgm_one h3 hr
  rw [Int.zero_add] at hn
  subst hn
  exact h4 W bo bc hc h
theorem mof_short (m : Mg) (hok : MgOk m) (W : World) (bo : Option Addr) (bc : Nat) (hc : (mby m).length ≤ bc) (h : VB W bo (mby m)) :
    Calls Try.prog 28 #[.slice bo ((mby m).length - 1) bc, .int .i64 0] W fun e w' => e = .returned (.tuple #[.agg #[.int .i64 0, .int .i64 0, .int .i64 0, .int .i64 0, .slice none 0 0], .int .i64 0, .bool false]) ∧ Below W.heap.size W w' := by
  have hl := mby_len m
  have hb := mby_byte m
  refine (msgof_impl bo ((mby m).length - 1) bc 0 (fun i => (mby m).getD i 0) W (by omega) (by omega) (by omega) (by omega) (h.short (by omega)) (fun i hi => hb _ (getD_mem _ i (by omega)))).mono ?_
  rintro e w' ⟨h1, hbb⟩
  rcases h1 with ⟨k', c', v', d', G', ro, rc, hB', _⟩ | ⟨_, rfl⟩
  · exact absurd ⟨k', c', v', d', G', hB'⟩ (mg_cut hok)
  · exact ⟨rfl, hbb⟩
theorem mg_tells {m : Mg} {W W' : World} {e : Ending} (h : Tells W W' e (MgOk m)) : ∃ b : Bool, e = .returned (.bool b) ∧ (b = true ↔ MgOk m) ∧ Below W.heap.size W W' := by
  obtain ⟨h1, hb⟩ := h
  rcases h1 with ⟨h1, rfl⟩ | ⟨h1, rfl⟩
  · exact ⟨true, rfl, by simp [h1], hb⟩
  · exact ⟨false, rfl, by simp [h1], hb⟩
theorem mby_no {m : Mg} (h : ¬ MgOk m) : (mby m).length = 0 := by
  have : mby m = [] := by unfold mby mb; exact if_neg h
  rw [this]; rfl
theorem five_below {w w' : World} {b o : Nat} {m : Mg} {ro : Option Addr} {rc : Nat} (h : w.cell? ⟨b, o, none⟩ = some (.int .i64 m.k) ∧ w.cell? ⟨b, o + 1, none⟩ = some (.int .i64 m.c) ∧ w.cell? ⟨b, o + 2, none⟩ = some (.int .i64 m.v) ∧ w.cell? ⟨b, o + 3, none⟩ = some (.int .i64 m.h) ∧ w.cell? ⟨b, o + 4, none⟩ = some (.slice ro m.g.length rc)) (hb : Below w.heap.size w w') : w'.cell? ⟨b, o, none⟩ = some (.int .i64 m.k) ∧ w'.cell? ⟨b, o + 1, none⟩ = some (.int .i64 m.c) ∧ w'.cell? ⟨b, o + 2, none⟩ = some (.int .i64 m.v) ∧ w'.cell? ⟨b, o + 3, none⟩ = some (.int .i64 m.h) ∧ w'.cell? ⟨b, o + 4, none⟩ = some (.slice ro m.g.length rc) :=
  ⟨(hb.cell (lt_of_cell h.1)).trans h.1, (hb.cell (lt_of_cell h.2.1)).trans h.2.1, (hb.cell (lt_of_cell h.2.2.1)).trans h.2.2.1, (hb.cell (lt_of_cell h.2.2.2.1)).trans h.2.2.2.1, (hb.cell (lt_of_cell h.2.2.2.2)).trans h.2.2.2.2⟩
end Go.Proofs.Ytkeojhnifnkpiaa

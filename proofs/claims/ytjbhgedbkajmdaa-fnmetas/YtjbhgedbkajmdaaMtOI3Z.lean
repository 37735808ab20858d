/- What is known, told by numbers, of the program. -/
import Derived.Test.YtjbhgedbkajmdaaMtOI2Z

namespace Go.Proofs.Ytjbhgedbkajmdaa
open Go.ChangeShapes Go.WideShapes Go.ChangeAt Go.RowKit
set_option linter.unusedVariables false
set_option linter.unusedSimpArgs false
set_option maxRecDepth 100000

def RmO (w w' : World) (N : List Int) (e : Ending) : Prop :=
  ((∃ (g : List Int) (L : Nat → List Int) (x y : Int) (go bo : Option Addr) (gc : Nat), N = lsq g ++ (catl L 3 ++ [x, y]) ∧ e = .returned (.tuple #[.agg #[.slice go g.length gc, .slice bo 3 3, .bool (bits .and .i64 x 1 != 0), .bool (bits .and .i64 x 2 != 0), .bool (bits .and .i64 x 4 != 0), .int .i64 y], .bool true]) ∧ OKm w' w.heap.size w'.heap.size go gc bo 3 g 3 L) ∨
   ((¬ ∃ g L x y, N = lsq g ++ (catl L 3 ++ [x, y])) ∧ e = .returned (.tuple #[.agg #[.slice none 0 0, .slice none 0 0, .bool false, .bool false, .bool false, .int .i64 0], .bool false]))) ∧ Below w.heap.size w w'

set_option maxHeartbeats 1000000 in
theorem rm_impl (ao : Option Addr) (c : Nat) (N : List Int) (w : World) (hN : N.length ≤ 1048576) (hc : N.length ≤ c) (hc2 : c ≤ 9223372036854775807) (hs : SL .i64 w ao N.length (fun j => N.getD j 0)) (hm : ∀ x ∈ N, 0 ≤ x ∧ x ≤ 2147483647) :
    Calls Try.prog 47 #[.slice ao N.length c] w fun e w' => RmO w w' N e := by
  obtain ⟨W, hW⟩ : ∃ W, W = w.alloc (.cells #[.slice none 0 0, .slice none 0 0, .bool false, .bool false, .bool false, .int .i64 0] 27) := ⟨_, rfl⟩
  have hB : Below w.heap.size w W := by rw [hW]; exact bal1 _ _
  have hK : KB W w.heap.size 27 none 0 0 none 0 0 false false false 0 := by rw [hW]; exact KB.new w _ _ _ _ _ _ _ _ _ _ _
  have hcall := hide (cut_impl ao c N W hN hc hc2 (hs.below hB) hm)
  have HB := hide hB
  have HK := hide hK
  have HM := hide hm
  clear hs hm hB hK
  go_enter Try.func47, Try.ntmps47
  go_wp2_with fail
  rw [← hW]
  clear hW
  refine hcall.out.mono ?_
  rintro e w1 ⟨h1, b1⟩
  have HB1 := hide (HB.out.trans (b1.mono HB.out.size))
  have HK1 := hide (HK.out.b b1)
  have hWl : w.heap.size < W.heap.size := HK.out.lt
  have hz1 := b1.size
  clear hcall
  rcases h1 with ⟨g, r, go, so, gc, sc, he, rfl, hO, hrc, hSL, hs1, hs2, _⟩ | ⟨hno, rfl⟩
  case inr =>
    have HN : Hid (¬ ∃ g L x y, N = lsq g ++ (catl L 3 ++ [x, y])) := fun ⟨g, L, x, y, e⟩ => hno ⟨_, _, e⟩
    obtain ⟨r0, r1, r2, r3, r4, r5⟩ := HK1.out.cells
    have rz := HK1.out.froz
    clear hno b1 HB HK
    go_wp2
    refine bodyPost_ret (v := .tuple #[.agg #[.slice none 0 0, .slice none 0 0, .bool false, .bool false, .bool false, .int .i64 0], .bool false]) (by simp [results, Try.results47, go_sem, r0, r1, r2, r3, r4, r5]) rfl ?_
    refine ⟨.inr ⟨HN.out, rfl⟩, ?_⟩
    iterate 6 (refine Below.setCell ?_ (by show w.heap.size ≤ w.heap.size; omega) _)
    exact HB1.out
  have hrl : r.length ≤ 1048576 := by have h1 := congrArg List.length he; rw [List.length_append] at h1; omega
  have hcall := hide (cutbits_impl so sc r w1 hrl hs1 hs2 hSL (fun x hx => HM.out x (by rw [he]; simp [hx])))
  have HO := hide (Rt.of hO)
  have HE := hide he
  clear hO hSL b1 he hs1 hs2
  go_wp2_with fail
  refine hcall.out.mono ?_
  rintro e w2 ⟨h1, b2⟩
  have HB2 := hide (HB1.out.trans (b2.mono HB1.out.size))
  have HK2 := hide (HK1.out.b b2)
  have HO2 := hide (HO.out.kept (fun j _ h => b2.block j h))
  have hz2 := b2.size
  obtain ⟨r0, r1, r2, r3, r4, r5⟩ := HK2.out.cells
  have rz := HK2.out.froz
  clear hcall b2 HO HB1 HK1
  rcases h1 with ⟨L, t, bo, so2, sc2, he2, rfl, hR, hSL2, hs3⟩ | ⟨hno, rfl⟩
  case inr =>
    have HN : Hid (¬ ∃ g L x y, N = lsq g ++ (catl L 3 ++ [x, y])) := fun ⟨g', L', x, y, e⟩ => by
      rw [HE.out] at e
      exact hno ⟨_, _, (lsq_inj e).2⟩
    clear hno
    go_wp2
    refine bodyPost_ret (v := .tuple #[.agg #[.slice none 0 0, .slice none 0 0, .bool false, .bool false, .bool false, .int .i64 0], .bool false]) (by simp [results, Try.results47, go_sem, r0, r1, r2, r3, r4, r5]) rfl ?_
    refine ⟨.inr ⟨HN.out, rfl⟩, ?_⟩
    iterate 6 (refine Below.setCell ?_ (by show w.heap.size ≤ w.heap.size; omega) _)
    exact HB2.out
  have HE2 := hide he2
  have HR := hide hR
  have HS2 := hide hSL2
  clear he2 hR hSL2
  by_cases ht : t.length = 2
  case neg =>
    have HN : Hid (¬ ∃ g L x y, N = lsq g ++ (catl L 3 ++ [x, y])) := fun ⟨g', L', x, y, e⟩ => by
      rw [HE.out] at e
      have e2 := (lsq_inj e).2
      rw [HE2.out] at e2
      rw [(catl_inj e2).2] at ht
      exact ht rfl
    have d1 : ¬ (t.length : Int) = 2 := by omega
    have d2 : ((t.length : Int) == 2) = false := by simpa using d1
    have d3 : decide ((t.length : Int) = 2) = false := decide_eq_false d1
    clear ht
    go_wp2
    refine bodyPost_ret (v := .tuple #[.agg #[.slice none 0 0, .slice none 0 0, .bool false, .bool false, .bool false, .int .i64 0], .bool false]) (by simp [results, Try.results47, go_sem, r0, r1, r2, r3, r4, r5]) rfl ?_
    refine ⟨.inr ⟨HN.out, rfl⟩, ?_⟩
    iterate 6 (refine Below.setCell ?_ (by show w.heap.size ≤ w.heap.size; omega) _)
    exact HB2.out
  match t, ht with
  | [x, y], _ =>
    obtain ⟨b, off, e0, hb, hc0⟩ := HS2.out 0 (by simp)
    obtain ⟨b', off', e1, hb', hc1⟩ := HS2.out 1 (by simp)
    subst e0
    cases e1
    have k0 : w2.cell? ⟨b, off, none⟩ = some (.int .i64 x) := by rw [Nat.add_zero] at hc0; exact hc0
    have k1 : w2.cell? ⟨b, off + 1, none⟩ = some (.int .i64 y) := hc1
    have hx : 0 ≤ x ∧ x ≤ 2147483647 := HM.out x (by rw [HE.out, HE2.out]; simp)
    have HF : Hid (∀ F : World, F.heap.size = w2.heap.size → (∀ j, w.heap.size + 1 ≤ j → F.heap[j]? = w2.heap[j]?) → OKm F w.heap.size F.heap.size go gc bo 3 g 3 L) := fun F hsz hk => by
      obtain ⟨R, hOR, hSR⟩ := HR.out
      rw [hsz]
      refine ⟨⟨by omega, by omega⟩, Nat.le_refl _, R, ?_, (hSR.kept (fun j h1 _ => hk j (by omega))).wide (by omega) (Nat.le_refl _)⟩
      exact ((OR.cons (r := (go, gc)) (B := W.heap.size) hOR hz1 hz2 hrc HO2.out).kept (fun j h1 _ => hk j (by omega))).wide (by omega) (Nat.le_refl _)
    have HNE : Hid (N = lsq g ++ (catl L 3 ++ [x, y])) := (show _ = _ by rw [HE.out, HE2.out])
    clear hc0 hc1 HR HS2 HO2 HE HE2
    go_wp2
    go_quiet (fail)
    go_wp2
    refine bodyPost_ret (v := .tuple #[.agg #[.slice go g.length gc, .slice bo 3 3, .bool (bits .and .i64 x 1 != 0), .bool (bits .and .i64 x 2 != 0), .bool (bits .and .i64 x 4 != 0), .int .i64 y], .bool true]) (by simp [results, Try.results47, go_sem, r0, r1, r2, r3, r4, r5]) rfl ?_
    refine ⟨.inl ⟨g, L, x, y, go, bo, gc, HNE.out, rfl, ?_⟩, ?_⟩
    · refine HF.out _ (by simp [World.setCell, World.drewN]) ?_
      intro j hj
      simp only [World.setCell, Array.getElem?_modify]
      repeat rw [if_neg (by omega)]
      rfl
    · iterate 6 (refine Below.setCell ?_ (by show w.heap.size ≤ w.heap.size; omega) _)
      exact Below.drawn HB2.out _
end Go.Proofs.Ytjbhgedbkajmdaa

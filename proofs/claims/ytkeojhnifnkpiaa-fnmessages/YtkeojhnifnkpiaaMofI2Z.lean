/- MsgOf of the program: a message read. -/
import Derived.Test.YtkeojhnifnkpiaaMofIZ

namespace Go.Proofs.Ytkeojhnifnkpiaa
open Go.ChangeShapes Go.WideShapes Go.ChangeAt Go.RowKit
set_option linter.unusedVariables false
set_option linter.unusedSimpArgs false

set_option maxRecDepth 100000 in
theorem hasprefix_any (b off m c : Nat) (bo : Option Addr) (cb : Nat) (f : Nat → Int) (L : List Int) (w : World) (hmc : m ≤ c) (hm : m ≤ 1048576) (hA : SL .u8 w (some ⟨b, off, none⟩) m f) (hf : ∀ i, i < m → 0 ≤ f i ∧ f i ≤ 255) (hB : SL .u8 w bo L.length (fun i => L.getD i 0)) (hL : ∀ z ∈ L, 0 ≤ z ∧ z ≤ 255)
    (r : Bool) (hr : TellsB r (L.length ≤ m ∧ ∀ i, i < L.length → f i = L.getD i 0)) :
    Calls Try.prog 87 #[.slice (some ⟨b, off, none⟩) m c, .slice bo L.length cb] w fun e w' => e = .returned (.bool r) ∧ w' = w := by
  by_cases hle : L.length ≤ m
  · have hlen : ((List.range L.length).map f).length = L.length := by simp
    have hcall := bequal_any (some ⟨b, off, none⟩) bo c cb ((List.range L.length).map f) L w (by
      intro z hz
      simp at hz
      obtain ⟨i, hi, rfl⟩ := hz
      exact hf i (by omega)) hL (by
      intro i hi
      rw [hlen] at hi
      obtain ⟨b', off', e, hlt, hc⟩ := hA i (by omega)
      refine ⟨b', off', e, hlt, ?_⟩
      rw [hc]
      simp [List.getD, hi]) hB r ⟨fun h => by
        have := (hr.1 h).2
        refine List.ext_getElem? fun j => ?_
        by_cases hj : j < L.length
        · have := this j hj
          simp [hj, List.getD] at this ⊢
          exact this
        · rw [List.getElem?_eq_none (by simp; omega), List.getElem?_eq_none (by omega)], fun h => hr.2 ⟨hle, fun i hi => by
          have : ((List.range L.length).map f)[i]? = L[i]? := by rw [h]
          simp [hi] at this
          simp [List.getD, hi, this]⟩⟩
    rw [hlen] at hcall
    have HC := hide hcall
    have h1 : (L.length : Int) ≤ (m : Int) := by omega
    have h2 : (L.length : Int) ≤ (c : Int) := by omega
    have h3 : (0 : Int) ≤ (L.length : Int) := by omega
    have h4 : L.length ≤ c := by omega
    clear hlen hcall hA hf hB hL hr
    go_enter Try.func87, Try.ntmps87
    go_wp2_with fail
    refine HC.out.mono ?_
    rintro e w' ⟨rfl, hw⟩
    rw [hw]
    clear hw HC
    go_wp2
    go_ret
    exact ⟨rfl, rfl⟩
  · obtain rfl : r = false := by
      cases r with
      | false => rfl
      | true => exact absurd (hr.1 rfl).1 hle
    have h1 : ¬ (L.length : Int) ≤ (m : Int) := by omega
    clear hA hf hB hL hr
    go_enter Try.func87, Try.ntmps87
    go_wp2
    go_ret
    exact ⟨rfl, rfl⟩

/-- What the numbers from st on say. -/
def Reads (n : Nat) (f : Nat → Int) (p k c v d : Int) (G : List Int) : Prop :=
  rdl n f p 5 = [k, c, v, d, (G.length : Int)] ∧ ∃ q r, sts n f (some p) 5 = some q ∧ sts n f (some q) G.length = some r ∧ rdl n f q G.length = G

theorem rdl_ge (n : Nat) (f : Nat → Int) (p : Int) (c : Nat) : ∀ x ∈ rdl n f p c, 0 ≤ x ∧ x ≤ 2147483647 := by
  intro x hx
  simp [rdl] at hx
  obtain ⟨j, _, rfl⟩ := hx
  cases h : sts n f (some p) j with
  | none => simp [rdv]
  | some q =>
    cases h2 : rdI n f q with
    | none => simp [rdv, h2]
    | some xy =>
      obtain ⟨x, y⟩ := xy
      have := rdI_pos h2
      simp only [rdv, h2, Option.map_some, Option.getD_some]
      omega

theorem getnums_yes (ao : Option Addr) (n cap : Nat) (p : Int) (c : Nat) (f : Nat → Int) (w : World) (hn : n ≤ 1048576) (hc : c ≤ 100) (hp0 : -9223372036854775808 ≤ p) (hp : p ≤ 9223372036854775807) (hs : SL .u8 w ao n f) (hf : ∀ i, i < n → 0 ≤ f i ∧ f i ≤ 255) (q : Int) (h : sts n f (some p) c = some q) :
    Calls Try.prog 130 #[.slice ao n cap, .int .i64 p, .int .i64 (c : Int)] w fun e w' => ∃ v, e = .returned (.tuple #[v, .int .i64 q, .bool true]) ∧ w'.ownsRow w.heap.size 3 1 v c ((rdl n f p c).map (.int .i64)) ∧ Below w.heap.size w w' :=
  (getnums_impl ao n cap p c f w hn hc hp0 hp hs hf).mono fun e w' ⟨h1, h2⟩ => by
    rcases h1 with ⟨q', v, e1, e2, e3⟩ | ⟨e1, _⟩
    · rw [h] at e1; cases e1; exact ⟨v, e2, e3, h2⟩
    · rw [h] at e1; cases e1
theorem getnums_no (ao : Option Addr) (n cap : Nat) (p : Int) (c : Nat) (f : Nat → Int) (w : World) (hn : n ≤ 1048576) (hc : c ≤ 100) (hp0 : -9223372036854775808 ≤ p) (hp : p ≤ 9223372036854775807) (hs : SL .u8 w ao n f) (hf : ∀ i, i < n → 0 ≤ f i ∧ f i ≤ 255) (h : sts n f (some p) c = none) :
    Calls Try.prog 130 #[.slice ao n cap, .int .i64 p, .int .i64 (c : Int)] w fun e w' => e = .returned (.tuple #[.slice none 0 0, .int .i64 0, .bool false]) ∧ Below w.heap.size w w' :=
  (getnums_impl ao n cap p c f w hn hc hp0 hp hs hf).mono fun e w' ⟨h1, h2⟩ => by
    rcases h1 with ⟨q', v, e1, e2, e3⟩ | ⟨e1, e2⟩
    · rw [h] at e1; cases e1
    · exact ⟨e2, h2⟩

/-- What readMsg hands back. -/
def RmOut (w w' : World) (n : Nat) (f : Nat → Int) (p : Int) (e : Ending) : Prop :=
  ((∃ k c v d G ro rc, Reads n f p k c v d G ∧ G.length ≤ 12 ∧ e = .returned (.tuple #[.agg #[.int .i64 k, .int .i64 c, .int .i64 v, .int .i64 d, .slice ro G.length rc], .bool true]) ∧ G.length ≤ rc ∧ Own w' w.heap.size 3 ro G.length (fun i => .int .i64 (G.getD i 0))) ∨
   ((¬ ∃ k c v d G, Reads n f p k c v d G ∧ G.length ≤ 12) ∧ ∃ k c v d, e = .returned (.tuple #[.agg #[.int .i64 k, .int .i64 c, .int .i64 v, .int .i64 d, .slice none 0 0], .bool false]))) ∧ Below w.heap.size w w'

theorem heap_far {w : World} {R g j : Nat} (h : ¬ g = R) (v : Value) : (w.setCell ⟨R, j, none⟩ v).heap[g]? = w.heap[g]? := by
  simp only [World.setCell, Array.getElem?_modify]
  rw [if_neg (fun e => h e.symm)]
theorem cell_heap {w w' : World} {g i : Nat} (h : w'.heap[g]? = w.heap[g]?) : w'.cell? ⟨g, i, none⟩ = w.cell? ⟨g, i, none⟩ := by simp only [World.cell?, h]
theorem heap_drew (w : World) (g : Nat) : w.drew.heap[g]? = w.heap[g]? := rfl
theorem cell_put5 {w : World} {R g i : Nat} (h : ¬ g = R) (a b c d e : Value) : (((((w.setCell ⟨R, 0, none⟩ a).setCell ⟨R, 1, none⟩ b).setCell ⟨R, 2, none⟩ c).setCell ⟨R, 3, none⟩ d).setCell ⟨R, 4, none⟩ e).drew.cell? ⟨g, i, none⟩ = w.cell? ⟨g, i, none⟩ :=
  cell_heap ((heap_drew _ g).trans ((heap_far h e).trans ((heap_far h d).trans ((heap_far h c).trans ((heap_far h b).trans (heap_far h a))))))
theorem list5i {l : List Int} (h : l.length = 5) : ∃ a b c d e, l = [a, b, c, d, e] := by
  match l, h with
  | [a, b, c, d, e], _ => exact ⟨a, b, c, d, e, rfl⟩
set_option maxHeartbeats 1000000 in
set_option maxRecDepth 100000 in
theorem readmsg_impl (ao : Option Addr) (n cap : Nat) (p : Int) (f : Nat → Int) (w : World) (hn : n ≤ 1048576) (hp0 : -9223372036854775808 ≤ p) (hp : p ≤ 9223372036854775807) (hs : SL .u8 w ao n f) (hf : ∀ i, i < n → 0 ≤ f i ∧ f i ≤ 255) :
    Calls Try.prog 86 #[.slice ao n cap, .int .i64 p] w fun e w' => RmOut w w' n f p e := by
  have HS := hide hs
  have HF := hide hf
  clear hs hf
  cases h5 : sts n f (some p) 5 with
  | none =>
    have HN : Hid (¬ ∃ k c v d G, Reads n f p k c v d G ∧ G.length ≤ 12) := fun ⟨k, c, v, d, G, ⟨_, q, r, e, _⟩, _⟩ => by rw [h5] at e; cases e
    have hcall : Hid (∀ o, Calls Try.prog 130 #[.slice ao n cap, .int .i64 p, .int .i64 5] (w.alloc o) fun e w' => e = .returned (.tuple #[.slice none 0 0, .int .i64 0, .bool false]) ∧ Below (w.alloc o).heap.size (w.alloc o) w') := fun o => getnums_no ao n cap p 5 f _ hn (by omega) hp0 hp (HS.out.below ((Below.refl _ _).alloc (Nat.le_refl _) o)) HF.out h5
    clear h5
    go_enter Try.func86, Try.ntmps86
    go_wp2_with fail
    refine (hcall.out _).mono ?_
    rintro e w1 ⟨rfl, b1⟩
    have M1 := (MB.new w 40 0 0 0 0 none 0 0).below b1 (by simp)
    have B1 := hide (((Below.refl _ _).alloc (Nat.le_refl _) _).trans (b1.mono (by simp)) : Below w.heap.size w w1)
    have z0 : ∀ i, w1.frozen? ⟨w.heap.size, i, none⟩ = false := fun i => by simp [World.frozen?, show w1.heap[w.heap.size]? = _ from M1]
    obtain ⟨r0, r1, r2, r3, r4⟩ := M1.cells
    clear b1 M1 hcall
    go_wp2_with fail
    refine bodyPost_ret (v := .tuple #[.agg #[.int .i64 0, .int .i64 0, .int .i64 0, .int .i64 0, .slice none 0 0], .bool false]) (by simp [results, Try.results86, go_sem, r0, r1, r2, r3, r4]) rfl ?_
    exact ⟨.inr ⟨HN.out, 0, 0, 0, 0, rfl⟩, below_put5 B1.out _ _ _ _ _⟩
  | some q =>
    have hl5 := rdl_len n f p 5
    have hge := rdl_ge n f p 5
    obtain ⟨k, c, v, d, m, hl⟩ := list5i hl5
    have hq := sts_bd n f p 5 q h5
    have hm := hge m (by rw [hl]; simp)
    obtain ⟨g, rfl⟩ := Int.eq_ofNat_of_zero_le hm.1
    have hcall : Hid (∀ o, Calls Try.prog 130 #[.slice ao n cap, .int .i64 p, .int .i64 5] (w.alloc o) fun e w' => ∃ x, e = .returned (.tuple #[x, .int .i64 q, .bool true]) ∧ w'.ownsRow (w.alloc o).heap.size 3 1 x 5 ([k, c, v, d, (g : Int)].map (.int .i64)) ∧ Below (w.alloc o).heap.size (w.alloc o) w') := fun o => by
      have := getnums_yes ao n cap p 5 f _ hn (by omega) hp0 hp (HS.out.below ((Below.refl _ _).alloc (Nat.le_refl _) o)) HF.out q h5
      rw [hl] at this
      exact this
    have HRD : Hid (∀ k' c' v' d' G, Reads n f p k' c' v' d' G → k = k' ∧ c = c' ∧ v = v' ∧ d = d' ∧ g = G.length ∧ ∃ r, sts n f (some q) G.length = some r ∧ rdl n f q G.length = G) := fun k' c' v' d' G ⟨e1, q', r, e2, e3, e4⟩ => by
      rw [h5] at e2
      cases e2
      rw [hl] at e1
      simp only [List.cons.injEq, and_true] at e1
      obtain ⟨f1, f2, f3, f4, f5⟩ := e1
      exact ⟨f1, f2, f3, f4, by omega, r, e3, e4⟩
    have HRR : Hid (∀ r, sts n f (some q) g = some r → Reads n f p k c v d (rdl n f q g)) := fun r hr => ⟨by rw [hl, rdl_len], q, r, h5, by rw [rdl_len]; exact hr, by rw [rdl_len]⟩
    clear hl hl5 hge h5
    by_cases h12 : g ≤ 12
    · have hg0 : (g : Int) ≤ 12 := by omega
      cases hg : sts n f (some q) g with
      | none =>
        have HN : Hid (¬ ∃ k c v d G, Reads n f p k c v d G ∧ G.length ≤ 12) := fun ⟨k', c', v', d', G, h, _⟩ => by
          obtain ⟨_, _, _, _, e, r, hr, _⟩ := HRD.out _ _ _ _ _ h
          rw [← e, hg] at hr; cases hr
        have hcall2 : Hid (∀ W, SL .u8 W ao n f → Calls Try.prog 130 #[.slice ao n cap, .int .i64 q, .int .i64 (g : Int)] W fun e w' => e = .returned (.tuple #[.slice none 0 0, .int .i64 0, .bool false]) ∧ Below W.heap.size W w') := fun W hW => getnums_no ao n cap q g f W hn (by omega) (by omega) (by omega) hW HF.out hg
        clear hg HRD HRR
        go_enter Try.func86, Try.ntmps86
        go_wp2_with fail
        refine (hcall.out _).mono ?_
        rintro e w1 ⟨x1, rfl, o1, b1⟩
        have M1 := (MB.new w 40 0 0 0 0 none 0 0).below b1 (by simp)
        have B1 := hide (((Below.refl _ _).alloc (Nat.le_refl _) _).trans (b1.mono (by simp)) : Below w.heap.size w w1)
        obtain ⟨g1, c1, rfl, hg1, hge1, hsrc⟩ := msrc (L := [k, c, v, d, (g : Int)]) o1 (by simp)
        have d0 : w1.cell? ⟨g1, 0, none⟩ = some (.int .i64 k) := hsrc 0 _ rfl
        have d1 : w1.cell? ⟨g1, 1, none⟩ = some (.int .i64 c) := hsrc 1 _ rfl
        have d2 : w1.cell? ⟨g1, 2, none⟩ = some (.int .i64 v) := hsrc 2 _ rfl
        have d3 : w1.cell? ⟨g1, 3, none⟩ = some (.int .i64 d) := hsrc 3 _ rfl
        have d4 : w1.cell? ⟨g1, 4, none⟩ = some (.int .i64 (g : Int)) := hsrc 4 _ rfl
        have HM1 := hide M1
        have HD := hide (And.intro d0 (And.intro d1 (And.intro d2 d3)))
        have hcl : Hid _ := hide (hcall2.out w1 (HS.out.below B1.out))
        simp only [List.length_cons, List.length_nil, Nat.zero_add, Nat.reduceAdd]
        clear b1 M1 hcall o1 hsrc hcall2 d0 d1 d2 d3
        go_wp2_with fail
        refine hcl.out.mono ?_
        rintro e w2 ⟨rfl, b2⟩
        have M2 := HM1.out.below b2 HM1.out.lt
        have B2 := hide (B1.out.trans (b2.mono B1.out.size))
        have z0 : ∀ i, w2.frozen? ⟨w.heap.size, i, none⟩ = false := fun i => by simp [World.frozen?, show w2.heap[w.heap.size]? = _ from M2]
        obtain ⟨r0, r1, r2, r3, r4⟩ := M2.cells
        have d0 := (b2.cell (p := ⟨g1, 0, none⟩) hg1).trans HD.out.1
        have d1 := (b2.cell (p := ⟨g1, 1, none⟩) hg1).trans HD.out.2.1
        have d2 := (b2.cell (p := ⟨g1, 2, none⟩) hg1).trans HD.out.2.2.1
        have d3 := (b2.cell (p := ⟨g1, 3, none⟩) hg1).trans HD.out.2.2.2
        clear b2 M2 HM1 HD B1 hcl
        go_wp2_with fail
        have hne : ¬ w.heap.size = g1 := by simp at hge1; omega
        have hne' : ¬ g1 = w.heap.size := fun e => hne e.symm
        clear d4
        have D : w2.drew.cell? ⟨g1, 0, none⟩ = some (.int .i64 k) ∧ w2.drew.cell? ⟨g1, 1, none⟩ = some (.int .i64 c) ∧ w2.drew.cell? ⟨g1, 2, none⟩ = some (.int .i64 v) ∧ w2.drew.cell? ⟨g1, 3, none⟩ = some (.int .i64 d) := ⟨d0, d1, d2, d3⟩
        have DD := hide (And.intro d0 (And.intro d1 (And.intro d2 d3)))
        clear d0 d1 d2 d3
        go_region_held3 (fun w' => w'.cell? ⟨g1, 0, none⟩ = some (.int .i64 k) ∧ w'.cell? ⟨g1, 1, none⟩ = some (.int .i64 c) ∧ w'.cell? ⟨g1, 2, none⟩ = some (.int .i64 v) ∧ w'.cell? ⟨g1, 3, none⟩ = some (.int .i64 d)) (first | with_reducible assumption | with_reducible exact ⟨(cell_put5 hne' _ _ _ _ _).trans DD.out.1, (cell_put5 hne' _ _ _ _ _).trans DD.out.2.1, (cell_put5 hne' _ _ _ _ _).trans DD.out.2.2.1, (cell_put5 hne' _ _ _ _ _).trans DD.out.2.2.2⟩) (fail)
        go_wp2_with fail
        refine bodyPost_ret (v := .tuple #[.agg #[.int .i64 k, .int .i64 c, .int .i64 v, .int .i64 d, .slice none 0 0], .bool false]) (by simp [results, Try.results86, go_sem, r0, r1, r2, r3, r4]) rfl ?_
        exact ⟨.inr ⟨HN.out, k, c, v, d, rfl⟩, Below.drawn (below_put5 B2.out _ _ _ _ _) 1⟩
      | some r =>
        have HY := hide (HRR.out r hg)
        have hGl := rdl_len n f q g
        have hcall2 : Hid (∀ W, SL .u8 W ao n f → Calls Try.prog 130 #[.slice ao n cap, .int .i64 q, .int .i64 (g : Int)] W fun e w' => ∃ v, e = .returned (.tuple #[v, .int .i64 r, .bool true]) ∧ w'.ownsRow W.heap.size 3 1 v g ((rdl n f q g).map (.int .i64)) ∧ Below W.heap.size W w') := fun W hW => getnums_yes ao n cap q g f W hn (by omega) (by omega) (by omega) hW HF.out r hg
        generalize rdl n f q g = G at *
        have HGL := hide hGl
        clear hg HRD HRR hGl
        go_enter Try.func86, Try.ntmps86
        go_wp2_with fail
        refine (hcall.out _).mono ?_
        rintro e w1 ⟨x1, rfl, o1, b1⟩
        have M1 := (MB.new w 40 0 0 0 0 none 0 0).below b1 (by simp)
        have B1 := hide (((Below.refl _ _).alloc (Nat.le_refl _) _).trans (b1.mono (by simp)) : Below w.heap.size w w1)
        obtain ⟨g1, c1, rfl, hg1, hge1, hsrc⟩ := msrc (L := [k, c, v, d, (g : Int)]) o1 (by simp)
        have d0 : w1.cell? ⟨g1, 0, none⟩ = some (.int .i64 k) := hsrc 0 _ rfl
        have d1 : w1.cell? ⟨g1, 1, none⟩ = some (.int .i64 c) := hsrc 1 _ rfl
        have d2 : w1.cell? ⟨g1, 2, none⟩ = some (.int .i64 v) := hsrc 2 _ rfl
        have d3 : w1.cell? ⟨g1, 3, none⟩ = some (.int .i64 d) := hsrc 3 _ rfl
        have d4 : w1.cell? ⟨g1, 4, none⟩ = some (.int .i64 (g : Int)) := hsrc 4 _ rfl
        have HM1 := hide M1
        have HD := hide (And.intro d0 (And.intro d1 (And.intro d2 d3)))
        have hcl : Hid _ := hide (hcall2.out w1 (HS.out.below B1.out))
        simp only [List.length_cons, List.length_nil, Nat.zero_add, Nat.reduceAdd]
        clear b1 M1 hcall o1 hsrc hcall2 d0 d1 d2 d3
        go_wp2_with fail
        refine hcl.out.mono ?_
        rintro e w2 ⟨x2, rfl, o2, b2⟩
        obtain ⟨ro, rc, rfl, hrc, ho2⟩ := Own.of_owns o2
        have M2 := HM1.out.below b2 HM1.out.lt
        have B2 := hide (B1.out.trans (b2.mono B1.out.size))
        have z0 : ∀ i, w2.frozen? ⟨w.heap.size, i, none⟩ = false := fun i => by simp [World.frozen?, show w2.heap[w.heap.size]? = _ from M2]
        obtain ⟨r0, r1, r2, r3, r4⟩ := M2.cells
        have d0 := (b2.cell (p := ⟨g1, 0, none⟩) hg1).trans HD.out.1
        have d1 := (b2.cell (p := ⟨g1, 1, none⟩) hg1).trans HD.out.2.1
        have d2 := (b2.cell (p := ⟨g1, 2, none⟩) hg1).trans HD.out.2.2.1
        have d3 := (b2.cell (p := ⟨g1, 3, none⟩) hg1).trans HD.out.2.2.2
        have HO2 := hide ho2
        have HRC := hide hrc.2.1
        have hsz1 : Hid (w.heap.size < w1.heap.size) := HM1.out.lt
        clear b2 M2 HM1 HD B1 hcl o2 ho2 hrc
        go_wp2_with fail
        have hne : ¬ w.heap.size = g1 := by simp at hge1; omega
        have hne' : ¬ g1 = w.heap.size := fun e => hne e.symm
        clear d4
        have D : w2.drew.cell? ⟨g1, 0, none⟩ = some (.int .i64 k) ∧ w2.drew.cell? ⟨g1, 1, none⟩ = some (.int .i64 c) ∧ w2.drew.cell? ⟨g1, 2, none⟩ = some (.int .i64 v) ∧ w2.drew.cell? ⟨g1, 3, none⟩ = some (.int .i64 d) := ⟨d0, d1, d2, d3⟩
        have DD := hide (And.intro d0 (And.intro d1 (And.intro d2 d3)))
        clear d0 d1 d2 d3
        go_region_held3 (fun w' => w'.cell? ⟨g1, 0, none⟩ = some (.int .i64 k) ∧ w'.cell? ⟨g1, 1, none⟩ = some (.int .i64 c) ∧ w'.cell? ⟨g1, 2, none⟩ = some (.int .i64 v) ∧ w'.cell? ⟨g1, 3, none⟩ = some (.int .i64 d)) (first | with_reducible assumption | with_reducible exact ⟨(cell_put5 hne' _ _ _ _ _).trans DD.out.1, (cell_put5 hne' _ _ _ _ _).trans DD.out.2.1, (cell_put5 hne' _ _ _ _ _).trans DD.out.2.2.1, (cell_put5 hne' _ _ _ _ _).trans DD.out.2.2.2⟩) (fail)
        go_wp2_with fail
        refine bodyPost_ret (v := .tuple #[.agg #[.int .i64 k, .int .i64 c, .int .i64 v, .int .i64 d, .slice ro g rc], .bool true]) (by simp [results, Try.results86, go_sem, r0, r1, r2, r3, r4]) rfl ?_
        refine ⟨.inl ⟨k, c, v, d, G, ro, rc, HY.out, by rw [HGL.out]; exact h12, by rw [HGL.out], by rw [HGL.out]; exact HRC.out, ?_⟩, Below.drawn (below_put5 B2.out _ _ _ _ _) 1⟩
        rw [HGL.out]
        exact (own_put5 HO2.out hsz1.out (Nat.le_of_lt hsz1.out) _ _ _ _ _).drawn 1
    · have hg0 : ¬ (g : Int) ≤ 12 := by omega
      have HN : Hid (¬ ∃ k c v d G, Reads n f p k c v d G ∧ G.length ≤ 12) := fun ⟨k', c', v', d', G, h, h'⟩ => by
        obtain ⟨_, _, _, _, e, _⟩ := HRD.out _ _ _ _ _ h
        omega
      clear HRD HRR
      go_enter Try.func86, Try.ntmps86
      go_wp2_with fail
      refine (hcall.out _).mono ?_
      rintro e w1 ⟨x1, rfl, o1, b1⟩
      have M1 := (MB.new w 40 0 0 0 0 none 0 0).below b1 (by simp)
      have B1 := hide (((Below.refl _ _).alloc (Nat.le_refl _) _).trans (b1.mono (by simp)) : Below w.heap.size w w1)
      obtain ⟨g1, c1, rfl, hg1, hge1, hsrc⟩ := msrc (L := [k, c, v, d, (g : Int)]) o1 (by simp)
      have d4 : w1.cell? ⟨g1, 4, none⟩ = some (.int .i64 (g : Int)) := hsrc 4 _ rfl
      have z0 : ∀ i, w1.frozen? ⟨w.heap.size, i, none⟩ = false := fun i => by simp [World.frozen?, show w1.heap[w.heap.size]? = _ from M1]
      obtain ⟨r0, r1, r2, r3, r4⟩ := M1.cells
      simp only [List.length_cons, List.length_nil, Nat.zero_add, Nat.reduceAdd]
      clear b1 M1 hcall o1 hsrc
      go_wp2_with fail
      refine bodyPost_ret (v := .tuple #[.agg #[.int .i64 0, .int .i64 0, .int .i64 0, .int .i64 0, .slice none 0 0], .bool false]) (by simp [results, Try.results86, go_sem, r0, r1, r2, r3, r4]) rfl ?_
      exact ⟨.inr ⟨HN.out, 0, 0, 0, 0, rfl⟩, below_put5 B1.out _ _ _ _ _⟩
end Go.Proofs.Ytkeojhnifnkpiaa

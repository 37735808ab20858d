/- The draws of chapter 3. -/
import Derived.Test.YthnlcijmlcaepaaDrawBytes2
import Derived.Test.YthnlcijmlcaepaaBelowB
import Derived.Test.YthnlcijmlcaepaaSqzS
namespace Go.Proofs.Ythnlcijmlcaepaa
open Go.ChangeShapes Go.WideShapes Go.ChangeAt Go.RowKit

/-- A slice of bytes that a draw has made. -/
def Drawn (w w' : World) (v : Value) (L : List Int) : Prop :=
  (∃ ao cap, v = .slice ao L.length cap ∧ L.length ≤ cap ∧ cap ≤ maxLen ∧ Own w' w.heap.size 5 ao L.length (fun i => .int .u8 (L.getD i 0))) ∧ (∀ z ∈ L, 0 ≤ z ∧ z ≤ 255) ∧ Below w.heap.size w w'

theorem Own.mono {w : World} {B B' : Nat} {t : TypeId} {ao : Option Addr} {n : Nat} {F : Nat → Value} (h : Own w B t ao n F) (hB : B' ≤ B) : Own w B' t ao n F := by
  rcases h with h | ⟨g, ea, hg, r⟩
  · exact .inl h
  · exact .inr ⟨g, ea, Nat.le_trans hB hg, r⟩

theorem drawn_of {w w1 w2 : World} {n cap : Nat} {ao : Option Addr} {f : Nat → Int} {v : Value} {L : List Int} (b1 : Below w.heap.size w w1) (h : Bld w1 w2 w.heap.size ao n cap f v L) : Drawn w w2 v L := by
  obtain ⟨h1, h2, h3, h4, h5⟩ := h
  obtain ⟨ao', cap', e, ⟨_, hc1, hc2⟩, ho⟩ := Own.of_owns h1
  exact ⟨⟨ao', cap', e, hc1, hc2, ho.mono b1.size⟩, h2, b1.grown h4 b1.size (fun k hk => by simp at hk; omega)⟩

theorem drawn_made {w w4 : World} {m g : Nat} (hr : w4.rowIs g 5 m (fun _ => .int .u8 0)) (hg : w.heap.size ≤ g) (h4 : Below w.heap.size w w4) (hm : m ≤ 4000) : Drawn w w4 (.slice (some ⟨g, 0, none⟩) m m) (List.replicate m 0) := by
  have e : (List.replicate m (0 : Int)).length = m := by simp
  refine ⟨⟨some ⟨g, 0, none⟩, m, by rw [e], by omega, by unfold maxLen; omega, ?_⟩, fun z hz => by rw [(List.mem_replicate.1 hz).2]; omega, h4⟩
  rw [e]
  exact (Own.of_row hr hg).congr fun i hi => by simp [List.getD, hi]

theorem draw_squeeze (ao : Option Addr) (n cap : Nat) (f : Nat → Int) (w : World) (hn : n ≤ 1048576) (hs : SL .u8 w ao n f) (hf : ∀ i, i < n → 0 ≤ f i ∧ f i ≤ 255) :
    Calls Try.prog 9 #[.slice ao n cap] w fun e w' => ∃ v L, e = .returned v ∧ L.length ≤ 4000 ∧ Drawn w w' v L := by
  have HS := hide hs
  have HF := hide hf
  clear hs hf
  go_enter Try.func9, Try.ntmps9
  go_wp2_with fail
  refine (new_any ao n cap f _ hn HS.out HF.out).mono ?_
  rintro e w1 ⟨rfl, hc, b1⟩
  have HB := hide b1
  have HC := hide hc
  clear b1 hc
  go_wp2_with fail
  refine (once_any w.heap.size n cap 60 ao f _ (by decide) (by decide) HC.out).mono ?_
  rintro e w2 ⟨⟨x, rfl⟩, hc2, hg2⟩
  have HC2 := hide hc2
  have HB2 := hide (HB.out.grown hg2 HB.out.size (fun k hk => by simp at hk; omega))
  clear hc2 hg2 HB HC
  cases x with
  | true =>
    go_wp2_with fail
    refine (below_any w.heap.size n cap 2 ao f _ (by decide) (by decide) HC2.out).mono ?_
    rintro e w3 ⟨⟨y, rfl, hy0, hy1⟩, hc3, hg3⟩
    have HB3 := hide (HB2.out.grown hg3 HB2.out.size (fun k hk => by simp at hk; omega))
    clear hc3 hg3 HB2 HC2
    obtain ⟨m, hm, hm1⟩ : ∃ m : Nat, 3000 + y = (m : Int) ∧ m ≤ 3001 := ⟨(3000 + y).toNat, by omega, by omega⟩
    have hmk := run_make_row' (P := Try.prog) 22 5 (.int .u8 0) 1 Try.underlying22 Try.info5 rfl .i64 .i64 m (by omega) (by omega)
    go_wp2
    go_ret
    exact ⟨_, List.replicate m 0, rfl, by simp; omega, drawn_made (World.rowIs_made _ _ _ _) HB3.out.size (HB3.out.alloc HB3.out.size _) (by omega)⟩
  | false =>
    go_wp2_with fail
    refine (bytes_any w.heap.size n cap ao f _ HC2.out).mono ?_
    rintro e w3 ⟨v, L, rfl, hL, hB⟩
    have HD : Hid (Drawn w w3 v L) := drawn_of HB2.out hB
    clear hB
    go_wp2
    go_ret
    exact ⟨v, L, rfl, hL, HD.out⟩

theorem draw_run (ao : Option Addr) (n cap : Nat) (f : Nat → Int) (w : World) (hn : n ≤ 1048576) (hs : SL .u8 w ao n f) (hf : ∀ i, i < n → 0 ≤ f i ∧ f i ≤ 255) :
    Calls Try.prog 14 #[.slice ao n cap] w fun e w' => ∃ v L at_ back, e = .returned (.tuple #[v, .int .i64 at_, .int .i64 back]) ∧ L.length ≤ 4000 ∧ at_ ≤ 5000 ∧ Drawn w w' v L := by
  have HS := hide hs
  have HF := hide hf
  clear hs hf
  go_enter Try.func14, Try.ntmps14
  go_wp2_with fail
  refine (new_any ao n cap f _ hn HS.out HF.out).mono ?_
  rintro e w1 ⟨rfl, hc, b1⟩
  have HB := hide b1
  have HC := hide hc
  clear b1 hc
  go_wp2_with fail
  refine (bytes_any w.heap.size n cap ao f _ HC.out).mono ?_
  rintro e w2 ⟨v, L, rfl, hL, hB⟩
  obtain ⟨vo, vc, rfl, hlr, _⟩ := Own.of_owns hB.1
  have HBL := hide hB
  clear hlr hB HC
  go_wp2_with fail
  refine (below_all w.heap.size n cap ((L.length : Int) + 3) ao f _ (by omega) (by omega) HBL.out.2.2.1).mono ?_
  rintro e w3 ⟨⟨y, rfl, hy0, hy1⟩, hc3, hg3⟩
  have HB3 := hide (HBL.out.step hc3 hg3)
  clear hc3 hg3 HBL
  go_wp2_with fail
  refine (pick_any w.heap.size n cap 7 7 ao (some ⟨w3.heap.size, 0, none⟩) f (fun i => [1, 2, 3, 0, 255, 256, -1].getD i 0) _ (by decide) (by decide) (HB3.out.alloc _).2.2.1 (lit_cells w3 [1, 2, 3, 0, 255, 256, -1] 3 w.heap.size HB3.out.2.2.1.lt)).mono ?_
  rintro e w4 ⟨⟨i, hi, rfl⟩, hc4, hg4⟩
  have HB4 := hide ((HB3.out.alloc _).step hc4 hg4)
  clear hc4 hg4 HB3
  generalize ([1, 2, 3, 0, 255, 256, -1] : List Int).getD i 0 = z
  go_wp2
  go_ret3
  exact ⟨_, L, _, _, rfl, hL, by omega, drawn_of HB.out HB4.out⟩
end Go.Proofs.Ythnlcijmlcaepaa

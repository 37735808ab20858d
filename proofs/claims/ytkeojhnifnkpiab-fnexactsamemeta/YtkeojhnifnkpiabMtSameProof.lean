/- Whatever is handed in, the law FnExactSameMeta returns true and leaves what it was handed as it was. -/
import Derived.Test.YtkeojhnifnkpiabRows
import Derived.WalkKit
import Derived.ProofKit
import Derived.OpenShut
import Derived.ShutString
import Derived.ChangeOld
import Derived.Below
import Derived.Test.YtkeojhnifnkpiabMtO
import Derived.Test.YtkeojhnifnkpiabMtK
import Derived.Test.YtkeojhnifnkpiabMtE3
namespace Go.Proofs.Ytkeojhnifnkpiab.fnExactSameMeta
open Go.ChangeShapes Go.WideShapes Go.ChangeAt Go.RowKit
set_option linter.unusedVariables false

theorem own : ownKnob Try.prog.godebug = none := by kernel_rfl
theorem laidOut : laidOutB Try.prog = true := by kernel_rfl

set_option maxHeartbeats 2000000 in
set_option maxRecDepth 100000 in
theorem walk (go bo : Option Addr) (gc bc : Nat) (g : List Int) (n : Nat) (L : Nat → List Int) (fi ol he : Bool) (la : Int) (go' bo' : Option Addr) (gc' bc' : Nat) (g' : List Int) (n' : Nat) (L' : Nat → List Int) (fi' ol' he' : Bool) (la' : Int) (w : World) (hv : MV w go gc bo bc g n L) (hg : g.length ≤ 9223372036854775807) (hn : n ≤ 9223372036854775807) (hL : ∀ i, i < n → (L i).length ≤ 9223372036854775807) (hv' : MV w go' gc' bo' bc' g' n' L') (hg' : g'.length ≤ 9223372036854775807) (hn' : n' ≤ 9223372036854775807) (hL' : ∀ i, i < n' → (L' i).length ≤ 9223372036854775807) :
    Calls Try.prog 3 #[.agg #[.slice go g.length gc, .slice bo n bc, .bool fi, .bool ol, .bool he, .int .i64 la], .agg #[.slice go' g'.length gc', .slice bo' n' bc', .bool fi', .bool ol', .bool he', .int .i64 la']] w fun e w' => e = .returned (.bool true) ∧ Below w.heap.size w w' := by
  obtain ⟨W, hW⟩ : ∃ W, W = ((w.alloc (.cells #[.slice go g.length gc, .slice bo n bc, .bool fi, .bool ol, .bool he, .int .i64 la] 25)).alloc (.cells #[.slice go' g'.length gc', .slice bo' n' bc', .bool fi', .bool ol', .bool he', .int .i64 la'] 25)) := ⟨_, rfl⟩
  have hb : Below w.heap.size w W := by rw [hW]; exact ((Below.refl _ _).alloc (Nat.le_refl _) _).alloc (by simp) _
  have M1 : KB (W) (w.heap.size) 25 go g.length gc bo n bc fi ol he la := by rw [hW]; exact (al2 w _ _).1
  have M2 : KB (W) (w.heap.size + 1) 25 go' g'.length gc' bo' n' bc' fi' ol' he' la' := by rw [hW]; exact (al2 w _ _).2.1
  have H0 : Hid (KB (W) (w.heap.size) 25 go g.length gc bo n bc fi ol he la ∧ KB (W) (w.heap.size + 1) 25 go' g'.length gc' bo' n' bc' fi' ol' he' la' ∧ Below w.heap.size w W) := ⟨M1, M2, hb⟩
  have hsz := hide (szm_any go bo gc bc g n L fi ol he la 1048576 W hg hn hL (by omega) (by omega) (hv.below hb))
  have hsz2 : Hid (∀ (x : Int) (W' : World), 0 ≤ x → x ≤ 1048576 → Below w.heap.size w W' → Calls Try.prog 4 #[.agg #[.slice go' g'.length gc', .slice bo' n' bc', .bool fi', .bool ol', .bool he', .int .i64 la'], .int .i64 x] W' fun e w' => Sz (g'.length + (n' + psum L' n')) x e ∧ Below W'.heap.size W' w') := fun x W' h0 h1 hb => szm_any go' bo' gc' bc' g' n' L' fi' ol' he' la' x W' hg' hn' hL' h0 h1 (hv'.below hb)
  have HV1 := hide hv
  have HV2 := hide hv'
  obtain ⟨m0, m1, m2, m3, m4, m5⟩ := M1.cells
  obtain ⟨x0, x1, x2, x3, x4, x5⟩ := M2.cells
  clear hv hv' hg hn hL hg' hn' hL' M1 M2 hb
  go_enter Try.func3, Try.ntmps3
  go_wp2_with fail
  rw [← hW]
  clear hW
  refine hsz.out.mono ?_
  rintro e w1 ⟨h1, b1⟩
  have H1 : Hid (KB (w1) (w.heap.size) 25 go g.length gc bo n bc fi ol he la ∧ KB (w1) (w.heap.size + 1) 25 go' g'.length gc' bo' n' bc' fi' ol' he' la' ∧ Below w.heap.size w w1) := ⟨H0.out.1.b b1, H0.out.2.1.b b1, H0.out.2.2.trans (b1.mono H0.out.2.2.size)⟩
  clear b1 hsz H0 m0 m1 m2 m3 m4 m5 x0 x1 x2 x3 x4 x5
  rcases h1 with ⟨hle, rfl⟩ | rfl
  case inr =>
    go_wp2
    go_ret
    exact ⟨rfl, H1.out.2.2⟩
  have hlen : ¬ (1048576 : Int) - ((g.length : Int) + ((n : Int) + (psum L n : Int))) < 0 := by omega
  have hd := hide (bd_of hle)
  have hlb : 0 ≤ (1048576 : Int) - ((g.length : Int) + ((n : Int) + (psum L n : Int))) ∧ (1048576 : Int) - ((g.length : Int) + ((n : Int) + (psum L n : Int))) ≤ 1048576 := by omega
  generalize (1048576 : Int) - ((g.length : Int) + ((n : Int) + (psum L n : Int))) = left at *
  clear hle
  obtain ⟨x0, x1, x2, x3, x4, x5⟩ := H1.out.2.1.cells
  go_wp2_with fail
  refine (hsz2.out left w1 hlb.1 hlb.2 H1.out.2.2).mono ?_
  rintro e w2 ⟨h1, b2⟩
  have H2 : Hid (KB (w2) (w.heap.size) 25 go g.length gc bo n bc fi ol he la ∧ KB (w2) (w.heap.size + 1) 25 go' g'.length gc' bo' n' bc' fi' ol' he' la' ∧ Below w.heap.size w w2) := ⟨H1.out.1.b b2, H1.out.2.1.b b2, H1.out.2.2.trans (b2.mono H1.out.2.2.size)⟩
  clear b2 hsz2 H1 x0 x1 x2 x3 x4 x5 hlen
  rcases h1 with ⟨hle, rfl⟩ | rfl
  case inr =>
    go_wp2
    go_ret
    exact ⟨rfl, H2.out.2.2⟩
  have hd' : Hid (Bd g' n' L') := bd_of (by omega)
  have hlen : ¬ left - ((g'.length : Int) + ((n' : Int) + (psum L' n' : Int))) < 0 := by omega
  generalize left - ((g'.length : Int) + ((n' : Int) + (psum L' n' : Int))) = left2 at *
  clear hle hlb
  obtain ⟨b, hspec, himpl⟩ : ∃ b : Bool, Hid (∀ W go bo gc bc go' bo' gc' bc', MV W go gc bo bc g n L → MV W go' gc' bo' bc' g' n' L' → Calls Try.prog 5 #[.agg #[.slice go g.length gc, .slice bo n bc, .bool fi, .bool ol, .bool he, .int .i64 la], .agg #[.slice go' g'.length gc', .slice bo' n' bc', .bool fi', .bool ol', .bool he', .int .i64 la']] W fun e w' => e = .returned (.bool b) ∧ Below W.heap.size W w') ∧
      Hid (∀ W go bo gc bc go' bo' gc' bc', MV W go gc bo bc g n L → MV W go' gc' bo' bc' g' n' L' → Calls Try.prog 7 #[.agg #[.slice go g.length gc, .slice bo n bc, .bool fi, .bool ol, .bool he, .int .i64 la], .agg #[.slice go' g'.length gc', .slice bo' n' bc', .bool fi', .bool ol', .bool he', .int .i64 la']] W fun e w' => e = .returned (.bool b) ∧ Below W.heap.size W w') := by
    obtain ⟨b, hb⟩ : ∃ b : Bool, b = true ↔ SmM g n L fi ol he la g' n' L' fi' ol' he' la' := by
      by_cases h : SmM g n L fi ol he la g' n' L' fi' ol' he' la'
      · exact ⟨true, by simp [h]⟩
      · exact ⟨false, by simp [h]⟩
    refine ⟨b, fun W go bo gc bc go' bo' gc' bc' h2 h3 => (samem_spec go bo go' bo' gc bc gc' bc' g g' n n' L L' fi ol he fi' ol' he' la la' W hd.out hd'.out h2 h3).mono ?_, fun W go bo gc bc go' bo' gc' bc' h2 h3 => (samem_impl go bo go' bo' gc bc gc' bc' g g' n n' L L' fi ol he fi' ol' he' la la' W hd.out h2 h3).mono ?_⟩
    all_goals
      rintro e w' ⟨h, hbb⟩
      refine ⟨?_, hbb⟩
      rcases h with ⟨h, rfl⟩ | ⟨h, rfl⟩
      · rw [hb.2 h]
      · cases b with
        | true => exact absurd (hb.1 rfl) h
        | false => rfl
  have H2d : Hid (KB (w2.drew) (w.heap.size) 25 go g.length gc bo n bc fi ol he la ∧ KB (w2.drew) (w.heap.size + 1) 25 go' g'.length gc' bo' n' bc' fi' ol' he' la' ∧ Below w.heap.size w w2.drew) := ⟨H2.out.1.b (Below.drawn (Below.refl w2.heap.size w2) 1), H2.out.2.1.b (Below.drawn (Below.refl w2.heap.size w2) 1), H2.out.2.2.trans ((Below.drawn (Below.refl w2.heap.size w2) 1).mono H2.out.2.2.size)⟩
  have hS := And.intro H2d.out.1.cells H2d.out.2.1.cells
  clear H2
  go_wp2_with fail
  go_region_held3 (fun w' => (w'.cell? ⟨w.heap.size, 0, none⟩ = some (.slice go g.length gc) ∧ w'.cell? ⟨w.heap.size, 1, none⟩ = some (.slice bo n bc) ∧ w'.cell? ⟨w.heap.size, 2, none⟩ = some (.bool fi) ∧ w'.cell? ⟨w.heap.size, 3, none⟩ = some (.bool ol) ∧ w'.cell? ⟨w.heap.size, 4, none⟩ = some (.bool he) ∧ w'.cell? ⟨w.heap.size, 5, none⟩ = some (.int .i64 la)) ∧ (w'.cell? ⟨w.heap.size + 1, 0, none⟩ = some (.slice go' g'.length gc') ∧ w'.cell? ⟨w.heap.size + 1, 1, none⟩ = some (.slice bo' n' bc') ∧ w'.cell? ⟨w.heap.size + 1, 2, none⟩ = some (.bool fi') ∧ w'.cell? ⟨w.heap.size + 1, 3, none⟩ = some (.bool ol') ∧ w'.cell? ⟨w.heap.size + 1, 4, none⟩ = some (.bool he') ∧ w'.cell? ⟨w.heap.size + 1, 5, none⟩ = some (.int .i64 la'))) (with_reducible assumption) (first
    | (go_at_call 5; refine (hspec.out w4 go3 bo3 gc3 bc3 go4 bo4 gc4 bc4 H4.out.2.1 H4.out.2.2).mono ?_; rintro e w5 ⟨rfl, b5⟩; have H5 : Hid (KB (w5) (w.heap.size) 25 go g.length gc bo n bc fi ol he la ∧ KB (w5) (w.heap.size + 1) 25 go' g'.length gc' bo' n' bc' fi' ol' he' la' ∧ Below w.heap.size w w5) := ⟨H4.out.1.1.b b5, H4.out.1.2.1.b b5, H4.out.1.2.2.trans (b5.mono H4.out.1.2.2.size)⟩; have hk5 := And.intro H5.out.1.cells H5.out.2.1.cells; clear b5)
    | (go_at_call 6; refine (tom_any go' bo' gc' bc' g' n' L' fi' ol' he' la' w3 hd'.out (HV2.out.below H3.out.1.2.2)).mono ?_; rintro e w4 ⟨go4, bo4, gc4, bc4, rfl, o4, b4⟩; have H4 : Hid ((KB (w4) (w.heap.size) 25 go g.length gc bo n bc fi ol he la ∧ KB (w4) (w.heap.size + 1) 25 go' g'.length gc' bo' n' bc' fi' ol' he' la' ∧ Below w.heap.size w w4) ∧ MV (w4) go3 gc3 bo3 bc3 g n L ∧ MV (w4) go4 gc4 bo4 bc4 g' n' L') := ⟨⟨H3.out.1.1.b b4, H3.out.1.2.1.b b4, H3.out.1.2.2.trans (b4.mono H3.out.1.2.2.size)⟩, H3.out.2.below b4, o4.mv⟩; have hk4 := And.intro H4.out.1.1.cells H4.out.1.2.1.cells; clear o4 b4)
    | (go_at_call 6; refine (tom_any go bo gc bc g n L fi ol he la w2.drew hd.out (HV1.out.below H2d.out.2.2)).mono ?_; rintro e w3 ⟨go3, bo3, gc3, bc3, rfl, o3, b3⟩; have H3 : Hid ((KB (w3) (w.heap.size) 25 go g.length gc bo n bc fi ol he la ∧ KB (w3) (w.heap.size + 1) 25 go' g'.length gc' bo' n' bc' fi' ol' he' la' ∧ Below w.heap.size w w3) ∧ MV (w3) go3 gc3 bo3 bc3 g n L) := ⟨⟨H2d.out.1.b b3, H2d.out.2.1.b b3, H2d.out.2.2.trans (b3.mono H2d.out.2.2.size)⟩, o3.mv⟩; have hk3 := And.intro H3.out.1.1.cells H3.out.1.2.1.cells; clear o3 b3))
  clear hS hk3 hk4 hk5 H3 H4 H2d hspec
  obtain ⟨m0, m1, m2, m3, m4, m5⟩ := H5.out.1.cells
  go_wp2_with fail
  refine (tom_any go bo gc bc g n L fi ol he la _ hd.out (HV1.out.below H5.out.2.2)).mono ?_
  rintro e w6 ⟨go6, bo6, gc6, bc6, rfl, o6, b6⟩
  have H6 : Hid ((KB ((w6.alloc (.cells #[.slice go6 g.length gc6, .slice bo6 n bc6, .bool fi, .bool ol, .bool he, .int .i64 la] 28))) (w.heap.size) 25 go g.length gc bo n bc fi ol he la ∧ KB ((w6.alloc (.cells #[.slice go6 g.length gc6, .slice bo6 n bc6, .bool fi, .bool ol, .bool he, .int .i64 la] 28))) (w.heap.size + 1) 25 go' g'.length gc' bo' n' bc' fi' ol' he' la' ∧ Below w.heap.size w (w6.alloc (.cells #[.slice go6 g.length gc6, .slice bo6 n bc6, .bool fi, .bool ol, .bool he, .int .i64 la] 28))) ∧ MV (w6.alloc (.cells #[.slice go6 g.length gc6, .slice bo6 n bc6, .bool fi, .bool ol, .bool he, .int .i64 la] 28)) go6 gc6 bo6 bc6 g n L ∧ KB (w6.alloc (.cells #[.slice go6 g.length gc6, .slice bo6 n bc6, .bool fi, .bool ol, .bool he, .int .i64 la] 28)) (w6.heap.size) 28 go6 g.length gc6 bo6 n bc6 fi ol he la) := ⟨⟨H5.out.1.b (b6.trans ((bal1 _ _).mono b6.size)), H5.out.2.1.b (b6.trans ((bal1 _ _).mono b6.size)), H5.out.2.2.trans ((b6.trans ((bal1 _ _).mono b6.size)).mono H5.out.2.2.size)⟩, (o6.mv.below (bal1 _ _)), KB.new w6 28 go6 g.length gc6 bo6 n bc6 fi ol he la⟩
  clear o6 b6 H5 m0 m1 m2 m3 m4 m5
  obtain ⟨x0, x1, x2, x3, x4, x5⟩ := H6.out.1.2.1.cells
  go_wp2_with fail
  generalize w6.alloc (.cells #[.slice go6 g.length gc6, .slice bo6 n bc6, .bool fi, .bool ol, .bool he, .int .i64 la] 28) = W6 at *
  generalize w6.heap.size = X6 at *
  refine (tom_any go' bo' gc' bc' g' n' L' fi' ol' he' la' _ hd'.out (HV2.out.below H6.out.1.2.2)).mono ?_
  rintro e w7 ⟨go7, bo7, gc7, bc7, rfl, o7, b7⟩
  have b7' := b7.trans ((bal1 w7 (.cells #[.slice go7 g'.length gc7, .slice bo7 n' bc7, .bool fi', .bool ol', .bool he', .int .i64 la'] 28)).mono b7.size)
  have H7 : Hid ((KB ((w7.alloc (.cells #[.slice go7 g'.length gc7, .slice bo7 n' bc7, .bool fi', .bool ol', .bool he', .int .i64 la'] 28))) (w.heap.size) 25 go g.length gc bo n bc fi ol he la ∧ KB ((w7.alloc (.cells #[.slice go7 g'.length gc7, .slice bo7 n' bc7, .bool fi', .bool ol', .bool he', .int .i64 la'] 28))) (w.heap.size + 1) 25 go' g'.length gc' bo' n' bc' fi' ol' he' la' ∧ Below w.heap.size w (w7.alloc (.cells #[.slice go7 g'.length gc7, .slice bo7 n' bc7, .bool fi', .bool ol', .bool he', .int .i64 la'] 28))) ∧ (MV (w7.alloc (.cells #[.slice go7 g'.length gc7, .slice bo7 n' bc7, .bool fi', .bool ol', .bool he', .int .i64 la'] 28)) go6 gc6 bo6 bc6 g n L ∧ KB (w7.alloc (.cells #[.slice go7 g'.length gc7, .slice bo7 n' bc7, .bool fi', .bool ol', .bool he', .int .i64 la'] 28)) (X6) 28 go6 g.length gc6 bo6 n bc6 fi ol he la) ∧ MV (w7.alloc (.cells #[.slice go7 g'.length gc7, .slice bo7 n' bc7, .bool fi', .bool ol', .bool he', .int .i64 la'] 28)) go7 gc7 bo7 bc7 g' n' L' ∧ KB (w7.alloc (.cells #[.slice go7 g'.length gc7, .slice bo7 n' bc7, .bool fi', .bool ol', .bool he', .int .i64 la'] 28)) (w7.heap.size) 28 go7 g'.length gc7 bo7 n' bc7 fi' ol' he' la') := ⟨⟨H6.out.1.1.b b7', H6.out.1.2.1.b b7', H6.out.1.2.2.trans (b7'.mono H6.out.1.2.2.size)⟩, ⟨H6.out.2.1.below b7', H6.out.2.2.b b7'⟩, (o7.mv.below (bal1 _ _)), KB.new w7 28 go7 g'.length gc7 bo7 n' bc7 fi' ol' he' la'⟩
  have K7 : KB (w7) (X6) 28 go6 g.length gc6 bo6 n bc6 fi ol he la := H6.out.2.2.b b7
  clear o7 b7 b7' H6 x0 x1 x2 x3 x4 x5
  obtain ⟨x0, x1, x2, x3, x4, x5⟩ := K7.cells
  have hlt7 : X6 < w7.heap.size := K7.lt
  clear K7
  go_wp2_with fail
  generalize w7.alloc (.cells #[.slice go7 g'.length gc7, .slice bo7 n' bc7, .bool fi', .bool ol', .bool he', .int .i64 la'] 28) = W7 at *
  generalize w7.heap.size = X7 at *
  refine (himpl.out W7 go6 bo6 gc6 bc6 go7 bo7 gc7 bc7 H7.out.2.1.1 H7.out.2.2.1).mono ?_
  rintro e w8 ⟨rfl, b8⟩
  have b8' := Below.drawn b8 1
  have H8 : Hid ((KB (w8.drew) (w.heap.size) 25 go g.length gc bo n bc fi ol he la ∧ KB (w8.drew) (w.heap.size + 1) 25 go' g'.length gc' bo' n' bc' fi' ol' he' la' ∧ Below w.heap.size w w8.drew) ∧ (MV (w8.drew) go6 gc6 bo6 bc6 g n L ∧ KB (w8.drew) (X6) 28 go6 g.length gc6 bo6 n bc6 fi ol he la) ∧ MV (w8.drew) go7 gc7 bo7 bc7 g' n' L' ∧ KB (w8.drew) (X7) 28 go7 g'.length gc7 bo7 n' bc7 fi' ol' he' la') := ⟨⟨H7.out.1.1.b b8', H7.out.1.2.1.b b8', H7.out.1.2.2.trans (b8'.mono H7.out.1.2.2.size)⟩, ⟨H7.out.2.1.1.below b8', H7.out.2.1.2.b b8'⟩, H7.out.2.2.1.below b8', H7.out.2.2.2.b b8'⟩
  clear b8 b8' H7 x0 x1 x2 x3 x4 x5 hlt7 himpl
  have hS := And.intro H8.out.1.1.cells H8.out.2.1.2.cells
  cases b
  all_goals
    go_wp2_with fail
    go_region_held3 (fun w' => (w'.cell? ⟨w.heap.size, 0, none⟩ = some (.slice go g.length gc) ∧ w'.cell? ⟨w.heap.size, 1, none⟩ = some (.slice bo n bc) ∧ w'.cell? ⟨w.heap.size, 2, none⟩ = some (.bool fi) ∧ w'.cell? ⟨w.heap.size, 3, none⟩ = some (.bool ol) ∧ w'.cell? ⟨w.heap.size, 4, none⟩ = some (.bool he) ∧ w'.cell? ⟨w.heap.size, 5, none⟩ = some (.int .i64 la)) ∧ (w'.cell? ⟨X6, 0, none⟩ = some (.slice go6 g.length gc6) ∧ w'.cell? ⟨X6, 1, none⟩ = some (.slice bo6 n bc6) ∧ w'.cell? ⟨X6, 2, none⟩ = some (.bool fi) ∧ w'.cell? ⟨X6, 3, none⟩ = some (.bool ol) ∧ w'.cell? ⟨X6, 4, none⟩ = some (.bool he) ∧ w'.cell? ⟨X6, 5, none⟩ = some (.int .i64 la))) (with_reducible assumption) (first
      | (go_at_call 6; refine (tom_any go bo gc bc g n L fi ol he la w8.drew hd.out (HV1.out.below H8.out.1.2.2)).mono ?_; rintro e w9 ⟨go9, bo9, gc9, bc9, rfl, o9, b9⟩; have H9 : Hid (((KB (w9) (w.heap.size) 25 go g.length gc bo n bc fi ol he la ∧ KB (w9) (w.heap.size + 1) 25 go' g'.length gc' bo' n' bc' fi' ol' he' la' ∧ Below w.heap.size w w9) ∧ (MV (w9) go6 gc6 bo6 bc6 g n L ∧ KB (w9) (X6) 28 go6 g.length gc6 bo6 n bc6 fi ol he la) ∧ MV (w9) go7 gc7 bo7 bc7 g' n' L' ∧ KB (w9) (X7) 28 go7 g'.length gc7 bo7 n' bc7 fi' ol' he' la') ∧ MV (w9) go9 gc9 bo9 bc9 g n L) := ⟨⟨⟨H8.out.1.1.b b9, H8.out.1.2.1.b b9, H8.out.1.2.2.trans (b9.mono H8.out.1.2.2.size)⟩, ⟨H8.out.2.1.1.below b9, H8.out.2.1.2.b b9⟩, H8.out.2.2.1.below b9, H8.out.2.2.2.b b9⟩, o9.mv⟩; have hk9 := And.intro H9.out.1.1.1.cells H9.out.1.2.1.2.cells; clear o9 b9)
      | (go_at_call 8; refine (eqm_yes go6 bo6 go9 bo9 gc6 bc6 gc9 bc9 g n L fi ol he la w9 hd.out H9.out.1.2.1.1 H9.out.2).mono ?_; rintro e w10 ⟨rfl, b10⟩; have b10' := Below.drawn b10 1; have H10 : Hid ((KB (w10.drew) (w.heap.size) 25 go g.length gc bo n bc fi ol he la ∧ KB (w10.drew) (w.heap.size + 1) 25 go' g'.length gc' bo' n' bc' fi' ol' he' la' ∧ Below w.heap.size w w10.drew) ∧ (MV (w10.drew) go6 gc6 bo6 bc6 g n L ∧ KB (w10.drew) (X6) 28 go6 g.length gc6 bo6 n bc6 fi ol he la) ∧ MV (w10.drew) go7 gc7 bo7 bc7 g' n' L' ∧ KB (w10.drew) (X7) 28 go7 g'.length gc7 bo7 n' bc7 fi' ol' he' la') := ⟨⟨H9.out.1.1.1.b b10', H9.out.1.1.2.1.b b10', H9.out.1.1.2.2.trans (b10'.mono H9.out.1.1.2.2.size)⟩, ⟨H9.out.1.2.1.1.below b10', H9.out.1.2.1.2.b b10'⟩, H9.out.1.2.2.1.below b10', H9.out.1.2.2.2.b b10'⟩; have hk10 := And.intro (H9.out.1.1.1.b b10).cells (H9.out.1.2.1.2.b b10).cells; clear b10 b10'))
    clear hS hk9 hk10 H8 H9
    have hS := And.intro H10.out.1.2.1.cells H10.out.2.2.2.cells
    go_wp2_with fail
    go_region_held3 (fun w' => (w'.cell? ⟨w.heap.size + 1, 0, none⟩ = some (.slice go' g'.length gc') ∧ w'.cell? ⟨w.heap.size + 1, 1, none⟩ = some (.slice bo' n' bc') ∧ w'.cell? ⟨w.heap.size + 1, 2, none⟩ = some (.bool fi') ∧ w'.cell? ⟨w.heap.size + 1, 3, none⟩ = some (.bool ol') ∧ w'.cell? ⟨w.heap.size + 1, 4, none⟩ = some (.bool he') ∧ w'.cell? ⟨w.heap.size + 1, 5, none⟩ = some (.int .i64 la')) ∧ (w'.cell? ⟨X7, 0, none⟩ = some (.slice go7 g'.length gc7) ∧ w'.cell? ⟨X7, 1, none⟩ = some (.slice bo7 n' bc7) ∧ w'.cell? ⟨X7, 2, none⟩ = some (.bool fi') ∧ w'.cell? ⟨X7, 3, none⟩ = some (.bool ol') ∧ w'.cell? ⟨X7, 4, none⟩ = some (.bool he') ∧ w'.cell? ⟨X7, 5, none⟩ = some (.int .i64 la'))) (with_reducible assumption) (first
      | (go_at_call 6; refine (tom_any go' bo' gc' bc' g' n' L' fi' ol' he' la' w10.drew hd'.out (HV2.out.below H10.out.1.2.2)).mono ?_; rintro e w11 ⟨go11, bo11, gc11, bc11, rfl, o11, b11⟩; have H11 : Hid (((KB (w11) (w.heap.size) 25 go g.length gc bo n bc fi ol he la ∧ KB (w11) (w.heap.size + 1) 25 go' g'.length gc' bo' n' bc' fi' ol' he' la' ∧ Below w.heap.size w w11) ∧ (MV (w11) go6 gc6 bo6 bc6 g n L ∧ KB (w11) (X6) 28 go6 g.length gc6 bo6 n bc6 fi ol he la) ∧ MV (w11) go7 gc7 bo7 bc7 g' n' L' ∧ KB (w11) (X7) 28 go7 g'.length gc7 bo7 n' bc7 fi' ol' he' la') ∧ MV (w11) go11 gc11 bo11 bc11 g' n' L') := ⟨⟨⟨H10.out.1.1.b b11, H10.out.1.2.1.b b11, H10.out.1.2.2.trans (b11.mono H10.out.1.2.2.size)⟩, ⟨H10.out.2.1.1.below b11, H10.out.2.1.2.b b11⟩, H10.out.2.2.1.below b11, H10.out.2.2.2.b b11⟩, o11.mv⟩; have hk11 := And.intro H11.out.1.1.2.1.cells H11.out.1.2.2.2.cells; clear o11 b11)
      | (go_at_call 8; refine (eqm_yes go7 bo7 go11 bo11 gc7 bc7 gc11 bc11 g' n' L' fi' ol' he' la' w11 hd'.out H11.out.1.2.2.1 H11.out.2).mono ?_; rintro e w12 ⟨rfl, b12⟩; have H12 := hide (H11.out.1.1.2.2.trans (b12.mono H11.out.1.1.2.2.size)); have hk12 := And.intro (H11.out.1.1.2.1.b b12).cells (H11.out.1.2.2.2.b b12).cells; clear b12))
    go_wp2
    go_ret
    exact ⟨rfl, H12.out⟩

set_option maxRecDepth 100000 in
theorem lifted (os : Os) (started : os.Started) (H : Type) (enc : TypeId × Value → H) :
    ReturnsInHanded {} Try.checked os 3 .any (Rows.fnExactSameMetaSpec.pre6 enc Try.prog Try.f3 Rows.fnExactSameMetaRow.domain false) (Rows.fnExactSameMetaSpec.post enc Try.prog Try.f3 false true false false) := by
  refine returnsInHanded_of_change (C := Try.checked) own started (by kernel_rfl) Try.func3
    (ChangeSpec.witness6 (enc := enc) (C := Try.checked) false ⟨#[], #[.agg #[.slice none 0 0, .slice none 0 0, .bool false, .bool false, .bool false, .int .i64 0], .agg #[.slice none 0 0, .slice none 0 0, .bool false, .bool false, .bool false, .int .i64 0]], []⟩ 8 (by kernel_rfl) (by kernel_rfl) (by kernel_rfl) (by kernel_rfl)) ?_
  intro W base args ds gs before hval0 hW hcnd _
  have hval : ∀ (j : Nat) t v, Try.f3.params[j]? = some t → args[j]? = some v → Value.okWide Try.prog W .any base t v := hval0
  have hW' := hW
  obtain ⟨p, q, hA0, hV, rfl, hfz, hnd⟩ := hW
  have hA : DataW.TrodAll enc Try.prog W 0 (fun _ => true) true Try.f3.params.toList args.toList ds p := hA0
  rw [Try.params3] at hA hval
  obtain ⟨v0, vs0, d0, ds0, p0, q0, hargs0, rfl, rfl, h0, r0⟩ := trodAll_cons hA
  obtain ⟨v1, vs1, d1, ds1, p1, q1, hargs1, rfl, rfl, h1, r1⟩ := trodAll_cons r0
  obtain ⟨rfl, rfl, rfl⟩ := trodAll_nil r1
  obtain rfl : args = #[v0, v1] := by cases args; simp_all
  obtain ⟨rfl, rfl⟩ := trodVars_none hV
  have k0 := h0
  have lt0 : ∀ x ∈ p0, x.block < W.heap.size := by obtain ⟨m, hm⟩ := k0; exact DataW.trod_lt m _ _ _ hm
  obtain ⟨cs0, rfl, _⟩ := okWide_struct Try.underlying25 (hval 0 25 v0 rfl rfl)
  obtain ⟨go, bo, gc, bc, g, n, L, fi, ol, he, la, hcs, hv, hg, hn, hL⟩ : ∃ (go bo : Option Addr) (gc bc : Nat) (g : List Int) (n : Nat) (L : Nat → List Int) (fi ol he : Bool) (la : Int), cs0 = #[.slice go g.length gc, .slice bo n bc, .bool fi, .bool ol, .bool he, .int .i64 la] ∧ MV W go gc bo bc g n L ∧ g.length ≤ 9223372036854775807 ∧ n ≤ 9223372036854775807 ∧ ∀ i, i < n → (L i).length ≤ 9223372036854775807 := by
    obtain ⟨fuel, hf⟩ := h0
    obtain ⟨go, bo, gc, bc, g, n, L, fi, ol, he, la, e, h1, h2, h3, h4⟩ := open_known hf
    refine ⟨go, bo, gc, bc, g, n, L, fi, ol, he, la, ?_, h1, h2, h3, h4⟩
    obtain ⟨l⟩ := cs0
    simpa [Value.cells] using e
  subst hcs
  have k1 := h1
  have lt1 : ∀ x ∈ p1, x.block < W.heap.size := by obtain ⟨m, hm⟩ := k1; exact DataW.trod_lt m _ _ _ hm
  obtain ⟨cs1, rfl, _⟩ := okWide_struct Try.underlying25 (hval 1 25 v1 rfl rfl)
  obtain ⟨go', bo', gc', bc', g', n', L', fi', ol', he', la', hcs', hv', hg', hn', hL'⟩ : ∃ (go bo : Option Addr) (gc bc : Nat) (g : List Int) (n : Nat) (L : Nat → List Int) (fi ol he : Bool) (la : Int), cs1 = #[.slice go g.length gc, .slice bo n bc, .bool fi, .bool ol, .bool he, .int .i64 la] ∧ MV W go gc bo bc g n L ∧ g.length ≤ 9223372036854775807 ∧ n ≤ 9223372036854775807 ∧ ∀ i, i < n → (L i).length ≤ 9223372036854775807 := by
    obtain ⟨fuel, hf⟩ := h1
    obtain ⟨go, bo, gc, bc, g, n, L, fi, ol, he, la, e, h1, h2, h3, h4⟩ := open_known hf
    refine ⟨go, bo, gc, bc, g, n, L, fi, ol, he, la, ?_, h1, h2, h3, h4⟩
    obtain ⟨l⟩ := cs1
    simpa [Value.cells] using e
  subst hcs'
  clear hA0 hval0
  refine (walk go bo gc bc g n L fi ol he la go' bo' gc' bc' g' n' L' fi' ol' he' la' W hv hg hn hL hv' hg' hn' hL').mono fun e W' ⟨he, bel⟩ => ?_
  subst he
  exact ⟨_, rfl, _, _, _, [], _, [], hW', trodAll_mk1 (shut_bool Try.underlying4 _), (trodAll_cons_mk (Below.trod laidOut (by kernel_rfl) (of_decide_eq_true (by kernel_rfl)) k0 bel lt0) (trodAll_cons_mk (Below.trod laidOut (by kernel_rfl) (of_decide_eq_true (by kernel_rfl)) k1 bel lt1) trodAll_mk0)), rfl, bel.frame _, fun h => by cases h⟩

theorem over : Rows.fnExactSameMetaRow.holds Try.pinned (OpenSpec.ofChange Rows.fnExactSameMetaSpec) :=
  OpenClaim.holds_of_wide 3 Try.f3 rfl rfl rfl rfl rfl rfl rfl ⟨rfl, rfl, rfl, rfl, rfl⟩ rfl rfl rfl rfl rfl (by kernel_rfl) Try.func3 (by kernel_rfl)
    (of_decide_eq_true (by kernel_rfl)) (by unfold Func.isWrapper; first | (rw [if_pos (by decide +kernel)]; kernel_rfl) | (rw [if_neg (by decide +kernel)]; exact ⟨rfl, rfl⟩))
    (fun os started H enc _ => lifted os started H enc)

theorem proved : Rows.FnExactSameMetaSaid := over
end Go.Proofs.Ytkeojhnifnkpiab.fnExactSameMeta
namespace Go.Proofs.Ytkeojhnifnkpiab
theorem fnExactSameMeta_holds : Rows.FnExactSameMetaSaid := fnExactSameMeta.proved
end Go.Proofs.Ytkeojhnifnkpiab

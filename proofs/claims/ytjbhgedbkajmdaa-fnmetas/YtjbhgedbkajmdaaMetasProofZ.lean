/- A meta is read from its bytes as it was; bytes that are read are those of it. -/
import Derived.Test.YtjbhgedbkajmdaaRows
import Derived.WalkKit
import Derived.ProofKit
import Derived.OpenShut
import Derived.ShutString
import Derived.Test.YtjbhgedbkajmdaaTzZ
import Derived.ChangeOld
import Derived.Below

namespace Go.Proofs.Ytjbhgedbkajmdaa.fnMetas
open Go.ChangeShapes Go.WideShapes Go.ChangeAt Go.RowKit
open Go.ChangeMaps (open_string shut_string)
set_option linter.unusedVariables false

theorem own : ownKnob Try.prog.godebug = none := by kernel_rfl
theorem laidOut : laidOutB Try.prog = true := by kernel_rfl

/-- WHAT THE WALK IS TOLD OF A SLICE OF INTEGERS THAT CAME IN: it is nil; or it leads to a row of 'cap' cells, the numbers 'zs' (the first 'len' are its elements, the rest its spare room), each fitting its kind. -/
def IsRow (k : IntKind) (w : World) (a : Option Addr) (len cap : Nat) (zs : List Int) : Prop :=
  (a = none ∧ len = 0 ∧ cap = 0 ∧ zs = []) ∨
  ∃ x, a = some x ∧ len ≤ cap ∧ cap ≤ maxLen ∧ zs.length = cap ∧ (∀ i, i < zs.length → w.cell? (x.add i) = some (.int k (zs.getD i 0))) ∧ ∀ n ∈ zs, (Lit.int k n).wf = true

set_option maxHeartbeats 8000000 in
set_option maxRecDepth 100000 in
theorem walk (a0 : Option Addr) (len0 cap0 : Nat) (z0 : List Int) (w : World) (w0 : IsRow .u8 w a0 len0 cap0 z0) :
    Calls Try.prog 3 #[.slice a0 len0 cap0] w fun e w' => e = .returned (.bool true) ∧ Below w.heap.size w w' := by
  obtain ⟨f, hs, hf0⟩ := view w0
  have hf := view_u8 hf0
  clear w0 hf0
  by_cases hn : len0 ≤ 1048576
  · have HF := hide hf
    have HS := hide hs
    clear hs hf
    go_enter Try.func3, Try.ntmps3
    go_wp2_with fail
    refine (big_no a0 len0 cap0 _ hn).mono ?_
    rintro e w9 ⟨rfl, hw9⟩
    rw [hw9]
    clear hw9
    go_wp2_with fail
    refine (draw_mtby a0 len0 cap0 f _ hn HS.out HF.out).mono ?_
    rintro e w1 hdr
    obtain ⟨m, go1, bo1, gc1, bc1, rfl, hsm, hm1, b1⟩ := drv_ma hdr
    clear hdr
    have H1 : Hid (TZ w (w1.alloc (.cells #[.slice go1 m.G.length gc1, .slice bo1 m.k bc1, .bool m.fi, .bool m.ol, .bool m.he, .int .i64 m.la] 27)) ∧ TK (w1.alloc (.cells #[.slice go1 m.G.length gc1, .slice bo1 m.k bc1, .bool m.fi, .bool m.ol, .bool m.he, .int .i64 m.la] 27)) w1.heap.size m go1 gc1 bo1 bc1) := ⟨(b1.trans ((bal1 w1 (.cells #[.slice go1 m.G.length gc1, .slice bo1 m.k bc1, .bool m.fi, .bool m.ol, .bool m.he, .int .i64 m.la] 27)).mono b1.size)), ⟨KB.new w1 _ _ _ _ _ _ _ _ _ _ _, hm1.below (bal1 _ _)⟩⟩
    clear b1 hm1
    go_wp2_with fail
    generalize w1.alloc (.cells #[.slice go1 m.G.length gc1, .slice bo1 m.k bc1, .bool m.fi, .bool m.ol, .bool m.he, .int .i64 m.la] 27) = W1 at *
    generalize w1.heap.size = X1 at *
    refine (mtbytes_impl go1 bo1 gc1 bc1 m.G m.k m.L m.fi m.ol m.he m.la W1 hsm.bd H1.out.2.2).mono ?_
    rintro e w2 ⟨v2, rfl, ho2, b2⟩
    obtain ⟨yo, yc, rfl, hvb⟩ := tb_form (L := mtq Classical.propDecidable m) ho2
    have H2 : Hid (TZ w w2 ∧ TK w2 X1 m go1 gc1 bo1 bc1 ∧ TB w2 yo (mtq Classical.propDecidable m)) := ⟨H1.out.1.st b2, H1.out.2.st b2, hvb⟩
    clear ho2 b2 hvb H1
    go_wp2_with fail
    refine (draw_mtof a0 len0 cap0 f _ hn (HS.out.below H2.out.1) HF.out).mono ?_
    rintro e w3 ⟨v3, X, rfl, hXl, hXb, ho3, b3⟩
    obtain ⟨xo, xc, rfl, hvx⟩ := tb_form ho3
    have H3 : Hid (TZ w w3 ∧ TK w3 X1 m go1 gc1 bo1 bc1 ∧ TB w3 yo (mtq Classical.propDecidable m) ∧ TB w3 xo X) := ⟨H2.out.1.st b3, H2.out.2.1.st b3, H2.out.2.2.st b3, hvx⟩
    have HXB := hide hXb
    clear ho3 b3 hvx H2 hXb
    obtain ⟨r, ok, hrs, hok1, hok2, hms0, hmi0⟩ := mtof_both X (by omega) HXB.out
    have hms := hide hms0
    have hmi := hide hmi0
    have HOK := hide hok1
    clear hms0 hmi0 hok1 hok2
    go_wp2_with fail
    refine (hmi.out w3 xo xc H3.out.2.2.2).mono ?_
    rintro e w4 ⟨go6, bo6, gc6, bc6, rfl, hm6, b4⟩
    have H4 : Hid (TZ w (w4.alloc (.cells #[.slice go6 r.G.length gc6, .slice bo6 r.k bc6, .bool r.fi, .bool r.ol, .bool r.he, .int .i64 r.la] 27)) ∧ TK (w4.alloc (.cells #[.slice go6 r.G.length gc6, .slice bo6 r.k bc6, .bool r.fi, .bool r.ol, .bool r.he, .int .i64 r.la] 27)) X1 m go1 gc1 bo1 bc1 ∧ TB (w4.alloc (.cells #[.slice go6 r.G.length gc6, .slice bo6 r.k bc6, .bool r.fi, .bool r.ol, .bool r.he, .int .i64 r.la] 27)) yo (mtq Classical.propDecidable m) ∧ TB (w4.alloc (.cells #[.slice go6 r.G.length gc6, .slice bo6 r.k bc6, .bool r.fi, .bool r.ol, .bool r.he, .int .i64 r.la] 27)) xo X ∧ TK (w4.alloc (.cells #[.slice go6 r.G.length gc6, .slice bo6 r.k bc6, .bool r.fi, .bool r.ol, .bool r.he, .int .i64 r.la] 27)) w4.heap.size r go6 gc6 bo6 bc6) := ⟨H3.out.1.st (b4.trans ((bal1 w4 (.cells #[.slice go6 r.G.length gc6, .slice bo6 r.k bc6, .bool r.fi, .bool r.ol, .bool r.he, .int .i64 r.la] 27)).mono b4.size)), H3.out.2.1.st (b4.trans ((bal1 w4 (.cells #[.slice go6 r.G.length gc6, .slice bo6 r.k bc6, .bool r.fi, .bool r.ol, .bool r.he, .int .i64 r.la] 27)).mono b4.size)), H3.out.2.2.1.st (b4.trans ((bal1 w4 (.cells #[.slice go6 r.G.length gc6, .slice bo6 r.k bc6, .bool r.fi, .bool r.ol, .bool r.he, .int .i64 r.la] 27)).mono b4.size)), H3.out.2.2.2.st (b4.trans ((bal1 w4 (.cells #[.slice go6 r.G.length gc6, .slice bo6 r.k bc6, .bool r.fi, .bool r.ol, .bool r.he, .int .i64 r.la] 27)).mono b4.size)), ⟨KB.new w4 _ _ _ _ _ _ _ _ _ _ _, hm6.below (bal1 _ _)⟩⟩
    clear b4 hm6 H3
    go_wp2_with fail
    generalize w4.alloc (.cells #[.slice go6 r.G.length gc6, .slice bo6 r.k bc6, .bool r.fi, .bool r.ol, .bool r.he, .int .i64 r.la] 27) = W6 at *
    generalize w4.heap.size = X6 at *
    refine (hms.out W6 xo xc H4.out.2.2.2.1).mono ?_
    rintro e w5 ⟨go8, bo8, gc8, bc8, rfl, hm8, b5⟩
    have H5 : Hid (TZ w (w5.alloc (.cells #[.slice go8 r.G.length gc8, .slice bo8 r.k bc8, .bool r.fi, .bool r.ol, .bool r.he, .int .i64 r.la] 27)) ∧ TK (w5.alloc (.cells #[.slice go8 r.G.length gc8, .slice bo8 r.k bc8, .bool r.fi, .bool r.ol, .bool r.he, .int .i64 r.la] 27)) X1 m go1 gc1 bo1 bc1 ∧ TB (w5.alloc (.cells #[.slice go8 r.G.length gc8, .slice bo8 r.k bc8, .bool r.fi, .bool r.ol, .bool r.he, .int .i64 r.la] 27)) yo (mtq Classical.propDecidable m) ∧ TB (w5.alloc (.cells #[.slice go8 r.G.length gc8, .slice bo8 r.k bc8, .bool r.fi, .bool r.ol, .bool r.he, .int .i64 r.la] 27)) xo X ∧ TK (w5.alloc (.cells #[.slice go8 r.G.length gc8, .slice bo8 r.k bc8, .bool r.fi, .bool r.ol, .bool r.he, .int .i64 r.la] 27)) X6 r go6 gc6 bo6 bc6 ∧ TK (w5.alloc (.cells #[.slice go8 r.G.length gc8, .slice bo8 r.k bc8, .bool r.fi, .bool r.ol, .bool r.he, .int .i64 r.la] 27)) w5.heap.size r go8 gc8 bo8 bc8) := ⟨H4.out.1.st (b5.trans ((bal1 w5 (.cells #[.slice go8 r.G.length gc8, .slice bo8 r.k bc8, .bool r.fi, .bool r.ol, .bool r.he, .int .i64 r.la] 27)).mono b5.size)), H4.out.2.1.st (b5.trans ((bal1 w5 (.cells #[.slice go8 r.G.length gc8, .slice bo8 r.k bc8, .bool r.fi, .bool r.ol, .bool r.he, .int .i64 r.la] 27)).mono b5.size)), H4.out.2.2.1.st (b5.trans ((bal1 w5 (.cells #[.slice go8 r.G.length gc8, .slice bo8 r.k bc8, .bool r.fi, .bool r.ol, .bool r.he, .int .i64 r.la] 27)).mono b5.size)), H4.out.2.2.2.1.st (b5.trans ((bal1 w5 (.cells #[.slice go8 r.G.length gc8, .slice bo8 r.k bc8, .bool r.fi, .bool r.ol, .bool r.he, .int .i64 r.la] 27)).mono b5.size)), H4.out.2.2.2.2.st (b5.trans ((bal1 w5 (.cells #[.slice go8 r.G.length gc8, .slice bo8 r.k bc8, .bool r.fi, .bool r.ol, .bool r.he, .int .i64 r.la] 27)).mono b5.size)), ⟨KB.new w5 _ _ _ _ _ _ _ _ _ _ _, hm8.below (bal1 _ _)⟩⟩
    clear b5 hm8 H4
    go_wp2_with fail
    generalize w5.alloc (.cells #[.slice go8 r.G.length gc8, .slice bo8 r.k bc8, .bool r.fi, .bool r.ol, .bool r.he, .int .i64 r.la] 27) = W8 at *
    generalize w5.heap.size = X8 at *
    refine (draw_mtok a0 len0 cap0 f _ hn (HS.out.below H5.out.1) HF.out).mono ?_
    rintro e w6 hdr
    obtain ⟨q, go10, bo10, gc10, bc10, rfl, hqs, hm10, b6⟩ := drv_ma hdr
    clear hdr
    have H6 : Hid (TZ w (w6.alloc (.cells #[.slice go10 q.G.length gc10, .slice bo10 q.k bc10, .bool q.fi, .bool q.ol, .bool q.he, .int .i64 q.la] 27)) ∧ TK (w6.alloc (.cells #[.slice go10 q.G.length gc10, .slice bo10 q.k bc10, .bool q.fi, .bool q.ol, .bool q.he, .int .i64 q.la] 27)) X1 m go1 gc1 bo1 bc1 ∧ TB (w6.alloc (.cells #[.slice go10 q.G.length gc10, .slice bo10 q.k bc10, .bool q.fi, .bool q.ol, .bool q.he, .int .i64 q.la] 27)) yo (mtq Classical.propDecidable m) ∧ TB (w6.alloc (.cells #[.slice go10 q.G.length gc10, .slice bo10 q.k bc10, .bool q.fi, .bool q.ol, .bool q.he, .int .i64 q.la] 27)) xo X ∧ TK (w6.alloc (.cells #[.slice go10 q.G.length gc10, .slice bo10 q.k bc10, .bool q.fi, .bool q.ol, .bool q.he, .int .i64 q.la] 27)) X6 r go6 gc6 bo6 bc6 ∧ TK (w6.alloc (.cells #[.slice go10 q.G.length gc10, .slice bo10 q.k bc10, .bool q.fi, .bool q.ol, .bool q.he, .int .i64 q.la] 27)) X8 r go8 gc8 bo8 bc8 ∧ TK (w6.alloc (.cells #[.slice go10 q.G.length gc10, .slice bo10 q.k bc10, .bool q.fi, .bool q.ol, .bool q.he, .int .i64 q.la] 27)) w6.heap.size q go10 gc10 bo10 bc10) := ⟨H5.out.1.st (b6.trans ((bal1 w6 (.cells #[.slice go10 q.G.length gc10, .slice bo10 q.k bc10, .bool q.fi, .bool q.ol, .bool q.he, .int .i64 q.la] 27)).mono b6.size)), H5.out.2.1.st (b6.trans ((bal1 w6 (.cells #[.slice go10 q.G.length gc10, .slice bo10 q.k bc10, .bool q.fi, .bool q.ol, .bool q.he, .int .i64 q.la] 27)).mono b6.size)), H5.out.2.2.1.st (b6.trans ((bal1 w6 (.cells #[.slice go10 q.G.length gc10, .slice bo10 q.k bc10, .bool q.fi, .bool q.ol, .bool q.he, .int .i64 q.la] 27)).mono b6.size)), H5.out.2.2.2.1.st (b6.trans ((bal1 w6 (.cells #[.slice go10 q.G.length gc10, .slice bo10 q.k bc10, .bool q.fi, .bool q.ol, .bool q.he, .int .i64 q.la] 27)).mono b6.size)), H5.out.2.2.2.2.1.st (b6.trans ((bal1 w6 (.cells #[.slice go10 q.G.length gc10, .slice bo10 q.k bc10, .bool q.fi, .bool q.ol, .bool q.he, .int .i64 q.la] 27)).mono b6.size)), H5.out.2.2.2.2.2.st (b6.trans ((bal1 w6 (.cells #[.slice go10 q.G.length gc10, .slice bo10 q.k bc10, .bool q.fi, .bool q.ol, .bool q.he, .int .i64 q.la] 27)).mono b6.size)), ⟨KB.new w6 _ _ _ _ _ _ _ _ _ _ _, hm10.below (bal1 _ _)⟩⟩
    clear b6 hm10 H5
    go_wp2_with fail
    generalize w6.alloc (.cells #[.slice go10 q.G.length gc10, .slice bo10 q.k bc10, .bool q.fi, .bool q.ol, .bool q.he, .int .i64 q.la] 27) = W10 at *
    generalize w6.heap.size = X10 at *
    refine (draw_mtnew a0 len0 cap0 f _ hn (HS.out.below H6.out.1) HF.out).mono ?_
    rintro e w7 ⟨⟨x, rfl⟩, b7⟩
    have H7 : Hid (TZ w w7 ∧ TK w7 X1 m go1 gc1 bo1 bc1 ∧ TB w7 yo (mtq Classical.propDecidable m) ∧ TB w7 xo X ∧ TK w7 X6 r go6 gc6 bo6 bc6 ∧ TK w7 X8 r go8 gc8 bo8 bc8 ∧ TK w7 X10 q go10 gc10 bo10 bc10) := ⟨H6.out.1.st b7, H6.out.2.1.st b7, H6.out.2.2.1.st b7, H6.out.2.2.2.1.st b7, H6.out.2.2.2.2.1.st b7, H6.out.2.2.2.2.2.1.st b7, H6.out.2.2.2.2.2.2.st b7⟩
    clear b7 H6
    go_wp2_with fail
    refine (draw_same a0 len0 cap0 f _ hn (HS.out.below H7.out.1) HF.out).mono ?_
    rintro e w8 hdr
    obtain ⟨p, s, go12, bo12, gc12, bc12, go13, bo13, gc13, bc13, rfl, hps, hss, hm12, hm13, b8⟩ := drw_ma hdr
    clear hdr
    have u0 : KB ((w8.alloc (.cells #[.slice go12 p.G.length gc12, .slice bo12 p.k bc12, .bool p.fi, .bool p.ol, .bool p.he, .int .i64 p.la] 27)).alloc (.cells #[.slice go13 s.G.length gc13, .slice bo13 s.k bc13, .bool s.fi, .bool s.ol, .bool s.he, .int .i64 s.la] 27)) w8.heap.size 27 go12 p.G.length gc12 bo12 p.k bc12 p.fi p.ol p.he p.la := (KB.new w8 _ _ _ _ _ _ _ _ _ _ _).b (bal1 _ _)
    have u1 : KB ((w8.alloc (.cells #[.slice go12 p.G.length gc12, .slice bo12 p.k bc12, .bool p.fi, .bool p.ol, .bool p.he, .int .i64 p.la] 27)).alloc (.cells #[.slice go13 s.G.length gc13, .slice bo13 s.k bc13, .bool s.fi, .bool s.ol, .bool s.he, .int .i64 s.la] 27)) (w8.heap.size + 1) 27 go13 s.G.length gc13 bo13 s.k bc13 s.fi s.ol s.he s.la := by
      have := KB.new (w8.alloc (.cells #[.slice go12 p.G.length gc12, .slice bo12 p.k bc12, .bool p.fi, .bool p.ol, .bool p.he, .int .i64 p.la] 27)) 27 go13 s.G.length gc13 bo13 s.k bc13 s.fi s.ol s.he s.la
      rw [alsz] at this
      exact this
    have bp : Below w8.heap.size w8 ((w8.alloc (.cells #[.slice go12 p.G.length gc12, .slice bo12 p.k bc12, .bool p.fi, .bool p.ol, .bool p.he, .int .i64 p.la] 27)).alloc (.cells #[.slice go13 s.G.length gc13, .slice bo13 s.k bc13, .bool s.fi, .bool s.ol, .bool s.he, .int .i64 s.la] 27)) := ((Below.refl _ _).alloc (Nat.le_refl _) _).alloc (by simp) _
    have H8 : Hid (TZ w ((w8.alloc (.cells #[.slice go12 p.G.length gc12, .slice bo12 p.k bc12, .bool p.fi, .bool p.ol, .bool p.he, .int .i64 p.la] 27)).alloc (.cells #[.slice go13 s.G.length gc13, .slice bo13 s.k bc13, .bool s.fi, .bool s.ol, .bool s.he, .int .i64 s.la] 27)) ∧ TK ((w8.alloc (.cells #[.slice go12 p.G.length gc12, .slice bo12 p.k bc12, .bool p.fi, .bool p.ol, .bool p.he, .int .i64 p.la] 27)).alloc (.cells #[.slice go13 s.G.length gc13, .slice bo13 s.k bc13, .bool s.fi, .bool s.ol, .bool s.he, .int .i64 s.la] 27)) X1 m go1 gc1 bo1 bc1 ∧ TB ((w8.alloc (.cells #[.slice go12 p.G.length gc12, .slice bo12 p.k bc12, .bool p.fi, .bool p.ol, .bool p.he, .int .i64 p.la] 27)).alloc (.cells #[.slice go13 s.G.length gc13, .slice bo13 s.k bc13, .bool s.fi, .bool s.ol, .bool s.he, .int .i64 s.la] 27)) yo (mtq Classical.propDecidable m) ∧ TB ((w8.alloc (.cells #[.slice go12 p.G.length gc12, .slice bo12 p.k bc12, .bool p.fi, .bool p.ol, .bool p.he, .int .i64 p.la] 27)).alloc (.cells #[.slice go13 s.G.length gc13, .slice bo13 s.k bc13, .bool s.fi, .bool s.ol, .bool s.he, .int .i64 s.la] 27)) xo X ∧ TK ((w8.alloc (.cells #[.slice go12 p.G.length gc12, .slice bo12 p.k bc12, .bool p.fi, .bool p.ol, .bool p.he, .int .i64 p.la] 27)).alloc (.cells #[.slice go13 s.G.length gc13, .slice bo13 s.k bc13, .bool s.fi, .bool s.ol, .bool s.he, .int .i64 s.la] 27)) X6 r go6 gc6 bo6 bc6 ∧ TK ((w8.alloc (.cells #[.slice go12 p.G.length gc12, .slice bo12 p.k bc12, .bool p.fi, .bool p.ol, .bool p.he, .int .i64 p.la] 27)).alloc (.cells #[.slice go13 s.G.length gc13, .slice bo13 s.k bc13, .bool s.fi, .bool s.ol, .bool s.he, .int .i64 s.la] 27)) X8 r go8 gc8 bo8 bc8 ∧ TK ((w8.alloc (.cells #[.slice go12 p.G.length gc12, .slice bo12 p.k bc12, .bool p.fi, .bool p.ol, .bool p.he, .int .i64 p.la] 27)).alloc (.cells #[.slice go13 s.G.length gc13, .slice bo13 s.k bc13, .bool s.fi, .bool s.ol, .bool s.he, .int .i64 s.la] 27)) X10 q go10 gc10 bo10 bc10 ∧ TK ((w8.alloc (.cells #[.slice go12 p.G.length gc12, .slice bo12 p.k bc12, .bool p.fi, .bool p.ol, .bool p.he, .int .i64 p.la] 27)).alloc (.cells #[.slice go13 s.G.length gc13, .slice bo13 s.k bc13, .bool s.fi, .bool s.ol, .bool s.he, .int .i64 s.la] 27)) w8.heap.size p go12 gc12 bo12 bc12 ∧ TK ((w8.alloc (.cells #[.slice go12 p.G.length gc12, .slice bo12 p.k bc12, .bool p.fi, .bool p.ol, .bool p.he, .int .i64 p.la] 27)).alloc (.cells #[.slice go13 s.G.length gc13, .slice bo13 s.k bc13, .bool s.fi, .bool s.ol, .bool s.he, .int .i64 s.la] 27)) (w8.heap.size + 1) s go13 gc13 bo13 bc13) := ⟨H7.out.1.st (b8.trans (bp.mono b8.size)), H7.out.2.1.st (b8.trans (bp.mono b8.size)), H7.out.2.2.1.st (b8.trans (bp.mono b8.size)), H7.out.2.2.2.1.st (b8.trans (bp.mono b8.size)), H7.out.2.2.2.2.1.st (b8.trans (bp.mono b8.size)), H7.out.2.2.2.2.2.1.st (b8.trans (bp.mono b8.size)), H7.out.2.2.2.2.2.2.st (b8.trans (bp.mono b8.size)), ⟨u0, hm12.below bp⟩, ⟨u1, hm13.below bp⟩⟩
    clear u0 u1 bp b8 hm12 hm13 H7
    go_wp2_with fail
    generalize ((w8.alloc (.cells #[.slice go12 p.G.length gc12, .slice bo12 p.k bc12, .bool p.fi, .bool p.ol, .bool p.he, .int .i64 p.la] 27)).alloc (.cells #[.slice go13 s.G.length gc13, .slice bo13 s.k bc13, .bool s.fi, .bool s.ol, .bool s.he, .int .i64 s.la] 27)) = w12 at *
    generalize w8.heap.size + 1 = X13 at *
    generalize w8.heap.size = X12 at *
    obtain ⟨tB, htB⟩ : ∃ tB, tB = bstr (mtq Classical.propDecidable m) := ⟨_, rfl⟩
    have HS11 : Hid (∀ W, (TZ w W ∧ TK W X1 m go1 gc1 bo1 bc1 ∧ TB W yo (mtq Classical.propDecidable m) ∧ TB W xo X ∧ TK W X6 r go6 gc6 bo6 bc6 ∧ TK W X8 r go8 gc8 bo8 bc8 ∧ TK W X10 q go10 gc10 bo10 bc10 ∧ TK W X12 p go12 gc12 bo12 bc12 ∧ TK W X13 s go13 gc13 bo13 bc13) → (W.cell? ⟨X1, 0, none⟩ = some (.slice go1 m.G.length gc1) ∧ W.cell? ⟨X1, 1, none⟩ = some (.slice bo1 m.k bc1) ∧ W.cell? ⟨X1, 2, none⟩ = some (.bool m.fi) ∧ W.cell? ⟨X1, 3, none⟩ = some (.bool m.ol) ∧ W.cell? ⟨X1, 4, none⟩ = some (.bool m.he) ∧ W.cell? ⟨X1, 5, none⟩ = some (.int .i64 m.la)) ∧ (W.cell? ⟨X6, 0, none⟩ = some (.slice go6 r.G.length gc6) ∧ W.cell? ⟨X6, 1, none⟩ = some (.slice bo6 r.k bc6) ∧ W.cell? ⟨X6, 2, none⟩ = some (.bool r.fi) ∧ W.cell? ⟨X6, 3, none⟩ = some (.bool r.ol) ∧ W.cell? ⟨X6, 4, none⟩ = some (.bool r.he) ∧ W.cell? ⟨X6, 5, none⟩ = some (.int .i64 r.la)) ∧ (W.cell? ⟨X8, 0, none⟩ = some (.slice go8 r.G.length gc8) ∧ W.cell? ⟨X8, 1, none⟩ = some (.slice bo8 r.k bc8) ∧ W.cell? ⟨X8, 2, none⟩ = some (.bool r.fi) ∧ W.cell? ⟨X8, 3, none⟩ = some (.bool r.ol) ∧ W.cell? ⟨X8, 4, none⟩ = some (.bool r.he) ∧ W.cell? ⟨X8, 5, none⟩ = some (.int .i64 r.la)) ∧ (W.cell? ⟨X10, 0, none⟩ = some (.slice go10 q.G.length gc10) ∧ W.cell? ⟨X10, 1, none⟩ = some (.slice bo10 q.k bc10) ∧ W.cell? ⟨X10, 2, none⟩ = some (.bool q.fi) ∧ W.cell? ⟨X10, 3, none⟩ = some (.bool q.ol) ∧ W.cell? ⟨X10, 4, none⟩ = some (.bool q.he) ∧ W.cell? ⟨X10, 5, none⟩ = some (.int .i64 q.la)) ∧ (W.cell? ⟨X12, 0, none⟩ = some (.slice go12 p.G.length gc12) ∧ W.cell? ⟨X12, 1, none⟩ = some (.slice bo12 p.k bc12) ∧ W.cell? ⟨X12, 2, none⟩ = some (.bool p.fi) ∧ W.cell? ⟨X12, 3, none⟩ = some (.bool p.ol) ∧ W.cell? ⟨X12, 4, none⟩ = some (.bool p.he) ∧ W.cell? ⟨X12, 5, none⟩ = some (.int .i64 p.la)) ∧ (W.cell? ⟨X13, 0, none⟩ = some (.slice go13 s.G.length gc13) ∧ W.cell? ⟨X13, 1, none⟩ = some (.slice bo13 s.k bc13) ∧ W.cell? ⟨X13, 2, none⟩ = some (.bool s.fi) ∧ W.cell? ⟨X13, 3, none⟩ = some (.bool s.ol) ∧ W.cell? ⟨X13, 4, none⟩ = some (.bool s.he) ∧ W.cell? ⟨X13, 5, none⟩ = some (.int .i64 s.la)) ∧ (convert 22 9 (.slice yo (mtq Classical.propDecidable m).length yc)).run Try.prog W = .ok (.string tB) W) := fun W h => ⟨h.2.1.1.cells, h.2.2.2.2.1.1.cells, h.2.2.2.2.2.1.1.cells, h.2.2.2.2.2.2.1.1.cells, h.2.2.2.2.2.2.2.1.1.cells, h.2.2.2.2.2.2.2.2.1.cells, by rw [htB]; exact TB.conv h.2.2.1 (mtq_byte m)⟩
    have H12d : Hid (TZ w w12.drew ∧ TK w12.drew X1 m go1 gc1 bo1 bc1 ∧ TB w12.drew yo (mtq Classical.propDecidable m) ∧ TB w12.drew xo X ∧ TK w12.drew X6 r go6 gc6 bo6 bc6 ∧ TK w12.drew X8 r go8 gc8 bo8 bc8 ∧ TK w12.drew X10 q go10 gc10 bo10 bc10 ∧ TK w12.drew X12 p go12 gc12 bo12 bc12 ∧ TK w12.drew X13 s go13 gc13 bo13 bc13) := ⟨H8.out.1.st (Below.drawn (Below.refl w12.heap.size w12) 1), H8.out.2.1.st (Below.drawn (Below.refl w12.heap.size w12) 1), H8.out.2.2.1.st (Below.drawn (Below.refl w12.heap.size w12) 1), H8.out.2.2.2.1.st (Below.drawn (Below.refl w12.heap.size w12) 1), H8.out.2.2.2.2.1.st (Below.drawn (Below.refl w12.heap.size w12) 1), H8.out.2.2.2.2.2.1.st (Below.drawn (Below.refl w12.heap.size w12) 1), H8.out.2.2.2.2.2.2.1.st (Below.drawn (Below.refl w12.heap.size w12) 1), H8.out.2.2.2.2.2.2.2.1.st (Below.drawn (Below.refl w12.heap.size w12) 1), H8.out.2.2.2.2.2.2.2.2.st (Below.drawn (Below.refl w12.heap.size w12) 1)⟩
    have HSB : Hid (∀ W, (TZ w W ∧ TK W X1 m go1 gc1 bo1 bc1 ∧ TB W yo (mtq Classical.propDecidable m) ∧ TB W xo X ∧ TK W X6 r go6 gc6 bo6 bc6 ∧ TK W X8 r go8 gc8 bo8 bc8 ∧ TK W X10 q go10 gc10 bo10 bc10 ∧ TK W X12 p go12 gc12 bo12 bc12 ∧ TK W X13 s go13 gc13 bo13 bc13) → Calls Try.prog 16 #[.agg #[.slice go1 m.G.length gc1, .slice bo1 m.k bc1, .bool m.fi, .bool m.ol, .bool m.he, .int .i64 m.la]] W fun e w' => ∃ ao3 c3, e = .returned (.slice ao3 (mtq Classical.propDecidable m).length c3) ∧ (convert 22 9 (.slice ao3 (mtq Classical.propDecidable m).length c3)).run Try.prog w' = .ok (.string tB) w' ∧ (TZ w w' ∧ TK w' X1 m go1 gc1 bo1 bc1 ∧ TB w' yo (mtq Classical.propDecidable m) ∧ TB w' xo X ∧ TK w' X6 r go6 gc6 bo6 bc6 ∧ TK w' X8 r go8 gc8 bo8 bc8 ∧ TK w' X10 q go10 gc10 bo10 bc10 ∧ TK w' X12 p go12 gc12 bo12 bc12 ∧ TK w' X13 s go13 gc13 bo13 bc13)) := fun W h => (mtbytes_spec go1 bo1 gc1 bc1 m.G m.k m.L m.fi m.ol m.he m.la W hsm.bd h.2.1.2).mono fun e w' => by
      rintro ⟨v, rfl, ho, hb⟩
      obtain ⟨ao3, c3, rfl, hv3⟩ := tb_form (L := mtq Classical.propDecidable m) ho
      exact ⟨ao3, c3, rfl, by rw [htB]; exact TB.conv hv3 (mtq_byte m), ⟨h.1.st hb, h.2.1.st hb, h.2.2.1.st hb, h.2.2.2.1.st hb, h.2.2.2.2.1.st hb, h.2.2.2.2.2.1.st hb, h.2.2.2.2.2.2.1.st hb, h.2.2.2.2.2.2.2.1.st hb, h.2.2.2.2.2.2.2.2.st hb⟩⟩
    obtain ⟨bs, hbs⟩ : ∃ b : Bool, TellsB b (SmM p.G p.k p.L p.fi p.ol p.he p.la s.G s.k s.L s.fi s.ol s.he s.la) := tellsB _
    obtain ⟨bq, hbq⟩ : ∃ b : Bool, TellsB b (MtOk q.G q.k q.L q.ol q.he q.la) := tellsB _
    have HRR : Hid (∀ W, (TZ w W ∧ TK W X1 m go1 gc1 bo1 bc1 ∧ TB W yo (mtq Classical.propDecidable m) ∧ TB W xo X ∧ TK W X6 r go6 gc6 bo6 bc6 ∧ TK W X8 r go8 gc8 bo8 bc8 ∧ TK W X10 q go10 gc10 bo10 bc10 ∧ TK W X12 p go12 gc12 bo12 bc12 ∧ TK W X13 s go13 gc13 bo13 bc13) → Calls Try.prog 17 #[.agg #[.slice go6 r.G.length gc6, .slice bo6 r.k bc6, .bool r.fi, .bool r.ol, .bool r.he, .int .i64 r.la], .agg #[.slice go8 r.G.length gc8, .slice bo8 r.k bc8, .bool r.fi, .bool r.ol, .bool r.he, .int .i64 r.la]] W fun e w' => e = .returned (.bool true) ∧ (TZ w w' ∧ TK w' X1 m go1 gc1 bo1 bc1 ∧ TB w' yo (mtq Classical.propDecidable m) ∧ TB w' xo X ∧ TK w' X6 r go6 gc6 bo6 bc6 ∧ TK w' X8 r go8 gc8 bo8 bc8 ∧ TK w' X10 q go10 gc10 bo10 bc10 ∧ TK w' X12 p go12 gc12 bo12 bc12 ∧ TK w' X13 s go13 gc13 bo13 bc13)) := fun W h => (samem_impl go6 bo6 go8 bo8 gc6 bc6 gc8 bc8 r.G r.G r.k r.k r.L r.L r.fi r.ol r.he r.fi r.ol r.he r.la r.la W hrs.bd h.2.2.2.2.1.2 h.2.2.2.2.2.1.2).mono fun e w' => by
      rintro ⟨h1, hb⟩
      refine ⟨?_, ⟨h.1.st hb, h.2.1.st hb, h.2.2.1.st hb, h.2.2.2.1.st hb, h.2.2.2.2.1.st hb, h.2.2.2.2.2.1.st hb, h.2.2.2.2.2.2.1.st hb, h.2.2.2.2.2.2.2.1.st hb, h.2.2.2.2.2.2.2.2.st hb⟩⟩
      rcases h1 with ⟨_, rfl⟩ | ⟨h1, _⟩
      · rfl
      · exact absurd ⟨rfl, rfl, rfl, rfl, rfl, rfl, fun _ _ => rfl⟩ h1
    have HQI : Hid (∀ W, (TZ w W ∧ TK W X1 m go1 gc1 bo1 bc1 ∧ TB W yo (mtq Classical.propDecidable m) ∧ TB W xo X ∧ TK W X6 r go6 gc6 bo6 bc6 ∧ TK W X8 r go8 gc8 bo8 bc8 ∧ TK W X10 q go10 gc10 bo10 bc10 ∧ TK W X12 p go12 gc12 bo12 bc12 ∧ TK W X13 s go13 gc13 bo13 bc13) → Calls Try.prog 18 #[.agg #[.slice go10 q.G.length gc10, .slice bo10 q.k bc10, .bool q.fi, .bool q.ol, .bool q.he, .int .i64 q.la]] W fun e w' => e = .returned (.bool bq) ∧ (TZ w w' ∧ TK w' X1 m go1 gc1 bo1 bc1 ∧ TB w' yo (mtq Classical.propDecidable m) ∧ TB w' xo X ∧ TK w' X6 r go6 gc6 bo6 bc6 ∧ TK w' X8 r go8 gc8 bo8 bc8 ∧ TK w' X10 q go10 gc10 bo10 bc10 ∧ TK w' X12 p go12 gc12 bo12 bc12 ∧ TK w' X13 s go13 gc13 bo13 bc13)) := fun W h => (mtok_impl go10 bo10 gc10 bc10 q.G q.k q.L q.fi q.ol q.he q.la W hqs.bd h.2.2.2.2.2.2.1.2).mono fun e w' => by
      rintro ⟨h1, hb⟩
      refine ⟨?_, ⟨h.1.st hb, h.2.1.st hb, h.2.2.1.st hb, h.2.2.2.1.st hb, h.2.2.2.2.1.st hb, h.2.2.2.2.2.1.st hb, h.2.2.2.2.2.2.1.st hb, h.2.2.2.2.2.2.2.1.st hb, h.2.2.2.2.2.2.2.2.st hb⟩⟩
      rcases h1 with ⟨h1, rfl⟩ | ⟨h1, rfl⟩
      · rw [show bq = true from hbq.2 h1]
      · rw [show bq = false from Bool.eq_false_iff.2 fun h => h1 (hbq.1 h)]
    have HQS : Hid (∀ W, (TZ w W ∧ TK W X1 m go1 gc1 bo1 bc1 ∧ TB W yo (mtq Classical.propDecidable m) ∧ TB W xo X ∧ TK W X6 r go6 gc6 bo6 bc6 ∧ TK W X8 r go8 gc8 bo8 bc8 ∧ TK W X10 q go10 gc10 bo10 bc10 ∧ TK W X12 p go12 gc12 bo12 bc12 ∧ TK W X13 s go13 gc13 bo13 bc13) → Calls Try.prog 19 #[.agg #[.slice go10 q.G.length gc10, .slice bo10 q.k bc10, .bool q.fi, .bool q.ol, .bool q.he, .int .i64 q.la]] W fun e w' => e = .returned (.bool bq) ∧ (TZ w w' ∧ TK w' X1 m go1 gc1 bo1 bc1 ∧ TB w' yo (mtq Classical.propDecidable m) ∧ TB w' xo X ∧ TK w' X6 r go6 gc6 bo6 bc6 ∧ TK w' X8 r go8 gc8 bo8 bc8 ∧ TK w' X10 q go10 gc10 bo10 bc10 ∧ TK w' X12 p go12 gc12 bo12 bc12 ∧ TK w' X13 s go13 gc13 bo13 bc13)) := fun W h => (mtok_spec go10 bo10 gc10 bc10 q.G q.k q.L q.fi q.ol q.he q.la W hqs.bd h.2.2.2.2.2.2.1.2).mono fun e w' => by
      rintro ⟨h1, hb⟩
      refine ⟨?_, ⟨h.1.st hb, h.2.1.st hb, h.2.2.1.st hb, h.2.2.2.1.st hb, h.2.2.2.2.1.st hb, h.2.2.2.2.2.1.st hb, h.2.2.2.2.2.2.1.st hb, h.2.2.2.2.2.2.2.1.st hb, h.2.2.2.2.2.2.2.2.st hb⟩⟩
      rcases h1 with ⟨h1, rfl⟩ | ⟨h1, rfl⟩
      · rw [show bq = true from hbq.2 h1]
      · rw [show bq = false from Bool.eq_false_iff.2 fun h => h1 (hbq.1 h)]
    have HNI : Hid (∀ W, (TZ w W ∧ TK W X1 m go1 gc1 bo1 bc1 ∧ TB W yo (mtq Classical.propDecidable m) ∧ TB W xo X ∧ TK W X6 r go6 gc6 bo6 bc6 ∧ TK W X8 r go8 gc8 bo8 bc8 ∧ TK W X10 q go10 gc10 bo10 bc10 ∧ TK W X12 p go12 gc12 bo12 bc12 ∧ TK W X13 s go13 gc13 bo13 bc13) → Calls Try.prog 20 #[.int .i64 x] W fun e w' => ∃ go20 bo20 gc20 bc20, e = .returned (.agg #[.slice go20 (nwg x).length gc20, .slice bo20 (nwn x) bc20, .bool (nw x), .bool false, .bool false, .int .i64 0]) ∧ MV w' go20 gc20 bo20 bc20 (nwg x) (nwn x) (fun _ => []) ∧ (TZ w w' ∧ TK w' X1 m go1 gc1 bo1 bc1 ∧ TB w' yo (mtq Classical.propDecidable m) ∧ TB w' xo X ∧ TK w' X6 r go6 gc6 bo6 bc6 ∧ TK w' X8 r go8 gc8 bo8 bc8 ∧ TK w' X10 q go10 gc10 bo10 bc10 ∧ TK w' X12 p go12 gc12 bo12 bc12 ∧ TK w' X13 s go13 gc13 bo13 bc13)) := fun W h => (mtnew_impl x W).mono fun e w' => by
      rintro ⟨go20, bo20, gc20, bc20, rfl, hO, hb⟩
      exact ⟨go20, bo20, gc20, bc20, rfl, hO.mv, ⟨h.1.st hb, h.2.1.st hb, h.2.2.1.st hb, h.2.2.2.1.st hb, h.2.2.2.2.1.st hb, h.2.2.2.2.2.1.st hb, h.2.2.2.2.2.2.1.st hb, h.2.2.2.2.2.2.2.1.st hb, h.2.2.2.2.2.2.2.2.st hb⟩⟩
    have HNS : Hid (∀ W, (TZ w W ∧ TK W X1 m go1 gc1 bo1 bc1 ∧ TB W yo (mtq Classical.propDecidable m) ∧ TB W xo X ∧ TK W X6 r go6 gc6 bo6 bc6 ∧ TK W X8 r go8 gc8 bo8 bc8 ∧ TK W X10 q go10 gc10 bo10 bc10 ∧ TK W X12 p go12 gc12 bo12 bc12 ∧ TK W X13 s go13 gc13 bo13 bc13) → ∀ go20 bo20 gc20 bc20, MV W go20 gc20 bo20 bc20 (nwg x) (nwn x) (fun _ => []) → Calls Try.prog 21 #[.int .i64 x] W fun e w' => ∃ go21 bo21 gc21 bc21, e = .returned (.agg #[.slice go21 (nwg x).length gc21, .slice bo21 (nwn x) bc21, .bool (nw x), .bool false, .bool false, .int .i64 0]) ∧ MV w' go20 gc20 bo20 bc20 (nwg x) (nwn x) (fun _ => []) ∧ MV w' go21 gc21 bo21 bc21 (nwg x) (nwn x) (fun _ => []) ∧ (TZ w w' ∧ TK w' X1 m go1 gc1 bo1 bc1 ∧ TB w' yo (mtq Classical.propDecidable m) ∧ TB w' xo X ∧ TK w' X6 r go6 gc6 bo6 bc6 ∧ TK w' X8 r go8 gc8 bo8 bc8 ∧ TK w' X10 q go10 gc10 bo10 bc10 ∧ TK w' X12 p go12 gc12 bo12 bc12 ∧ TK w' X13 s go13 gc13 bo13 bc13)) := fun W h go20 bo20 gc20 bc20 hv => (mtnew_spec x W).mono fun e w' => by
      rintro ⟨go21, bo21, gc21, bc21, rfl, hO, hb⟩
      exact ⟨go21, bo21, gc21, bc21, rfl, hv.below hb, hO.mv, ⟨h.1.st hb, h.2.1.st hb, h.2.2.1.st hb, h.2.2.2.1.st hb, h.2.2.2.2.1.st hb, h.2.2.2.2.2.1.st hb, h.2.2.2.2.2.2.1.st hb, h.2.2.2.2.2.2.2.1.st hb, h.2.2.2.2.2.2.2.2.st hb⟩⟩
    have hnb : Bd (nwg x) (nwn x) (fun _ => []) := by unfold Bd nwg nwn; cases nw x <;> simp
    have HNN : Hid (∀ W, (TZ w W ∧ TK W X1 m go1 gc1 bo1 bc1 ∧ TB W yo (mtq Classical.propDecidable m) ∧ TB W xo X ∧ TK W X6 r go6 gc6 bo6 bc6 ∧ TK W X8 r go8 gc8 bo8 bc8 ∧ TK W X10 q go10 gc10 bo10 bc10 ∧ TK W X12 p go12 gc12 bo12 bc12 ∧ TK W X13 s go13 gc13 bo13 bc13) → ∀ go20 bo20 gc20 bc20 go21 bo21 gc21 bc21, MV W go20 gc20 bo20 bc20 (nwg x) (nwn x) (fun _ => []) → MV W go21 gc21 bo21 bc21 (nwg x) (nwn x) (fun _ => []) → Calls Try.prog 17 #[.agg #[.slice go20 (nwg x).length gc20, .slice bo20 (nwn x) bc20, .bool (nw x), .bool false, .bool false, .int .i64 0], .agg #[.slice go21 (nwg x).length gc21, .slice bo21 (nwn x) bc21, .bool (nw x), .bool false, .bool false, .int .i64 0]] W fun e w' => e = .returned (.bool true) ∧ (TZ w w' ∧ TK w' X1 m go1 gc1 bo1 bc1 ∧ TB w' yo (mtq Classical.propDecidable m) ∧ TB w' xo X ∧ TK w' X6 r go6 gc6 bo6 bc6 ∧ TK w' X8 r go8 gc8 bo8 bc8 ∧ TK w' X10 q go10 gc10 bo10 bc10 ∧ TK w' X12 p go12 gc12 bo12 bc12 ∧ TK w' X13 s go13 gc13 bo13 bc13)) := fun W h go20 bo20 gc20 bc20 go21 bo21 gc21 bc21 hv1 hv2 => (samem_impl go20 bo20 go21 bo21 gc20 bc20 gc21 bc21 (nwg x) (nwg x) (nwn x) (nwn x) _ _ (nw x) false false (nw x) false false 0 0 W hnb hv1 hv2).mono fun e w' => by
      rintro ⟨h1, hb⟩
      refine ⟨?_, ⟨h.1.st hb, h.2.1.st hb, h.2.2.1.st hb, h.2.2.2.1.st hb, h.2.2.2.2.1.st hb, h.2.2.2.2.2.1.st hb, h.2.2.2.2.2.2.1.st hb, h.2.2.2.2.2.2.2.1.st hb, h.2.2.2.2.2.2.2.2.st hb⟩⟩
      rcases h1 with ⟨_, rfl⟩ | ⟨h1, _⟩
      · rfl
      · exact absurd ⟨rfl, rfl, rfl, rfl, rfl, rfl, fun _ _ => rfl⟩ h1
    have HPI : Hid (∀ W, (TZ w W ∧ TK W X1 m go1 gc1 bo1 bc1 ∧ TB W yo (mtq Classical.propDecidable m) ∧ TB W xo X ∧ TK W X6 r go6 gc6 bo6 bc6 ∧ TK W X8 r go8 gc8 bo8 bc8 ∧ TK W X10 q go10 gc10 bo10 bc10 ∧ TK W X12 p go12 gc12 bo12 bc12 ∧ TK W X13 s go13 gc13 bo13 bc13) → Calls Try.prog 17 #[.agg #[.slice go12 p.G.length gc12, .slice bo12 p.k bc12, .bool p.fi, .bool p.ol, .bool p.he, .int .i64 p.la], .agg #[.slice go13 s.G.length gc13, .slice bo13 s.k bc13, .bool s.fi, .bool s.ol, .bool s.he, .int .i64 s.la]] W fun e w' => e = .returned (.bool bs) ∧ (TZ w w' ∧ TK w' X1 m go1 gc1 bo1 bc1 ∧ TB w' yo (mtq Classical.propDecidable m) ∧ TB w' xo X ∧ TK w' X6 r go6 gc6 bo6 bc6 ∧ TK w' X8 r go8 gc8 bo8 bc8 ∧ TK w' X10 q go10 gc10 bo10 bc10 ∧ TK w' X12 p go12 gc12 bo12 bc12 ∧ TK w' X13 s go13 gc13 bo13 bc13)) := fun W h => (samem_impl go12 bo12 go13 bo13 gc12 bc12 gc13 bc13 p.G s.G p.k s.k p.L s.L p.fi p.ol p.he s.fi s.ol s.he p.la s.la W hps.bd h.2.2.2.2.2.2.2.1.2 h.2.2.2.2.2.2.2.2.2).mono fun e w' => by
      rintro ⟨h1, hb⟩
      refine ⟨?_, ⟨h.1.st hb, h.2.1.st hb, h.2.2.1.st hb, h.2.2.2.1.st hb, h.2.2.2.2.1.st hb, h.2.2.2.2.2.1.st hb, h.2.2.2.2.2.2.1.st hb, h.2.2.2.2.2.2.2.1.st hb, h.2.2.2.2.2.2.2.2.st hb⟩⟩
      rcases h1 with ⟨h1, rfl⟩ | ⟨h1, rfl⟩
      · rw [show bs = true from hbs.2 h1]
      · rw [show bs = false from Bool.eq_false_iff.2 fun h => h1 (hbs.1 h)]
    have HPS : Hid (∀ W, (TZ w W ∧ TK W X1 m go1 gc1 bo1 bc1 ∧ TB W yo (mtq Classical.propDecidable m) ∧ TB W xo X ∧ TK W X6 r go6 gc6 bo6 bc6 ∧ TK W X8 r go8 gc8 bo8 bc8 ∧ TK W X10 q go10 gc10 bo10 bc10 ∧ TK W X12 p go12 gc12 bo12 bc12 ∧ TK W X13 s go13 gc13 bo13 bc13) → Calls Try.prog 22 #[.agg #[.slice go12 p.G.length gc12, .slice bo12 p.k bc12, .bool p.fi, .bool p.ol, .bool p.he, .int .i64 p.la], .agg #[.slice go13 s.G.length gc13, .slice bo13 s.k bc13, .bool s.fi, .bool s.ol, .bool s.he, .int .i64 s.la]] W fun e w' => e = .returned (.bool bs) ∧ (TZ w w' ∧ TK w' X1 m go1 gc1 bo1 bc1 ∧ TB w' yo (mtq Classical.propDecidable m) ∧ TB w' xo X ∧ TK w' X6 r go6 gc6 bo6 bc6 ∧ TK w' X8 r go8 gc8 bo8 bc8 ∧ TK w' X10 q go10 gc10 bo10 bc10 ∧ TK w' X12 p go12 gc12 bo12 bc12 ∧ TK w' X13 s go13 gc13 bo13 bc13)) := fun W h => (samem_spec go12 bo12 go13 bo13 gc12 bc12 gc13 bc13 p.G s.G p.k s.k p.L s.L p.fi p.ol p.he s.fi s.ol s.he p.la s.la W hps.bd hss.bd h.2.2.2.2.2.2.2.1.2 h.2.2.2.2.2.2.2.2.2).mono fun e w' => by
      rintro ⟨h1, hb⟩
      refine ⟨?_, ⟨h.1.st hb, h.2.1.st hb, h.2.2.1.st hb, h.2.2.2.1.st hb, h.2.2.2.2.1.st hb, h.2.2.2.2.2.1.st hb, h.2.2.2.2.2.2.1.st hb, h.2.2.2.2.2.2.2.1.st hb, h.2.2.2.2.2.2.2.2.st hb⟩⟩
      rcases h1 with ⟨h1, rfl⟩ | ⟨h1, rfl⟩
      · rw [show bs = true from hbs.2 h1]
      · rw [show bs = false from Bool.eq_false_iff.2 fun h => h1 (hbs.1 h)]
    have hS0 := HS11.out _ H12d.out
    clear hbs hbq H8 hms
    refine wp_region_held_drew (S := (fun w' => (w'.cell? ⟨X1, 0, none⟩ = some (.slice go1 m.G.length gc1) ∧ w'.cell? ⟨X1, 1, none⟩ = some (.slice bo1 m.k bc1) ∧ w'.cell? ⟨X1, 2, none⟩ = some (.bool m.fi) ∧ w'.cell? ⟨X1, 3, none⟩ = some (.bool m.ol) ∧ w'.cell? ⟨X1, 4, none⟩ = some (.bool m.he) ∧ w'.cell? ⟨X1, 5, none⟩ = some (.int .i64 m.la)) ∧ (w'.cell? ⟨X6, 0, none⟩ = some (.slice go6 r.G.length gc6) ∧ w'.cell? ⟨X6, 1, none⟩ = some (.slice bo6 r.k bc6) ∧ w'.cell? ⟨X6, 2, none⟩ = some (.bool r.fi) ∧ w'.cell? ⟨X6, 3, none⟩ = some (.bool r.ol) ∧ w'.cell? ⟨X6, 4, none⟩ = some (.bool r.he) ∧ w'.cell? ⟨X6, 5, none⟩ = some (.int .i64 r.la)) ∧ (w'.cell? ⟨X8, 0, none⟩ = some (.slice go8 r.G.length gc8) ∧ w'.cell? ⟨X8, 1, none⟩ = some (.slice bo8 r.k bc8) ∧ w'.cell? ⟨X8, 2, none⟩ = some (.bool r.fi) ∧ w'.cell? ⟨X8, 3, none⟩ = some (.bool r.ol) ∧ w'.cell? ⟨X8, 4, none⟩ = some (.bool r.he) ∧ w'.cell? ⟨X8, 5, none⟩ = some (.int .i64 r.la)) ∧ (w'.cell? ⟨X10, 0, none⟩ = some (.slice go10 q.G.length gc10) ∧ w'.cell? ⟨X10, 1, none⟩ = some (.slice bo10 q.k bc10) ∧ w'.cell? ⟨X10, 2, none⟩ = some (.bool q.fi) ∧ w'.cell? ⟨X10, 3, none⟩ = some (.bool q.ol) ∧ w'.cell? ⟨X10, 4, none⟩ = some (.bool q.he) ∧ w'.cell? ⟨X10, 5, none⟩ = some (.int .i64 q.la)) ∧ (w'.cell? ⟨X12, 0, none⟩ = some (.slice go12 p.G.length gc12) ∧ w'.cell? ⟨X12, 1, none⟩ = some (.slice bo12 p.k bc12) ∧ w'.cell? ⟨X12, 2, none⟩ = some (.bool p.fi) ∧ w'.cell? ⟨X12, 3, none⟩ = some (.bool p.ol) ∧ w'.cell? ⟨X12, 4, none⟩ = some (.bool p.he) ∧ w'.cell? ⟨X12, 5, none⟩ = some (.int .i64 p.la)) ∧ (w'.cell? ⟨X13, 0, none⟩ = some (.slice go13 s.G.length gc13) ∧ w'.cell? ⟨X13, 1, none⟩ = some (.slice bo13 s.k bc13) ∧ w'.cell? ⟨X13, 2, none⟩ = some (.bool s.fi) ∧ w'.cell? ⟨X13, 3, none⟩ = some (.bool s.ol) ∧ w'.cell? ⟨X13, 4, none⟩ = some (.bool s.he) ∧ w'.cell? ⟨X13, 5, none⟩ = some (.int .i64 s.la)) ∧ (convert 22 9 (.slice yo (mtq Classical.propDecidable m).length yc)).run Try.prog w' = .ok (.string tB) w')) (by kernel_rfl) ?_ (fun hHeld => ?_)
    · exact hS0
    refine wpAnyH_take (i := 0) (oi := { dst := some 43, op := Op.move (Operand.tmp 4), type := 22, pos := "laws.go:326", after := #[], guard := none }) (v := ?_) rfl (by kernel_rfl) (by kernel_rfl) (by kernel_rfl) (fun _ _ _ h => h) (Or.inl ⟨by rfl, ?_⟩) (by assumption) ?_
    rotate_left 1
    · (intro wq hSw; (try dsimp only at hSw); go_simp; try with_reducible rfl)
    try simp only [Act.put, List.setIfInBounds_toArray, List.set_cons_zero, List.set_cons_succ]
    refine wpAnyH_take (i := 1) (oi := { dst := some 44, op := Op.convert 22 9 (Operand.tmp 43), type := 9, pos := "laws.go:326", after := #[{ on := 0, ground := Ground.data }], guard := none }) (v := ?_) rfl (by kernel_rfl) (by kernel_rfl) (by kernel_rfl) (fun _ _ _ h => h) (Or.inl ⟨by rfl, ?_⟩) (by assumption) ?_
    rotate_left 1
    · (intro wq hSw; (try dsimp only at hSw); go_simp; try with_reducible rfl)
    try simp only [Act.put, List.setIfInBounds_toArray, List.set_cons_zero, List.set_cons_succ]
    refine wpAnyH_take (i := 2) (oi := { dst := some 45, op := Op.load 27 (Operand.tmp 3), type := 27, pos := "laws.go:326", after := #[], guard := none }) (v := ?_) rfl (by kernel_rfl) (by kernel_rfl) (by kernel_rfl) (fun _ _ _ h => h) (Or.inl ⟨by rfl, ?_⟩) (by assumption) ?_
    rotate_left 1
    · (intro wq hSw; (try dsimp only at hSw); go_simp; try with_reducible rfl)
    try simp only [Act.put, List.setIfInBounds_toArray, List.set_cons_zero, List.set_cons_succ]
    refine wpAnyH_ready (rs := [3]) (by kernel_rfl) (by simp) ?_
    refine AllReadyH.cons (o := { dst := some 46, op := Op.call { callee := Callee.value (Operand.func 16), args := #[Operand.tmp 45], argTypes := #[27] }, type := 22, pos := "laws.go:326", after := #[{ on := 2, ground := Ground.data }], guard := none }) rfl (fun K hK => ?_) AllReadyH.nil
    go_simp
    refine (HSB.out _ H12d.out).mono ?_
    rintro e w13 ⟨ao3, c3, rfl, hc3, hst⟩
    have H13 := hide hst
    have hk13 := HS11.out _ hst
    clear hst
    go_wp2_with fail
    refine hK.out _ _ ?_ (fun hHeld => ?_)
    · exact hk13
    clear hK K
    try simp only [Act.put, List.setIfInBounds_toArray, List.set_cons_zero, List.set_cons_succ]
    refine wpAnyH_ready (rs := [4]) (by kernel_rfl) (by simp) ?_
    refine AllReadyH.cons (o := { dst := some 47, op := Op.convert 22 9 (Operand.tmp 46), type := 9, pos := "laws.go:326", after := #[{ on := 3, ground := Ground.data }], guard := none }) rfl (fun K hK => ?_) AllReadyH.nil
    go_simp
    refine hK.out _ _ ?_ (fun hHeld => ?_)
    · exact hk13
    clear hK K
    try simp only [Act.put, List.setIfInBounds_toArray, List.set_cons_zero, List.set_cons_succ]
    refine wpAnyH_take (i := 5) (oi := { dst := some 48, op := Op.binOp BinOp.neq 9 (Operand.tmp 44) (Operand.tmp 47) 9, type := 4, pos := "laws.go:326", after := #[{ on := 1, ground := Ground.data }, { on := 4, ground := Ground.data }], guard := none }) (v := ?_) rfl (by kernel_rfl) (by kernel_rfl) (by kernel_rfl) (fun _ _ _ h => h) (Or.inl ⟨by rfl, ?_⟩) (by assumption) ?_
    rotate_left 1
    · (intro wq hSw; (try dsimp only at hSw); go_simp; try with_reducible rfl)
    try simp only [Act.put, List.setIfInBounds_toArray, List.set_cons_zero, List.set_cons_succ]
    refine wpAnyH_take (i := 6) (oi := { dst := some 49, op := Op.move (Operand.tmp 48), type := 4, pos := "laws.go:326", after := #[{ on := 5, ground := Ground.data }, { on := 3, ground := Ground.chain }], guard := none }) (v := ?_) rfl (by kernel_rfl) (by kernel_rfl) (by kernel_rfl) (fun _ _ _ h => h) (Or.inl ⟨by rfl, ?_⟩) (by assumption) ?_
    rotate_left 1
    · (intro wq hSw; (try dsimp only at hSw); go_simp; try with_reducible rfl)
    try simp only [Act.put, List.setIfInBounds_toArray, List.set_cons_zero, List.set_cons_succ]
    refine wpAnyH_take (i := 7) (oi := { dst := some 50, op := Op.move (Operand.tmp 7), type := 4, pos := "laws.go:326", after := #[{ on := 6, ground := Ground.guard }], guard := some (6, false) }) (v := ?_) rfl (by kernel_rfl) (by kernel_rfl) (by kernel_rfl) (fun _ _ _ h => h) (Or.inl ⟨by rfl, ?_⟩) (by assumption) ?_
    rotate_left 1
    · (intro wq hSw; (try dsimp only at hSw); go_simp; try with_reducible rfl)
    try simp only [Act.put, List.setIfInBounds_toArray, List.set_cons_zero, List.set_cons_succ]
    refine wpAnyH_take (i := 8) (oi := { dst := some 51, op := Op.move (Operand.tmp 9), type := 4, pos := "laws.go:326", after := #[{ on := 6, ground := Ground.guard }], guard := some (6, false) }) (v := ?_) rfl (by kernel_rfl) (by kernel_rfl) (by kernel_rfl) (fun _ _ _ h => h) (Or.inl ⟨by rfl, ?_⟩) (by assumption) ?_
    rotate_left 1
    · (intro wq hSw; (try dsimp only at hSw); go_simp; try with_reducible rfl)
    try simp only [Act.put, List.setIfInBounds_toArray, List.set_cons_zero, List.set_cons_succ]
    refine wpAnyH_take (i := 9) (oi := { dst := some 52, op := Op.binOp BinOp.neq 4 (Operand.tmp 50) (Operand.tmp 51) 4, type := 4, pos := "laws.go:326", after := #[{ on := 7, ground := Ground.data }, { on := 8, ground := Ground.data }, { on := 6, ground := Ground.guard }], guard := some (6, false) }) (v := .bool false) rfl (by kernel_rfl) (by kernel_rfl) (by kernel_rfl) (fun _ _ _ h => h) (Or.inl ⟨by rfl, ?_⟩) (by assumption) ?_
    · (intro wq hSw; cases ok <;> go_simp)
    try simp only [Act.put, List.setIfInBounds_toArray, List.set_cons_zero, List.set_cons_succ]
    refine wpAnyH_take (i := 10) (oi := { dst := some 53, op := Op.pick (Operand.tmp 49) (Operand.const (Value.bool true)) (Operand.tmp 52), type := 4, pos := "laws.go:326", after := #[{ on := 6, ground := Ground.data }, { on := 9, ground := Ground.data }], guard := none }) (v := ?_) rfl (by kernel_rfl) (by kernel_rfl) (by kernel_rfl) (fun _ _ _ h => h) (Or.inl ⟨by rfl, ?_⟩) (by assumption) ?_
    rotate_left 1
    · (intro wq hSw; (try dsimp only at hSw); go_simp; try with_reducible rfl)
    try simp only [Act.put, List.setIfInBounds_toArray, List.set_cons_zero, List.set_cons_succ]
    refine wpAnyH_take (i := 11) (oi := { dst := some 54, op := Op.move (Operand.tmp 53), type := 4, pos := "laws.go:326", after := #[{ on := 10, ground := Ground.data }, { on := 6, ground := Ground.chain }], guard := none }) (v := ?_) rfl (by kernel_rfl) (by kernel_rfl) (by kernel_rfl) (fun _ _ _ h => h) (Or.inl ⟨by rfl, ?_⟩) (by assumption) ?_
    rotate_left 1
    · (intro wq hSw; (try dsimp only at hSw); go_simp; try with_reducible rfl)
    try simp only [Act.put, List.setIfInBounds_toArray, List.set_cons_zero, List.set_cons_succ]
    refine wpAnyH_take (i := 12) (oi := { dst := some 55, op := Op.load 27 (Operand.tmp 6), type := 27, pos := "laws.go:326", after := #[{ on := 11, ground := Ground.guard }], guard := some (11, false) }) (v := ?_) rfl (by kernel_rfl) (by kernel_rfl) (by kernel_rfl) (fun _ _ _ h => h) (Or.inl ⟨by rfl, ?_⟩) (by assumption) ?_
    rotate_left 1
    · (intro wq hSw; (try dsimp only at hSw); go_simp; try with_reducible rfl)
    try simp only [Act.put, List.setIfInBounds_toArray, List.set_cons_zero, List.set_cons_succ]
    refine wpAnyH_take (i := 13) (oi := { dst := some 56, op := Op.load 27 (Operand.tmp 8), type := 27, pos := "laws.go:326", after := #[{ on := 11, ground := Ground.guard }], guard := some (11, false) }) (v := ?_) rfl (by kernel_rfl) (by kernel_rfl) (by kernel_rfl) (fun _ _ _ h => h) (Or.inl ⟨by rfl, ?_⟩) (by assumption) ?_
    rotate_left 1
    · (intro wq hSw; (try dsimp only at hSw); go_simp; try with_reducible rfl)
    try simp only [Act.put, List.setIfInBounds_toArray, List.set_cons_zero, List.set_cons_succ]
    refine wpAnyH_ready (rs := [14]) (by kernel_rfl) (by simp) ?_
    refine AllReadyH.cons (o := { dst := some 57, op := Op.call { callee := Callee.value (Operand.func 17), args := #[Operand.tmp 55, Operand.tmp 56], argTypes := #[27, 27] }, type := 4, pos := "laws.go:326", after := #[{ on := 12, ground := Ground.data }, { on := 13, ground := Ground.data }, { on := 11, ground := Ground.chain }, { on := 11, ground := Ground.guard }], guard := some (11, false) }) rfl (fun K hK => ?_) AllReadyH.nil
    go_simp
    refine (HRR.out _ H13.out).mono ?_
    rintro e w14 ⟨rfl, hst⟩
    have H14 := hide hst
    have hk14 := HS11.out _ hst
    clear hst
    go_wp2_with fail
    refine hK.out _ _ ?_ (fun hHeld => ?_)
    · exact hk14
    clear hK K
    try simp only [Act.put, List.setIfInBounds_toArray, List.set_cons_zero, List.set_cons_succ]
    refine wpAnyH_take (i := 15) (oi := { dst := some 58, op := Op.unOp UnOp.not 4 (Operand.tmp 57), type := 4, pos := "laws.go:326", after := #[{ on := 14, ground := Ground.data }, { on := 11, ground := Ground.guard }], guard := some (11, false) }) (v := ?_) rfl (by kernel_rfl) (by kernel_rfl) (by kernel_rfl) (fun _ _ _ h => h) (Or.inl ⟨by rfl, ?_⟩) (by assumption) ?_
    rotate_left 1
    · (intro wq hSw; (try dsimp only at hSw); go_simp; try with_reducible rfl)
    try simp only [Act.put, List.setIfInBounds_toArray, List.set_cons_zero, List.set_cons_succ]
    refine wpAnyH_take (i := 16) (oi := { dst := some 59, op := Op.pick (Operand.tmp 54) (Operand.const (Value.bool true)) (Operand.tmp 58), type := 4, pos := "laws.go:326", after := #[{ on := 11, ground := Ground.data }, { on := 15, ground := Ground.data }], guard := none }) (v := ?_) rfl (by kernel_rfl) (by kernel_rfl) (by kernel_rfl) (fun _ _ _ h => h) (Or.inl ⟨by rfl, ?_⟩) (by assumption) ?_
    rotate_left 1
    · (intro wq hSw; (try dsimp only at hSw); go_simp; try with_reducible rfl)
    try simp only [Act.put, List.setIfInBounds_toArray, List.set_cons_zero, List.set_cons_succ]
    refine wpAnyH_take (i := 17) (oi := { dst := some 60, op := Op.move (Operand.tmp 59), type := 4, pos := "laws.go:326", after := #[{ on := 16, ground := Ground.data }, { on := 14, ground := Ground.chain }], guard := none }) (v := ?_) rfl (by kernel_rfl) (by kernel_rfl) (by kernel_rfl) (fun _ _ _ h => h) (Or.inl ⟨by rfl, ?_⟩) (by assumption) ?_
    rotate_left 1
    · (intro wq hSw; (try dsimp only at hSw); go_simp; try with_reducible rfl)
    try simp only [Act.put, List.setIfInBounds_toArray, List.set_cons_zero, List.set_cons_succ]
    refine wpAnyH_take (i := 18) (oi := { dst := some 61, op := Op.load 27 (Operand.tmp 10), type := 27, pos := "laws.go:326", after := #[{ on := 17, ground := Ground.guard }], guard := some (17, false) }) (v := ?_) rfl (by kernel_rfl) (by kernel_rfl) (by kernel_rfl) (fun _ _ _ h => h) (Or.inl ⟨by rfl, ?_⟩) (by assumption) ?_
    rotate_left 1
    · (intro wq hSw; (try dsimp only at hSw); go_simp; try with_reducible rfl)
    try simp only [Act.put, List.setIfInBounds_toArray, List.set_cons_zero, List.set_cons_succ]
    refine wpAnyH_take (i := 20) (oi := { dst := some 63, op := Op.load 27 (Operand.tmp 10), type := 27, pos := "laws.go:326", after := #[{ on := 17, ground := Ground.guard }], guard := some (17, false) }) (v := ?_) rfl (by kernel_rfl) (by kernel_rfl) (by kernel_rfl) (fun _ _ _ h => h) (Or.inl ⟨by rfl, ?_⟩) (by assumption) ?_
    rotate_left 1
    · (intro wq hSw; (try dsimp only at hSw); go_simp; try with_reducible rfl)
    try simp only [Act.put, List.setIfInBounds_toArray, List.set_cons_zero, List.set_cons_succ]
    refine wpAnyH_ready (rs := [19]) (by kernel_rfl) (by simp) ?_
    refine AllReadyH.cons (o := { dst := some 62, op := Op.call { callee := Callee.value (Operand.func 18), args := #[Operand.tmp 61], argTypes := #[27] }, type := 4, pos := "laws.go:326", after := #[{ on := 18, ground := Ground.data }, { on := 17, ground := Ground.chain }, { on := 17, ground := Ground.guard }], guard := some (17, false) }) rfl (fun K hK => ?_) AllReadyH.nil
    go_simp
    refine (HQI.out _ H14.out).mono ?_
    rintro e w15 ⟨rfl, hst⟩
    have H15 := hide hst
    have hk15 := HS11.out _ hst
    clear hst
    go_wp2_with fail
    refine hK.out _ _ ?_ (fun hHeld => ?_)
    · exact hk15
    clear hK K
    try simp only [Act.put, List.setIfInBounds_toArray, List.set_cons_zero, List.set_cons_succ]
    refine wpAnyH_ready (rs := [21]) (by kernel_rfl) (by simp) ?_
    refine AllReadyH.cons (o := { dst := some 64, op := Op.call { callee := Callee.value (Operand.func 19), args := #[Operand.tmp 63], argTypes := #[27] }, type := 4, pos := "laws.go:326", after := #[{ on := 20, ground := Ground.data }, { on := 19, ground := Ground.chain }, { on := 17, ground := Ground.guard }], guard := some (17, false) }) rfl (fun K hK => ?_) AllReadyH.nil
    go_simp
    refine (HQS.out _ H15.out).mono ?_
    rintro e w16 ⟨rfl, hst⟩
    have H16 := hide hst
    have hk16 := HS11.out _ hst
    clear hst
    go_wp2_with fail
    refine hK.out _ _ ?_ (fun hHeld => ?_)
    · exact hk16
    clear hK K
    try simp only [Act.put, List.setIfInBounds_toArray, List.set_cons_zero, List.set_cons_succ]
    refine wpAnyH_take (i := 22) (oi := { dst := some 65, op := Op.binOp BinOp.neq 4 (Operand.tmp 62) (Operand.tmp 64) 4, type := 4, pos := "laws.go:326", after := #[{ on := 19, ground := Ground.data }, { on := 21, ground := Ground.data }, { on := 17, ground := Ground.guard }], guard := some (17, false) }) (v := .bool false) rfl (by kernel_rfl) (by kernel_rfl) (by kernel_rfl) (fun _ _ _ h => h) (Or.inl ⟨by rfl, ?_⟩) (by assumption) ?_
    · (intro wq hSw; cases bq <;> go_simp)
    try simp only [Act.put, List.setIfInBounds_toArray, List.set_cons_zero, List.set_cons_succ]
    refine wpAnyH_take (i := 23) (oi := { dst := some 66, op := Op.pick (Operand.tmp 60) (Operand.const (Value.bool true)) (Operand.tmp 65), type := 4, pos := "laws.go:326", after := #[{ on := 17, ground := Ground.data }, { on := 22, ground := Ground.data }], guard := none }) (v := ?_) rfl (by kernel_rfl) (by kernel_rfl) (by kernel_rfl) (fun _ _ _ h => h) (Or.inl ⟨by rfl, ?_⟩) (by assumption) ?_
    rotate_left 1
    · (intro wq hSw; (try dsimp only at hSw); go_simp; try with_reducible rfl)
    try simp only [Act.put, List.setIfInBounds_toArray, List.set_cons_zero, List.set_cons_succ]
    refine wpAnyH_take (i := 24) (oi := { dst := some 67, op := Op.move (Operand.tmp 66), type := 4, pos := "laws.go:326", after := #[{ on := 23, ground := Ground.data }, { on := 21, ground := Ground.chain }], guard := none }) (v := ?_) rfl (by kernel_rfl) (by kernel_rfl) (by kernel_rfl) (fun _ _ _ h => h) (Or.inl ⟨by rfl, ?_⟩) (by assumption) ?_
    rotate_left 1
    · (intro wq hSw; (try dsimp only at hSw); go_simp; try with_reducible rfl)
    try simp only [Act.put, List.setIfInBounds_toArray, List.set_cons_zero, List.set_cons_succ]
    refine wpAnyH_take (i := 25) (oi := { dst := some 68, op := Op.move (Operand.tmp 11), type := 3, pos := "laws.go:326", after := #[{ on := 24, ground := Ground.guard }], guard := some (24, false) }) (v := ?_) rfl (by kernel_rfl) (by kernel_rfl) (by kernel_rfl) (fun _ _ _ h => h) (Or.inl ⟨by rfl, ?_⟩) (by assumption) ?_
    rotate_left 1
    · (intro wq hSw; (try dsimp only at hSw); go_simp; try with_reducible rfl)
    try simp only [Act.put, List.setIfInBounds_toArray, List.set_cons_zero, List.set_cons_succ]
    refine wpAnyH_take (i := 27) (oi := { dst := some 70, op := Op.move (Operand.tmp 11), type := 3, pos := "laws.go:326", after := #[{ on := 24, ground := Ground.guard }], guard := some (24, false) }) (v := ?_) rfl (by kernel_rfl) (by kernel_rfl) (by kernel_rfl) (fun _ _ _ h => h) (Or.inl ⟨by rfl, ?_⟩) (by assumption) ?_
    rotate_left 1
    · (intro wq hSw; (try dsimp only at hSw); go_simp; try with_reducible rfl)
    try simp only [Act.put, List.setIfInBounds_toArray, List.set_cons_zero, List.set_cons_succ]
    refine wpAnyH_ready (rs := [26]) (by kernel_rfl) (by simp) ?_
    refine AllReadyH.cons (o := { dst := some 69, op := Op.call { callee := Callee.value (Operand.func 20), args := #[Operand.tmp 68], argTypes := #[3] }, type := 27, pos := "laws.go:326", after := #[{ on := 25, ground := Ground.data }, { on := 24, ground := Ground.chain }, { on := 24, ground := Ground.guard }], guard := some (24, false) }) rfl (fun K hK => ?_) AllReadyH.nil
    go_simp
    refine (HNI.out _ H16.out).mono ?_
    rintro e w17 ⟨go20, bo20, gc20, bc20, rfl, hv17, hst⟩
    have H17 := hide hst
    have HV17 := hide hv17
    have hk17 := HS11.out _ hst
    clear hst hv17
    go_wp2_with fail
    refine hK.out _ _ ?_ (fun hHeld => ?_)
    · exact hk17
    clear hK K
    try simp only [Act.put, List.setIfInBounds_toArray, List.set_cons_zero, List.set_cons_succ]
    refine wpAnyH_ready (rs := [28]) (by kernel_rfl) (by simp) ?_
    refine AllReadyH.cons (o := { dst := some 71, op := Op.call { callee := Callee.value (Operand.func 21), args := #[Operand.tmp 70], argTypes := #[3] }, type := 27, pos := "laws.go:326", after := #[{ on := 27, ground := Ground.data }, { on := 26, ground := Ground.chain }, { on := 24, ground := Ground.guard }], guard := some (24, false) }) rfl (fun K hK => ?_) AllReadyH.nil
    go_simp
    refine (HNS.out _ H17.out go20 bo20 gc20 bc20 HV17.out).mono ?_
    rintro e w18 ⟨go21, bo21, gc21, bc21, rfl, hv18, hv18', hst⟩
    have H18 := hide hst
    have HV18 := hide (And.intro hv18 hv18')
    have hk18 := HS11.out _ hst
    clear hst hv18 hv18'
    go_wp2_with fail
    refine hK.out _ _ ?_ (fun hHeld => ?_)
    · exact hk18
    clear hK K
    try simp only [Act.put, List.setIfInBounds_toArray, List.set_cons_zero, List.set_cons_succ]
    refine wpAnyH_ready (rs := [29]) (by kernel_rfl) (by simp) ?_
    refine AllReadyH.cons (o := { dst := some 72, op := Op.call { callee := Callee.value (Operand.func 17), args := #[Operand.tmp 69, Operand.tmp 71], argTypes := #[27, 27] }, type := 4, pos := "laws.go:326", after := #[{ on := 26, ground := Ground.data }, { on := 28, ground := Ground.data }, { on := 28, ground := Ground.chain }, { on := 24, ground := Ground.guard }], guard := some (24, false) }) rfl (fun K hK => ?_) AllReadyH.nil
    go_simp
    refine (HNN.out _ H18.out go20 bo20 gc20 bc20 go21 bo21 gc21 bc21 HV18.out.1 HV18.out.2).mono ?_
    rintro e w19 ⟨rfl, hst⟩
    have H19 := hide hst
    have hk19 := HS11.out _ hst
    clear hst
    go_wp2_with fail
    refine hK.out _ _ ?_ (fun hHeld => ?_)
    · exact hk19
    clear hK K
    try simp only [Act.put, List.setIfInBounds_toArray, List.set_cons_zero, List.set_cons_succ]
    refine wpAnyH_take (i := 30) (oi := { dst := some 73, op := Op.unOp UnOp.not 4 (Operand.tmp 72), type := 4, pos := "laws.go:326", after := #[{ on := 29, ground := Ground.data }, { on := 24, ground := Ground.guard }], guard := some (24, false) }) (v := ?_) rfl (by kernel_rfl) (by kernel_rfl) (by kernel_rfl) (fun _ _ _ h => h) (Or.inl ⟨by rfl, ?_⟩) (by assumption) ?_
    rotate_left 1
    · (intro wq hSw; (try dsimp only at hSw); go_simp; try with_reducible rfl)
    try simp only [Act.put, List.setIfInBounds_toArray, List.set_cons_zero, List.set_cons_succ]
    refine wpAnyH_take (i := 31) (oi := { dst := some 74, op := Op.pick (Operand.tmp 67) (Operand.const (Value.bool true)) (Operand.tmp 73), type := 4, pos := "laws.go:326", after := #[{ on := 24, ground := Ground.data }, { on := 30, ground := Ground.data }], guard := none }) (v := ?_) rfl (by kernel_rfl) (by kernel_rfl) (by kernel_rfl) (fun _ _ _ h => h) (Or.inl ⟨by rfl, ?_⟩) (by assumption) ?_
    rotate_left 1
    · (intro wq hSw; (try dsimp only at hSw); go_simp; try with_reducible rfl)
    try simp only [Act.put, List.setIfInBounds_toArray, List.set_cons_zero, List.set_cons_succ]
    refine wpAnyH_take (i := 32) (oi := { dst := some 75, op := Op.move (Operand.tmp 74), type := 4, pos := "laws.go:326", after := #[{ on := 31, ground := Ground.data }, { on := 29, ground := Ground.chain }], guard := none }) (v := ?_) rfl (by kernel_rfl) (by kernel_rfl) (by kernel_rfl) (fun _ _ _ h => h) (Or.inl ⟨by rfl, ?_⟩) (by assumption) ?_
    rotate_left 1
    · (intro wq hSw; (try dsimp only at hSw); go_simp; try with_reducible rfl)
    try simp only [Act.put, List.setIfInBounds_toArray, List.set_cons_zero, List.set_cons_succ]
    refine wpAnyH_take (i := 33) (oi := { dst := some 76, op := Op.load 27 (Operand.tmp 12), type := 27, pos := "laws.go:326", after := #[{ on := 32, ground := Ground.guard }], guard := some (32, false) }) (v := ?_) rfl (by kernel_rfl) (by kernel_rfl) (by kernel_rfl) (fun _ _ _ h => h) (Or.inl ⟨by rfl, ?_⟩) (by assumption) ?_
    rotate_left 1
    · (intro wq hSw; (try dsimp only at hSw); go_simp; try with_reducible rfl)
    try simp only [Act.put, List.setIfInBounds_toArray, List.set_cons_zero, List.set_cons_succ]
    refine wpAnyH_take (i := 34) (oi := { dst := some 77, op := Op.load 27 (Operand.tmp 13), type := 27, pos := "laws.go:326", after := #[{ on := 32, ground := Ground.guard }], guard := some (32, false) }) (v := ?_) rfl (by kernel_rfl) (by kernel_rfl) (by kernel_rfl) (fun _ _ _ h => h) (Or.inl ⟨by rfl, ?_⟩) (by assumption) ?_
    rotate_left 1
    · (intro wq hSw; (try dsimp only at hSw); go_simp; try with_reducible rfl)
    try simp only [Act.put, List.setIfInBounds_toArray, List.set_cons_zero, List.set_cons_succ]
    refine wpAnyH_take (i := 36) (oi := { dst := some 79, op := Op.load 27 (Operand.tmp 12), type := 27, pos := "laws.go:326", after := #[{ on := 32, ground := Ground.guard }], guard := some (32, false) }) (v := ?_) rfl (by kernel_rfl) (by kernel_rfl) (by kernel_rfl) (fun _ _ _ h => h) (Or.inl ⟨by rfl, ?_⟩) (by assumption) ?_
    rotate_left 1
    · (intro wq hSw; (try dsimp only at hSw); go_simp; try with_reducible rfl)
    try simp only [Act.put, List.setIfInBounds_toArray, List.set_cons_zero, List.set_cons_succ]
    refine wpAnyH_take (i := 37) (oi := { dst := some 80, op := Op.load 27 (Operand.tmp 13), type := 27, pos := "laws.go:326", after := #[{ on := 32, ground := Ground.guard }], guard := some (32, false) }) (v := ?_) rfl (by kernel_rfl) (by kernel_rfl) (by kernel_rfl) (fun _ _ _ h => h) (Or.inl ⟨by rfl, ?_⟩) (by assumption) ?_
    rotate_left 1
    · (intro wq hSw; (try dsimp only at hSw); go_simp; try with_reducible rfl)
    try simp only [Act.put, List.setIfInBounds_toArray, List.set_cons_zero, List.set_cons_succ]
    refine wpAnyH_ready (rs := [35]) (by kernel_rfl) (by simp) ?_
    refine AllReadyH.cons (o := { dst := some 78, op := Op.call { callee := Callee.value (Operand.func 17), args := #[Operand.tmp 76, Operand.tmp 77], argTypes := #[27, 27] }, type := 4, pos := "laws.go:326", after := #[{ on := 33, ground := Ground.data }, { on := 34, ground := Ground.data }, { on := 32, ground := Ground.chain }, { on := 32, ground := Ground.guard }], guard := some (32, false) }) rfl (fun K hK => ?_) AllReadyH.nil
    go_simp
    refine (HPI.out _ H19.out).mono ?_
    rintro e w20 ⟨rfl, hst⟩
    have H20 := hide hst
    have hk20 := HS11.out _ hst
    clear hst
    go_wp2_with fail
    refine hK.out _ _ ?_ (fun hHeld => ?_)
    · exact hk20
    clear hK K
    try simp only [Act.put, List.setIfInBounds_toArray, List.set_cons_zero, List.set_cons_succ]
    refine wpAnyH_ready (rs := [38]) (by kernel_rfl) (by simp) ?_
    refine AllReadyH.cons (o := { dst := some 81, op := Op.call { callee := Callee.value (Operand.func 22), args := #[Operand.tmp 79, Operand.tmp 80], argTypes := #[27, 27] }, type := 4, pos := "laws.go:326", after := #[{ on := 36, ground := Ground.data }, { on := 37, ground := Ground.data }, { on := 35, ground := Ground.chain }, { on := 32, ground := Ground.guard }], guard := some (32, false) }) rfl (fun K hK => ?_) AllReadyH.nil
    go_simp
    refine (HPS.out _ H20.out).mono ?_
    rintro e w21 ⟨rfl, hst⟩
    have H21 := hide hst
    have hk21 := HS11.out _ hst
    clear hst
    go_wp2_with fail
    refine hK.out _ _ ?_ (fun hHeld => ?_)
    · exact hk21
    clear hK K
    try simp only [Act.put, List.setIfInBounds_toArray, List.set_cons_zero, List.set_cons_succ]
    refine wpAnyH_take (i := 39) (oi := { dst := some 82, op := Op.binOp BinOp.neq 4 (Operand.tmp 78) (Operand.tmp 81) 4, type := 4, pos := "laws.go:326", after := #[{ on := 35, ground := Ground.data }, { on := 38, ground := Ground.data }, { on := 32, ground := Ground.guard }], guard := some (32, false) }) (v := .bool false) rfl (by kernel_rfl) (by kernel_rfl) (by kernel_rfl) (fun _ _ _ h => h) (Or.inl ⟨by rfl, ?_⟩) (by assumption) ?_
    · (intro wq hSw; cases bs <;> go_simp)
    try simp only [Act.put, List.setIfInBounds_toArray, List.set_cons_zero, List.set_cons_succ]
    refine wpAnyH_take (i := 40) (oi := { dst := some 83, op := Op.pick (Operand.tmp 75) (Operand.const (Value.bool true)) (Operand.tmp 82), type := 4, pos := "laws.go:326", after := #[{ on := 32, ground := Ground.data }, { on := 39, ground := Ground.data }], guard := none }) (v := ?_) rfl (by kernel_rfl) (by kernel_rfl) (by kernel_rfl) (fun _ _ _ h => h) (Or.inl ⟨by rfl, ?_⟩) (by assumption) ?_
    rotate_left 1
    · (intro wq hSw; (try dsimp only at hSw); go_simp; try with_reducible rfl)
    try simp only [Act.put, List.setIfInBounds_toArray, List.set_cons_zero, List.set_cons_succ]
    refine wpAnyH_done (by kernel_rfl) ?_ _
    have HE := H21
    clear hS0 hk13 hk14 hk15 hk16 hk17 hk18 hk19 hk20 hk21 H13 H14 H15 H16 H17 H18 H19 H20 H21 H12d HSB HRR HQI HQS HNI HNS HNN HPI HPS HS11 HV17 HV18
    go_wp2_with fail
    have HEd : Hid (TZ w w21.drew ∧ TK w21.drew X1 m go1 gc1 bo1 bc1 ∧ TB w21.drew yo (mtq Classical.propDecidable m) ∧ TB w21.drew xo X ∧ TK w21.drew X6 r go6 gc6 bo6 bc6 ∧ TK w21.drew X8 r go8 gc8 bo8 bc8 ∧ TK w21.drew X10 q go10 gc10 bo10 bc10 ∧ TK w21.drew X12 p go12 gc12 bo12 bc12 ∧ TK w21.drew X13 s go13 gc13 bo13 bc13) := ⟨HE.out.1.st (Below.drawn (Below.refl w21.heap.size w21) 1), HE.out.2.1.st (Below.drawn (Below.refl w21.heap.size w21) 1), HE.out.2.2.1.st (Below.drawn (Below.refl w21.heap.size w21) 1), HE.out.2.2.2.1.st (Below.drawn (Below.refl w21.heap.size w21) 1), HE.out.2.2.2.2.1.st (Below.drawn (Below.refl w21.heap.size w21) 1), HE.out.2.2.2.2.2.1.st (Below.drawn (Below.refl w21.heap.size w21) 1), HE.out.2.2.2.2.2.2.1.st (Below.drawn (Below.refl w21.heap.size w21) 1), HE.out.2.2.2.2.2.2.2.1.st (Below.drawn (Below.refl w21.heap.size w21) 1), HE.out.2.2.2.2.2.2.2.2.st (Below.drawn (Below.refl w21.heap.size w21) 1)⟩
    clear HE
    obtain ⟨tX, htX⟩ : ∃ tX, tX = bstr X := ⟨_, rfl⟩
    have HS13 : Hid (∀ W, (TZ w W ∧ TK W X1 m go1 gc1 bo1 bc1 ∧ TB W yo (mtq Classical.propDecidable m) ∧ TB W xo X ∧ TK W X6 r go6 gc6 bo6 bc6 ∧ TK W X8 r go8 gc8 bo8 bc8 ∧ TK W X10 q go10 gc10 bo10 bc10 ∧ TK W X12 p go12 gc12 bo12 bc12 ∧ TK W X13 s go13 gc13 bo13 bc13) → (W.cell? ⟨X6, 0, none⟩ = some (.slice go6 r.G.length gc6) ∧ W.cell? ⟨X6, 1, none⟩ = some (.slice bo6 r.k bc6) ∧ W.cell? ⟨X6, 2, none⟩ = some (.bool r.fi) ∧ W.cell? ⟨X6, 3, none⟩ = some (.bool r.ol) ∧ W.cell? ⟨X6, 4, none⟩ = some (.bool r.he) ∧ W.cell? ⟨X6, 5, none⟩ = some (.int .i64 r.la)) ∧ (convert 22 9 (.slice xo X.length xc)).run Try.prog W = .ok (.string tX) W) := fun W h => ⟨h.2.2.2.2.1.1.cells, by rw [htX]; exact TB.conv h.2.2.2.1 HXB.out⟩
    have HIB : Hid (ok = true → ∀ W, (TZ w W ∧ TK W X1 m go1 gc1 bo1 bc1 ∧ TB W yo (mtq Classical.propDecidable m) ∧ TB W xo X ∧ TK W X6 r go6 gc6 bo6 bc6 ∧ TK W X8 r go8 gc8 bo8 bc8 ∧ TK W X10 q go10 gc10 bo10 bc10 ∧ TK W X12 p go12 gc12 bo12 bc12 ∧ TK W X13 s go13 gc13 bo13 bc13) → Calls Try.prog 9 #[.agg #[.slice go6 r.G.length gc6, .slice bo6 r.k bc6, .bool r.fi, .bool r.ol, .bool r.he, .int .i64 r.la]] W fun e w' => ∃ ao3 c3, e = .returned (.slice ao3 X.length c3) ∧ (convert 22 9 (.slice ao3 X.length c3)).run Try.prog w' = .ok (.string tX) w' ∧ (TZ w w' ∧ TK w' X1 m go1 gc1 bo1 bc1 ∧ TB w' yo (mtq Classical.propDecidable m) ∧ TB w' xo X ∧ TK w' X6 r go6 gc6 bo6 bc6 ∧ TK w' X8 r go8 gc8 bo8 bc8 ∧ TK w' X10 q go10 gc10 bo10 bc10 ∧ TK w' X12 p go12 gc12 bo12 bc12 ∧ TK w' X13 s go13 gc13 bo13 bc13)) := fun hk W h => (mtbytes_impl go6 bo6 gc6 bc6 r.G r.k r.L r.fi r.ol r.he r.la W hrs.bd h.2.2.2.2.1.2).mono fun e w' => by
      rintro ⟨v, rfl, ho, hb⟩
      have eX : mtq Classical.propDecidable r = X := mtis_q (HOK.out hk).1 (HOK.out hk).2
      have ho' : w'.ownsRow W.heap.size 5 1 v (mtq Classical.propDecidable r).length ((mtq Classical.propDecidable r).map (.int .u8)) := ho
      rw [eX] at ho'
      obtain ⟨ao3, c3, rfl, hv3⟩ := tb_form ho'
      exact ⟨ao3, c3, rfl, by rw [htX]; exact TB.conv hv3 HXB.out, ⟨h.1.st hb, h.2.1.st hb, h.2.2.1.st hb, h.2.2.2.1.st hb, h.2.2.2.2.1.st hb, h.2.2.2.2.2.1.st hb, h.2.2.2.2.2.2.1.st hb, h.2.2.2.2.2.2.2.1.st hb, h.2.2.2.2.2.2.2.2.st hb⟩⟩
    have hS0 := HS13.out _ HEd.out
    cases ok with
    | false =>
      refine wp_region_held_drew (S := (fun w' => (w'.cell? ⟨X6, 0, none⟩ = some (.slice go6 r.G.length gc6) ∧ w'.cell? ⟨X6, 1, none⟩ = some (.slice bo6 r.k bc6) ∧ w'.cell? ⟨X6, 2, none⟩ = some (.bool r.fi) ∧ w'.cell? ⟨X6, 3, none⟩ = some (.bool r.ol) ∧ w'.cell? ⟨X6, 4, none⟩ = some (.bool r.he) ∧ w'.cell? ⟨X6, 5, none⟩ = some (.int .i64 r.la)) ∧ (convert 22 9 (.slice xo X.length xc)).run Try.prog w' = .ok (.string tX) w')) (by kernel_rfl) ?_ (fun hHeld => ?_)
      · exact hS0
      refine wpAnyH_take (i := 0) (oi := { dst := some 84, op := Op.move (Operand.tmp 7), type := 4, pos := "laws.go:329", after := #[], guard := none }) (v := ?_) rfl (by kernel_rfl) (by kernel_rfl) (by kernel_rfl) (fun _ _ _ h => h) (Or.inl ⟨by rfl, ?_⟩) (by assumption) ?_
      rotate_left 1
      · (intro wq hSw; (try dsimp only at hSw); go_simp; try with_reducible rfl)
      try simp only [Act.put, List.setIfInBounds_toArray, List.set_cons_zero, List.set_cons_succ]
      refine wpAnyH_take (i := 1) (oi := { dst := some 85, op := Op.move (Operand.tmp 84), type := 4, pos := "laws.go:329", after := #[{ on := 0, ground := Ground.data }], guard := none }) (v := ?_) rfl (by kernel_rfl) (by kernel_rfl) (by kernel_rfl) (fun _ _ _ h => h) (Or.inl ⟨by rfl, ?_⟩) (by assumption) ?_
      rotate_left 1
      · (intro wq hSw; (try dsimp only at hSw); go_simp; try with_reducible rfl)
      try simp only [Act.put, List.setIfInBounds_toArray, List.set_cons_zero, List.set_cons_succ]
      refine wpAnyH_take (i := 2) (oi := { dst := some 86, op := Op.load 27 (Operand.tmp 6), type := 27, pos := "laws.go:329", after := #[{ on := 1, ground := Ground.guard }], guard := some (1, true) }) (v := undef) rfl (by kernel_rfl) (by kernel_rfl) (by kernel_rfl) (fun _ _ _ h => h) (Or.inr ⟨by rfl, rfl⟩) (by assumption) ?_
      try simp only [Act.put, List.setIfInBounds_toArray, List.set_cons_zero, List.set_cons_succ]
      refine wpAnyH_take (i := 3) (oi := { dst := some 87, op := Op.call { callee := Callee.value (Operand.func 9), args := #[Operand.tmp 86], argTypes := #[27] }, type := 22, pos := "laws.go:329", after := #[{ on := 2, ground := Ground.data }, { on := 1, ground := Ground.chain }, { on := 1, ground := Ground.guard }], guard := some (1, true) }) (v := undef) rfl (by kernel_rfl) (by kernel_rfl) (by kernel_rfl) (fun _ _ _ h => h) (Or.inr ⟨by rfl, rfl⟩) (by assumption) ?_
      try simp only [Act.put, List.setIfInBounds_toArray, List.set_cons_zero, List.set_cons_succ]
      refine wpAnyH_take (i := 4) (oi := { dst := some 88, op := Op.convert 22 9 (Operand.tmp 87), type := 9, pos := "laws.go:329", after := #[{ on := 3, ground := Ground.data }, { on := 1, ground := Ground.guard }], guard := some (1, true) }) (v := undef) rfl (by kernel_rfl) (by kernel_rfl) (by kernel_rfl) (fun _ _ _ h => h) (Or.inr ⟨by rfl, rfl⟩) (by assumption) ?_
      try simp only [Act.put, List.setIfInBounds_toArray, List.set_cons_zero, List.set_cons_succ]
      refine wpAnyH_take (i := 5) (oi := { dst := some 89, op := Op.move (Operand.tmp 5), type := 22, pos := "laws.go:329", after := #[{ on := 1, ground := Ground.guard }], guard := some (1, true) }) (v := undef) rfl (by kernel_rfl) (by kernel_rfl) (by kernel_rfl) (fun _ _ _ h => h) (Or.inr ⟨by rfl, rfl⟩) (by assumption) ?_
      try simp only [Act.put, List.setIfInBounds_toArray, List.set_cons_zero, List.set_cons_succ]
      refine wpAnyH_take (i := 6) (oi := { dst := some 90, op := Op.convert 22 9 (Operand.tmp 89), type := 9, pos := "laws.go:329", after := #[{ on := 5, ground := Ground.data }, { on := 1, ground := Ground.guard }], guard := some (1, true) }) (v := undef) rfl (by kernel_rfl) (by kernel_rfl) (by kernel_rfl) (fun _ _ _ h => h) (Or.inr ⟨by rfl, rfl⟩) (by assumption) ?_
      try simp only [Act.put, List.setIfInBounds_toArray, List.set_cons_zero, List.set_cons_succ]
      refine wpAnyH_take (i := 7) (oi := { dst := some 91, op := Op.binOp BinOp.neq 9 (Operand.tmp 88) (Operand.tmp 90) 9, type := 4, pos := "laws.go:329", after := #[{ on := 4, ground := Ground.data }, { on := 6, ground := Ground.data }, { on := 1, ground := Ground.guard }], guard := some (1, true) }) (v := undef) rfl (by kernel_rfl) (by kernel_rfl) (by kernel_rfl) (fun _ _ _ h => h) (Or.inr ⟨by rfl, rfl⟩) (by assumption) ?_
      try simp only [Act.put, List.setIfInBounds_toArray, List.set_cons_zero, List.set_cons_succ]
      refine wpAnyH_take (i := 8) (oi := { dst := some 92, op := Op.pick (Operand.tmp 85) (Operand.tmp 91) (Operand.const (Value.bool false)), type := 4, pos := "laws.go:329", after := #[{ on := 1, ground := Ground.data }, { on := 7, ground := Ground.data }], guard := none }) (v := ?_) rfl (by kernel_rfl) (by kernel_rfl) (by kernel_rfl) (fun _ _ _ h => h) (Or.inl ⟨by rfl, ?_⟩) (by assumption) ?_
      rotate_left 1
      · (intro wq hSw; (try dsimp only at hSw); go_simp; try with_reducible rfl)
      try simp only [Act.put, List.setIfInBounds_toArray, List.set_cons_zero, List.set_cons_succ]
      refine wpAnyH_done (by kernel_rfl) ?_ _
      clear hS0 HIB HS13
      have HT : Hid (TZ w w21.drew ∧ TK w21.drew X1 m go1 gc1 bo1 bc1 ∧ TB w21.drew yo (mtq Classical.propDecidable m) ∧ TB w21.drew xo X ∧ TK w21.drew X6 r go6 gc6 bo6 bc6 ∧ TK w21.drew X8 r go8 gc8 bo8 bc8 ∧ TK w21.drew X10 q go10 gc10 bo10 bc10 ∧ TK w21.drew X12 p go12 gc12 bo12 bc12 ∧ TK w21.drew X13 s go13 gc13 bo13 bc13) := HEd.out
      generalize w21.drew = w30 at *
      obtain ⟨c0, c1, c2, c3, c4, c5⟩ := HT.out.2.1.1.cells
      go_wp2_with fail
      refine (mtok_impl go1 bo1 gc1 bc1 m.G m.k m.L m.fi m.ol m.he m.la w30 hsm.bd HT.out.2.1.2).mono ?_
      rintro e w31 ⟨h31, b31⟩
      have H31 : Hid (TZ w w31 ∧ TK w31 X1 m go1 gc1 bo1 bc1 ∧ TB w31 yo (mtq Classical.propDecidable m) ∧ TB w31 xo X ∧ TK w31 X6 r go6 gc6 bo6 bc6 ∧ TK w31 X8 r go8 gc8 bo8 bc8 ∧ TK w31 X10 q go10 gc10 bo10 bc10 ∧ TK w31 X12 p go12 gc12 bo12 bc12 ∧ TK w31 X13 s go13 gc13 bo13 bc13) := ⟨HT.out.1.st b31, HT.out.2.1.st b31, HT.out.2.2.1.st b31, HT.out.2.2.2.1.st b31, HT.out.2.2.2.2.1.st b31, HT.out.2.2.2.2.2.1.st b31, HT.out.2.2.2.2.2.2.1.st b31, HT.out.2.2.2.2.2.2.2.1.st b31, HT.out.2.2.2.2.2.2.2.2.st b31⟩
      clear b31 c0 c1 c2 c3 c4 c5 HT
      rcases h31 with ⟨hmok, rfl⟩ | ⟨hmok, rfl⟩
      · obtain ⟨r', ok', hrs', hok1', hok2', _, hmi'⟩ := mtof_both (mtq Classical.propDecidable m) (by have := mtq_len m; omega) (mtq_byte m)
        obtain rfl : ok' = true := hok2' ⟨_, _, _, _, _, _, mtq_is hmok⟩
        have h3' := (hok1' rfl).1
        have hmk : m.k = 3 := hmok.2.1.1
        have hone := mtis_one (hok1' rfl).2 (mtq_is hmok)
        have HSm : Hid (SmM r'.G r'.k r'.L r'.fi r'.ol r'.he r'.la m.G m.k m.L m.fi m.ol m.he m.la) := ⟨h3'.trans hmk.symm, hone.1, hone.2.2.1, hone.2.2.2.1, hone.2.2.2.2.1, hone.2.2.2.2.2, fun i hi => hone.2.1 i (by omega)⟩
        have HMI := hide hmi'
        clear hmi' hok1' hok2' hone hmok h3' hmk
        go_wp2_with fail
        refine (HMI.out w31 yo yc H31.out.2.2.1).mono ?_
        rintro e w32 ⟨go40, bo40, gc40, bc40, rfl, hm40, b40⟩
        have H32 : Hid ((TZ w (w32.alloc (.cells #[.slice go40 r'.G.length gc40, .slice bo40 r'.k bc40, .bool r'.fi, .bool r'.ol, .bool r'.he, .int .i64 r'.la] 27)) ∧ TK (w32.alloc (.cells #[.slice go40 r'.G.length gc40, .slice bo40 r'.k bc40, .bool r'.fi, .bool r'.ol, .bool r'.he, .int .i64 r'.la] 27)) X1 m go1 gc1 bo1 bc1 ∧ TB (w32.alloc (.cells #[.slice go40 r'.G.length gc40, .slice bo40 r'.k bc40, .bool r'.fi, .bool r'.ol, .bool r'.he, .int .i64 r'.la] 27)) yo (mtq Classical.propDecidable m) ∧ TB (w32.alloc (.cells #[.slice go40 r'.G.length gc40, .slice bo40 r'.k bc40, .bool r'.fi, .bool r'.ol, .bool r'.he, .int .i64 r'.la] 27)) xo X ∧ TK (w32.alloc (.cells #[.slice go40 r'.G.length gc40, .slice bo40 r'.k bc40, .bool r'.fi, .bool r'.ol, .bool r'.he, .int .i64 r'.la] 27)) X6 r go6 gc6 bo6 bc6 ∧ TK (w32.alloc (.cells #[.slice go40 r'.G.length gc40, .slice bo40 r'.k bc40, .bool r'.fi, .bool r'.ol, .bool r'.he, .int .i64 r'.la] 27)) X8 r go8 gc8 bo8 bc8 ∧ TK (w32.alloc (.cells #[.slice go40 r'.G.length gc40, .slice bo40 r'.k bc40, .bool r'.fi, .bool r'.ol, .bool r'.he, .int .i64 r'.la] 27)) X10 q go10 gc10 bo10 bc10 ∧ TK (w32.alloc (.cells #[.slice go40 r'.G.length gc40, .slice bo40 r'.k bc40, .bool r'.fi, .bool r'.ol, .bool r'.he, .int .i64 r'.la] 27)) X12 p go12 gc12 bo12 bc12 ∧ TK (w32.alloc (.cells #[.slice go40 r'.G.length gc40, .slice bo40 r'.k bc40, .bool r'.fi, .bool r'.ol, .bool r'.he, .int .i64 r'.la] 27)) X13 s go13 gc13 bo13 bc13) ∧ TK (w32.alloc (.cells #[.slice go40 r'.G.length gc40, .slice bo40 r'.k bc40, .bool r'.fi, .bool r'.ol, .bool r'.he, .int .i64 r'.la] 27)) w32.heap.size r' go40 gc40 bo40 bc40) := ⟨⟨H31.out.1.st (b40.trans ((bal1 w32 (.cells #[.slice go40 r'.G.length gc40, .slice bo40 r'.k bc40, .bool r'.fi, .bool r'.ol, .bool r'.he, .int .i64 r'.la] 27)).mono b40.size)), H31.out.2.1.st (b40.trans ((bal1 w32 (.cells #[.slice go40 r'.G.length gc40, .slice bo40 r'.k bc40, .bool r'.fi, .bool r'.ol, .bool r'.he, .int .i64 r'.la] 27)).mono b40.size)), H31.out.2.2.1.st (b40.trans ((bal1 w32 (.cells #[.slice go40 r'.G.length gc40, .slice bo40 r'.k bc40, .bool r'.fi, .bool r'.ol, .bool r'.he, .int .i64 r'.la] 27)).mono b40.size)), H31.out.2.2.2.1.st (b40.trans ((bal1 w32 (.cells #[.slice go40 r'.G.length gc40, .slice bo40 r'.k bc40, .bool r'.fi, .bool r'.ol, .bool r'.he, .int .i64 r'.la] 27)).mono b40.size)), H31.out.2.2.2.2.1.st (b40.trans ((bal1 w32 (.cells #[.slice go40 r'.G.length gc40, .slice bo40 r'.k bc40, .bool r'.fi, .bool r'.ol, .bool r'.he, .int .i64 r'.la] 27)).mono b40.size)), H31.out.2.2.2.2.2.1.st (b40.trans ((bal1 w32 (.cells #[.slice go40 r'.G.length gc40, .slice bo40 r'.k bc40, .bool r'.fi, .bool r'.ol, .bool r'.he, .int .i64 r'.la] 27)).mono b40.size)), H31.out.2.2.2.2.2.2.1.st (b40.trans ((bal1 w32 (.cells #[.slice go40 r'.G.length gc40, .slice bo40 r'.k bc40, .bool r'.fi, .bool r'.ol, .bool r'.he, .int .i64 r'.la] 27)).mono b40.size)), H31.out.2.2.2.2.2.2.2.1.st (b40.trans ((bal1 w32 (.cells #[.slice go40 r'.G.length gc40, .slice bo40 r'.k bc40, .bool r'.fi, .bool r'.ol, .bool r'.he, .int .i64 r'.la] 27)).mono b40.size)), H31.out.2.2.2.2.2.2.2.2.st (b40.trans ((bal1 w32 (.cells #[.slice go40 r'.G.length gc40, .slice bo40 r'.k bc40, .bool r'.fi, .bool r'.ol, .bool r'.he, .int .i64 r'.la] 27)).mono b40.size))⟩, KB.new w32 _ _ _ _ _ _ _ _ _ _ _, hm40.below (bal1 _ _)⟩
        clear hm40 b40 H31
        obtain ⟨k0, k1, k2, k3, k4, k5⟩ := H32.out.2.1.cells
        obtain ⟨c0, c1, c2, c3, c4, c5⟩ := H32.out.1.2.1.1.cells
        go_wp2_with fail
        refine (samem_impl go40 bo40 go1 bo1 gc40 bc40 gc1 bc1 r'.G m.G r'.k m.k r'.L m.L r'.fi r'.ol r'.he m.fi m.ol m.he r'.la m.la _ hrs'.bd H32.out.2.2 H32.out.1.2.1.2).mono ?_
        rintro e w33 ⟨h33, b33⟩
        obtain rfl : e = .returned (.bool true) := by
          rcases h33 with ⟨_, h⟩ | ⟨h, _⟩
          · exact h
          · exact absurd HSm.out h
        have HB := hide (H32.out.1.1.st b33)
        clear b33 h33
        go_wp2
        go_ret
        exact ⟨rfl, HB.out⟩
      · have hl0 : (mtq Classical.propDecidable m).length = 0 := by rw [mtq_no hmok]; rfl
        go_wp2
        go_ret
        exact ⟨by simp, H31.out.1⟩
    | true =>
      refine wp_region_held_drew (S := (fun w' => (w'.cell? ⟨X6, 0, none⟩ = some (.slice go6 r.G.length gc6) ∧ w'.cell? ⟨X6, 1, none⟩ = some (.slice bo6 r.k bc6) ∧ w'.cell? ⟨X6, 2, none⟩ = some (.bool r.fi) ∧ w'.cell? ⟨X6, 3, none⟩ = some (.bool r.ol) ∧ w'.cell? ⟨X6, 4, none⟩ = some (.bool r.he) ∧ w'.cell? ⟨X6, 5, none⟩ = some (.int .i64 r.la)) ∧ (convert 22 9 (.slice xo X.length xc)).run Try.prog w' = .ok (.string tX) w')) (by kernel_rfl) ?_ (fun hHeld => ?_)
      · exact hS0
      refine wpAnyH_take (i := 0) (oi := { dst := some 84, op := Op.move (Operand.tmp 7), type := 4, pos := "laws.go:329", after := #[], guard := none }) (v := ?_) rfl (by kernel_rfl) (by kernel_rfl) (by kernel_rfl) (fun _ _ _ h => h) (Or.inl ⟨by rfl, ?_⟩) (by assumption) ?_
      rotate_left 1
      · (intro wq hSw; (try dsimp only at hSw); go_simp; try with_reducible rfl)
      try simp only [Act.put, List.setIfInBounds_toArray, List.set_cons_zero, List.set_cons_succ]
      refine wpAnyH_take (i := 1) (oi := { dst := some 85, op := Op.move (Operand.tmp 84), type := 4, pos := "laws.go:329", after := #[{ on := 0, ground := Ground.data }], guard := none }) (v := ?_) rfl (by kernel_rfl) (by kernel_rfl) (by kernel_rfl) (fun _ _ _ h => h) (Or.inl ⟨by rfl, ?_⟩) (by assumption) ?_
      rotate_left 1
      · (intro wq hSw; (try dsimp only at hSw); go_simp; try with_reducible rfl)
      try simp only [Act.put, List.setIfInBounds_toArray, List.set_cons_zero, List.set_cons_succ]
      refine wpAnyH_take (i := 2) (oi := { dst := some 86, op := Op.load 27 (Operand.tmp 6), type := 27, pos := "laws.go:329", after := #[{ on := 1, ground := Ground.guard }], guard := some (1, true) }) (v := ?_) rfl (by kernel_rfl) (by kernel_rfl) (by kernel_rfl) (fun _ _ _ h => h) (Or.inl ⟨by rfl, ?_⟩) (by assumption) ?_
      rotate_left 1
      · (intro wq hSw; (try dsimp only at hSw); go_simp; try with_reducible rfl)
      try simp only [Act.put, List.setIfInBounds_toArray, List.set_cons_zero, List.set_cons_succ]
      refine wpAnyH_take (i := 5) (oi := { dst := some 89, op := Op.move (Operand.tmp 5), type := 22, pos := "laws.go:329", after := #[{ on := 1, ground := Ground.guard }], guard := some (1, true) }) (v := ?_) rfl (by kernel_rfl) (by kernel_rfl) (by kernel_rfl) (fun _ _ _ h => h) (Or.inl ⟨by rfl, ?_⟩) (by assumption) ?_
      rotate_left 1
      · (intro wq hSw; (try dsimp only at hSw); go_simp; try with_reducible rfl)
      try simp only [Act.put, List.setIfInBounds_toArray, List.set_cons_zero, List.set_cons_succ]
      refine wpAnyH_take (i := 6) (oi := { dst := some 90, op := Op.convert 22 9 (Operand.tmp 89), type := 9, pos := "laws.go:329", after := #[{ on := 5, ground := Ground.data }, { on := 1, ground := Ground.guard }], guard := some (1, true) }) (v := ?_) rfl (by kernel_rfl) (by kernel_rfl) (by kernel_rfl) (fun _ _ _ h => h) (Or.inl ⟨by rfl, ?_⟩) (by assumption) ?_
      rotate_left 1
      · (intro wq hSw; (try dsimp only at hSw); go_simp; try with_reducible rfl)
      try simp only [Act.put, List.setIfInBounds_toArray, List.set_cons_zero, List.set_cons_succ]
      refine wpAnyH_ready (rs := [3]) (by kernel_rfl) (by simp) ?_
      refine AllReadyH.cons (o := { dst := some 87, op := Op.call { callee := Callee.value (Operand.func 9), args := #[Operand.tmp 86], argTypes := #[27] }, type := 22, pos := "laws.go:329", after := #[{ on := 2, ground := Ground.data }, { on := 1, ground := Ground.chain }, { on := 1, ground := Ground.guard }], guard := some (1, true) }) rfl (fun K hK => ?_) AllReadyH.nil
      go_simp
      refine (HIB.out rfl _ HEd.out).mono ?_
      rintro e w30 ⟨ao3, c3, rfl, hc3, hst⟩
      have H30 := hide hst
      have hk30 := HS13.out _ hst
      clear hst
      go_wp2_with fail
      refine hK.out _ _ ?_ (fun hHeld => ?_)
      · exact hk30
      clear hK K
      try simp only [Act.put, List.setIfInBounds_toArray, List.set_cons_zero, List.set_cons_succ]
      refine wpAnyH_ready (rs := [4]) (by kernel_rfl) (by simp) ?_
      refine AllReadyH.cons (o := { dst := some 88, op := Op.convert 22 9 (Operand.tmp 87), type := 9, pos := "laws.go:329", after := #[{ on := 3, ground := Ground.data }, { on := 1, ground := Ground.guard }], guard := some (1, true) }) rfl (fun K hK => ?_) AllReadyH.nil
      go_simp
      refine hK.out _ _ ?_ (fun hHeld => ?_)
      · exact hk30
      clear hK K
      try simp only [Act.put, List.setIfInBounds_toArray, List.set_cons_zero, List.set_cons_succ]
      refine wpAnyH_take (i := 7) (oi := { dst := some 91, op := Op.binOp BinOp.neq 9 (Operand.tmp 88) (Operand.tmp 90) 9, type := 4, pos := "laws.go:329", after := #[{ on := 4, ground := Ground.data }, { on := 6, ground := Ground.data }, { on := 1, ground := Ground.guard }], guard := some (1, true) }) (v := ?_) rfl (by kernel_rfl) (by kernel_rfl) (by kernel_rfl) (fun _ _ _ h => h) (Or.inl ⟨by rfl, ?_⟩) (by assumption) ?_
      rotate_left 1
      · (intro wq hSw; (try dsimp only at hSw); go_simp; try with_reducible rfl)
      try simp only [Act.put, List.setIfInBounds_toArray, List.set_cons_zero, List.set_cons_succ]
      refine wpAnyH_take (i := 8) (oi := { dst := some 92, op := Op.pick (Operand.tmp 85) (Operand.tmp 91) (Operand.const (Value.bool false)), type := 4, pos := "laws.go:329", after := #[{ on := 1, ground := Ground.data }, { on := 7, ground := Ground.data }], guard := none }) (v := ?_) rfl (by kernel_rfl) (by kernel_rfl) (by kernel_rfl) (fun _ _ _ h => h) (Or.inl ⟨by rfl, ?_⟩) (by assumption) ?_
      rotate_left 1
      · (intro wq hSw; (try dsimp only at hSw); go_simp; try with_reducible rfl)
      try simp only [Act.put, List.setIfInBounds_toArray, List.set_cons_zero, List.set_cons_succ]
      refine wpAnyH_done (by kernel_rfl) ?_ _
      clear hS0 HIB HS13 HEd hk30 hc3
      have HT : Hid (TZ w w30 ∧ TK w30 X1 m go1 gc1 bo1 bc1 ∧ TB w30 yo (mtq Classical.propDecidable m) ∧ TB w30 xo X ∧ TK w30 X6 r go6 gc6 bo6 bc6 ∧ TK w30 X8 r go8 gc8 bo8 bc8 ∧ TK w30 X10 q go10 gc10 bo10 bc10 ∧ TK w30 X12 p go12 gc12 bo12 bc12 ∧ TK w30 X13 s go13 gc13 bo13 bc13) := H30.out
      obtain ⟨c0, c1, c2, c3, c4, c5⟩ := HT.out.2.1.1.cells
      go_wp2_with fail
      refine (mtok_impl go1 bo1 gc1 bc1 m.G m.k m.L m.fi m.ol m.he m.la w30 hsm.bd HT.out.2.1.2).mono ?_
      rintro e w31 ⟨h31, b31⟩
      have H31 : Hid (TZ w w31 ∧ TK w31 X1 m go1 gc1 bo1 bc1 ∧ TB w31 yo (mtq Classical.propDecidable m) ∧ TB w31 xo X ∧ TK w31 X6 r go6 gc6 bo6 bc6 ∧ TK w31 X8 r go8 gc8 bo8 bc8 ∧ TK w31 X10 q go10 gc10 bo10 bc10 ∧ TK w31 X12 p go12 gc12 bo12 bc12 ∧ TK w31 X13 s go13 gc13 bo13 bc13) := ⟨HT.out.1.st b31, HT.out.2.1.st b31, HT.out.2.2.1.st b31, HT.out.2.2.2.1.st b31, HT.out.2.2.2.2.1.st b31, HT.out.2.2.2.2.2.1.st b31, HT.out.2.2.2.2.2.2.1.st b31, HT.out.2.2.2.2.2.2.2.1.st b31, HT.out.2.2.2.2.2.2.2.2.st b31⟩
      clear b31 c0 c1 c2 c3 c4 c5 HT
      rcases h31 with ⟨hmok, rfl⟩ | ⟨hmok, rfl⟩
      · obtain ⟨r', ok', hrs', hok1', hok2', _, hmi'⟩ := mtof_both (mtq Classical.propDecidable m) (by have := mtq_len m; omega) (mtq_byte m)
        obtain rfl : ok' = true := hok2' ⟨_, _, _, _, _, _, mtq_is hmok⟩
        have h3' := (hok1' rfl).1
        have hmk : m.k = 3 := hmok.2.1.1
        have hone := mtis_one (hok1' rfl).2 (mtq_is hmok)
        have HSm : Hid (SmM r'.G r'.k r'.L r'.fi r'.ol r'.he r'.la m.G m.k m.L m.fi m.ol m.he m.la) := ⟨h3'.trans hmk.symm, hone.1, hone.2.2.1, hone.2.2.2.1, hone.2.2.2.2.1, hone.2.2.2.2.2, fun i hi => hone.2.1 i (by omega)⟩
        have HMI := hide hmi'
        clear hmi' hok1' hok2' hone hmok h3' hmk
        go_wp2_with fail
        refine (HMI.out w31 yo yc H31.out.2.2.1).mono ?_
        rintro e w32 ⟨go40, bo40, gc40, bc40, rfl, hm40, b40⟩
        have H32 : Hid ((TZ w (w32.alloc (.cells #[.slice go40 r'.G.length gc40, .slice bo40 r'.k bc40, .bool r'.fi, .bool r'.ol, .bool r'.he, .int .i64 r'.la] 27)) ∧ TK (w32.alloc (.cells #[.slice go40 r'.G.length gc40, .slice bo40 r'.k bc40, .bool r'.fi, .bool r'.ol, .bool r'.he, .int .i64 r'.la] 27)) X1 m go1 gc1 bo1 bc1 ∧ TB (w32.alloc (.cells #[.slice go40 r'.G.length gc40, .slice bo40 r'.k bc40, .bool r'.fi, .bool r'.ol, .bool r'.he, .int .i64 r'.la] 27)) yo (mtq Classical.propDecidable m) ∧ TB (w32.alloc (.cells #[.slice go40 r'.G.length gc40, .slice bo40 r'.k bc40, .bool r'.fi, .bool r'.ol, .bool r'.he, .int .i64 r'.la] 27)) xo X ∧ TK (w32.alloc (.cells #[.slice go40 r'.G.length gc40, .slice bo40 r'.k bc40, .bool r'.fi, .bool r'.ol, .bool r'.he, .int .i64 r'.la] 27)) X6 r go6 gc6 bo6 bc6 ∧ TK (w32.alloc (.cells #[.slice go40 r'.G.length gc40, .slice bo40 r'.k bc40, .bool r'.fi, .bool r'.ol, .bool r'.he, .int .i64 r'.la] 27)) X8 r go8 gc8 bo8 bc8 ∧ TK (w32.alloc (.cells #[.slice go40 r'.G.length gc40, .slice bo40 r'.k bc40, .bool r'.fi, .bool r'.ol, .bool r'.he, .int .i64 r'.la] 27)) X10 q go10 gc10 bo10 bc10 ∧ TK (w32.alloc (.cells #[.slice go40 r'.G.length gc40, .slice bo40 r'.k bc40, .bool r'.fi, .bool r'.ol, .bool r'.he, .int .i64 r'.la] 27)) X12 p go12 gc12 bo12 bc12 ∧ TK (w32.alloc (.cells #[.slice go40 r'.G.length gc40, .slice bo40 r'.k bc40, .bool r'.fi, .bool r'.ol, .bool r'.he, .int .i64 r'.la] 27)) X13 s go13 gc13 bo13 bc13) ∧ TK (w32.alloc (.cells #[.slice go40 r'.G.length gc40, .slice bo40 r'.k bc40, .bool r'.fi, .bool r'.ol, .bool r'.he, .int .i64 r'.la] 27)) w32.heap.size r' go40 gc40 bo40 bc40) := ⟨⟨H31.out.1.st (b40.trans ((bal1 w32 (.cells #[.slice go40 r'.G.length gc40, .slice bo40 r'.k bc40, .bool r'.fi, .bool r'.ol, .bool r'.he, .int .i64 r'.la] 27)).mono b40.size)), H31.out.2.1.st (b40.trans ((bal1 w32 (.cells #[.slice go40 r'.G.length gc40, .slice bo40 r'.k bc40, .bool r'.fi, .bool r'.ol, .bool r'.he, .int .i64 r'.la] 27)).mono b40.size)), H31.out.2.2.1.st (b40.trans ((bal1 w32 (.cells #[.slice go40 r'.G.length gc40, .slice bo40 r'.k bc40, .bool r'.fi, .bool r'.ol, .bool r'.he, .int .i64 r'.la] 27)).mono b40.size)), H31.out.2.2.2.1.st (b40.trans ((bal1 w32 (.cells #[.slice go40 r'.G.length gc40, .slice bo40 r'.k bc40, .bool r'.fi, .bool r'.ol, .bool r'.he, .int .i64 r'.la] 27)).mono b40.size)), H31.out.2.2.2.2.1.st (b40.trans ((bal1 w32 (.cells #[.slice go40 r'.G.length gc40, .slice bo40 r'.k bc40, .bool r'.fi, .bool r'.ol, .bool r'.he, .int .i64 r'.la] 27)).mono b40.size)), H31.out.2.2.2.2.2.1.st (b40.trans ((bal1 w32 (.cells #[.slice go40 r'.G.length gc40, .slice bo40 r'.k bc40, .bool r'.fi, .bool r'.ol, .bool r'.he, .int .i64 r'.la] 27)).mono b40.size)), H31.out.2.2.2.2.2.2.1.st (b40.trans ((bal1 w32 (.cells #[.slice go40 r'.G.length gc40, .slice bo40 r'.k bc40, .bool r'.fi, .bool r'.ol, .bool r'.he, .int .i64 r'.la] 27)).mono b40.size)), H31.out.2.2.2.2.2.2.2.1.st (b40.trans ((bal1 w32 (.cells #[.slice go40 r'.G.length gc40, .slice bo40 r'.k bc40, .bool r'.fi, .bool r'.ol, .bool r'.he, .int .i64 r'.la] 27)).mono b40.size)), H31.out.2.2.2.2.2.2.2.2.st (b40.trans ((bal1 w32 (.cells #[.slice go40 r'.G.length gc40, .slice bo40 r'.k bc40, .bool r'.fi, .bool r'.ol, .bool r'.he, .int .i64 r'.la] 27)).mono b40.size))⟩, KB.new w32 _ _ _ _ _ _ _ _ _ _ _, hm40.below (bal1 _ _)⟩
        clear hm40 b40 H31
        obtain ⟨k0, k1, k2, k3, k4, k5⟩ := H32.out.2.1.cells
        obtain ⟨c0, c1, c2, c3, c4, c5⟩ := H32.out.1.2.1.1.cells
        go_wp2_with fail
        refine (samem_impl go40 bo40 go1 bo1 gc40 bc40 gc1 bc1 r'.G m.G r'.k m.k r'.L m.L r'.fi r'.ol r'.he m.fi m.ol m.he r'.la m.la _ hrs'.bd H32.out.2.2 H32.out.1.2.1.2).mono ?_
        rintro e w33 ⟨h33, b33⟩
        obtain rfl : e = .returned (.bool true) := by
          rcases h33 with ⟨_, h⟩ | ⟨h, _⟩
          · exact h
          · exact absurd HSm.out h
        have HB := hide (H32.out.1.1.st b33)
        clear b33 h33
        go_wp2
        go_ret
        exact ⟨rfl, HB.out⟩
      · have hl0 : (mtq Classical.propDecidable m).length = 0 := by rw [mtq_no hmok]; rfl
        go_wp2
        go_ret
        exact ⟨by simp, H31.out.1⟩
  · go_enter Try.func3, Try.ntmps3
    go_wp2_with fail
    refine (big_yes a0 len0 cap0 w hn).mono ?_
    rintro e w' ⟨rfl, hw⟩
    rw [hw]
    clear hw
    go_wp2
    go_ret
    exact ⟨rfl, Below.refl _ _⟩

set_option maxRecDepth 100000 in
theorem lifted (os : Os) (started : os.Started) (H : Type) (enc : TypeId × Value → H) :
    ReturnsInHanded {} Try.checked os 3 .any (Rows.fnMetasSpec.pre6 enc Try.prog Try.f3 Rows.fnMetasRow.domain false) (Rows.fnMetasSpec.post enc Try.prog Try.f3 false true false false) := by
  refine returnsInHanded_of_change (C := Try.checked) own started (by kernel_rfl) Try.func3
    (ChangeSpec.witness6 (enc := enc) (C := Try.checked) false ⟨#[], #[.slice none 0 0], []⟩ 8 (by kernel_rfl) (by kernel_rfl) (by kernel_rfl) (by kernel_rfl)) ?_
  intro W base args ds gs before hval0 hW hcnd _
  have hval : ∀ (j : Nat) t v, Try.f3.params[j]? = some t → args[j]? = some v → Value.okWide Try.prog W .any base t v := hval0
  have hW' := hW
  obtain ⟨p, q, hA0, hV, rfl, hfz, hnd⟩ := hW
  have hA : DataW.TrodAll enc Try.prog W 0 (fun _ => true) true Try.f3.params.toList args.toList ds p := hA0
  rw [Try.params3] at hA hval
  obtain ⟨v0, vs0, d0, ds0, p0, q0, hargs, rfl, rfl, h0, r0⟩ := trodAll_cons hA
  obtain ⟨rfl, rfl, rfl⟩ := trodAll_nil r0
  obtain rfl : args = #[v0] := by cases args; simp_all
  obtain ⟨rfl, rfl⟩ := trodVars_none hV
  obtain ⟨a0, len0, cap0, rfl⟩ := okWide_slice Try.underlying22 (hval 0 22 v0 rfl rfl)
  have k0 := h0
  have lt0 : ∀ x ∈ p0, x.block < W.heap.size := by obtain ⟨m, hm⟩ := k0; exact DataW.trod_lt m _ _ _ hm
  obtain ⟨z0, w0⟩ : ∃ zs, IsRow .u8 W a0 len0 cap0 zs := by
    obtain ⟨fuel, hf⟩ := h0
    rcases open_ints Try.underlying22 Try.underlying5 (by kernel_rfl) hf with ⟨hcs, _⟩ | ⟨x, l, c, zs, hcs, _, hl, hm, hz, _, hcell, hwz⟩
    · simp [Value.cells] at hcs
      obtain ⟨rfl, rfl, rfl⟩ := hcs
      exact ⟨[], .inl ⟨rfl, rfl, rfl, rfl⟩⟩
    · simp [Value.cells] at hcs
      obtain ⟨rfl, rfl, rfl⟩ := hcs
      exact ⟨zs, .inr ⟨_, rfl, hl, hm, by simpa using hz, hcell, hwz⟩⟩
  clear hA0 hval0
  refine (walk a0 len0 cap0 z0 W w0).mono fun e W' ⟨he, bel⟩ => ?_
  subst he
  exact ⟨_, rfl, _, _, _, [], _, [], hW', trodAll_mk1 (shut_bool Try.underlying4 _), (trodAll_cons_mk (Below.trod laidOut (by kernel_rfl) (of_decide_eq_true (by kernel_rfl)) k0 bel lt0) trodAll_mk0), rfl, bel.frame _, fun h => by cases h⟩

theorem over : Rows.fnMetasRow.holds Try.pinned (OpenSpec.ofChange Rows.fnMetasSpec) :=
  OpenClaim.holds_of_wide 3 Try.f3 rfl rfl rfl rfl rfl rfl rfl ⟨rfl, rfl, rfl, rfl, rfl⟩ rfl rfl rfl rfl rfl (by kernel_rfl) Try.func3 (by kernel_rfl)
    (of_decide_eq_true (by kernel_rfl)) (by unfold Func.isWrapper; first | (rw [if_pos (by decide +kernel)]; kernel_rfl) | (rw [if_neg (by decide +kernel)]; exact ⟨rfl, rfl⟩))
    (fun os started H enc _ => lifted os started H enc)

theorem proved : Rows.FnMetasSaid := over
end Go.Proofs.Ytjbhgedbkajmdaa.fnMetas
namespace Go.Proofs.Ytjbhgedbkajmdaa
theorem fnMetas_holds : Rows.FnMetasSaid := fnMetas.proved
end Go.Proofs.Ytjbhgedbkajmdaa

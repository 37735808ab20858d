/- The bytes of what is known: its numbers, one behind the other. -/
import Derived.Test.YtjbhgedbkajmdaaGe
import Derived.Test.YtjbhgedbkajmdaaGc
import Derived.Deep.RegionHeld3
import Derived.Test.YtjbhgedbkajmdaaGa
import Derived.Test.YtjbhgedbkajmdaaGb
import Derived.Defers
import Derived.Recover
import Derived.Deep.Cut

namespace Go.Proofs.Ytjbhgedbkajmdaa
open Go.ChangeShapes Go.WideShapes Go.ChangeAt Go.RowKit
set_option linter.unusedVariables false
set_option linter.unusedSimpArgs false
set_option maxRecDepth 100000

theorem kin_ge {f : Nat → Int} {n : Nat} (h : KIn f n) (i : Nat) (hi : i < n) : (i : Int) ≤ f i := by
  induction i with
  | zero => have := (h.1 0 hi).1; omega
  | succ i ih => have h1 := ih (by omega); have h2 := h.2 (i + 1) (by omega) hi; rw [show i + 1 - 1 = i by omega] at h2; omega
theorem kok_len {l : List Int} (h : KOk l) : l.length ≤ 8 := by
  by_cases h0 : l.length = 0
  · omega
  · have h1 := kin_ge h (l.length - 1) (by omega)
    have h2 : l.getD (l.length - 1) 0 ≤ 7 := (h.1 (l.length - 1) (by omega)).2
    omega
theorem kok_mem {l : List Int} (h : KOk l) : ∀ x ∈ l, 0 ≤ x ∧ x ≤ 7 := by
  intro x hx
  obtain ⟨i, hi, rfl⟩ := List.getElem_of_mem hx
  have := h.1 i hi
  simpa [List.getD, hi] using this
theorem gok_mem {g : List Int} (h : GOk (fun i => g.getD i 0) g.length) : ∀ x ∈ g, 1 ≤ x ∧ x ≤ 100000 := by
  intro x hx
  obtain ⟨i, hi, rfl⟩ := List.getElem_of_mem hx
  have := (h.2 i hi).1
  simpa [List.getD, hi] using this

/-- A list, with how many there are ahead of it. -/
def lsq (l : List Int) : List Int := (l.length : Int) :: l
def pre (g : List Int) (L : Nat → List Int) : Nat → List Int
  | 0 => lsq g
  | k + 1 => pre g L k ++ lsq (L k)
def bi (b : Bool) : Int := bif b then 1 else 0
theorem bi_bd (b : Bool) : 0 ≤ bi b ∧ bi b ≤ 1 := by cases b <;> simp [bi]
def flg (fi ol he : Bool) : Int := bi fi + 2 * bi ol + 4 * bi he
def mseq (g : List Int) (L : Nat → List Int) (fi ol he : Bool) (la : Int) : List Int := pre g L 3 ++ [flg fi ol he, la]
def mtb (D : (p : Prop) → Decidable p) (g : List Int) (n : Nat) (L : Nat → List Int) (fi ol he : Bool) (la : Int) : List Int := @ite (List Int) (MtOk g n L ol he la) (D _) (nums (mseq g L fi ol he la)) []
theorem mtb_yes {g : List Int} {n : Nat} {L : Nat → List Int} {fi ol he : Bool} {la : Int} (h : MtOk g n L ol he la) : (mtb Classical.propDecidable) g n L fi ol he la = nums (mseq g L fi ol he la) := by unfold mtb; rw [if_pos h]
theorem mtb_no {g : List Int} {n : Nat} {L : Nat → List Int} {fi ol he : Bool} {la : Int} (h : ¬ MtOk g n L ol he la) : (mtb Classical.propDecidable) g n L fi ol he la = [] := by unfold mtb; rw [if_neg h]
theorem lsq_len (l : List Int) : (lsq l).length = l.length + 1 := by simp [lsq]
theorem pre_len {g : List Int} {L : Nat → List Int} (hg : g.length ≤ 12) (k : Nat) (hL : ∀ i, i < k → (L i).length ≤ 8) : (pre g L k).length ≤ 13 + 9 * k := by
  induction k with
  | zero => simp [pre, lsq_len]; omega
  | succ k ih => have := ih (fun i hi => hL i (by omega)); have := hL k (by omega); simp [pre, lsq_len]; omega
theorem mtok_g {g : List Int} {n : Nat} {L : Nat → List Int} {ol he : Bool} {la : Int} (h : MtOk g n L ol he la) : g.length ≤ 12 ∧ n = 3 ∧ (∀ i, i < 3 → (L i).length ≤ 8) ∧ (∀ x ∈ g, 1 ≤ x ∧ x ≤ 100000) ∧ (∀ i, i < 3 → ∀ x ∈ L i, 0 ≤ x ∧ x ≤ 7) ∧ 0 ≤ la ∧ la ≤ 200 := by
  obtain ⟨⟨h1, h2⟩, ⟨rfl, h3⟩, h4, h5⟩ := h
  exact ⟨h1.1, rfl, fun i hi => kok_len (h3 i hi), gok_mem h1, fun i hi => kok_mem (h3 i hi), h4⟩
theorem lsq_mem {l : List Int} {N : Int} (h : ∀ x ∈ l, 0 ≤ x ∧ x ≤ N) (hl : (l.length : Int) ≤ N) : ∀ x ∈ lsq l, 0 ≤ x ∧ x ≤ N := by
  intro x hx
  rcases List.mem_cons.1 hx with rfl | hx
  · omega
  · exact h x hx
theorem pre_mem {g : List Int} {L : Nat → List Int} (hl : g.length ≤ 12) (hg : ∀ x ∈ g, 1 ≤ x ∧ x ≤ 100000) (k : Nat) (hL : ∀ i, i < k → (L i).length ≤ 8) (hm : ∀ i, i < k → ∀ x ∈ L i, 0 ≤ x ∧ x ≤ 7) : ∀ x ∈ pre g L k, 0 ≤ x ∧ x ≤ 100000 := by
  induction k with
  | zero => exact lsq_mem (fun x hx => by have := hg x hx; omega) (by omega)
  | succ k ih =>
    intro x hx
    simp only [pre, List.mem_append] at hx
    rcases hx with hx | hx
    · exact ih (fun i hi => hL i (by omega)) (fun i hi => hm i (by omega)) x hx
    · exact lsq_mem (fun y hy => by have := hm k (by omega) y hy; omega) (by have := hL k (by omega); omega) x hx
theorem flg_bd (fi ol he : Bool) : 0 ≤ flg fi ol he ∧ flg fi ol he ≤ 7 := by cases fi <;> cases ol <;> cases he <;> simp [flg, bi]
theorem mseq_mem {g : List Int} {n : Nat} {L : Nat → List Int} {fi ol he : Bool} {la : Int} (h : MtOk g n L ol he la) : ∀ x ∈ mseq g L fi ol he la, 0 ≤ x ∧ x ≤ 2147483647 := by
  obtain ⟨h1, _, h2, h3, h4, h5⟩ := mtok_g h
  intro x hx
  simp only [mseq, List.mem_append] at hx
  rcases hx with hx | hx
  · have := pre_mem h1 h3 3 h2 h4 x hx; omega
  · have := flg_bd fi ol he
    simp at hx
    omega
theorem mseq_len {g : List Int} {n : Nat} {L : Nat → List Int} {fi ol he : Bool} {la : Int} (h : MtOk g n L ol he la) : (mseq g L fi ol he la).length ≤ 42 := by
  obtain ⟨h1, _, h2, _⟩ := mtok_g h
  have := pre_len h1 3 h2
  simp [mseq]
  omega
theorem mtb_len (g : List Int) (n : Nat) (L : Nat → List Int) (fi ol he : Bool) (la : Int) : ((mtb Classical.propDecidable) g n L fi ol he la).length ≤ 210 := by
  by_cases h : MtOk g n L ol he la
  · rw [mtb_yes h]
    have h1 := nums_len (mseq g L fi ol he la)
    have h2 := mseq_len (fi := fi) h
    omega
  · rw [mtb_no h]; simp
theorem mtb_byte (g : List Int) (n : Nat) (L : Nat → List Int) (fi ol he : Bool) (la : Int) : ∀ z ∈ (mtb Classical.propDecidable) g n L fi ol he la, 0 ≤ z ∧ z ≤ 255 := by
  by_cases h : MtOk g n L ol he la
  · rw [mtb_yes h]; exact nums_byte _ (mseq_mem h)
  · rw [mtb_no h]; intro z hz; cases hz
theorem take_snoc' (l : List Int) (j : Nat) (h : j < l.length) : l.take (j + 1) = l.take j ++ [l.getD j 0] := by
  rw [List.take_add_one]; simp [List.getD, h]

theorem kgetD_mem (L : List Int) (i : Nat) (hi : i < L.length) : L.getD i 0 ∈ L := by simp [List.getD, hi]
/-- Bytes that a slice shows, somewhere. -/
theorem kstep_append {P : Program} {w : World} {ops : Array Oper} {o : Oper} {a : Act} {K : Act → World → Prop} {Q : Exit → Act → World → Prop} {E : Prop} (hgd : o.guard = none) (s x : Operand) (t : TypeId)
    (ho : o.op = .call { callee := .builtin .append, args := #[s, x], argTypes := #[t, t] })
    (base : Nat) (e : TypeId) (i : TypeInfo) (z : Value) (bytes : Nat) (ht : P.underlying t = some (.slice e)) (hi : P.info? e = some i) (hz : i.zero = some z)
    (hsize : i.size = 1) (hby : i.bytes = bytes) (hzs : z.cells.size = 1)
    (v : Value) (M : List Int) (hs : a.eval s = v) (hown : w.ownsRow base e 1 v M.length (M.map (.int .u8)))
    (L : List Int) (ad : Addr) (c : Nat) (hx : a.eval x = .slice (some ad) L.length c) (hsrc : ∀ j u, (L.map (Value.int .u8))[j]? = some u → w.cell? (ad.add j) = some u)
    (h63 : M.length + L.length ≤ maxLen) (hbytes : (M.length + L.length) * bytes ≤ 140737488355328) (hbase : base ≤ w.heap.size)
    (h : ∀ v' w', w'.ownsRow base e 1 v' (M ++ L).length ((M ++ L).map (.int .u8)) → w.grownBy w' v.ownBlock → K (a.put o.dst v') w') :
    if Region.wanted o (yielded ops a.tmps) = true then Oper.wp P o a w K Q else E := by
  have hw : Region.wanted o (yielded ops a.tmps) = true := by simp [Region.wanted, hgd]
  rw [if_pos hw]
  refine wp_append_own w s x t ho base e i z 1 bytes ht hi hz hsize hby hzs (by decide) v M.length (M.map (.int .u8)) hs hown ad L.length c (L.map (.int .u8)) hx (by simp) hsrc (gones _ _) h63 hbytes hbase ?_
  intro v' w' h1 h2 _
  exact h v' w' (by simpa using h1) h2
theorem bit_any (b : Bool) (w : World) : Calls Try.prog 55 #[.bool b] w fun e w' => e = .returned (.int .i64 (bi b)) ∧ w' = w := by
  cases b with
  | true => exact bit_yes w
  | false => exact bit_no w
end Go.Proofs.Ytjbhgedbkajmdaa

/- GetNum, of the program and of its model, answers the same. -/
namespace Go.Proofs.Ytjbhgedbkajmdaa
open Go.ChangeShapes Go.WideShapes Go.ChangeAt Go.RowKit
set_option linter.unusedVariables false
set_option linter.unusedSimpArgs false

theorem byte_no (ao : Option Addr) (n cap : Nat) (at' : Int) (w : World) (h : at' < 0 ∨ (n : Int) ≤ at') :
    Calls Try.prog 98 #[.slice ao n cap, .int .i64 at'] w fun e w' => (∃ pv, e = .panicked [{ v := .iface 101 pv, recovered := false }]) ∧ w' = w := by
  by_cases h0 : at' < 0
  · go_enter Try.func98, Try.ntmps98
    go_wp2
    exact ⟨rfl, ⟨_, rfl⟩, rfl⟩
  · have h1 : (n : Int) ≤ at' := by omega
    go_enter Try.func98, Try.ntmps98
    go_wp2
    exact ⟨rfl, ⟨_, rfl⟩, rfl⟩

theorem byte_yes (b off n cap a : Nat) (p x : Int) (w : World) (hp : p = a) (h : a < n) (_hn : n ≤ 1048576) (hc : w.cell? ⟨b, off + a, none⟩ = some (.int .u8 x)) (hx : 0 ≤ x ∧ x ≤ 255) :
    Calls Try.prog 98 #[.slice (some ⟨b, off, none⟩) n cap, .int .i64 p] w fun e w' => e = .returned (.int .i64 x) ∧ w' = w := by
  subst hp
  go_enter Try.func98, Try.ntmps98
  go_wp2
  go_ret
  exact ⟨rfl, rfl⟩
theorem num_yes (x : Int) (w : World) (h : 0 ≤ x ∧ x ≤ 2147483647) :
    Calls Try.prog 82 #[.int .i64 x] w fun e w' => e = .returned (.int .i64 x) ∧ w' = w := by
  go_enter Try.func82, Try.ntmps82
  go_wp2
  go_ret
  exact ⟨rfl, rfl⟩
theorem num_no (x : Int) (w : World) (h : x < 0 ∨ 2147483647 < x) :
    Calls Try.prog 82 #[.int .i64 x] w fun e w' => (∃ pv, e = .panicked [{ v := .iface 101 pv, recovered := false }]) ∧ w' = w := by
  by_cases h0 : x < 0
  · go_enter Try.func82, Try.ntmps82
    go_wp2
    exact ⟨rfl, ⟨_, rfl⟩, rfl⟩
  · have h1 : 2147483647 < x := by omega
    go_enter Try.func82, Try.ntmps82
    go_wp2
    exact ⟨rfl, ⟨_, rfl⟩, rfl⟩
theorem short_no (x k : Int) (w : World) (hx : x = 0) (h : 0 < k) :
    Calls Try.prog 99 #[.int .i64 x, .int .i64 k] w fun e w' => (∃ pv, e = .panicked [{ v := .iface 101 pv, recovered := false }]) ∧ w' = w := by
  subst hx
  go_enter Try.func99, Try.ntmps99
  go_wp2
  exact ⟨rfl, ⟨_, rfl⟩, rfl⟩
theorem short_yes (x k : Int) (w : World) (h : ¬ (0 < k ∧ x = 0)) :
    Calls Try.prog 99 #[.int .i64 x, .int .i64 k] w fun e w' => e = .returned (.tuple #[]) ∧ w' = w := by
  by_cases h0 : x = 0
  · subst h0
    have h1 : k ≤ 0 := by omega
    go_enter Try.func99, Try.ntmps99
    go_wp2
    go_end0
    exact ⟨rfl, rfl⟩
  · have hx : (x == 0) = false := by simpa using h0
    go_enter Try.func99, Try.ntmps99
    go_wp2
    go_end0
    exact ⟨rfl, rfl⟩
end Go.Proofs.Ytjbhgedbkajmdaa

/- GetNum of the model tells the number that begins at a place, or that there is none. -/
namespace Go.Proofs.Ytjbhgedbkajmdaa
open Go.ChangeShapes Go.WideShapes Go.ChangeAt Go.RowKit
set_option linter.unusedVariables false
set_option linter.unusedSimpArgs false

/-- What GetNum hands back. -/
def gres : Option (Int × Int) → Value
  | some (x, y) => .tuple #[.int .i64 x, .int .i64 y, .bool true]
  | none => .tuple #[.int .i64 0, .int .i64 0, .bool false]

theorem get_spec_neg (ao : Option Addr) (n cap : Nat) (x : Int) (w : World) (hx : x < 0) :
    Calls Try.prog 87 #[.slice ao n cap, .int .i64 x] w fun e w' => e = .returned (gres none) ∧ w' = w := by
  go_enter Try.func87, Try.ntmps87
  go_wp2
  refine wp_loop_rounds 1 ?_
  rw [rounds_succ]
  go_wp2
  go_ret3
  exact ⟨rfl, rfl⟩

set_option maxHeartbeats 1000000 in
theorem get_spec (ao : Option Addr) (n cap a : Nat) (f : Nat → Int) (w : World) (hn : n ≤ 1048576) (ha : (a : Int) ≤ 9223372036854775807) (hs : SL .u8 w ao n f) (hf : ∀ i, i < n → 0 ≤ f i ∧ f i ≤ 255) :
    Calls Try.prog 87 #[.slice ao n cap, .int .i64 a] w fun e w' => e = .returned (gres (gr n f a 5 0)) ∧ w' = w := by
  go_enter Try.func87, Try.ntmps87
  go_wp2
  go_loop [7, 8] (fun x i => ∃ k : Nat, k ≤ 5 ∧ i = .int .i64 k ∧ x = .int .i64 (gacc f a k) ∧ Hid (gr n f a 5 0 = gr n f a (5 - k) k)) (fun _ i => 5 - (intOf i).toNat)
  case atStart => exact ⟨0, Nat.zero_le _, rfl, rfl, rfl⟩
  case round =>
    obtain ⟨k, hk, rfl, rfl, hg⟩ := hrel
    have hb := (gacc_bd f a k).1
    by_cases hk5 : k < 5
    · have e5 : 5 - k = (5 - (k + 1)) + 1 := by omega
      by_cases hin : a + k < n
      · obtain ⟨b, off, rfl, hbs, hc⟩ := hs (a + k) hin
        have hz := hf (a + k) hin
        have hor := or_step f a k hk5
        have hg2 := hg.out
        rw [e5, gr_in hin] at hg2
        have hG := (gacc_bd f a (k + 1)).1
        generalize hd : f (a + k) = d at hc hz hor hg2
        generalize hGG : gacc f a (k + 1) = G at hor hg2 hG
        have HG : Hid (gacc f a (k + 1) = G) := hGG
        clear hs hf hd hGG hg e5
        by_cases hd : d < 128
        · rw [if_pos hd] at hg2
          by_cases hno : (0 < k ∧ d = 0) ∨ 2147483647 < G
          · rw [if_pos hno] at hg2
            have fin : Hid (gr n f a 5 0 = none) := hg2
            clear hg2 HG
            by_cases h0 : 0 < k
            · by_cases h1 : d = 0
              · clear hno
                subst h1
                go_wp2
                go_ret3
                exact ⟨by rw [fin.out]; rfl, rfl⟩
              · have h2 : 2147483647 < G := hno.resolve_left (fun x => h1 x.2)
                have h1' : (d == 0) = false := by simpa using h1
                clear hno
                go_wp2
                go_ret3
                exact ⟨by rw [fin.out]; rfl, rfl⟩
            · have h2 : 2147483647 < G := hno.resolve_left (fun x => h0 x.1)
              clear hno
              go_wp2
              go_ret3
              exact ⟨by rw [fin.out]; rfl, rfl⟩
          · rw [if_neg hno] at hg2
            have fin : Hid (gr n f a 5 0 = some (G, (a : Int) + k + 1)) := hg2
            have h2 : ¬ 2147483647 < G := fun x => hno (.inr x)
            clear hg2 HG
            by_cases h0 : 0 < k
            · have h1 : ¬ d = 0 := fun x => hno (.inl ⟨h0, x⟩)
              have h1' : (d == 0) = false := by simpa using h1
              clear hno
              go_wp2
              go_ret3
              exact ⟨by rw [fin.out]; rfl, rfl⟩
            · clear hno
              go_wp2
              go_ret3
              exact ⟨by rw [fin.out]; rfl, rfl⟩
        · rw [if_neg hd] at hg2
          have Hg2 : Hid _ := hg2
          clear hg2
          go_wp2
          go_round
          case rel => exact ⟨k + 1, by omega, by go_num, by rw [HG.out], Hg2⟩
          case measure => simp [intOf]; omega
      · have hg2 := hg.out
        rw [e5, gr_out hin] at hg2
        have fin : Hid (gr n f a 5 0 = none) := hg2
        clear hg2 hg hs hf e5
        go_wp2
        go_ret3
        exact ⟨by rw [fin.out]; rfl, rfl⟩
    · have e5 : k = 5 := by omega
      subst e5
      have fin : Hid (gr n f a 5 0 = none) := hg.out
      clear hs hf hg
      go_wp2
      go_ret3
      exact ⟨by rw [fin.out]; rfl, rfl⟩
end Go.Proofs.Ytjbhgedbkajmdaa

/- l4Num of the model: numbers read one behind the other; once there was none, none more. -/
namespace Go.Proofs.Ytjbhgedbkajmdaa
open Go.ChangeShapes Go.WideShapes Go.ChangeAt Go.RowKit
set_option linter.unusedVariables false
set_option linter.unusedSimpArgs false

/-- The number that begins at p, and the place behind it. -/
def rdI (n : Nat) (f : Nat → Int) (p : Int) : Option (Int × Int) := if p < 0 then none else gr n f p.toNat 5 0
/-- Where the next number begins; none: there was one that is none. -/
def nx (n : Nat) (f : Nat → Int) : Option Int → Option Int
  | none => none
  | some p => (rdI n f p).map (·.2)
def rdv (n : Nat) (f : Nat → Int) : Option Int → Int
  | none => 0
  | some p => ((rdI n f p).map (·.1)).getD 0

theorem gr_pos (n : Nat) (f : Nat → Int) (a fuel k : Nat) (x y : Int) (h : gr n f a fuel k = some (x, y)) : (a : Int) < y ∧ y ≤ n ∧ 0 ≤ x ∧ x ≤ 2147483647 := by
  induction fuel generalizing k with
  | zero => cases h
  | succ fuel ih =>
    rw [gr] at h
    split at h
    · split at h
      · split at h
        · cases h
        · next h1 =>
          simp only [Option.some.injEq, Prod.mk.injEq] at h
          have := (gacc_bd f a (k + 1)).1
          omega
      · exact ih _ h
    · cases h
theorem rdI_pos {n : Nat} {f : Nat → Int} {p x y : Int} (h : rdI n f p = some (x, y)) : 0 ≤ p ∧ p < y ∧ y ≤ n ∧ 0 ≤ x ∧ x ≤ 2147483647 := by
  unfold rdI at h
  split at h
  · cases h
  · have := gr_pos n f p.toNat 5 0 x y h
    omega

theorem get_any (ao : Option Addr) (n cap : Nat) (p : Int) (f : Nat → Int) (w : World) (hn : n ≤ 1048576) (hp : p ≤ 9223372036854775807) (hs : SL .u8 w ao n f) (hf : ∀ i, i < n → 0 ≤ f i ∧ f i ≤ 255) :
    Calls Try.prog 87 #[.slice ao n cap, .int .i64 p] w fun e w' => e = .returned (gres (rdI n f p)) ∧ w' = w := by
  by_cases h : p < 0
  · have e : rdI n f p = none := by unfold rdI; rw [if_pos h]
    rw [e]
    exact get_spec_neg ao n cap p w h
  · obtain ⟨a, rfl⟩ := Int.eq_ofNat_of_zero_le (Int.not_lt.1 h)
    have e : rdI n f (a : Int) = gr n f a 5 0 := by unfold rdI; rw [if_neg h]; simp
    rw [e]
    exact get_spec ao n cap a f w hn hp hs hf

/-- A cursor at block g. -/
def Cu (w : World) (g : Nat) (ao : Option Addr) (n cap : Nat) (st : Option Int) : Prop :=
  ∃ p : Int, w.heap[g]? = some (.cells #[.slice ao n cap, .int .i64 p, .bool st.isSome] 65 (0, 0)) ∧ (∀ q, st = some q → p = q) ∧ p ≤ 9223372036854775807

theorem Only.drawn {g : Nat} {w w' : World} (h : Only g w w') (q : Nat) : Only g w (w'.drewN q) := ⟨Below.drawn h.1 q, h.2.1, h.2.2⟩

theorem Cu.fail {w : World} {g : Nat} {ao : Option Addr} {n cap : Nat} {p : Int} {b : Bool} (h : w.heap[g]? = some (.cells #[.slice ao n cap, .int .i64 p, .bool b] 65 (0, 0))) (hp : p ≤ 9223372036854775807) (q : Nat) : Cu ((w.drewN q).setCell ⟨g, 2, none⟩ (.bool false)) g ao n cap none := by
  refine ⟨p, ?_, (fun _ e => by cases e), hp⟩
  have e : (w.drewN q).heap = w.heap := rfl
  simp [World.setCell, Array.getElem?_modify, e, h]
theorem Cu.next {w : World} {g : Nat} {ao : Option Addr} {n cap : Nat} {p y : Int} (h : w.heap[g]? = some (.cells #[.slice ao n cap, .int .i64 p, .bool true] 65 (0, 0))) (hy : y ≤ 9223372036854775807) (q : Nat) : Cu ((w.drewN q).setCell ⟨g, 1, none⟩ (.int .i64 y)) g ao n cap (some y) := by
  refine ⟨y, ?_, (fun _ e => by cases e; rfl), hy⟩
  have e : (w.drewN q).heap = w.heap := rfl
  simp [World.setCell, Array.getElem?_modify, e, h]

theorem num_any (g : Nat) (ao : Option Addr) (n cap : Nat) (f : Nat → Int) (st : Option Int) (w : World) (hn : n ≤ 1048576) (hs : SL .u8 w ao n f) (hf : ∀ i, i < n → 0 ≤ f i ∧ f i ≤ 255) (hc : Cu w g ao n cap st) :
    Calls Try.prog 50 #[.pointer (some ⟨g, 0, none⟩)] w fun e w' => e = .returned (.int .i64 (rdv n f st)) ∧ Cu w' g ao n cap (nx n f st) ∧ Only g w w' := by
  obtain ⟨p, hblk, hq, hp⟩ := hc
  have hget : Hid (∀ q, Calls Try.prog 87 #[.slice ao n cap, .int .i64 p] (w.drewN q) fun e w' => e = .returned (gres (rdI n f p)) ∧ w' = w.drewN q) := fun q => get_any ao n cap p f (w.drewN q) hn hp hs hf
  have c0 := blk_cell (i := 0) hblk rfl
  have c1 := blk_cell (i := 1) hblk rfl
  have c2 := blk_cell (i := 2) hblk rfl
  have z0 : ∀ i, w.frozen? ⟨g, i, none⟩ = false := fun i => by simp [World.frozen?, hblk]
  have HBK := hide hblk
  clear hs hf hblk
  change w.cell? ⟨g, 0, none⟩ = some (.slice ao n cap) at c0
  change w.cell? ⟨g, 1, none⟩ = some (.int .i64 p) at c1
  change w.cell? ⟨g, 2, none⟩ = some (.bool st.isSome) at c2
  cases st with
  | none =>
    have HR : Hid (rdv n f none = 0 ∧ nx n f none = none) := ⟨rfl, rfl⟩
    rw [HR.out.1, HR.out.2]
    simp only [Option.isSome_none] at c2
    cases hr : rdI n f p with
    | none =>
      rw [hr] at hget
      unfold gres at hget
      clear hr
      go_enter Try.func50, Try.ntmps50
      go_wp2
      go_quiet (first | (go_at_call 87; refine Calls.quiet_of_same (hget.out _)))
      go_wp2
      go_ret
      exact ⟨rfl, Cu.fail HBK.out hp nq, ((Only.refl g w).drawn nq).setCell _⟩
    | some xy =>
      obtain ⟨x, y⟩ := xy
      rw [hr] at hget
      unfold gres at hget
      clear hr
      go_enter Try.func50, Try.ntmps50
      go_wp2
      go_quiet (first | (go_at_call 87; refine Calls.quiet_of_same (hget.out _)))
      go_wp2
      go_ret
      exact ⟨rfl, Cu.fail HBK.out hp nq, ((Only.refl g w).drawn nq).setCell _⟩
  | some p' =>
    obtain rfl : p = p' := hq p' rfl
    simp only [Option.isSome_some] at c2
    cases hr : rdI n f p with
    | none =>
      have HR : Hid (rdv n f (some p) = 0 ∧ nx n f (some p) = none) := ⟨by simp [rdv, hr], by simp [nx, hr]⟩
      rw [HR.out.1, HR.out.2]
      rw [hr] at hget
      unfold gres at hget
      clear hr hq
      go_enter Try.func50, Try.ntmps50
      go_wp2
      go_quiet (first | (go_at_call 87; refine Calls.quiet_of_same (hget.out _)))
      go_wp2
      go_ret
      exact ⟨rfl, Cu.fail HBK.out hp nq, ((Only.refl g w).drawn nq).setCell _⟩
    | some xy =>
      obtain ⟨x, y⟩ := xy
      have HR : Hid (rdv n f (some p) = x ∧ nx n f (some p) = some y) := ⟨by simp [rdv, hr], by simp [nx, hr]⟩
      have hy := rdI_pos hr
      rw [HR.out.1, HR.out.2]
      rw [hr] at hget
      unfold gres at hget
      clear hr hq
      go_enter Try.func50, Try.ntmps50
      go_wp2
      go_quiet (first | (go_at_call 87; refine Calls.quiet_of_same (hget.out _)))
      go_wp2
      go_ret
      exact ⟨rfl, Cu.next HBK.out (by omega) nq, ((Only.refl g w).drawn nq).setCell _⟩
end Go.Proofs.Ytjbhgedbkajmdaa

/- SumOf, of the program and of its model, answers the same number: two running sums, each by 65521. -/
namespace Go.Proofs.Ytjbhgedbkajmdaa
open Go.ChangeShapes Go.WideShapes Go.ChangeAt Go.RowKit
set_option linter.unusedVariables false
set_option linter.unusedSimpArgs false

/-- The first running sum behind k bytes. -/
def sA (f : Nat → Int) : Nat → Int
  | 0 => 1
  | k + 1 => (sA f k + f k) % 65521
/-- The second one. -/
def sB (f : Nat → Int) : Nat → Int
  | 0 => 0
  | k + 1 => (sB f k + sA f (k + 1)) % 65521

theorem sA_bd (f : Nat → Int) (k : Nat) : 0 ≤ sA f k ∧ sA f k < 65521 := by
  cases k with
  | zero => simp [sA]
  | succ k => simp only [sA]; omega
theorem sB_bd (f : Nat → Int) (k : Nat) : 0 ≤ sB f k ∧ sB f k < 65521 := by
  cases k with
  | zero => simp [sB]
  | succ k => simp only [sB]; omega

end Go.Proofs.Ytjbhgedbkajmdaa

/- MsgBytes of the model. -/
namespace Go.Proofs.Ytjbhgedbkajmdaa
open Go.ChangeShapes Go.WideShapes Go.ChangeAt Go.RowKit
set_option linter.unusedVariables false
set_option linter.unusedSimpArgs false

/-- A number as four bytes, the low ones first. -/
def s4 (x : Int) : List Int := [x % 256, x / 256 % 256, x / 65536 % 256, x / 16777216 % 256]

theorem i64_and255 (x : Int) (h0 : 0 ≤ x) (h1 : x < 4611686018427387904) : bits .and .i64 x 255 = x % 256 := by
  obtain ⟨a, rfl⟩ := Int.eq_ofNat_of_zero_le h0
  have e : (BitVec.ofInt 64 (a : Int) &&& BitVec.ofInt 64 ((255 : Nat) : Int)).toNat = a % 256 := by
    rw [BitVec.toNat_and, ofInt_u64 a (by omega), ofInt_u64 255 (by omega)]
    exact Nat.and_two_pow_sub_one_eq_mod a 8
  show IntKind.i64.wrap (((BitVec.ofInt 64 (a : Int) &&& BitVec.ofInt 64 ((255 : Nat) : Int)).toNat : Nat) : Int) = _
  rw [e, IntKind.wrap_i64]
  omega

def mokDec (k c v h : Int) (f : Nat → Int) (n : Nat) : Decidable (MOk k c v h f n) := by unfold MOk GOk GIn; exact inferInstance

/-- The sum of bytes. -/
def asum (L : List Int) : Int := sB (fun i => L.getD i 0) L.length * 65536 + sA (fun i => L.getD i 0) L.length
theorem asum_bd (L : List Int) : 0 ≤ asum L ∧ asum L < 4294967296 := by
  have h1 := sA_bd (fun i => L.getD i 0) L.length
  have h2 := sB_bd (fun i => L.getD i 0) L.length
  unfold asum
  omega
/-- A body with its length ahead and its sum behind. -/
def framed (B : List Int) : List Int := pb 4 B.length ++ B ++ s4 (asum B)
def mbody (k c v h : Int) (f : Nat → Int) (n : Nat) : List Int := nums ([k, c, v, h, (n : Int)] ++ (List.range n).map f)
/-- The bytes of a message; nothing where it is none. -/
def mb (k c v h : Int) (f : Nat → Int) (n : Nat) : List Int := @ite (List Int) (MOk k c v h f n) (mokDec k c v h f n) (framed (mbody k c v h f n)) []

theorem mok_bd {k c v h : Int} {f : Nat → Int} {n : Nat} (x : MOk k c v h f n) : n ≤ 12 ∧ (∀ i, i < n → 0 ≤ f i ∧ f i ≤ 2147483647) ∧ (0 ≤ k ∧ k ≤ 2147483647) ∧ (0 ≤ c ∧ c ≤ 2147483647) ∧ (0 ≤ v ∧ v ≤ 2147483647) ∧ (0 ≤ h ∧ h ≤ 2147483647) := by
  unfold MOk at x
  rcases x with ⟨h1, ⟨h2, h3⟩, h4, h5, h6⟩ | ⟨h1, h2, h3, h4, h5⟩
  · exact ⟨h2, fun i hi => by have := (h3 i hi).1; omega, by omega, by omega, by omega, by omega⟩
  · refine ⟨by omega, fun i hi => by omega, by omega, by omega, ?_, by omega⟩
    split at h4 <;> omega
theorem mbody_len {k c v h : Int} {f : Nat → Int} {n : Nat} (hn : n ≤ 12) : (mbody k c v h f n).length ≤ 85 := by
  have := nums_len ([k, c, v, h, (n : Int)] ++ (List.range n).map f)
  simp at this
  unfold mbody
  simp
  omega

theorem getD_mem (L : List Int) (i : Nat) (hi : i < L.length) : L.getD i 0 ∈ L := by simp [List.getD, hi]

theorem mb_len (k c v h : Int) (f : Nat → Int) (n : Nat) : (mb k c v h f n).length ≤ 1048576 := by
  unfold mb
  split
  · next hok =>
    have h1 := mbody_len (k := k) (c := c) (v := v) (h := h) (f := f) (mok_bd hok).1
    have h2 := pb_len 4 ((mbody k c v h f n).length : Int)
    simp [framed, s4]
    omega
  · simp

theorem gbelow_far {B n s : Nat} {w w' : World} {e : TypeId} {v : Value} {xs : List Value} {row : Option Nat} (h : w.ownsRow B e s v n xs) (hg : w.grownBy w' row) (hr : v.ownBlock ≠ row) : w'.ownsRow B e s v n xs :=
  h.kept hg (.inr hr)

end Go.Proofs.Ytjbhgedbkajmdaa

/- A message read back from its bytes: plain arithmetic. -/
namespace Go.Proofs.Ytjbhgedbkajmdaa
open Go.ChangeShapes Go.WideShapes Go.ChangeAt Go.RowKit
set_option linter.unusedVariables false
set_option linter.unusedSimpArgs false

theorem mput_back (f : Nat → Int) (a : Nat) (fuel : Nat) : ∀ (k : Nat) (x : Int), 0 ≤ x → x < 128 ^ (fuel + 1) → (0 < k → 0 < x) → gacc f a k + 128 ^ k * x ≤ 2147483647 → (∀ i, i < (pb fuel x).length → f (a + k + i) = (pb fuel x).getD i 0) →
    gr (a + k + (pb fuel x).length) f a (fuel + 1) k = some (gacc f a k + 128 ^ k * x, (a : Int) + k + (pb fuel x).length) := by
  induction fuel with
  | zero =>
    intro k x h0 h1 h2 h3 h4
    have hx : x < 128 := by simpa using h1
    have hd : f (a + k) = x := by have := h4 0 (by simp [pb]); simpa [pb] using this
    have hl : (pb 0 x).length = 1 := by simp [pb]
    rw [hl, gr_in (by omega), hd, if_pos hx]
    have e : gacc f a (k + 1) = gacc f a k + 128 ^ k * x := by rw [gacc, hd, Int.emod_eq_of_lt h0 hx, Int.mul_comm]
    rw [e, if_neg]
    · simp
    · rintro (⟨p, q⟩ | r)
      · have := h2 p; omega
      · omega
  | succ fuel ih =>
    intro k x h0 h1 h2 h3 h4
    by_cases hx : x < 128
    · have hpb := pb_last (fuel + 1) x hx
      rw [hpb] at h4 ⊢
      have hd : f (a + k) = x := by have := h4 0 (by simp); simpa using this
      rw [show [x].length = 1 from rfl, gr_in (by omega), hd, if_pos hx]
      have e : gacc f a (k + 1) = gacc f a k + 128 ^ k * x := by rw [gacc, hd, Int.emod_eq_of_lt h0 hx, Int.mul_comm]
      rw [e, if_neg]
      · simp
      · rintro (⟨p, q⟩ | r)
        · have := h2 p; omega
        · omega
    · have hpb := pb_more fuel x hx
      rw [hpb] at h4 ⊢
      have hd : f (a + k) = x % 128 + 128 := by have := h4 0 (by simp); simpa using this
      have e1 : gacc f a (k + 1) + 128 ^ (k + 1) * (x / 128) = gacc f a k + 128 ^ k * x := by
        rw [gacc, hd, show (x % 128 + 128) % 128 = x % 128 by omega, Int.pow_succ]
        generalize hP : (128 : Int) ^ k = P
        have e2 : P * x = P * (128 * (x / 128) + x % 128) := by rw [Int.mul_ediv_add_emod]
        rw [e2, Int.mul_add, Int.mul_assoc P 128 (x / 128), Int.mul_comm (x % 128) P]
        omega
      have hlen : ((x % 128 + 128) :: pb fuel (x / 128)).length = (pb fuel (x / 128)).length + 1 := rfl
      have hx2 : x / 128 < 128 ^ (fuel + 1) := by
        rw [Int.pow_succ] at h1
        generalize (128 : Int) ^ (fuel + 1) = P at h1 ⊢
        omega
      have := ih (k + 1) (x / 128) (by omega) hx2 (fun _ => by omega) (by rw [e1]; exact h3) (fun i hi => by
        have := h4 (i + 1) (by rw [hlen]; omega)
        rw [show a + (k + 1) + i = a + k + (i + 1) by omega, this]; simp)
      rw [hlen, gr_in (by omega), hd, if_neg (by omega)]
      rw [show a + (k + 1) + (pb fuel (x / 128)).length = a + k + ((pb fuel (x / 128)).length + 1) by omega] at this
      rw [this, e1]
      simp
      omega

theorem gr_mono (n n' : Nat) (f : Nat → Int) (a fuel k : Nat) (x y : Int) (hn : n ≤ n') (h : gr n f a fuel k = some (x, y)) : gr n' f a fuel k = some (x, y) := by
  induction fuel generalizing k with
  | zero => cases h
  | succ fuel ih =>
    by_cases hin : a + k < n
    · rw [gr_in hin] at h
      rw [gr_in (by omega)]
      split at h
      · next h1 => rw [if_pos h1]; exact h
      · next h1 => rw [if_neg h1]; exact ih _ h
    · rw [gr_out hin] at h; cases h

/-- The bytes L lie at a. -/
def Has (n : Nat) (f : Nat → Int) (a : Nat) (L : List Int) : Prop := a + L.length ≤ n ∧ ∀ i, i < L.length → f (a + i) = L.getD i 0
theorem Has.left {n : Nat} {f : Nat → Int} {a : Nat} {L M : List Int} (h : Has n f a (L ++ M)) : Has n f a L := by
  refine ⟨by have := h.1; simp at this; omega, fun i hi => ?_⟩
  rw [h.2 i (by simp; omega)]
  simp [List.getD, List.getElem?_append_left hi]
theorem Has.right {n : Nat} {f : Nat → Int} {a : Nat} {L M : List Int} (h : Has n f a (L ++ M)) : Has n f (a + L.length) M := by
  refine ⟨by have := h.1; simp at this; omega, fun i hi => ?_⟩
  rw [Nat.add_assoc, h.2 (L.length + i) (by simp; omega)]
  simp [List.getD, List.getElem?_append_right (Nat.le_add_right _ _)]
theorem Has.num {n : Nat} {f : Nat → Int} {a : Nat} {x : Int} {R : List Int} (h : Has n f a (pb 4 x ++ R)) (h0 : 0 ≤ x) (h1 : x ≤ 2147483647) :
    rdI n f (a : Int) = some (x, ((a + (pb 4 x).length : Nat) : Int)) ∧ Has n f (a + (pb 4 x).length) R := by
  refine ⟨?_, h.right⟩
  have hl := h.left
  have g := mput_back f a 4 0 x h0 (by omega) (fun h => absurd h (by omega)) (by simp [gacc]; omega) (fun i hi => by have := hl.2 i hi; simpa using this)
  have g' := gr_mono _ n f a 5 0 _ _ (by have := hl.1; omega) g
  unfold rdI
  rw [if_neg (by omega)]
  simp [gacc] at g'
  simpa using g'

/-- The state behind j numbers. -/
def sts (n : Nat) (f : Nat → Int) (st : Option Int) : Nat → Option Int
  | 0 => st
  | j + 1 => nx n f (sts n f st j)
theorem sts_none (n : Nat) (f : Nat → Int) (j : Nat) : sts n f none j = none := by
  induction j with
  | zero => rfl
  | succ j ih => rw [sts, ih]; rfl
theorem sts_succ (n : Nat) (f : Nat → Int) (st : Option Int) (j : Nat) : sts n f st (j + 1) = sts n f (nx n f st) j := by
  induction j with
  | zero => rfl
  | succ j ih => rw [sts, ih]; rfl
/-- Numbers that lie one behind the other are read as they are. -/
theorem Has.nums {n : Nat} {f : Nat → Int} {R : List Int} (l : List Int) (hl : ∀ x ∈ l, 0 ≤ x ∧ x ≤ 2147483647) : ∀ {a : Nat}, Has n f a (nums l ++ R) →
    (∀ j, j ≤ l.length → ∃ q : Nat, sts n f (some (a : Int)) j = some (q : Int) ∧ q ≤ n) ∧ (∀ j, j < l.length → rdv n f (sts n f (some (a : Int)) j) = l.getD j 0) ∧ Has n f (a + (nums l).length) R := by
  induction l with
  | nil =>
    intro a h
    refine ⟨fun j hj => ?_, fun j hj => absurd hj (by simp), by simpa [Proofs.Ytjbhgedbkajmdaa.nums] using h⟩
    obtain rfl : j = 0 := by simpa using hj
    exact ⟨a, rfl, by have := h.1; omega⟩
  | cons x l ih =>
    intro a h
    rw [nums_cons, List.append_assoc] at h
    obtain ⟨h0, h1⟩ := hl x (by simp)
    obtain ⟨g, hr⟩ := h.num h0 h1
    obtain ⟨i1, i2, i3⟩ := ih (fun y hy => hl y (by simp [hy])) hr
    have e1 : nx n f (some (a : Int)) = some ((a + (pb 4 x).length : Nat) : Int) := by simp only [nx, g, Option.map_some]
    refine ⟨fun j hj => ?_, fun j hj => ?_, ?_⟩
    · cases j with
      | zero => exact ⟨a, rfl, by have := h.1; omega⟩
      | succ j => rw [sts_succ, e1]; exact i1 j (by simpa using hj)
    · cases j with
      | zero => simp [sts, rdv, g]
      | succ j => rw [sts_succ, e1, i2 j (by simpa using hj)]; simp
    · rw [nums_cons, List.length_append, ← Nat.add_assoc]; exact i3

/-- A message whose bytes begin at p. -/
def Begins (n : Nat) (f : Nat → Int) (p k c v d : Int) (G : List Int) : Prop :=
  0 ≤ p ∧ MOk k c v d (fun i => G.getD i 0) G.length ∧ Has n f p.toNat (mb k c v d (fun i => G.getD i 0) G.length)
theorem range_getD (G : List Int) : (List.range G.length).map (fun i => G.getD i 0) = G := by
  refine List.ext_getElem? fun j => ?_
  by_cases h : j < G.length
  · simp [h, List.getD]
  · rw [List.getElem?_eq_none (by simp; omega), List.getElem?_eq_none (by omega)]
theorem begins_read {n : Nat} {f : Nat → Int} {p k c v d : Int} {G : List Int} (h : Begins n f p k c v d G) :
    (∃ q : Int, sts n f (some p) 1 = some q ∧ rdv n f (some p) ≤ (n : Int) - q - 4) ∧ (∀ j, j ≤ 6 + G.length → (sts n f (some p) j).isSome = true) ∧
    rdv n f (sts n f (some p) 1) = k ∧ rdv n f (sts n f (some p) 2) = c ∧ rdv n f (sts n f (some p) 3) = v ∧ rdv n f (sts n f (some p) 4) = d ∧ rdv n f (sts n f (some p) 5) = G.length ∧ ∀ i, i < G.length → rdv n f (sts n f (some p) (6 + i)) = G.getD i 0 := by
  obtain ⟨h0, hok, hh⟩ := h
  obtain ⟨a, rfl⟩ := Int.eq_ofNat_of_zero_le h0
  obtain ⟨hn12, hfb, hkb, hcb, hvb, hdb⟩ := mok_bd hok
  have hbl := mbody_len (k := k) (c := c) (v := v) (h := d) (f := fun i => G.getD i 0) hn12
  unfold mb at hh
  rw [if_pos hok] at hh
  unfold framed at hh
  have e : mbody k c v d (fun i => G.getD i 0) G.length = nums ([k, c, v, d, (G.length : Int)] ++ G) := by unfold mbody; rw [range_getD]
  have e1 : pb 4 ((mbody k c v d (fun i => G.getD i 0) G.length).length : Int) ++ mbody k c v d (fun i => G.getD i 0) G.length ++ s4 (asum (mbody k c v d (fun i => G.getD i 0) G.length)) =
      nums (((mbody k c v d (fun i => G.getD i 0) G.length).length : Int) :: ([k, c, v, d, (G.length : Int)] ++ G)) ++ s4 (asum (mbody k c v d (fun i => G.getD i 0) G.length)) := by rw [nums_cons, ← e]
  have e2 : pb 4 ((mbody k c v d (fun i => G.getD i 0) G.length).length : Int) ++ mbody k c v d (fun i => G.getD i 0) G.length ++ s4 (asum (mbody k c v d (fun i => G.getD i 0) G.length)) =
      pb 4 ((mbody k c v d (fun i => G.getD i 0) G.length).length : Int) ++ (mbody k c v d (fun i => G.getD i 0) G.length ++ s4 (asum (mbody k c v d (fun i => G.getD i 0) G.length))) := by rw [List.append_assoc]
  have hN := hh
  rw [e1] at hN
  have hA := hh
  rw [e2] at hA
  have ha : ((a : Int)).toNat = a := by omega
  rw [ha] at hN hA
  obtain ⟨g, hr⟩ := hA.num (by omega) (by omega)
  have hsz := hr.1
  have hs4 : (s4 (asum (mbody k c v d (fun i => G.getD i 0) G.length))).length = 4 := rfl
  rw [List.length_append, hs4] at hsz
  generalize hB : (mbody k c v d (fun i => G.getD i 0) G.length).length = L at *
  have hmem : ∀ x ∈ ((L : Int) :: ([k, c, v, d, (G.length : Int)] ++ G)), 0 ≤ x ∧ x ≤ 2147483647 := by
    intro x hx
    simp at hx
    rcases hx with rfl | rfl | rfl | rfl | rfl | rfl | hx
    · omega
    · exact hkb
    · exact hcb
    · exact hvb
    · exact hdb
    · omega
    · obtain ⟨i, hi, rfl⟩ := List.getElem_of_mem hx
      have := hfb i hi
      simpa [List.getD, hi] using this
  obtain ⟨i1, i2, _⟩ := hN.nums _ hmem
  have hlen : ((L : Int) :: ([k, c, v, d, (G.length : Int)] ++ G)).length = 6 + G.length := by simp; omega
  rw [hlen] at i1 i2
  refine ⟨⟨((a + (pb 4 (L : Int)).length : Nat) : Int), by simp only [sts, nx, g, Option.map_some], by simp only [rdv, g, Option.map_some, Option.getD_some]; omega⟩, fun j hj => ?_, by simpa using i2 1 (by omega), by simpa using i2 2 (by omega), by simpa using i2 3 (by omega), by simpa using i2 4 (by omega), by simpa using i2 5 (by omega), fun i hi => ?_⟩
  · obtain ⟨q, hq, _⟩ := i1 j hj
    rw [hq]; rfl
  · have := i2 (6 + i) (by omega)
    rw [this]
    rw [show 6 + i = i + 1 + 5 by omega]
    simp [List.getD]
end Go.Proofs.Ytjbhgedbkajmdaa

/- What is known, read back from its bytes: plain arithmetic. -/
namespace Go.Proofs.Ytjbhgedbkajmdaa
open Go.ChangeShapes Go.WideShapes Go.ChangeAt Go.RowKit
set_option linter.unusedVariables false
set_option linter.unusedSimpArgs false

theorem kts_add (n : Nat) (f : Nat → Int) (st : Option Int) (a b : Nat) : sts n f (sts n f st a) b = sts n f st (a + b) := by
  induction b with
  | zero => rfl
  | succ b ih => rw [sts, ih]; rfl
theorem kts_le (n : Nat) (f : Nat → Int) (st : Option Int) (c d : Nat) (h : sts n f st c = none) (hd : c ≤ d) : sts n f st d = none := by
  obtain ⟨e, rfl⟩ : ∃ e, d = c + e := ⟨d - c, by omega⟩
  rw [← kts_add, h, sts_none]
/-- A list with how many there are ahead of it, read. -/
def RlS (n : Nat) (f : Nat → Int) (st : Option Int) (G : List Int) : Prop :=
  rdv n f st = G.length ∧ (∀ i, i < G.length → rdv n f (sts n f st (1 + i)) = G.getD i 0) ∧ (sts n f st (1 + G.length)).isSome = true
theorem rls_one {n : Nat} {f : Nat → Int} {st : Option Int} {G G' : List Int} (h : RlS n f st G) (h' : RlS n f st G') : G = G' := by
  have hl : G.length = G'.length := by have := h.1; have := h'.1; omega
  refine List.ext_getElem? fun j => ?_
  by_cases hj : j < G.length
  · have hj' : j < G'.length := by omega
    have := (h.2.1 j hj).symm.trans (h'.2.1 j hj')
    simp only [List.getD, List.getElem?_eq_getElem hj, List.getElem?_eq_getElem hj', Option.getD_some] at this
    rw [List.getElem?_eq_getElem hj, List.getElem?_eq_getElem hj', this]
  · rw [List.getElem?_eq_none (by omega), List.getElem?_eq_none (by omega)]
def LR (n : Nat) (f : Nat → Int) (st : Option Int) (G : List Int) (st' : Option Int) : Prop :=
  (st'.isSome = true ∧ RlS n f st G ∧ st' = sts n f st (1 + G.length)) ∨ (st' = none ∧ ¬ ∃ G, RlS n f st G)
theorem lr_is {n : Nat} {f : Nat → Int} {st st' : Option Int} {G G' : List Int} (h : LR n f st G st') (h' : RlS n f st G') : G = G' ∧ st' = sts n f st (1 + G'.length) := by
  rcases h with ⟨_, h1, h2⟩ | ⟨_, h⟩
  · have e := rls_one h1 h'
    subst e
    exact ⟨rfl, h2⟩
  · exact absurd ⟨G', h'⟩ h
theorem lr_some {n : Nat} {f : Nat → Int} {st st' : Option Int} {G : List Int} (h : LR n f st G st') (h' : st'.isSome = true) : RlS n f st G ∧ st' = sts n f st (1 + G.length) := by
  rcases h with ⟨_, h1, h2⟩ | ⟨e, _⟩
  · exact ⟨h1, h2⟩
  · subst e; cases h'

theorem has_self (L : List Int) : Has L.length (fun i => L.getD i 0) 0 L := ⟨by omega, fun i _ => by rw [Nat.zero_add]⟩
theorem nums_inj : ∀ (l l' : List Int), (∀ x ∈ l, 0 ≤ x ∧ x ≤ 2147483647) → (∀ x ∈ l', 0 ≤ x ∧ x ≤ 2147483647) → nums l = nums l' → l = l'
  | [], [], _, _, _ => rfl
  | [], x :: l', _, _, h => by
    have h4 := mpb_pos 4 x
    rw [nums_cons, nums_nil] at h
    have h3 := congrArg List.length h
    rw [List.length_append] at h3
    simp only [List.length_nil] at h3
    omega
  | x :: l, [], _, _, h => by
    have h4 := mpb_pos 4 x
    rw [nums_cons, nums_nil] at h
    have h3 := congrArg List.length h
    rw [List.length_append] at h3
    simp only [List.length_nil] at h3
    omega
  | x :: l, x' :: l', h1, h2, h => by
    rw [nums_cons, nums_cons] at h
    have b1 := h1 x (by simp)
    have b2 := h2 x' (by simp)
    have r1 := ((has_self (pb 4 x ++ nums l)).num b1.1 b1.2).1
    have r2 := has_self (pb 4 x' ++ nums l')
    rw [← h] at r2
    have r2' := r2
    rw [h] at r2'
    have r3 := (Has.num (R := nums l') (by rw [h]; exact has_self _) b2.1 b2.2 : rdI (pb 4 x ++ nums l).length (fun i => (pb 4 x ++ nums l).getD i 0) ((0 : Nat) : Int) = some (x', ((0 + (pb 4 x').length : Nat) : Int)) ∧ _).1
    rw [r1] at r3
    simp only [Option.some.injEq, Prod.mk.injEq] at r3
    obtain ⟨rfl, _⟩ := r3
    have e := List.append_cancel_left h
    rw [nums_inj l l' (fun y hy => h1 y (by simp [hy])) (fun y hy => h2 y (by simp [hy])) e]
theorem lsq_inj {l l' r r' : List Int} (h : lsq l ++ r = lsq l' ++ r') : l = l' ∧ r = r' := by
  simp only [lsq, List.cons_append, List.cons.injEq] at h
  exact List.append_inj h.2 (by omega)
/-- The bytes of what is known. -/
def MtIs (B : List Int) (g : List Int) (L : Nat → List Int) (fi ol he : Bool) (la : Int) : Prop := MtOk g 3 L ol he la ∧ nums (mseq g L fi ol he la) = B
theorem mseq_eq (g : List Int) (L : Nat → List Int) (fi ol he : Bool) (la : Int) : mseq g L fi ol he la = lsq g ++ (lsq (L 0) ++ (lsq (L 1) ++ (lsq (L 2) ++ [flg fi ol he, la]))) := by simp [mseq, pre]
theorem flg_inj {a b c a' b' c' : Bool} (h : flg a b c = flg a' b' c') : a = a' ∧ b = b' ∧ c = c' := by
  revert h; cases a <;> cases b <;> cases c <;> cases a' <;> cases b' <;> cases c' <;> simp [flg, bi]
theorem mseq_inj {g g' : List Int} {L L' : Nat → List Int} {fi ol he fi' ol' he' : Bool} {la la' : Int} (h : mseq g L fi ol he la = mseq g' L' fi' ol' he' la') : g = g' ∧ (∀ i, i < 3 → L i = L' i) ∧ fi = fi' ∧ ol = ol' ∧ he = he' ∧ la = la' := by
  rw [mseq_eq, mseq_eq] at h
  obtain ⟨h1, h⟩ := lsq_inj h
  obtain ⟨h2, h⟩ := lsq_inj h
  obtain ⟨h3, h⟩ := lsq_inj h
  obtain ⟨h4, h⟩ := lsq_inj h
  simp only [List.cons.injEq, and_true] at h
  obtain ⟨e1, e2, e3⟩ := flg_inj h.1
  refine ⟨h1, fun i hi => ?_, e1, e2, e3, h.2⟩
  obtain rfl | rfl | rfl : i = 0 ∨ i = 1 ∨ i = 2 := by omega
  · exact h2
  · exact h3
  · exact h4
theorem mtis_one {B g g' : List Int} {L L' : Nat → List Int} {fi ol he fi' ol' he' : Bool} {la la' : Int} (h : MtIs B g L fi ol he la) (h' : MtIs B g' L' fi' ol' he' la') : g = g' ∧ (∀ i, i < 3 → L i = L' i) ∧ fi = fi' ∧ ol = ol' ∧ he = he' ∧ la = la' :=
  mseq_inj (nums_inj _ _ (mseq_mem h.1) (mseq_mem h'.1) (h.2.trans h'.2.symm))
/-- .. is read as it is. -/
theorem mtis_read {n : Nat} {f : Nat → Int} {g : List Int} {L : Nat → List Int} {fi ol he : Bool} {la : Int} (h : MtIs ((List.range n).map f) g L fi ol he la) :
    ∃ t : Nat, RlS n f (some 0) g ∧ RlS n f (sts n f (some 0) (1 + g.length)) (L 0) ∧ RlS n f (sts n f (sts n f (some 0) (1 + g.length)) (1 + (L 0).length)) (L 1) ∧
      RlS n f (sts n f (sts n f (sts n f (some 0) (1 + g.length)) (1 + (L 0).length)) (1 + (L 1).length)) (L 2) ∧ sts n f (sts n f (sts n f (sts n f (some 0) (1 + g.length)) (1 + (L 0).length)) (1 + (L 1).length)) (1 + (L 2).length) = sts n f (some 0) t ∧
      rdv n f (sts n f (some 0) t) = flg fi ol he ∧ rdv n f (sts n f (some 0) (t + 1)) = la ∧ (sts n f (some 0) (t + 2)).isSome = true := by
  have hh : Has n f 0 (nums (mseq g L fi ol he la) ++ []) := by
    rw [List.append_nil, h.2]
    refine ⟨by simp, fun i hi => ?_⟩
    have hi' : i < n := by simpa using hi
    simp [List.getD, hi']
  obtain ⟨i1, i2, _⟩ := hh.nums _ (mseq_mem h.1)
  have hsome : ∀ j, j ≤ (mseq g L fi ol he la).length → (sts n f (some 0) j).isSome = true := fun j hj => by obtain ⟨q, hq, _⟩ := i1 j hj; rw [show ((0 : Nat) : Int) = 0 from rfl] at hq; rw [hq]; rfl
  have hval : ∀ j, j < (mseq g L fi ol he la).length → rdv n f (sts n f (some 0) j) = (mseq g L fi ol he la).getD j 0 := fun j hj => i2 j hj
  have hcut : ∀ (A l R : List Int), mseq g L fi ol he la = A ++ (lsq l ++ R) → RlS n f (sts n f (some 0) A.length) l ∧ (sts n f (sts n f (some 0) A.length) (1 + l.length)) = sts n f (some 0) (A ++ lsq l).length := fun A l R e => by
    have hl := congrArg List.length e
    simp only [List.length_append, lsq_len] at hl
    refine ⟨⟨?_, fun i hi => ?_, ?_⟩, ?_⟩
    · rw [hval _ (by omega), e]; simp [List.getD, lsq]
    · rw [kts_add, hval _ (by omega), e]
      simp only [List.getD, lsq]
      rw [List.getElem?_append_right (by omega), List.getElem?_append_left (by simp; omega), show A.length + (1 + i) - A.length = i + 1 by omega, List.getElem?_cons_succ]
    · rw [kts_add]; exact hsome _ (by omega)
    · rw [kts_add]; congr 1; simp [lsq_len]; omega
  have e := mseq_eq g L fi ol he la
  obtain ⟨a1, a2⟩ := hcut [] g _ e
  obtain ⟨b1, b2⟩ := hcut (lsq g) (L 0) _ e
  obtain ⟨c1, c2⟩ := hcut (lsq g ++ lsq (L 0)) (L 1) (lsq (L 2) ++ [flg fi ol he, la]) (by rw [e]; simp)
  obtain ⟨d1, d2⟩ := hcut (lsq g ++ lsq (L 0) ++ lsq (L 1)) (L 2) [flg fi ol he, la] (by rw [e]; simp)
  simp only [List.nil_append, List.length_nil] at a1 a2
  have a1' : RlS n f (some 0) g := a1
  have a2' : sts n f (some 0) (1 + g.length) = sts n f (some 0) (lsq g).length := a2
  rw [← a2'] at b1 b2
  rw [← b2] at c1 c2
  rw [← c2] at d1 d2
  refine ⟨(lsq g ++ lsq (L 0) ++ lsq (L 1) ++ lsq (L 2)).length, a1', b1, c1, d1, d2, ?_, ?_, ?_⟩
  all_goals
    have e' : mseq g L fi ol he la = (lsq g ++ lsq (L 0) ++ lsq (L 1) ++ lsq (L 2)) ++ [flg fi ol he, la] := by rw [e]; simp
    generalize lsq g ++ lsq (L 0) ++ lsq (L 1) ++ lsq (L 2) = A at *
  · rw [hval _ (by rw [e']; simp), e']
    simp [List.getD]
  · rw [hval _ (by rw [e']; simp), e']
    simp [List.getD]
  · exact hsome _ (by rw [e']; simp)
end Go.Proofs.Ytjbhgedbkajmdaa

/- The bytes of what is known: its numbers, one behind the other. -/
import Derived.Test.YtkeojhnifnkpiaaGd
import Derived.Test.YtkeojhnifnkpiaaCatBZ
import Derived.Deep.RegionHeld3

namespace Go.Proofs.Ytkeojhnifnkpiaa
open Go.ChangeShapes Go.WideShapes Go.ChangeAt Go.RowKit
set_option linter.unusedVariables false
set_option linter.unusedSimpArgs false
set_option maxRecDepth 100000

theorem kin_ge {f : Nat → Int} {n : Nat} (h : KIn f n) (i : Nat) (hi : i < n) : (i : Int) ≤ f i := by
  induction i with
  | zero => have := (h.1 0 hi).1; omega
  | succ i ih => have h1 := ih (by omega); have h2 := h.2 (i + 1) (by omega) hi; rw [show i + 1 - 1 = i by omega] at h2; omega
theorem kok_len {l : List Int} (h : KOk l) : l.length ≤ 8 := by
  by_cases h0 : l.length = 0
  · omega
  · have h1 := kin_ge h (l.length - 1) (by omega)
    have h2 : l.getD (l.length - 1) 0 ≤ 7 := (h.1 (l.length - 1) (by omega)).2
    omega
theorem kok_mem {l : List Int} (h : KOk l) : ∀ x ∈ l, 0 ≤ x ∧ x ≤ 7 := by
  intro x hx
  obtain ⟨i, hi, rfl⟩ := List.getElem_of_mem hx
  have := h.1 i hi
  simpa [List.getD, hi] using this
theorem gok_mem {g : List Int} (h : GOk (fun i => g.getD i 0) g.length) : ∀ x ∈ g, 1 ≤ x ∧ x ≤ 100000 := by
  intro x hx
  obtain ⟨i, hi, rfl⟩ := List.getElem_of_mem hx
  have := (h.2 i hi).1
  simpa [List.getD, hi] using this

/-- A list, with how many there are ahead of it. -/
def lsq (l : List Int) : List Int := (l.length : Int) :: l
def pre (g : List Int) (L : Nat → List Int) : Nat → List Int
  | 0 => lsq g
  | k + 1 => pre g L k ++ lsq (L k)
def bi (b : Bool) : Int := bif b then 1 else 0
theorem bi_bd (b : Bool) : 0 ≤ bi b ∧ bi b ≤ 1 := by cases b <;> simp [bi]
def flg (fi ol he : Bool) : Int := bi fi + 2 * bi ol + 4 * bi he
def mseq (g : List Int) (L : Nat → List Int) (fi ol he : Bool) (la : Int) : List Int := pre g L 3 ++ [flg fi ol he, la]
def mtb (D : (p : Prop) → Decidable p) (g : List Int) (n : Nat) (L : Nat → List Int) (fi ol he : Bool) (la : Int) : List Int := @ite (List Int) (MtOk g n L ol he la) (D _) (nums (mseq g L fi ol he la)) []
theorem mtb_yes {g : List Int} {n : Nat} {L : Nat → List Int} {fi ol he : Bool} {la : Int} (h : MtOk g n L ol he la) : (mtb Classical.propDecidable) g n L fi ol he la = nums (mseq g L fi ol he la) := by unfold mtb; rw [if_pos h]
theorem mtb_no {g : List Int} {n : Nat} {L : Nat → List Int} {fi ol he : Bool} {la : Int} (h : ¬ MtOk g n L ol he la) : (mtb Classical.propDecidable) g n L fi ol he la = [] := by unfold mtb; rw [if_neg h]
theorem lsq_len (l : List Int) : (lsq l).length = l.length + 1 := by simp [lsq]
theorem pre_len {g : List Int} {L : Nat → List Int} (hg : g.length ≤ 12) (k : Nat) (hL : ∀ i, i < k → (L i).length ≤ 8) : (pre g L k).length ≤ 13 + 9 * k := by
  induction k with
  | zero => simp [pre, lsq_len]; omega
  | succ k ih => have := ih (fun i hi => hL i (by omega)); have := hL k (by omega); simp [pre, lsq_len]; omega
theorem mtok_g {g : List Int} {n : Nat} {L : Nat → List Int} {ol he : Bool} {la : Int} (h : MtOk g n L ol he la) : g.length ≤ 12 ∧ n = 3 ∧ (∀ i, i < 3 → (L i).length ≤ 8) ∧ (∀ x ∈ g, 1 ≤ x ∧ x ≤ 100000) ∧ (∀ i, i < 3 → ∀ x ∈ L i, 0 ≤ x ∧ x ≤ 7) ∧ 0 ≤ la ∧ la ≤ 200 := by
  obtain ⟨⟨h1, h2⟩, ⟨rfl, h3⟩, h4, h5⟩ := h
  exact ⟨h1.1, rfl, fun i hi => kok_len (h3 i hi), gok_mem h1, fun i hi => kok_mem (h3 i hi), h4⟩
theorem lsq_mem {l : List Int} {N : Int} (h : ∀ x ∈ l, 0 ≤ x ∧ x ≤ N) (hl : (l.length : Int) ≤ N) : ∀ x ∈ lsq l, 0 ≤ x ∧ x ≤ N := by
  intro x hx
  rcases List.mem_cons.1 hx with rfl | hx
  · omega
  · exact h x hx
theorem pre_mem {g : List Int} {L : Nat → List Int} (hl : g.length ≤ 12) (hg : ∀ x ∈ g, 1 ≤ x ∧ x ≤ 100000) (k : Nat) (hL : ∀ i, i < k → (L i).length ≤ 8) (hm : ∀ i, i < k → ∀ x ∈ L i, 0 ≤ x ∧ x ≤ 7) : ∀ x ∈ pre g L k, 0 ≤ x ∧ x ≤ 100000 := by
  induction k with
  | zero => exact lsq_mem (fun x hx => by have := hg x hx; omega) (by omega)
  | succ k ih =>
    intro x hx
    simp only [pre, List.mem_append] at hx
    rcases hx with hx | hx
    · exact ih (fun i hi => hL i (by omega)) (fun i hi => hm i (by omega)) x hx
    · exact lsq_mem (fun y hy => by have := hm k (by omega) y hy; omega) (by have := hL k (by omega); omega) x hx
theorem flg_bd (fi ol he : Bool) : 0 ≤ flg fi ol he ∧ flg fi ol he ≤ 7 := by cases fi <;> cases ol <;> cases he <;> simp [flg, bi]
theorem mseq_mem {g : List Int} {n : Nat} {L : Nat → List Int} {fi ol he : Bool} {la : Int} (h : MtOk g n L ol he la) : ∀ x ∈ mseq g L fi ol he la, 0 ≤ x ∧ x ≤ 2147483647 := by
  obtain ⟨h1, _, h2, h3, h4, h5⟩ := mtok_g h
  intro x hx
  simp only [mseq, List.mem_append] at hx
  rcases hx with hx | hx
  · have := pre_mem h1 h3 3 h2 h4 x hx; omega
  · have := flg_bd fi ol he
    simp at hx
    omega
theorem mseq_len {g : List Int} {n : Nat} {L : Nat → List Int} {fi ol he : Bool} {la : Int} (h : MtOk g n L ol he la) : (mseq g L fi ol he la).length ≤ 42 := by
  obtain ⟨h1, _, h2, _⟩ := mtok_g h
  have := pre_len h1 3 h2
  simp [mseq]
  omega
theorem mtb_len (g : List Int) (n : Nat) (L : Nat → List Int) (fi ol he : Bool) (la : Int) : ((mtb Classical.propDecidable) g n L fi ol he la).length ≤ 210 := by
  by_cases h : MtOk g n L ol he la
  · rw [mtb_yes h]
    have h1 := nums_len (mseq g L fi ol he la)
    have h2 := mseq_len (fi := fi) h
    omega
  · rw [mtb_no h]; simp
theorem mtb_byte (g : List Int) (n : Nat) (L : Nat → List Int) (fi ol he : Bool) (la : Int) : ∀ z ∈ (mtb Classical.propDecidable) g n L fi ol he la, 0 ≤ z ∧ z ≤ 255 := by
  by_cases h : MtOk g n L ol he la
  · rw [mtb_yes h]; exact nums_byte _ (mseq_mem h)
  · rw [mtb_no h]; intro z hz; cases hz
theorem take_snoc' (l : List Int) (j : Nat) (h : j < l.length) : l.take (j + 1) = l.take j ++ [l.getD j 0] := by
  rw [List.take_add_one]; simp [List.getD, h]

theorem kgetD_mem (L : List Int) (i : Nat) (hi : i < L.length) : L.getD i 0 ∈ L := by simp [List.getD, hi]
/-- Bytes that a slice shows, somewhere. -/
theorem kstep_append {P : Program} {w : World} {ops : Array Oper} {o : Oper} {a : Act} {K : Act → World → Prop} {Q : Exit → Act → World → Prop} {E : Prop} (hgd : o.guard = none) (s x : Operand) (t : TypeId)
    (ho : o.op = .call { callee := .builtin .append, args := #[s, x], argTypes := #[t, t] })
    (base : Nat) (e : TypeId) (i : TypeInfo) (z : Value) (bytes : Nat) (ht : P.underlying t = some (.slice e)) (hi : P.info? e = some i) (hz : i.zero = some z)
    (hsize : i.size = 1) (hby : i.bytes = bytes) (hzs : z.cells.size = 1)
    (v : Value) (M : List Int) (hs : a.eval s = v) (hown : w.ownsRow base e 1 v M.length (M.map (.int .u8)))
    (L : List Int) (ad : Addr) (c : Nat) (hx : a.eval x = .slice (some ad) L.length c) (hsrc : ∀ j u, (L.map (Value.int .u8))[j]? = some u → w.cell? (ad.add j) = some u)
    (h63 : M.length + L.length ≤ maxLen) (hbytes : (M.length + L.length) * bytes ≤ 140737488355328) (hbase : base ≤ w.heap.size)
    (h : ∀ v' w', w'.ownsRow base e 1 v' (M ++ L).length ((M ++ L).map (.int .u8)) → w.grownBy w' v.ownBlock → K (a.put o.dst v') w') :
    if Region.wanted o (yielded ops a.tmps) = true then Oper.wp P o a w K Q else E := by
  have hw : Region.wanted o (yielded ops a.tmps) = true := by simp [Region.wanted, hgd]
  rw [if_pos hw]
  refine wp_append_own w s x t ho base e i z 1 bytes ht hi hz hsize hby hzs (by decide) v M.length (M.map (.int .u8)) hs hown ad L.length c (L.map (.int .u8)) hx (by simp) hsrc (gones _ _) h63 hbytes hbase ?_
  intro v' w' h1 h2 _
  exact h v' w' (by simpa using h1) h2
theorem bit_any (b : Bool) (w : World) : Calls Try.prog 67 #[.bool b] w fun e w' => e = .returned (.int .i64 (bi b)) ∧ w' = w := by
  cases b with
  | true => exact bit_yes w
  | false => exact bit_no w
end Go.Proofs.Ytkeojhnifnkpiaa

/- Named variables of an interface type, read again. -/
import Derived.Test.YtkndnndildnbpaaGreatDoorCards
import Derived.WalkKit
import Derived.ProofKit
import Derived.Below
import Derived.ChangeShapes
import Derived.RowKitTokens
import Derived.Stop.LaidErr
import Derived.LaidLaws

namespace Go.Proofs.YtkndnndildnbpaaGreatDoor
open Go.ChangeShapes Go.WideShapes Go.ChangeAt Go.RowKit
set_option linter.unusedVariables false
set_option linter.unusedSimpArgs false
set_option maxRecDepth 100000

theorem vars_cons {H : Type} {enc : TypeId × Value → H} {P : Program} {W : World} {sp : Nat → Bool} {n : String} {ns : List String} {gs : List (DataW H)} {q : List MemPlace} (h : DataW.TrodVars enc P W sp (n :: ns) gs q) :
    ∃ d ds q', gs = d :: ds ∧ DataW.TrodVars enc P W sp ns ds q' := by
  cases gs with
  | nil => exact absurd h (by simp [DataW.TrodVars])
  | cons d ds =>
    obtain ⟨g, t, cs, fuel, p, q', _, _, _, _, h2, _⟩ := h
    exact ⟨d, ds, q', rfl, h2⟩
theorem var_below {P : Program} {W W' : World} {n : String} {cs : Array Value} (hb : Below W.heap.size W W') (h : W.var? P n = some cs) : W'.var? P n = some cs := by
  unfold World.var? at h ⊢
  cases hg : P.globalNamed n with
  | none => simp [hg] at h
  | some g =>
    simp only [hg, Option.bind_some] at h ⊢
    have hlt : g < W.heap.size := by
      rcases Nat.lt_or_ge g W.heap.size with h' | h'
      · exact h'
      · simp [Array.getElem?_eq_none h'] at h
    rw [hb.block g hlt]
    exact h
theorem vars_again {H : Type} {enc : TypeId × Value → H} {P : Program} {W W' : World} {sp sp' : Nat → Bool} (hb : Below W.heap.size W W') : ∀ {ns : List String} {gs : List (DataW H)} {q : List MemPlace},
    (∀ n ∈ ns, ∀ g t, P.globalNamed n = some g → (P.globals[g]?).map (·.type) = some t → ∃ ms, P.underlying t = some (.interface ms)) → DataW.TrodVars enc P W sp ns gs q → DataW.TrodVars enc P W' sp' ns gs q
  | [], gs, q, _, h => by
    cases gs with
    | nil => exact h
    | cons d ds => exact absurd h (by simp [DataW.TrodVars])
  | n :: ns, gs, q, hi, h => by
    cases gs with
    | nil => exact absurd h (by simp [DataW.TrodVars])
    | cons d ds =>
      obtain ⟨g, t, cs, fuel, p, q', hg, ht, hcs, hd, h2, e⟩ := h
      obtain ⟨ms, hu⟩ := hi n (by simp) g t hg ht
      obtain ⟨v, hv, iv, hy⟩ := held_of_trod_list hu hd
      cases hy
      refine ⟨g, t, cs, 1, [], q', hg, ht, var_below hb hcs, ?_, vars_again hb (fun m hm => hi m (List.mem_cons_of_mem _ hm)) h2, e⟩
      rw [hv]
      exact trod_held hu iv 0
/-- An error as errors.New makes it. -/
abbrev ErrD (nm : String) (text : List UInt8) : DataW Unit := .iface nm (.ptr (.agg [.lit (.string text)]))
/-- What the list says of each place. -/
def PlOk (P : Program) (W : World) (q : List MemPlace) : Prop := ∀ b off, MemPlace.cell b off ∈ q →
    (∃ c t, W.heap[b]? = some (.cells c t (0, 0))) ∧ ∀ u v, W.cell? ⟨b, off, none⟩ = some (.iface u v) → Value.okWide P W .any 0 u v
/-- What is known of the type of errors. -/
structure EsT (P : Program) (nm : String) (tp te ts : TypeId) (f : Field) : Prop where
  hrow : ∀ u, P.typeName? 3 u = some nm → u = tp
  hp : P.underlying tp = some (.pointer te)
  he : P.underlying te = some (.struct #[f])
  hft : f.type = ts
  hfo : f.offset = 0
  hs : P.underlying ts = some .string
  hc : P.cellsOf te = 1
  hcs : P.cellsOf ts = 1
theorem laid_one {P : Program} {W : World} {nm : String} {tp te ts : TypeId} {f : Field} (F : EsT P nm tp te ts f) {n : String} {text : List UInt8} {r : List (String × DataW Unit)} {q : List MemPlace}
    (h : DataW.LaidVars P W ((n, ErrD nm text) :: r) q) (hI : ∀ g t, P.globalNamed n = some g → (P.globals[g]?).map (·.type) = some t → ∃ ms, P.underlying t = some (.interface ms)) (hq : PlOk P W q) :
    ∃ a p q', W.var? P n = some #[.iface tp (.pointer (some a))] ∧ DataW.LaidVars P W r q' ∧ q = p ++ q' ∧ MemPlace.cell a.block a.off ∈ p := by
  obtain ⟨g, t, cs, fuel, p, q', hg, ht, hcs, hd, h2, e⟩ := h
  obtain ⟨ms, hu⟩ := hI g t hg ht
  obtain ⟨l⟩ := cs
  have ok : ∀ u v, l = [.iface u v] → Value.okWide P W .any 0 u v := fun u v e2 => by
    subst e2
    exact (hq g 0 (by rw [e]; simp [MemPlace.row])).2 u v (by simpa using World.var?_cell hg hcs 0)
  obtain ⟨a, s, rfl, _, _, _, rfl⟩ := errorString_of_trod hu F.hrow F.hp F.he F.hft F.hfo F.hs F.hc F.hcs hd ok
  refine ⟨a, _, q', hcs, h2, e, ?_⟩
  simp [MemPlace.row]
theorem laid_mem {P : Program} {W : World} {nm : String} {tp te ts : TypeId} {f : Field} (F : EsT P nm tp te ts f) {n : String} {text : List UInt8}
    (hI : ∀ g t, P.globalNamed n = some g → (P.globals[g]?).map (·.type) = some t → ∃ ms, P.underlying t = some (.interface ms)) :
    ∀ {l : List (String × DataW Unit)} {q : List MemPlace}, DataW.LaidVars P W l q → PlOk P W q → (n, ErrD nm text) ∈ l → ∃ a, W.var? P n = some #[.iface tp (.pointer (some a))] ∧ MemPlace.cell a.block a.off ∈ q
  | [], q, _, _, hm => by cases hm
  | x :: r, q, h, hq, hm => by
    rcases List.mem_cons.1 hm with rfl | hmr
    · obtain ⟨a, p, q', hv, _, e, hp⟩ := laid_one F h hI hq
      exact ⟨a, hv, by rw [e]; exact List.mem_append_left _ hp⟩
    · obtain ⟨m, d⟩ := x
      obtain ⟨g, t, cs, fuel, p, q', hg, ht, hcs, hd, h2, e⟩ := h
      obtain ⟨a, hv, hp⟩ := laid_mem F hI h2 (fun b off hb => hq b off (by rw [e]; exact List.mem_append_right _ hb)) hmr
      exact ⟨a, hv, by rw [e]; exact List.mem_append_right _ hp⟩
theorem laid_apart0 {P : Program} {W : World} {nm : String} {tp te ts : TypeId} {f : Field} (F : EsT P nm tp te ts f) {n0 n1 : String} {t0 t1 : List UInt8} (hne : n0 ≠ n1)
    (hI0 : ∀ g t, P.globalNamed n0 = some g → (P.globals[g]?).map (·.type) = some t → ∃ ms, P.underlying t = some (.interface ms))
    (hI1 : ∀ g t, P.globalNamed n1 = some g → (P.globals[g]?).map (·.type) = some t → ∃ ms, P.underlying t = some (.interface ms)) :
    ∀ {l : List (String × DataW Unit)} {q : List MemPlace}, DataW.LaidVars P W l q → PlOk P W q → q.Nodup → (n0, ErrD nm t0) ∈ l → (n1, ErrD nm t1) ∈ l →
      ∃ a0 a1, W.var? P n0 = some #[.iface tp (.pointer (some a0))] ∧ W.var? P n1 = some #[.iface tp (.pointer (some a1))] ∧ a0 ≠ a1
  | [], q, _, _, _, hm, _ => by cases hm
  | x :: r, q, h, hq, hnd, hm0, hm1 => by
    have apart : ∀ {p q' : List MemPlace} {a b : Addr}, q = p ++ q' → MemPlace.cell a.block a.off ∈ p → MemPlace.cell b.block b.off ∈ q' → a ≠ b := fun e h1 h2 hab => by
      subst hab
      rw [e] at hnd
      exact (List.nodup_append.1 hnd).2.2 _ h1 _ h2 rfl
    rcases List.mem_cons.1 hm0 with rfl | hmr0
    · rcases List.mem_cons.1 hm1 with e1 | hmr1
      · exact absurd (congrArg Prod.fst e1).symm hne
      · obtain ⟨a, p, q', hv, h2, e, hp⟩ := laid_one F h hI0 hq
        obtain ⟨b, hvb, hpb⟩ := laid_mem F hI1 h2 (fun b off hb => hq b off (by rw [e]; exact List.mem_append_right _ hb)) hmr1
        exact ⟨a, b, hv, hvb, apart e hp hpb⟩
    · rcases List.mem_cons.1 hm1 with rfl | hmr1
      · obtain ⟨a, p, q', hv, h2, e, hp⟩ := laid_one F h hI1 hq
        obtain ⟨b, hvb, hpb⟩ := laid_mem F hI0 h2 (fun b off hb => hq b off (by rw [e]; exact List.mem_append_right _ hb)) hmr0
        exact ⟨b, a, hvb, hv, fun hab => apart e hp hpb hab.symm⟩
      · obtain ⟨m, d⟩ := x
        obtain ⟨g, t, cs, fuel, p, q', hg, ht, hcs, hd, h2, e⟩ := h
        exact laid_apart0 F hne hI0 hI1 h2 (fun b off hb => hq b off (by rw [e]; exact List.mem_append_right _ hb)) (by rw [e] at hnd; exact (List.nodup_append.1 hnd).2.1) hmr0 hmr1
/-- Two listed errors: their variables, their places. -/
theorem laid_apart {P : Program} {W : World} {nm : String} {tp te ts : TypeId} {f : Field} (F : EsT P nm tp te ts f) {n0 n1 : String} {t0 t1 : List UInt8} {l : List (String × DataW Unit)} (h : laidMet P l W) (hne : n0 ≠ n1)
    (hI0 : ∀ g t, P.globalNamed n0 = some g → (P.globals[g]?).map (·.type) = some t → ∃ ms, P.underlying t = some (.interface ms))
    (hI1 : ∀ g t, P.globalNamed n1 = some g → (P.globals[g]?).map (·.type) = some t → ∃ ms, P.underlying t = some (.interface ms)) (hm0 : (n0, ErrD nm t0) ∈ l) (hm1 : (n1, ErrD nm t1) ∈ l) :
    ∃ a0 a1, W.var? P n0 = some #[.iface tp (.pointer (some a0))] ∧ W.var? P n1 = some #[.iface tp (.pointer (some a1))] ∧ a0 ≠ a1 ∧ (∃ c t, W.heap[a0.block]? = some (.cells c t (0, 0))) ∧ (∃ c t, W.heap[a1.block]? = some (.cells c t (0, 0))) := by
  obtain ⟨ps, hv, hnd, hrows⟩ := h
  obtain ⟨a0, a1, h0, h1, hn⟩ := laid_apart0 F hne hI0 hI1 hv hrows hnd hm0 hm1
  obtain ⟨b0, g0, m0⟩ := laid_mem F hI0 hv hrows hm0
  obtain ⟨b1, g1, m1⟩ := laid_mem F hI1 hv hrows hm1
  have e0 : b0 = a0 := by have := g0.symm.trans h0; simpa using this
  have e1 : b1 = a1 := by have := g1.symm.trans h1; simpa using this
  subst e0
  subst e1
  exact ⟨b0, b1, h0, h1, hn, (hrows _ _ m0).1, (hrows _ _ m1).1⟩
end Go.Proofs.YtkndnndildnbpaaGreatDoor

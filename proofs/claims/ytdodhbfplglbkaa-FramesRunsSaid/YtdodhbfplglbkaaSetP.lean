/- Renumbered circuits, as plain data: they are right, have the binary order, and stay as they are when they are renumbered again. -/
import Derived.Test.YtdodhbfplglbkaaRenA
import Derived.Test.YtdodhbfplglbkaaRight
namespace Go.Proofs.Ytdodhbfplglbkaa

/-! What a right circuit's definitions say. -/
theorem defE_iff0 {tb : List Bool} {l : Int} : defE tb l = 0 ↔ 2 ≤ l ∧ l % 2 = 0 ∧ l / 2 < (tb.length : Int) ∧ tb.getD (l / 2).toNat false = false := by
  unfold defE
  by_cases h : l < 2 ∨ l % 2 = 1 ∨ (tb.length : Int) ≤ l / 2
  · rw [if_pos h]
    constructor
    · intro h; cases h
    · rintro ⟨a, b, c, _⟩; omega
  · rw [if_neg h]
    by_cases h2 : tb.getD (l / 2).toNat false = true
    · rw [if_pos h2]
      constructor
      · intro h; cases h
      · rintro ⟨_, _, _, d⟩; rw [h2] at d; cases d
    · rw [if_neg h2]
      simp only [Bool.not_eq_true] at h2
      exact ⟨fun _ => ⟨by omega, by omega, by omega, h2⟩, fun _ => rfl⟩
theorem getD_setT {tb : List Bool} {k v : Nat} (hk : k < tb.length) : (tb.set k true).getD v false = (tb.getD v false || decide (k = v)) := by
  simp only [List.getD_eq_getElem?_getD, List.getElem?_set]
  by_cases h : k = v
  · subst h; simp [hk]
  · simp [h]
structure DefOk {α : Type} (lit : α → Int) (xs : List α) (tb tb' : List Bool) : Prop where
  two : ∀ x ∈ xs, 2 ≤ lit x ∧ lit x % 2 = 0 ∧ lit x / 2 < (tb.length : Int) ∧ tb.getD (lit x / 2).toNat false = false
  nd : (xs.map lit).Nodup
  tab : ∀ v : Nat, tb'.getD v false = true ↔ (tb.getD v false = true ∨ ∃ x ∈ xs, lit x / 2 = (v : Int))
theorem def_spec {α : Type} {lit bad : α → Int} : ∀ (xs : List α) (k : Nat) (tb : List Bool), (defAll lit bad xs k tb).1.2 = 0 → DefOk lit xs tb (defAll lit bad xs k tb).2
  | [], k, tb, _ => ⟨by simp, by simp, fun v => by simp [defAll]⟩
  | x :: r, k, tb, h => by
    unfold defAll at h ⊢
    by_cases h0 : defE tb (lit x) = 0
    · by_cases h1 : bad x = 0
      · rw [if_pos h0, if_pos h1] at h ⊢
        have ih := def_spec r (k + 1) (defT tb (lit x)) h
        have hd := defE_iff0.1 h0
        have ht : defT tb (lit x) = tb.set (lit x / 2).toNat true := by unfold defT; rw [if_pos h0]
        have hk : (lit x / 2).toNat < tb.length := by omega
        have hl : (defT tb (lit x)).length = tb.length := defT_len _ _
        have htw : ∀ y ∈ r, 2 ≤ lit y ∧ lit y % 2 = 0 ∧ lit y / 2 < (tb.length : Int) ∧ tb.getD (lit y / 2).toNat false = false ∧ (lit x / 2).toNat ≠ (lit y / 2).toNat := fun y hy => by
          obtain ⟨a, b, c, d⟩ := ih.two y hy
          rw [hl] at c
          rw [ht, getD_setT hk, Bool.or_eq_false_iff] at d
          exact ⟨a, b, c, d.1, by simpa using d.2⟩
        refine ⟨fun y hy => ?_, ?_, fun v => ?_⟩
        · rcases List.mem_cons.1 hy with rfl | hy
          · exact hd
          · obtain ⟨a, b, c, d, _⟩ := htw y hy
            exact ⟨a, b, c, d⟩
        · rw [List.map_cons, List.nodup_cons]
          refine ⟨fun hm => ?_, ih.nd⟩
          obtain ⟨y, hy, e⟩ := List.mem_map.1 hm
          obtain ⟨_, _, _, _, d⟩ := htw y hy
          rw [e] at d
          exact d rfl
        · rw [ih.tab, ht, getD_setT hk]
          simp only [Bool.or_eq_true, decide_eq_true_eq, List.mem_cons, exists_eq_or_imp]
          constructor
          · rintro ((a | a) | a)
            · exact .inl a
            · exact .inr (.inl (by omega))
            · exact .inr (.inr a)
          · rintro (a | a | a)
            · exact .inl (.inl a)
            · exact .inl (.inr (by omega))
            · exact .inr a
      · rw [if_pos h0, if_neg h1] at h; exact absurd h h1
    · rw [if_neg h0] at h; exact absurd h h0
/-- All literals that a circuit defines. -/
def defsL (C : Circ) : List Int := C.inputs ++ C.latches.map (·.1) ++ C.ands.map (·.1)
theorem tab0_getD (n v : Nat) : (tab0 n).getD v false = true ↔ v = 0 := by
  unfold tab0
  rw [getD_setT (by simp)]
  simp only [Bool.or_eq_true, decide_eq_true_eq, List.getD_eq_getElem?_getD]
  constructor
  · rintro (h | h)
    · by_cases hv : v < n + 1
      · simp [hv] at h
      · simp [hv] at h
    · exact h.symm
  · intro h; exact .inr h.symm
structure Defd (C : Circ) : Prop where
  two : ∀ l ∈ defsL C, 2 ≤ l ∧ l % 2 = 0 ∧ l / 2 ≤ C.max
  nd : (defsL C).Nodup
  tab : ∀ v : Nat, (defR C (tab0 C.max.toNat)).2.getD v false = true ↔ (v = 0 ∨ 2 * (v : Int) ∈ defsL C)
theorem defd_of {C : Circ} (hm : 0 ≤ C.max) (h : (defR C (tab0 C.max.toNat)).1.2 = 0) : Defd C := by
  have hI : (defI C (tab0 C.max.toNat)).1.2 = 0 := by
    unfold defR at h
    by_cases e : (defI C (tab0 C.max.toNat)).1.2 = 0
    · exact e
    · rw [if_neg e] at h; exact h
  have hL : (defL C (defI C (tab0 C.max.toNat)).2).1.2 = 0 := by
    unfold defR at h
    rw [if_pos hI] at h
    by_cases e : (defL C (defI C (tab0 C.max.toNat)).2).1.2 = 0
    · exact e
    · rw [if_neg e] at h; exact h
  have hA : (defA C (defL C (defI C (tab0 C.max.toNat)).2).2).1.2 = 0 := by
    unfold defR at h
    rw [if_pos hI, if_pos hL] at h
    exact h
  have hD : (defR C (tab0 C.max.toNat)).2 = (defA C (defL C (defI C (tab0 C.max.toNat)).2).2).2 := by
    unfold defR; rw [if_pos hI, if_pos hL]
  have l0 : (tab0 C.max.toNat).length = C.max.toNat + 1 := by simp [tab0]
  have l1 : (defI C (tab0 C.max.toNat)).2.length = C.max.toNat + 1 := by unfold defI; rw [defAll_len, l0]
  have l2 : (defL C (defI C (tab0 C.max.toNat)).2).2.length = C.max.toNat + 1 := by unfold defL; rw [defAll_len, l1]
  have s1 : DefOk (fun z : Int => z) C.inputs (tab0 C.max.toNat) (defI C (tab0 C.max.toNat)).2 := def_spec _ _ _ hI
  have s2 : DefOk (fun z : Tri => z.1) C.latches (defI C (tab0 C.max.toNat)).2 (defL C (defI C (tab0 C.max.toNat)).2).2 := def_spec _ _ _ hL
  have s3 : DefOk (fun z : Tri => z.1) C.ands (defL C (defI C (tab0 C.max.toNat)).2).2 (defA C (defL C (defI C (tab0 C.max.toNat)).2).2).2 := def_spec _ _ _ hA
  have t1 : ∀ v : Nat, (defI C (tab0 C.max.toNat)).2.getD v false = true ↔ (v = 0 ∨ ∃ x ∈ C.inputs, x / 2 = (v : Int)) := fun v => by rw [s1.tab, tab0_getD]
  have t2 : ∀ v : Nat, (defL C (defI C (tab0 C.max.toNat)).2).2.getD v false = true ↔ ((v = 0 ∨ ∃ x ∈ C.inputs, x / 2 = (v : Int)) ∨ ∃ z ∈ C.latches, z.1 / 2 = (v : Int)) := fun v => by rw [s2.tab, t1]
  have t3 : ∀ v : Nat, (defR C (tab0 C.max.toNat)).2.getD v false = true ↔ (((v = 0 ∨ ∃ x ∈ C.inputs, x / 2 = (v : Int)) ∨ ∃ z ∈ C.latches, z.1 / 2 = (v : Int)) ∨ ∃ z ∈ C.ands, z.1 / 2 = (v : Int)) := fun v => by rw [hD, s3.tab, t2]
  have w1 := s1.two
  have w2 := s2.two
  have w3 := s3.two
  rw [l0] at w1
  rw [l1] at w2
  rw [l2] at w3
  have two : ∀ l ∈ defsL C, 2 ≤ l ∧ l % 2 = 0 ∧ l / 2 ≤ C.max := fun l hl => by
    unfold defsL at hl
    simp only [List.mem_append, List.mem_map] at hl
    rcases hl with (hl | ⟨z, hz, rfl⟩) | ⟨z, hz, rfl⟩
    · obtain ⟨a, b, c, _⟩ := w1 l hl; exact ⟨a, b, by omega⟩
    · obtain ⟨a, b, c, _⟩ := w2 z hz; exact ⟨a, b, by omega⟩
    · obtain ⟨a, b, c, _⟩ := w3 z hz; exact ⟨a, b, by omega⟩
  refine ⟨two, ?_, fun v => ?_⟩
  · unfold defsL
    rw [List.nodup_append, List.nodup_append]
    refine ⟨⟨by simpa using s1.nd, s2.nd, fun a ha b hb e => ?_⟩, s3.nd, fun a ha b hb e => ?_⟩
    · subst e
      obtain ⟨z, hz, rfl⟩ := List.mem_map.1 hb
      obtain ⟨a1, _, _, d⟩ := w2 z hz
      have := (t1 (z.1 / 2).toNat).2 (.inr ⟨_, ha, by omega⟩)
      rw [this] at d; cases d
    · subst e
      obtain ⟨z, hz, rfl⟩ := List.mem_map.1 hb
      obtain ⟨a1, _, _, d⟩ := w3 z hz
      have : (defL C (defI C (tab0 C.max.toNat)).2).2.getD (z.1 / 2).toNat false = true := by
        rw [t2]
        rcases List.mem_append.1 ha with ha | ha
        · exact .inl (.inr ⟨_, ha, by omega⟩)
        · obtain ⟨z2, hz2, e2⟩ := List.mem_map.1 ha
          exact .inr ⟨z2, hz2, by omega⟩
      rw [this] at d; cases d
  · rw [t3]
    unfold defsL
    simp only [List.mem_append, List.mem_map]
    constructor
    · rintro (((h | ⟨x, hx, e⟩) | ⟨z, hz, e⟩) | ⟨z, hz, e⟩)
      · exact .inl h
      · exact .inr (.inl (.inl (by have := (w1 x hx).2.1; rw [show 2 * (v : Int) = x by omega]; exact hx)))
      · exact .inr (.inl (.inr ⟨z, hz, by have := (w2 z hz).2.1; omega⟩))
      · exact .inr (.inr ⟨z, hz, by have := (w3 z hz).2.1; omega⟩)
    · rintro (h | (h | ⟨z, hz, e⟩) | ⟨z, hz, e⟩)
      · exact .inl (.inl (.inl h))
      · exact .inl (.inl (.inr ⟨_, h, by omega⟩))
      · exact .inl (.inr ⟨z, hz, by omega⟩)
      · exact .inr ⟨z, hz, by omega⟩
/-! What is used. -/
theorem useE_iff {tb : List Bool} {l : Int} : useE tb l = 0 ↔ 0 ≤ l ∧ l / 2 < (tb.length : Int) ∧ tb.getD (l / 2).toNat false = true := by
  unfold useE
  by_cases h : l < 0 ∨ (tb.length : Int) ≤ l / 2
  · rw [if_pos h]
    constructor
    · intro h; cases h
    · rintro ⟨a, b, _⟩; omega
  · rw [if_neg h]
    by_cases h2 : tb.getD (l / 2).toNat false = true
    · rw [if_pos h2]; exact ⟨fun _ => ⟨by omega, by omega, h2⟩, fun _ => rfl⟩
    · rw [if_neg h2]
      constructor
      · intro h; cases h
      · rintro ⟨_, _, d⟩; exact absurd d h2
/-- A literal may be used. -/
def UseL (C : Circ) (l : Int) : Prop := 0 ≤ l ∧ l / 2 ≤ C.max ∧ (l < 2 ∨ 2 * (l / 2) ∈ defsL C)
structure UsesL (C : Circ) : Prop where
  l : ∀ z ∈ C.latches, UseL C z.2.1
  o : ∀ l ∈ C.outputs, UseL C l
  b : ∀ l ∈ C.bads, UseL C l
  c : ∀ l ∈ C.constraints, UseL C l
  j : ∀ zs ∈ C.justice, ∀ l ∈ zs, UseL C l
  f : ∀ l ∈ C.fairness, UseL C l
  a : ∀ z ∈ C.ands, UseL C z.2.1 ∧ UseL C z.2.2
theorem useE_lit {C : Circ} (hm : 0 ≤ C.max) (hd : Defd C) (l : Int) : useE (defR C (tab0 C.max.toNat)).2 l = 0 ↔ UseL C l := by
  have hl : (defR C (tab0 C.max.toNat)).2.length = C.max.toNat + 1 := by rw [defR_len]; simp [tab0]
  rw [useE_iff, hl, hd.tab]
  unfold UseL
  constructor
  · rintro ⟨a, b, c⟩
    refine ⟨a, by omega, ?_⟩
    rcases c with c | c
    · exact .inl (by omega)
    · exact .inr (by rwa [show ((l / 2).toNat : Int) = l / 2 by omega] at c)
  · rintro ⟨a, b, c⟩
    refine ⟨a, by omega, ?_⟩
    rcases c with c | c
    · exact .inl (by omega)
    · exact .inr (by rwa [show ((l / 2).toNat : Int) = l / 2 by omega])
theorem used_of {C : Circ} (hm : 0 ≤ C.max) (hd : Defd C) (h : (usedR C (defR C (tab0 C.max.toNat)).2).2 = 0) : UsesL C := by
  unfold usedR at h
  obtain ⟨u1, h⟩ := thenE_ok h
  obtain ⟨u2, h⟩ := thenE_ok h
  obtain ⟨u3, h⟩ := thenE_ok h
  obtain ⟨u4, h⟩ := thenE_ok h
  obtain ⟨u5, h⟩ := thenE_ok h
  obtain ⟨u6, u7⟩ := thenE_ok h
  have lst : ∀ zs, (usedI zs (defR C (tab0 C.max.toNat)).2).2 = 0 → ∀ l ∈ zs, UseL C l := fun zs hz l hl => (useE_lit hm hd l).1 (firstE_ok _ _ hz l hl)
  refine ⟨fun z hz => (useE_lit hm hd _).1 (firstE_ok _ _ u1 z hz), lst _ u2, lst _ u3, lst _ u4, fun zs hz => lst zs (firstE_ok _ _ u5 zs hz), lst _ u6, fun z hz => ?_⟩
  have := firstE_ok _ _ u7 z hz
  unfold gateE at this
  by_cases e : useE (defR C (tab0 C.max.toNat)).2 z.2.1 = 0
  · rw [if_pos e] at this
    exact ⟨(useE_lit hm hd _).1 e, (useE_lit hm hd _).1 this⟩
  · rw [if_neg e] at this; exact absurd this e
/-! What the gates' table says. -/
theorem gateF_get : ∀ (zs : List Tri) (i : Nat) (G : List Int), (∀ z ∈ zs, 0 ≤ z.1 ∧ z.1 % 2 = 0 ∧ z.1 / 2 < (G.length : Int)) → (zs.map (·.1)).Nodup →
    (∀ j z, zs[j]? = some z → (gateF zs i G).getD (z.1 / 2).toNat 0 = ((i + j : Nat) : Int)) ∧ ∀ v : Nat, 2 * (v : Int) ∉ zs.map (·.1) → (gateF zs i G).getD v 0 = G.getD v 0
  | [], i, G, _, _ => ⟨by simp, fun v _ => rfl⟩
  | x :: r, i, G, h, hn => by
    rw [List.map_cons, List.nodup_cons] at hn
    have hx := h x (by simp)
    obtain ⟨h1, h2⟩ := gateF_get r (i + 1) (G.set (x.1 / 2).toNat i) (fun z hz => by have := h z (by simp [hz]); simpa using this) hn.2
    unfold gateF
    refine ⟨fun j z hz => ?_, fun v hv => ?_⟩
    · cases j with
      | zero =>
        simp at hz
        subst hz
        rw [h2 _ (by rw [show 2 * (((x.1 / 2).toNat : Nat) : Int) = x.1 by omega]; exact hn.1)]
        simp [List.getD_eq_getElem?_getD, show (x.1 / 2).toNat < G.length by omega]
      | succ j =>
        rw [h1 j z (by simpa using hz)]
        omega
    · rw [List.map_cons, List.mem_cons, not_or] at hv
      rw [h2 v hv.2]
      simp only [List.getD_eq_getElem?_getD, List.getElem?_set]
      rw [if_neg (by omega)]
theorem gateOf_get {C : Circ} (hm : 0 ≤ C.max) (hd : Defd C) : (∀ (j : Nat) (z : Tri), C.ands[j]? = some z → (gateOf C).getD (z.1 / 2).toNat 0 = (j : Int)) ∧ ∀ v : Nat, (v : Int) ≤ C.max → 2 * (v : Int) ∉ C.ands.map (·.1) → (gateOf C).getD v 0 = -1 := by
  have hn := hd.nd
  unfold defsL at hn
  rw [List.nodup_append] at hn
  obtain ⟨h1, h2⟩ := gateF_get C.ands 0 (List.replicate (C.max.toNat + 1) (-1)) (fun z hz => by
    have := hd.two z.1 (List.mem_append_right _ (List.mem_map.2 ⟨z, hz, rfl⟩))
    refine ⟨by omega, this.2.1, ?_⟩
    have := this.2.2
    simp
    omega) hn.2.1
  refine ⟨fun j z hz => by have := h1 j z hz; rw [Nat.zero_add] at this; exact this, fun v hv hn => ?_⟩
  have := h2 v hn
  unfold gateOf
  rw [this]
  simp [List.getD_eq_getElem?_getD, show v < C.max.toNat + 1 by omega]
/-! The new numbers. -/
theorem numF_get : ∀ (ls : List Int) (st : Int × List Int), (∀ l ∈ ls, 0 ≤ l ∧ l % 2 = 0 ∧ l / 2 < (st.2.length : Int)) → ls.Nodup →
    (∀ (k : Nat) (l : Int), ls[k]? = some l → (numF ls st).2.getD (l / 2).toNat 0 = st.1 + 2 * ((k : Int) + 1)) ∧ ∀ v : Nat, 2 * (v : Int) ∉ ls → (numF ls st).2.getD v 0 = st.2.getD v 0
  | [], st, _, _ => ⟨by simp, fun v _ => rfl⟩
  | x :: r, st, h, hn => by
    rw [List.nodup_cons] at hn
    have hx := h x (by simp)
    obtain ⟨h1, h2⟩ := numF_get r (st.1 + 2, st.2.set (x / 2).toNat (st.1 + 2)) (fun z hz => by have := h z (by simp [hz]); simpa using this) hn.2
    have e : numF (x :: r) st = numF r (st.1 + 2, st.2.set (x / 2).toNat (st.1 + 2)) := rfl
    rw [e]
    refine ⟨fun k l hl => ?_, fun v hv => ?_⟩
    · cases k with
      | zero =>
        simp at hl
        subst hl
        rw [h2 _ (by rw [show 2 * (((x / 2).toNat : Nat) : Int) = x by omega]; exact hn.1)]
        simp [List.getD_eq_getElem?_getD, show (x / 2).toNat < st.2.length by omega]
      | succ k =>
        rw [h1 k l (by simpa using hl)]
        push_cast
        omega
    · rw [List.mem_cons, not_or] at hv
      rw [h2 v hv.2]
      simp only [List.getD_eq_getElem?_getD, List.getElem?_set]
      rw [if_neg (by omega)]
/-- A circuit that Check takes, in what is used here. -/
structure Fine (C : Circ) : Prop where
  m0 : 0 ≤ C.max
  m1 : C.max ≤ 16384
  d : Defd C
  u : UsesL C
  r : ∀ z ∈ C.latches, resetE z = 0
theorem lines_of {C : Circ} (out : List Int) (hp : out.Perm (intRange C.ands.length)) : (C.inputs ++ C.latches.map (·.1) ++ out.map (fun g => (C.ands.getD g.toNat (0, 0, 0)).1)).Perm (defsL C) := by
  unfold defsL
  refine List.Perm.append_left _ ?_
  refine (hp.map _).trans (List.Perm.of_eq ?_)
  unfold intRange
  rw [List.map_map]
  apply List.ext_getElem?
  intro i
  by_cases hi : i < C.ands.length
  · simp [hi, List.getD_eq_getElem?_getD]
  · simp [hi]
section
variable {C : Circ} {out : List Int}
/-- The literals that get new ones, in their order. -/
def linesL (C : Circ) (out : List Int) : List Int := C.inputs ++ C.latches.map (·.1) ++ out.map (fun g => (C.ands.getD g.toNat (0, 0, 0)).1)
structure NewL (C : Circ) (out : List Int) : Prop where
  two : ∀ l ∈ linesL C out, 2 ≤ l ∧ l % 2 = 0 ∧ l / 2 ≤ C.max
  nd : (linesL C out).Nodup
  mem : ∀ l, l ∈ linesL C out ↔ l ∈ defsL C
  get : ∀ (k : Nat) (l : Int), (linesL C out)[k]? = some l → (newM C out).getD (l / 2).toNat 0 = 2 * ((k : Int) + 1)
  none : ∀ v : Nat, 2 * (v : Int) ∉ linesL C out → (newM C out).getD v 0 = 0
  len : (linesL C out).length = C.inputs.length + C.latches.length + C.ands.length
theorem newL_of (hf : Fine C) (hp : out.Perm (intRange C.ands.length)) : NewL C out := by
  have pm := lines_of out hp
  have two : ∀ l ∈ linesL C out, 2 ≤ l ∧ l % 2 = 0 ∧ l / 2 ≤ C.max := fun l hl => hf.d.two l (pm.mem_iff.1 hl)
  have nd : (linesL C out).Nodup := pm.nodup_iff.2 hf.d.nd
  have hm0 := hf.m0
  obtain ⟨h1, h2⟩ := numF_get (linesL C out) (0, List.replicate (C.max.toNat + 1) 0) (fun l hl => by
    have := two l hl
    refine ⟨by omega, this.2.1, ?_⟩
    have := this.2.2
    simp
    omega) nd
  refine ⟨two, nd, fun l => pm.mem_iff, fun k l hl => ?_, fun v hv => ?_, ?_⟩
  · have := h1 k l hl
    unfold newM
    unfold linesL at this
    rw [this]
    simp
  · have := h2 v hv
    unfold newM
    unfold linesL at this
    rw [this]
    simp only [List.getD_eq_getElem?_getD, List.getElem?_replicate]
    split <;> rfl
  · have := pm.length_eq
    unfold linesL
    rw [this]
    simp [defsL]
    omega
/-- What a used literal becomes. -/
theorem mv_cases (h : NewL C out) {l : Int} (hu : UseL C l) : (l < 2 ∧ mvF (newM C out) l = l) ∨ ∃ k : Nat, (linesL C out)[k]? = some (2 * (l / 2)) ∧ mvF (newM C out) l = 2 * ((k : Int) + 1) + l % 2 := by
  obtain ⟨a, b, c⟩ := hu
  by_cases hl : l < 2
  · refine .inl ⟨hl, ?_⟩
    unfold mvF
    rw [h.none _ (fun hm => by have := (h.two _ hm).1; omega)]
    omega
  · rcases c with c | c
    · exact absurd c hl
    · obtain ⟨k, hk⟩ := List.getElem?_of_mem ((h.mem _).2 c)
      refine .inr ⟨k, hk, ?_⟩
      unfold mvF
      have := h.get k _ hk
      rw [show 2 * (l / 2) / 2 = l / 2 by omega] at this
      rw [this]
end
/-! A renumbered circuit is right. -/
section
variable {C : Circ} {out : List Int}
theorem line_gate (_h : NewL C out) {k : Nat} {g : Int} (hg : out[k]? = some g) : (linesL C out)[C.inputs.length + C.latches.length + k]? = some (C.ands.getD g.toNat (0, 0, 0)).1 := by
  unfold linesL
  rw [List.getElem?_append_right (by simp), List.getElem?_map]
  simp [hg, show C.inputs.length + C.latches.length + k - (C.inputs.length + C.latches.length) = k by omega]
/-- A gate's literals become less than its own. -/
theorem ren_lt (hf : Fine C) (h : NewL C out) (hG : Greedy (usesC C) out) (hl : out.length = C.ands.length) {k : Nat} {g : Int} (hg : out[k]? = some g) {l : Int}
    (hll : l = (C.ands.getD g.toNat (0, 0, 0)).2.1 ∨ l = (C.ands.getD g.toNat (0, 0, 0)).2.2) : mvF (newM C out) l < 2 * ((C.inputs.length : Int) + C.latches.length + k + 1) := by
  have hr := hG.inR g (List.mem_of_getElem? hg)
  rw [usesC_len] at hr
  unfold InR at hr
  obtain ⟨z, hz⟩ : ∃ z, C.ands[g.toNat]? = some z := ⟨_, List.getElem?_eq_getElem (by omega)⟩
  have hzD : C.ands.getD g.toNat (0, 0, 0) = z := by simp [List.getD_eq_getElem?_getD, hz]
  rw [hzD] at hll
  have hu : UseL C l := by
    have := hf.u.a z (List.mem_of_getElem? hz)
    rcases hll with rfl | rfl
    · exact this.1
    · exact this.2
  rcases mv_cases h hu with ⟨hl2, e⟩ | ⟨q, hq, e⟩
  · rw [e]; omega
  · rw [e]
    by_cases hq2 : q < C.inputs.length + C.latches.length
    · omega
    · obtain ⟨j, rfl⟩ : ∃ j, q = C.inputs.length + C.latches.length + j := ⟨q - (C.inputs.length + C.latches.length), by omega⟩
      have hjl := (List.getElem?_eq_some_iff.1 hq).1
      rw [h.len] at hjl
      obtain ⟨g2, hg2⟩ : ∃ g2, out[j]? = some g2 := ⟨_, List.getElem?_eq_getElem (by omega)⟩
      have hq3 := line_gate h hg2
      rw [hq] at hq3
      have hr2 := hG.inR g2 (List.mem_of_getElem? hg2)
      rw [usesC_len] at hr2
      unfold InR at hr2
      obtain ⟨z2, hz2⟩ : ∃ z2, C.ands[g2.toNat]? = some z2 := ⟨_, List.getElem?_eq_getElem (by omega)⟩
      have hzD2 : C.ands.getD g2.toNat (0, 0, 0) = z2 := by simp [List.getD_eq_getElem?_getD, hz2]
      rw [hzD2] at hq3
      have e2 : 2 * (l / 2) = z2.1 := by simpa using hq3
      have hgt := (gateOf_get hf.m0 hf.d).1 g2.toNat z2 hz2
      rw [← e2, show 2 * (l / 2) / 2 = l / 2 by omega] at hgt
      have hE : Edge (usesC C) g g2 := by
        refine ⟨by omega, ?_⟩
        have : (usesC C).getD g.toNat (-1, -1) = useOf (gateOf C) z := by
          unfold usesC
          simp [List.getD_eq_getElem?_getD, hz]
        rw [this]
        unfold useOf
        rcases hll with rfl | rfl
        · left; simp only [List.getD_eq_getElem?_getD] at hgt ⊢; rw [hgt]; omega
        · right; simp only [List.getD_eq_getElem?_getD] at hgt ⊢; rw [hgt]; omega
      have hb := hG.before k g hg g2 hE
      obtain ⟨i, hi⟩ := List.getElem?_of_mem hb
      rw [List.getElem?_take] at hi
      split at hi
      · rename_i hik
        have := nodup_get hG.nodup hi hg2
        omega
      · cases hi
end
theorem fine_of {C : Circ} (h : (checkR C).2 = 0) : Fine C := by
  obtain ⟨h1, h2, h3, h4, _, _⟩ := check_parts h
  obtain ⟨⟨m0, m1⟩, _⟩ := sizes_all h1
  have hd := defd_of m0 h2
  refine ⟨m0, m1, hd, used_of m0 hd h3, ?_⟩
  intro z hz
  have hI : (defI C (tab0 C.max.toNat)).1.2 = 0 := by
    unfold defR at h2
    by_cases e : (defI C (tab0 C.max.toNat)).1.2 = 0
    · exact e
    · rw [if_neg e] at h2; exact h2
  have hL : (defL C (defI C (tab0 C.max.toNat)).2).1.2 = 0 := by
    unfold defR at h2
    rw [if_pos hI] at h2
    by_cases e : (defL C (defI C (tab0 C.max.toNat)).2).1.2 = 0
    · exact e
    · rw [if_neg e] at h2; exact h2
  exact defAll_good _ _ _ hL z hz
/-! A renumbered circuit stays as it is when it is renumbered again. -/
section
variable {C : Circ} {out : List Int}
/-! The map, as it is looked at entry by entry. -/
end
theorem LitOk.i64 {C : Circ} {l : Int} (hm : C.max ≤ 16384) (h : LitOk C l) : I64 l := by
  obtain ⟨a, b⟩ := h
  exact ⟨by omega, by omega⟩
theorem Right.ok {C : Circ} (h : Right C) (hs : ∀ z ∈ C.symbols, 0 ≤ z.kind ∧ z.kind ≤ 255 ∧ I64 z.at_) (hn : ∀ z ∈ C.symbols, z.name.size ≤ maxLen) : C.Ok := by
  have hm := h.m1
  have big : ∀ {l : Int}, 2 ≤ l ∧ l / 2 ≤ C.max → I64 l := fun hl => ⟨by omega, by omega⟩
  refine ⟨⟨by have := h.m0; omega, by omega⟩, fun l hl => big (h.i l hl), fun z hz => ?_, fun l hl => (h.o l hl).i64 hm, fun l hl => (h.b l hl).i64 hm, fun l hl => (h.c l hl).i64 hm, fun zs hz l hl => (h.j zs hz l hl).i64 hm, fun l hl => (h.f l hl).i64 hm, fun z hz => ?_, hs, hn⟩
  · obtain ⟨a, b, c⟩ := h.l z hz
    refine ⟨big a, b.i64 hm, ?_⟩
    rcases c with c | c | c
    · rw [c]; exact ⟨by omega, by omega⟩
    · rw [c]; exact ⟨by omega, by omega⟩
    · rw [c]; exact big a
  · obtain ⟨a, b, c⟩ := h.a z hz
    exact ⟨big a, b.i64 hm, c.i64 hm⟩
section
open Go.RowKit
/-- But for some blocks nothing turns. -/
structure But (F : Nat → Prop) (w w' : World) : Prop where
  os : w'.os = w.os
  tape : w'.tape = w.tape
  output : w'.output = w.output
  size : w.heap.size ≤ w'.heap.size
  block : ∀ k, k < w.heap.size → ¬ F k → w'.heap[k]? = w.heap[k]?
section
variable {F G : Nat → Prop} {w w' w2 : World}
theorem But.refl (F : Nat → Prop) (w : World) : But F w w := ⟨rfl, rfl, rfl, Nat.le_refl _, fun _ _ _ => rfl⟩
theorem But.of_below (h : Below w.heap.size w w') : But F w w' := ⟨h.os, h.tape, h.output, h.size, fun k hk _ => h.block k hk⟩
theorem But.trans (h : But F w w') (k : But G w' w2) (hg : ∀ x, G x → F x ∨ w.heap.size ≤ x) : But F w w2 :=
  ⟨k.os.trans h.os, k.tape.trans h.tape, k.output.trans h.output, Nat.le_trans h.size k.size, fun x hx hf => (k.block x (Nat.lt_of_lt_of_le hx h.size) (fun g => by
    rcases hg x g with q | q
    · exact hf q
    · omega)).trans (h.block x hx hf)⟩
theorem But.then (h : But F w w') (k : Below w'.heap.size w' w2) : But F w w2 := h.trans (G := fun _ => False) (But.of_below k) (fun _ h => h.elim)
theorem But.alloc (h : But F w w') (o : Obj) : But F w (w'.alloc o) := h.then ((Below.refl _ _).alloc (Nat.le_refl _) _)
theorem But.drew (h : But F w w') : But F w w'.drew := ⟨h.os, h.tape, h.output, h.size, h.block⟩
theorem But.set_ (h : But F w w') {p : Addr} (hp : F p.block ∨ w.heap.size ≤ p.block) (u : Value) : But F w (w'.setCell p u) :=
  h.trans (G := fun x => x = p.block) ⟨rfl, rfl, rfl, by simp [World.setCell], fun x _ hn => Below.heap_setCell _ _ _ _ hn⟩ (fun x hx => by subst hx; exact hp)
theorem But.grown (h : But F w w') {row : Option Nat} (hg : w'.grownBy w2 row) (hr : ∀ k, row = some k → F k ∨ w.heap.size ≤ k) : But F w w2 :=
  h.trans (G := fun x => row = some x) ⟨hg.os, hg.tape, hg.output, hg.size, fun x hx hn => hg.block x hx (fun e => hn e.symm)⟩ (fun x hx => hr x hx)
theorem But.below (h : But F w w') {B : Nat} (hB : B ≤ w.heap.size) (hF : ∀ k, F k → B ≤ k) : Below B w w' := ⟨h.os, h.tape, h.output, h.size, fun k hk => h.block k (by omega) (fun hf => by have := hF k hf; omega)⟩
theorem But.blk (h : But F w w') {g : Nat} {t : TypeId} {cs : Array Value} (hb : Blk w g t cs) (hg : ¬ F g) : Blk w' g t cs := (h.block g hb.lt hg).trans hb
end
end
end Go.Proofs.Ytdodhbfplglbkaa

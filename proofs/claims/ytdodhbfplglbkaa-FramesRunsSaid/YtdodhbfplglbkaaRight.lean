/- What Check's yes says of a circuit; the contract of Order. -/
import Derived.Test.YtdodhbfplglbkaaCheck3
import Derived.Test.YtdodhbfplglbkaaOrdW
namespace Go.Proofs.Ytdodhbfplglbkaa
open Go.RowKit

def LitOk (C : Circ) (l : Int) : Prop := 0 ≤ l ∧ l / 2 ≤ C.max
structure Right (C : Circ) : Prop where
  m0 : 0 ≤ C.max
  m1 : C.max ≤ 16384
  ni : C.inputs.length ≤ 16384
  nl : C.latches.length ≤ 16384
  no : C.outputs.length ≤ 16384
  nb : C.bads.length ≤ 16384
  nc : C.constraints.length ≤ 16384
  nj : C.justice.length ≤ 16384
  nf : C.fairness.length ≤ 16384
  na : C.ands.length ≤ 16384
  ns : C.symbols.length ≤ 16384
  nt : C.comments.length ≤ 16384
  i : ∀ l ∈ C.inputs, 2 ≤ l ∧ l / 2 ≤ C.max
  l : ∀ z ∈ C.latches, (2 ≤ z.1 ∧ z.1 / 2 ≤ C.max) ∧ LitOk C z.2.1 ∧ (z.2.2 = 0 ∨ z.2.2 = 1 ∨ z.2.2 = z.1)
  o : ∀ l ∈ C.outputs, LitOk C l
  b : ∀ l ∈ C.bads, LitOk C l
  c : ∀ l ∈ C.constraints, LitOk C l
  j : ∀ zs ∈ C.justice, ∀ l ∈ zs, LitOk C l
  f : ∀ l ∈ C.fairness, LitOk C l
  a : ∀ z ∈ C.ands, (2 ≤ z.1 ∧ z.1 / 2 ≤ C.max) ∧ LitOk C z.2.1 ∧ LitOk C z.2.2
  acy : firstF (usesC C) = -1
  uok : UsesOk (usesC C).length (usesC C)
theorem sizes_all {C : Circ} (h : sizesE C = 0) : (0 ≤ C.max ∧ C.max ≤ 16384) ∧ ∀ x ∈ sizesL C, x ≤ 16384 := by
  by_cases hc : C.max < 0 ∨ 16384 < C.max
  · rw [sizesE_range hc] at h; cases h
  · refine ⟨by omega, fun x hx => ?_⟩
    rcases Int.lt_or_le 16384 x with hl | hl
    · rw [sizesE_long hc hx hl] at h; cases h
    · exact hl
theorem defAll_good {α : Type} {lit bad : α → Int} : ∀ (xs : List α) (k : Nat) (tb : List Bool), (defAll lit bad xs k tb).1.2 = 0 → ∀ x ∈ xs, bad x = 0
  | [], _, _, _, x, hx => by simp at hx
  | y :: r, k, tb, h, x, hx => by
    unfold defAll at h
    by_cases h0 : defE tb (lit y) = 0
    · rw [if_pos h0] at h
      by_cases h1 : bad y = 0
      · rw [if_pos h1] at h
        rcases List.mem_cons.1 hx with rfl | hx
        · exact h1
        · exact defAll_good r (k + 1) _ h x hx
      · rw [if_neg h1] at h; exact absurd h h1
    · rw [if_neg h0] at h; exact absurd h h0
theorem check_parts {C : Circ} (h : (checkR C).2 = 0) : sizesE C = 0 ∧ (defR C (tab0 C.max.toNat)).1.2 = 0 ∧ (usedR C (defR C (tab0 C.max.toNat)).2).2 = 0 ∧ firstF (usesC C) = -1 ∧ (symR C).2 = 0 ∧ (commR C).2 = 0 := by
  unfold checkR at h
  by_cases h1 : sizesE C = 0
  · rw [if_neg (by simp [h1])] at h
    by_cases h2 : (defR C (tab0 C.max.toNat)).1.2 = 0
    · rw [if_neg (by simp [h2])] at h
      by_cases h3 : (usedR C (defR C (tab0 C.max.toNat)).2).2 = 0
      · rw [if_neg (by simp [h3])] at h
        by_cases h4 : firstF (usesC C) = -1
        · rw [if_neg (by simp [h4])] at h
          by_cases h5 : (symR C).2 = 0
          · rw [if_neg (by simp [h5])] at h
            exact ⟨h1, h2, h3, h4, h5, h⟩
          · rw [if_pos h5] at h; exact absurd h h5
        · rw [if_pos h4] at h; cases h
      · rw [if_pos h3] at h; exact absurd h h3
    · rw [if_pos h2] at h; exact absurd h h2
  · rw [if_pos h1] at h; exact absurd h h1
theorem right_of {C : Circ} (h : (checkR C).2 = 0) : Right C := by
  obtain ⟨h1, h2, h3, h4, _, _⟩ := check_parts h
  obtain ⟨⟨m0, m1⟩, hsz⟩ := sizes_all h1
  have htl : (tab0 C.max.toNat).length = C.max.toNat + 1 := by simp [tab0]
  have htl2 : (defR C (tab0 C.max.toNat)).2.length = C.max.toNat + 1 := by rw [defR_len, htl]
  have hI : (defI C (tab0 C.max.toNat)).1.2 = 0 := by
    unfold defR at h2
    by_cases e : (defI C (tab0 C.max.toNat)).1.2 = 0
    · exact e
    · rw [if_neg e] at h2; exact h2
  have hL : (defL C (defI C (tab0 C.max.toNat)).2).1.2 = 0 := by
    unfold defR at h2
    rw [if_pos hI] at h2
    by_cases e : (defL C (defI C (tab0 C.max.toNat)).2).1.2 = 0
    · exact e
    · rw [if_neg e] at h2; exact h2
  have hIl : (defI C (tab0 C.max.toNat)).2.length = C.max.toNat + 1 := by unfold defI; rw [defAll_len, htl]
  have hA := defR_ok h2
  rw [htl] at hA
  have hu := h3
  unfold usedR at hu
  obtain ⟨u1, hu⟩ := thenE_ok hu
  obtain ⟨u2, hu⟩ := thenE_ok hu
  obtain ⟨u3, hu⟩ := thenE_ok hu
  obtain ⟨u4, hu⟩ := thenE_ok hu
  obtain ⟨u5, hu⟩ := thenE_ok hu
  obtain ⟨u6, u7⟩ := thenE_ok hu
  have hlit : ∀ {tb : List Bool} {l : Int}, tb.length = C.max.toNat + 1 → useE tb l = 0 → LitOk C l := fun ht hl => by
    have := useE_zero hl
    rw [ht] at this
    exact ⟨this.1, by omega⟩
  have hlist : ∀ zs, (usedI zs (defR C (tab0 C.max.toNat)).2).2 = 0 → ∀ l ∈ zs, LitOk C l := fun zs hz l hl => hlit htl2 (firstE_ok _ _ hz l hl)
  have hU := usedR_ok h3
  rw [htl2] at hU
  have hfit : ∀ z ∈ C.ands, FitT C.max z := fit_of h2 h3 (by rw [htl]; omega) (by rw [htl2, htl])
  simp only [sizesL, List.mem_cons, List.not_mem_nil, or_false, forall_eq_or_imp, forall_eq] at hsz
  obtain ⟨s1, s2, s3, s4, s5, s6, _, s8, s9, s10, s11⟩ := hsz
  refine ⟨m0, m1, by omega, by omega, by omega, by omega, by omega, by omega, by omega, by omega, by omega, by omega, fun l hl => ?_, fun z hz => ⟨?_, hlit htl2 (firstE_ok _ _ u1 z hz), ?_⟩, hlist _ u2, hlist _ u3, hlist _ u4, fun zs hz => hlist zs (firstE_ok _ _ u5 zs hz), hlist _ u6, fun z hz => ⟨?_, ?_, ?_⟩, h4, usesC_ok m0 hfit⟩
  · have := defAll_ok _ _ _ hI l hl
    rw [htl] at this
    exact ⟨this.1, by have := this.2; omega⟩
  · have := defAll_ok _ _ _ hL z hz
    rw [hIl] at this
    exact ⟨this.1, by have := this.2; omega⟩
  · have := defAll_good _ _ _ hL z hz
    unfold resetE at this
    by_cases e1 : z.2.2 = 0
    · exact .inl e1
    · by_cases e2 : z.2.2 = 1
      · exact .inr (.inl e2)
      · by_cases e3 : z.2.2 = z.1
        · exact .inr (.inr e3)
        · rw [if_pos ⟨e1, e2, e3⟩] at this; cases this
  · have := hA z hz
    exact ⟨this.1, by have := this.2; omega⟩
  · have := (hU z hz).1
    exact ⟨this.1, by have := this.2; omega⟩
  · have := (hU z hz).2
    exact ⟨this.1, by have := this.2; omega⟩
theorem usesC_len (C : Circ) : (usesC C).length = C.ands.length := by simp [usesC]

theorem greedy_perm {uses : List (Int × Int)} {out : List Int} (h : Greedy uses out) (hl : out.length = uses.length) : out.Perm (intRange uses.length) := by
  refine (List.perm_ext_iff_of_nodup h.nodup (nodup_intRange _)).2 fun a => ⟨fun ha => mem_intRange.2 (h.inR a ha), fun ha => ?_⟩
  refine Classical.byContradiction fun hna => ?_
  have h2 : (a :: out).Nodup := List.nodup_cons.2 ⟨hna, h.nodup⟩
  have := nodup_sub h2 (m := intRange uses.length) (fun x hx => by
    rcases List.mem_cons.1 hx with rfl | hx
    · exact ha
    · exact mem_intRange.2 (h.inR x hx))
  rw [len_intRange] at this
  simp at this
  omega
theorem nodup_get {α : Type} : ∀ {l : List α}, l.Nodup → ∀ {i j : Nat} {x : α}, l[i]? = some x → l[j]? = some x → i = j
  | [], _, i, j, x, hi, _ => by simp at hi
  | a :: r, h, i, j, x, hi, hj => by
    rw [List.nodup_cons] at h
    cases i with
    | zero =>
      cases j with
      | zero => rfl
      | succ j =>
        simp at hi hj
        subst hi
        exact absurd (List.mem_of_getElem? hj) h.1
    | succ i =>
      cases j with
      | zero =>
        simp at hi hj
        subst hj
        exact absurd (List.mem_of_getElem? hi) h.1
      | succ j =>
        rw [nodup_get h.2 (i := i) (j := j) (by simpa using hi) (by simpa using hj)]
end Go.Proofs.Ytdodhbfplglbkaa

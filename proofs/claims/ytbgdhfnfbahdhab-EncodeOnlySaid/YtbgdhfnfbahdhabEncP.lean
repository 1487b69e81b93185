/- Encode, as plain data: a circuit's gates as clauses; a model makes them true just if it is that of its own state and row. -/
import Derived.Test.YtbgdhfnfbahdhabTrnB
namespace Go.Proofs.Ytbgdhfnfbahdhab

/-- The formula's literal of a circuit's. -/
def litC (l : Int) : Int := if l % 2 = 1 then -(l / 2 + 1) else l / 2 + 1
def gateC (z : Tri) : List (List Int) := [[-(litC z.1), litC z.2.1], [-(litC z.1), litC z.2.2], [litC z.1, -(litC z.2.1), -(litC z.2.2)]]
def formC (zs : List Tri) : List (List Int) := [-1] :: zs.flatMap gateC
/-- A formula's literal, clause, all clauses by a model. -/
def trueC (T : List Bool) (x : Int) : Bool := T.getD (x.natAbs - 1) false == decide (0 < x)
def clauseV (T : List Bool) (xs : List Int) : Bool := xs.any (trueC T)
def holdsC (T : List Bool) (F : List (List Int)) : Bool := F.all (clauseV T)
theorem trueC_lit {T : List Bool} {l : Int} (h : 0 ≤ l) : trueC T (litC l) = litV T l := by
  unfold trueC litC litV
  by_cases h2 : l % 2 = 1
  · rw [if_pos h2, show (-(l / 2 + 1)).natAbs - 1 = (l / 2).toNat by omega, decide_eq_false (by omega)]
    cases T.getD (l / 2).toNat false <;> simp [h2]
  · rw [if_neg h2, show (l / 2 + 1).natAbs - 1 = (l / 2).toNat by omega, decide_eq_true (by omega)]
    cases T.getD (l / 2).toNat false <;> simp [h2]
theorem trueC_neg {T : List Bool} {l : Int} (h : 0 ≤ l) : trueC T (-(litC l)) = !litV T l := by
  rw [← trueC_lit h]
  have h1 : litC l ≠ 0 := by unfold litC; split <;> omega
  unfold trueC
  rw [Int.natAbs_neg]
  by_cases h2 : 0 < litC l
  · rw [decide_eq_true h2, decide_eq_false (by omega)]
    cases T.getD ((litC l).natAbs - 1) false <;> rfl
  · rw [decide_eq_false h2, decide_eq_true (by omega)]
    cases T.getD ((litC l).natAbs - 1) false <;> rfl
theorem gateC_holds {T : List Bool} {z : Tri} (h : 0 ≤ z.1 ∧ 0 ≤ z.2.1 ∧ 0 ≤ z.2.2) : (gateC z).all (clauseV T) = (litV T z.1 == (litV T z.2.1 && litV T z.2.2)) := by
  simp only [gateC, clauseV, List.all_cons, List.all_nil, List.any_cons, List.any_nil, trueC_lit h.1, trueC_lit h.2.1, trueC_lit h.2.2, trueC_neg h.1, trueC_neg h.2.1, trueC_neg h.2.2]
  cases litV T z.1 <;> cases litV T z.2.1 <;> cases litV T z.2.2 <;> rfl
theorem formC_holds {T : List Bool} {zs : List Tri} (h : ∀ z ∈ zs, 0 ≤ z.1 ∧ 0 ≤ z.2.1 ∧ 0 ≤ z.2.2) : holdsC T (formC zs) = (!T.getD 0 false && zs.all fun z => litV T z.1 == (litV T z.2.1 && litV T z.2.2)) := by
  have key : ∀ ys : List Tri, (∀ z ∈ ys, 0 ≤ z.1 ∧ 0 ≤ z.2.1 ∧ 0 ≤ z.2.2) → (ys.flatMap gateC).all (clauseV T) = ys.all fun z => litV T z.1 == (litV T z.2.1 && litV T z.2.2) := by
    intro ys
    induction ys with
    | nil => intro _; rfl
    | cons a r ih =>
      intro hy
      rw [List.flatMap_cons, List.all_append, gateC_holds (hy a (by simp)), List.all_cons, ih (fun z hz => hy z (by simp [hz]))]
  unfold holdsC formC
  rw [List.all_cons, key zs h]
  have : clauseV T [-1] = !T.getD 0 false := by
    simp only [clauseV, trueC, List.any_cons, List.any_nil, Bool.or_false]
    rw [show ((-1 : Int).natAbs - 1) = 0 by decide, show decide ((0 : Int) < -1) = false by decide]
    cases T.getD 0 false <;> rfl
  rw [this]
/-- The literals of a formula are in their range. -/
def WfC (n : Nat) (F : List (List Int)) : Prop := ∀ xs ∈ F, xs.length ≤ 3 ∧ ∀ x ∈ xs, x ≠ 0 ∧ x.natAbs ≤ n
theorem litC_in {l : Int} {n : Nat} (h : 0 ≤ l) (h2 : l / 2 < (n : Int)) : litC l ≠ 0 ∧ (litC l).natAbs ≤ n ∧ -(litC l) ≠ 0 ∧ (-(litC l)).natAbs ≤ n := by
  unfold litC; split <;> omega
theorem formC_wf {zs : List Tri} {n : Nat} (hn : 0 < n) (h : ∀ z ∈ zs, (0 ≤ z.1 ∧ z.1 / 2 < (n : Int)) ∧ (0 ≤ z.2.1 ∧ z.2.1 / 2 < (n : Int)) ∧ 0 ≤ z.2.2 ∧ z.2.2 / 2 < (n : Int)) : WfC n (formC zs) := by
  intro xs hx
  unfold formC at hx
  rcases List.mem_cons.1 hx with rfl | hx
  · refine ⟨by simp, fun x hx => ?_⟩
    have : x = -1 := by simpa using hx
    subst this
    exact ⟨by decide, by show 1 ≤ n; omega⟩
  · obtain ⟨z, hz, hm⟩ := List.mem_flatMap.1 hx
    obtain ⟨h1, h2, h3⟩ := h z hz
    obtain ⟨a1, a2, a3, a4⟩ := litC_in h1.1 h1.2
    obtain ⟨b1, b2, b3, b4⟩ := litC_in h2.1 h2.2
    obtain ⟨c1, c2, c3, c4⟩ := litC_in h3.1 h3.2
    simp only [gateC, List.mem_cons, List.not_mem_nil, or_false] at hm
    rcases hm with rfl | rfl | rfl
    all_goals refine ⟨by simp, fun x hx => ?_⟩
    all_goals simp only [List.mem_cons, List.not_mem_nil, or_false] at hx
    · rcases hx with rfl | rfl <;> exact ⟨by assumption, by assumption⟩
    · rcases hx with rfl | rfl <;> exact ⟨by assumption, by assumption⟩
    · rcases hx with rfl | rfl | rfl <;> exact ⟨by assumption, by assumption⟩
theorem formC_len (zs : List Tri) : (formC zs).length = 1 + 3 * zs.length := by
  have key : ∀ ys : List Tri, (ys.flatMap gateC).length = 3 * ys.length := by
    intro ys
    induction ys with
    | nil => rfl
    | cons a r ih => rw [List.flatMap_cons, List.length_append, ih, List.length_cons]; simp only [gateC, List.length_cons, List.length_nil]; omega
  unfold formC
  rw [List.length_cons, key]; omega
theorem formC_snoc (zs : List Tri) (z : Tri) : formC (zs ++ [z]) = formC zs ++ [[-(litC z.1), litC z.2.1], [-(litC z.1), litC z.2.2], [litC z.1, -(litC z.2.1), -(litC z.2.2)]] := by
  unfold formC
  rw [List.flatMap_append]
  simp [gateC]

/-- What a model says of state and row. -/
def mdlE (C : Circ) (M : List Bool) : Int := if (checkR C).2 = 0 then (if M.length = C.max.toNat + 1 then 0 else 4) else (checkR C).2
def mdlS (C : Circ) (M : List Bool) : List Bool := C.latches.map fun z => M.getD (z.1 / 2).toNat false
def mdlR (C : Circ) (M : List Bool) : List Bool := C.inputs.map fun l => M.getD (l / 2).toNat false
theorem mdlS_len (C : Circ) (M : List Bool) : (mdlS C M).length = C.latches.length := by simp [mdlS]
theorem mdlR_len (C : Circ) (M : List Bool) : (mdlR C M).length = C.inputs.length := by simp [mdlR]

section
variable {C : Circ} {O : List Int} {st row T M : List Bool}
theorem val_zero (h0 : (checkR C).2 = 0) (a : ValOk C st row T) : T.getD 0 false = false := a.n 0 (fun hm => by
  have := ((fine_of h0).d.two _ hm).1
  omega)
theorem ands_nn (h0 : (checkR C).2 = 0) : ∀ z ∈ C.ands, 0 ≤ z.1 ∧ 0 ≤ z.2.1 ∧ 0 ≤ z.2.2 := fun z hz => by
  have h1 := (fine_of h0).u.a z hz
  have h2 := (fine_of h0).d.two z.1 (by unfold defsL; exact List.mem_append_right _ (List.mem_map.2 ⟨z, hz, rfl⟩))
  exact ⟨by omega, h1.1.1, h1.2.1⟩
theorem out_even (h0 : (checkR C).2 = 0) {z : Tri} (hz : z ∈ C.ands) (T : List Bool) : litV T z.1 = T.getD (z.1 / 2).toNat false := by
  have h2 := (fine_of h0).d.two z.1 (by unfold defsL; exact List.mem_append_right _ (List.mem_map.2 ⟨z, hz, rfl⟩))
  unfold litV
  rw [h2.2.1]
  cases T.getD (z.1 / 2).toNat false <;> rfl
theorem lit_same {l : Int} (e0 : T.getD 0 false = false) (e1 : M.getD 0 false = false) (hN : NewL C O) (hu : UseL C l) (hq : ∀ (q : Nat) (l2 : Int), (linesL C O)[q]? = some l2 → l2 = 2 * (l / 2) → mvF (newM C O) l = 2 * ((q : Int) + 1) + l % 2 → M.getD (l2 / 2).toNat false = T.getD (l2 / 2).toNat false) : litV M l = litV T l := by
  have hl0 := hu.1
  rcases mv_cases hN hu with ⟨hl, _⟩ | ⟨q, hk, e⟩
  · have : (l / 2).toNat = 0 := by omega
    unfold litV
    rw [this, e0, e1]
  · have := hq q _ hk rfl e
    unfold litV
    rw [show (2 * (l / 2) / 2) = l / 2 by omega] at this
    rw [this]
theorem only_core (h0 : (checkR C).2 = 0) (hO : IsOrd C O) (a : ValOk C (mdlS C M) (mdlR C M) T) (e1 : M.getD 0 false = false) (hg : ∀ z ∈ C.ands, M.getD (z.1 / 2).toNat false = (litV M z.2.1 && litV M z.2.2)) :
    ∀ (k : Nat) (l : Int), (linesL C O)[k]? = some l → M.getD (l / 2).toNat false = T.getD (l / 2).toNat false := by
  have hf := fine_of h0
  have hp := greedy_perm hO.g (by rw [hO.l, usesC_len])
  rw [usesC_len] at hp
  have h := newL_of hf hp
  have e0 := val_zero h0 a
  intro k
  induction k using Nat.strongRecOn with
  | ind k ih =>
  intro l hk
  have hkl := (List.getElem?_eq_some_iff.1 hk).1
  rw [h.len] at hkl
  by_cases c1 : k < C.inputs.length
  · have hi : C.inputs[k]? = some l := by
      unfold linesL at hk
      rw [List.append_assoc, List.getElem?_append_left c1] at hk
      exact hk
    exact (a.i k l _ hi (by unfold mdlR; rw [List.getElem?_map, hi]; rfl)).symm
  · by_cases c2 : k < C.inputs.length + C.latches.length
    · obtain ⟨z, hz⟩ : ∃ z, C.latches[k - C.inputs.length]? = some z := ⟨_, List.getElem?_eq_getElem (by omega)⟩
      have hi : z.1 = l := by
        unfold linesL at hk
        rw [List.append_assoc, List.getElem?_append_right (by omega), List.getElem?_append_left (by simp; omega), List.getElem?_map, hz] at hk
        exact Option.some.inj hk
      rw [← hi]
      exact (a.l _ z _ hz (by unfold mdlS; rw [List.getElem?_map, hz]; rfl)).symm
    · obtain ⟨j, rfl⟩ : ∃ j, k = C.inputs.length + C.latches.length + j := ⟨k - (C.inputs.length + C.latches.length), by omega⟩
      obtain ⟨g, hgj⟩ : ∃ g, O[j]? = some g := ⟨_, List.getElem?_eq_getElem (by have := hO.l; omega)⟩
      have hlg := line_gate h hgj
      rw [hk] at hlg
      have hi : l = (C.ands.getD g.toNat (0, 0, 0)).1 := Option.some.inj hlg
      have hr := hO.g.inR g (List.mem_of_getElem? hgj)
      rw [usesC_len] at hr
      unfold InR at hr
      obtain ⟨z, hz⟩ : ∃ z, C.ands[g.toNat]? = some z := ⟨_, List.getElem?_eq_getElem (by omega)⟩
      have hzD : C.ands.getD g.toNat (0, 0, 0) = z := by simp [List.getD_eq_getElem?_getD, hz]
      have hrl := fun (l' : Int) (hl' : l' = (C.ands.getD g.toNat (0, 0, 0)).2.1 ∨ l' = (C.ands.getD g.toNat (0, 0, 0)).2.2) => ren_lt hf h hO.g hO.l hgj hl'
      rw [hzD] at hi hrl
      have hzm := List.mem_of_getElem? hz
      have hu := hf.u.a z hzm
      have key : ∀ l', (l' = z.2.1 ∨ l' = z.2.2) → UseL C l' → litV M l' = litV T l' := fun l' hl' hu' =>
        lit_same e0 e1 h hu' fun q l2 hq _ e => by
          have h5 := hrl l' hl'
          have h6 := hu'.1
          exact ih q (by omega) l2 hq
      rw [hi, hg z hzm, a.a z hzm, key _ (.inl rfl) hu.1, key _ (.inr rfl) hu.2]
/-- A model makes the formula true just if it is that of its own state and row, at all gates. -/
theorem only_iff (h0 : (checkR C).2 = 0) (hO : IsOrd C O) (a : ValOk C (mdlS C M) (mdlR C M) T) :
    holdsC M (formC C.ands) = (!M.getD 0 false && C.ands.all fun z => T.getD (z.1 / 2).toNat false == M.getD (z.1 / 2).toNat false) := by
  have hf := fine_of h0
  have hp := greedy_perm hO.g (by rw [hO.l, usesC_len])
  rw [usesC_len] at hp
  have h := newL_of hf hp
  have e0 := val_zero h0 a
  rw [formC_holds (ands_nn h0), Bool.eq_iff_iff, Bool.and_eq_true, Bool.and_eq_true, List.all_eq_true, List.all_eq_true]
  refine and_congr_right fun e1 => ?_
  have e1 : M.getD 0 false = false := by simpa using e1
  constructor
  · intro hg z hz
    have hg2 : ∀ z ∈ C.ands, M.getD (z.1 / 2).toNat false = (litV M z.2.1 && litV M z.2.2) := fun z hz => by
      have := hg z hz
      rw [out_even h0 hz] at this
      simpa using this
    have hm : z.1 ∈ linesL C O := (h.mem _).2 (by unfold defsL; exact List.mem_append_right _ (List.mem_map.2 ⟨z, hz, rfl⟩))
    obtain ⟨k, hk⟩ := List.getElem?_of_mem hm
    rw [only_core h0 hO a e1 hg2 k _ hk]
    simp
  · intro hg z hz
    have hc : ∀ (k : Nat) (l : Int), (linesL C O)[k]? = some l → M.getD (l / 2).toNat false = T.getD (l / 2).toNat false := by
      intro k l hk
      have hm := (h.mem _).1 (List.mem_of_getElem? hk)
      unfold defsL at hm
      rcases List.mem_append.1 hm with hm | hm
      · rcases List.mem_append.1 hm with hm | hm
        · obtain ⟨i, hi⟩ := List.getElem?_of_mem hm
          exact (a.i i l _ hi (by unfold mdlR; rw [List.getElem?_map, hi]; rfl)).symm
        · obtain ⟨y, hy, rfl⟩ := List.mem_map.1 hm
          obtain ⟨i, hi⟩ := List.getElem?_of_mem hy
          exact (a.l i y _ hi (by unfold mdlS; rw [List.getElem?_map, hi]; rfl)).symm
      · obtain ⟨y, hy, rfl⟩ := List.mem_map.1 hm
        have := hg y hy
        exact (by simpa using this : T.getD (y.1 / 2).toNat false = M.getD (y.1 / 2).toNat false).symm
    have hu := hf.u.a z hz
    have k1 := lit_same e0 e1 h hu.1 fun q l2 hq _ _ => hc q l2 hq
    have k2 := lit_same e0 e1 h hu.2 fun q l2 hq _ _ => hc q l2 hq
    have := hg z hz
    have h9 : T.getD (z.1 / 2).toNat false = M.getD (z.1 / 2).toNat false := by simpa using this
    rw [out_even h0 hz, ← h9, a.a z hz, k1, k2]
    simp
end
end Go.Proofs.Ytbgdhfnfbahdhab

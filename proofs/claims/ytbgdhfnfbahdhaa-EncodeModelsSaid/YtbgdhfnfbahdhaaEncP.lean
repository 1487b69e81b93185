/- Encode, as plain data: a circuit's gates as clauses; a model makes them true just if it is that of its own state and row. -/
import Derived.Test.YtbgdhfnfbahdhaaTrnB
namespace Go.Proofs.Ytbgdhfnfbahdhaa

/-- The formula's literal of a circuit's. -/
def litC (l : Int) : Int := if l % 2 = 1 then -(l / 2 + 1) else l / 2 + 1
def gateC (z : Tri) : List (List Int) := [[-(litC z.1), litC z.2.1], [-(litC z.1), litC z.2.2], [litC z.1, -(litC z.2.1), -(litC z.2.2)]]
def formC (zs : List Tri) : List (List Int) := [-1] :: zs.flatMap gateC
/-- A formula's literal, clause, all clauses by a model. -/
def trueC (T : List Bool) (x : Int) : Bool := T.getD (x.natAbs - 1) false == decide (0 < x)
def clauseV (T : List Bool) (xs : List Int) : Bool := xs.any (trueC T)
def holdsC (T : List Bool) (F : List (List Int)) : Bool := F.all (clauseV T)
theorem trueC_lit {T : List Bool} {l : Int} (h : 0 ≤ l) : trueC T (litC l) = litV T l := by
  unfold trueC litC litV
  by_cases h2 : l % 2 = 1
  · rw [if_pos h2, show (-(l / 2 + 1)).natAbs - 1 = (l / 2).toNat by omega, decide_eq_false (by omega)]
    cases T.getD (l / 2).toNat false <;> simp [h2]
  · rw [if_neg h2, show (l / 2 + 1).natAbs - 1 = (l / 2).toNat by omega, decide_eq_true (by omega)]
    cases T.getD (l / 2).toNat false <;> simp [h2]
theorem trueC_neg {T : List Bool} {l : Int} (h : 0 ≤ l) : trueC T (-(litC l)) = !litV T l := by
  rw [← trueC_lit h]
  have h1 : litC l ≠ 0 := by unfold litC; split <;> omega
  unfold trueC
  rw [Int.natAbs_neg]
  by_cases h2 : 0 < litC l
  · rw [decide_eq_true h2, decide_eq_false (by omega)]
    cases T.getD ((litC l).natAbs - 1) false <;> rfl
  · rw [decide_eq_false h2, decide_eq_true (by omega)]
    cases T.getD ((litC l).natAbs - 1) false <;> rfl
theorem gateC_holds {T : List Bool} {z : Tri} (h : 0 ≤ z.1 ∧ 0 ≤ z.2.1 ∧ 0 ≤ z.2.2) : (gateC z).all (clauseV T) = (litV T z.1 == (litV T z.2.1 && litV T z.2.2)) := by
  simp only [gateC, clauseV, List.all_cons, List.all_nil, List.any_cons, List.any_nil, trueC_lit h.1, trueC_lit h.2.1, trueC_lit h.2.2, trueC_neg h.1, trueC_neg h.2.1, trueC_neg h.2.2]
  cases litV T z.1 <;> cases litV T z.2.1 <;> cases litV T z.2.2 <;> rfl
theorem formC_holds {T : List Bool} {zs : List Tri} (h : ∀ z ∈ zs, 0 ≤ z.1 ∧ 0 ≤ z.2.1 ∧ 0 ≤ z.2.2) : holdsC T (formC zs) = (!T.getD 0 false && zs.all fun z => litV T z.1 == (litV T z.2.1 && litV T z.2.2)) := by
  have key : ∀ ys : List Tri, (∀ z ∈ ys, 0 ≤ z.1 ∧ 0 ≤ z.2.1 ∧ 0 ≤ z.2.2) → (ys.flatMap gateC).all (clauseV T) = ys.all fun z => litV T z.1 == (litV T z.2.1 && litV T z.2.2) := by
    intro ys
    induction ys with
    | nil => intro _; rfl
    | cons a r ih =>
      intro hy
      rw [List.flatMap_cons, List.all_append, gateC_holds (hy a (by simp)), List.all_cons, ih (fun z hz => hy z (by simp [hz]))]
  unfold holdsC formC
  rw [List.all_cons, key zs h]
  have : clauseV T [-1] = !T.getD 0 false := by
    simp only [clauseV, trueC, List.any_cons, List.any_nil, Bool.or_false]
    rw [show ((-1 : Int).natAbs - 1) = 0 by decide, show decide ((0 : Int) < -1) = false by decide]
    cases T.getD 0 false <;> rfl
  rw [this]
/-- The literals of a formula are in their range. -/
def WfC (n : Nat) (F : List (List Int)) : Prop := ∀ xs ∈ F, xs.length ≤ 3 ∧ ∀ x ∈ xs, x ≠ 0 ∧ x.natAbs ≤ n
theorem litC_in {l : Int} {n : Nat} (h : 0 ≤ l) (h2 : l / 2 < (n : Int)) : litC l ≠ 0 ∧ (litC l).natAbs ≤ n ∧ -(litC l) ≠ 0 ∧ (-(litC l)).natAbs ≤ n := by
  unfold litC; split <;> omega
theorem formC_wf {zs : List Tri} {n : Nat} (hn : 0 < n) (h : ∀ z ∈ zs, (0 ≤ z.1 ∧ z.1 / 2 < (n : Int)) ∧ (0 ≤ z.2.1 ∧ z.2.1 / 2 < (n : Int)) ∧ 0 ≤ z.2.2 ∧ z.2.2 / 2 < (n : Int)) : WfC n (formC zs) := by
  intro xs hx
  unfold formC at hx
  rcases List.mem_cons.1 hx with rfl | hx
  · refine ⟨by simp, fun x hx => ?_⟩
    have : x = -1 := by simpa using hx
    subst this
    exact ⟨by decide, by show 1 ≤ n; omega⟩
  · obtain ⟨z, hz, hm⟩ := List.mem_flatMap.1 hx
    obtain ⟨h1, h2, h3⟩ := h z hz
    obtain ⟨a1, a2, a3, a4⟩ := litC_in h1.1 h1.2
    obtain ⟨b1, b2, b3, b4⟩ := litC_in h2.1 h2.2
    obtain ⟨c1, c2, c3, c4⟩ := litC_in h3.1 h3.2
    simp only [gateC, List.mem_cons, List.not_mem_nil, or_false] at hm
    rcases hm with rfl | rfl | rfl
    all_goals refine ⟨by simp, fun x hx => ?_⟩
    all_goals simp only [List.mem_cons, List.not_mem_nil, or_false] at hx
    · rcases hx with rfl | rfl <;> exact ⟨by assumption, by assumption⟩
    · rcases hx with rfl | rfl <;> exact ⟨by assumption, by assumption⟩
    · rcases hx with rfl | rfl | rfl <;> exact ⟨by assumption, by assumption⟩
theorem formC_len (zs : List Tri) : (formC zs).length = 1 + 3 * zs.length := by
  have key : ∀ ys : List Tri, (ys.flatMap gateC).length = 3 * ys.length := by
    intro ys
    induction ys with
    | nil => rfl
    | cons a r ih => rw [List.flatMap_cons, List.length_append, ih, List.length_cons]; simp only [gateC, List.length_cons, List.length_nil]; omega
  unfold formC
  rw [List.length_cons, key]; omega
theorem formC_snoc (zs : List Tri) (z : Tri) : formC (zs ++ [z]) = formC zs ++ [[-(litC z.1), litC z.2.1], [-(litC z.1), litC z.2.2], [litC z.1, -(litC z.2.1), -(litC z.2.2)]] := by
  unfold formC
  rw [List.flatMap_append]
  simp [gateC]

/-- What a model says of state and row. -/
def mdlE (C : Circ) (M : List Bool) : Int := if (checkR C).2 = 0 then (if M.length = C.max.toNat + 1 then 0 else 4) else (checkR C).2
def mdlS (C : Circ) (M : List Bool) : List Bool := C.latches.map fun z => M.getD (z.1 / 2).toNat false
def mdlR (C : Circ) (M : List Bool) : List Bool := C.inputs.map fun l => M.getD (l / 2).toNat false
theorem mdlS_len (C : Circ) (M : List Bool) : (mdlS C M).length = C.latches.length := by simp [mdlS]
theorem mdlR_len (C : Circ) (M : List Bool) : (mdlR C M).length = C.inputs.length := by simp [mdlR]

section
variable {C : Circ} {O : List Int} {st row T M : List Bool}
theorem val_zero (h0 : (checkR C).2 = 0) (a : ValOk C st row T) : T.getD 0 false = false := a.n 0 (fun hm => by
  have := ((fine_of h0).d.two _ hm).1
  omega)
theorem set_zero (h : T.getD 0 false = false) : T.set 0 false = T := by
  cases T with
  | nil => rfl
  | cons a r =>
    have : a = false := by simpa using h
    subst this; rfl
theorem step_back (a : ValOk C st row T) (h1 : st.length = C.latches.length) (h2 : row.length = C.inputs.length) : mdlS C T = st ∧ mdlR C T = row := by
  constructor
  · apply List.ext_getElem?
    intro k
    unfold mdlS
    rw [List.getElem?_map]
    by_cases hk : k < C.latches.length
    · obtain ⟨z, hz⟩ : ∃ z, C.latches[k]? = some z := ⟨_, List.getElem?_eq_getElem hk⟩
      obtain ⟨b, hb⟩ : ∃ b, st[k]? = some b := ⟨_, List.getElem?_eq_getElem (by omega)⟩
      rw [hz, hb, Option.map_some, a.l k z b hz hb]
    · rw [List.getElem?_eq_none (by omega), List.getElem?_eq_none (by omega)]; rfl
  · apply List.ext_getElem?
    intro k
    unfold mdlR
    rw [List.getElem?_map]
    by_cases hk : k < C.inputs.length
    · obtain ⟨z, hz⟩ : ∃ z, C.inputs[k]? = some z := ⟨_, List.getElem?_eq_getElem hk⟩
      obtain ⟨b, hb⟩ : ∃ b, row[k]? = some b := ⟨_, List.getElem?_eq_getElem (by omega)⟩
      rw [hz, hb, Option.map_some, a.i k z b hz hb]
    · rw [List.getElem?_eq_none (by omega), List.getElem?_eq_none (by omega)]; rfl
theorem ands_nn (h0 : (checkR C).2 = 0) : ∀ z ∈ C.ands, 0 ≤ z.1 ∧ 0 ≤ z.2.1 ∧ 0 ≤ z.2.2 := fun z hz => by
  have h1 := (fine_of h0).u.a z hz
  have h2 := (fine_of h0).d.two z.1 (by unfold defsL; exact List.mem_append_right _ (List.mem_map.2 ⟨z, hz, rfl⟩))
  exact ⟨by omega, h1.1.1, h1.2.1⟩
theorem out_even (h0 : (checkR C).2 = 0) {z : Tri} (hz : z ∈ C.ands) (T : List Bool) : litV T z.1 = T.getD (z.1 / 2).toNat false := by
  have h2 := (fine_of h0).d.two z.1 (by unfold defsL; exact List.mem_append_right _ (List.mem_map.2 ⟨z, hz, rfl⟩))
  unfold litV
  rw [h2.2.1]
  cases T.getD (z.1 / 2).toNat false <;> rfl
/-- The values of a step make the formula of any of the gates true. -/
theorem vals_hold (h0 : (checkR C).2 = 0) (a : ValOk C st row T) {zs : List Tri} (hs : ∀ z ∈ zs, z ∈ C.ands) : holdsC T (formC zs) = true := by
  rw [formC_holds (fun z hz => ands_nn h0 z (hs z hz)), val_zero h0 a]
  rw [Bool.not_false, Bool.true_and, List.all_eq_true]
  intro z hz
  rw [out_even h0 (hs z hz), a.a z (hs z hz)]
  simp
end
end Go.Proofs.Ytbgdhfnfbahdhaa

/- Hash: plain data: a circuit in the binary order is right; a circuit built anew: what it means, and that it stays as it is. -/
import Derived.Test.YtbeaicmjohlboabHshP
import Derived.Test.YtbeaicmjohlboabTrnB
namespace Go.Proofs.Ytbeaicmjohlboab
open Go.RowKit

/-- A circuit whose variables come one by one, and whose gates use earlier ones alone. -/
structure Seq (X : Circ) : Prop where
  d : ∀ (k : Nat) (l : Int), (defsL X)[k]? = some l → l = 2 * ((k : Int) + 1)
  m : X.max = ((X.inputs.length + X.latches.length + X.ands.length : Nat) : Int)
  m1 : X.max ≤ 16384
  r : ∀ z ∈ X.latches, (0 ≤ z.2.1 ∧ z.2.1 / 2 ≤ X.max) ∧ (z.2.2 = 0 ∨ z.2.2 = 1 ∨ z.2.2 = z.1)
  o : ∀ l ∈ X.outputs, LitOk X l
  b : ∀ l ∈ X.bads, LitOk X l
  c : ∀ l ∈ X.constraints, LitOk X l
  j : ∀ zs ∈ X.justice, ∀ l ∈ zs, LitOk X l
  f : ∀ l ∈ X.fairness, LitOk X l
  a : ∀ (k : Nat) (z : Tri), X.ands[k]? = some z → 0 ≤ z.2.2 ∧ z.2.2 ≤ z.2.1 ∧ z.2.1 < z.1
  sz : ∀ x ∈ sizesL X, x ≤ 16384
  sy : (symR X).2 = 0
  co : (commR X).2 = 0
theorem Seq.dlen {X : Circ} : (defsL X).length = X.inputs.length + X.latches.length + X.ands.length := by simp [defsL]; omega
section
variable {X : Circ} (h : Seq X)
include h
theorem Seq.mem {l : Int} : l ∈ defsL X ↔ ∃ k : Nat, k < X.inputs.length + X.latches.length + X.ands.length ∧ l = 2 * ((k : Int) + 1) := by
  constructor
  · intro hl
    obtain ⟨k, hk⟩ := List.getElem?_of_mem hl
    have := (List.getElem?_eq_some_iff.1 hk).1
    rw [Seq.dlen] at this
    exact ⟨k, this, h.d k l hk⟩
  · rintro ⟨k, hk, rfl⟩
    obtain ⟨x, hx⟩ : ∃ x, (defsL X)[k]? = some x := ⟨_, List.getElem?_eq_getElem (by rw [Seq.dlen]; exact hk)⟩
    rw [← h.d k x hx]
    exact List.mem_of_getElem? hx
theorem Seq.use {l : Int} (hl : LitOk X l) : UseL X l := by
  refine ⟨hl.1, hl.2, ?_⟩
  by_cases h2 : l < 2
  · exact .inl h2
  · refine .inr (h.mem.2 ⟨(l / 2 - 1).toNat, ?_, by omega⟩)
    have := hl.2
    rw [h.m] at this
    omega
theorem Seq.at_ {k : Nat} {z : Tri} (hz : X.ands[k]? = some z) : z.1 = 2 * (((X.inputs.length + X.latches.length + k : Nat) : Int) + 1) := by
  refine h.d (X.inputs.length + X.latches.length + k) z.1 ?_
  unfold defsL
  rw [List.getElem?_append_right (by simp), List.getElem?_map]
  simp [show X.inputs.length + X.latches.length + k - (X.inputs.length + X.latches.length) = k by omega, hz]
theorem Seq.lit {k : Nat} {z : Tri} (hz : X.ands[k]? = some z) : LitOk X z.2.1 ∧ LitOk X z.2.2 := by
  have h1 := h.at_ hz
  have h2 := h.a k z hz
  have hk := (List.getElem?_eq_some_iff.1 hz).1
  have := h.m
  unfold LitOk
  omega
theorem Seq.fine : Fine X := by
  have m0 : 0 ≤ X.max := by rw [h.m]; omega
  have hr : ∀ z ∈ X.latches, resetE z = 0 := fun z hz => by
    unfold resetE
    have := (h.r z hz).2
    rw [if_neg]
    rintro ⟨a, b, c⟩
    rcases this with e | e | e
    · exact a e
    · exact b e
    · exact c e
  have two : ∀ l ∈ defsL X, 2 ≤ l ∧ l % 2 = 0 ∧ l / 2 ≤ X.max := fun l hl => by
    obtain ⟨k, hk, rfl⟩ := h.mem.1 hl
    have := h.m
    omega
  have nd : (defsL X).Nodup := by
    refine List.pairwise_iff_getElem.2 fun i j hi hj hij e => ?_
    have h1 := h.d i _ (List.getElem?_eq_getElem hi)
    have h2 := h.d j _ (List.getElem?_eq_getElem hj)
    rw [e] at h1
    omega
  refine ⟨m0, h.m1, defd_of m0 (defd_conv m0 hr two nd), ⟨fun z hz => h.use (h.r z hz).1, fun l hl => h.use (h.o l hl), fun l hl => h.use (h.b l hl), fun l hl => h.use (h.c l hl), fun zs hz l hl => h.use (h.j zs hz l hl), fun l hl => h.use (h.f l hl), fun z hz => ?_⟩, hr⟩
  obtain ⟨k, hk⟩ := List.getElem?_of_mem hz
  exact ⟨h.use (h.lit hk).1, h.use (h.lit hk).2⟩
theorem Seq.edge (x y : Int) (hx : InR (usesC X).length x) (hE : Edge (usesC X) x y) : 0 ≤ y ∧ y < x := by
  have hf := h.fine
  rw [usesC_len] at hx
  unfold InR at hx
  obtain ⟨z, hz⟩ : ∃ z, X.ands[x.toNat]? = some z := ⟨_, List.getElem?_eq_getElem (by omega)⟩
  obtain ⟨hy, hE⟩ := hE
  have hget : (usesC X).getD x.toNat (-1, -1) = useOf (gateOf X) z := by
    unfold usesC
    simp only [List.getD_eq_getElem?_getD, List.getElem?_map, hz]
    rfl
  rw [hget] at hE
  have h1 := h.at_ hz
  have h2 := h.a _ z hz
  have hl := h.lit hz
  have key : ∀ l : Int, LitOk X l → l < z.1 → (gateOf X).getD (l / 2).toNat 0 = y → 0 ≤ y ∧ y < x := fun l hul hlt he => by
    obtain ⟨g1, g2⟩ := gateOf_get hf.m0 hf.d
    by_cases hm : 2 * (((l / 2).toNat : Nat) : Int) ∈ X.ands.map (·.1)
    · obtain ⟨z', hz', e'⟩ := List.mem_map.1 hm
      obtain ⟨j, hj⟩ := List.getElem?_of_mem hz'
      have := g1 j z' hj
      rw [e', show (2 * (((l / 2).toNat : Nat) : Int) / 2).toNat = (l / 2).toNat by omega, he] at this
      have e3 := h.at_ hj
      have := hul.1
      omega
    · have := g2 (l / 2).toNat (by have := hul.1; have := hul.2; omega) hm
      rw [he] at this
      exact absurd this hy
  rcases hE with hE | hE
  · exact key z.2.1 hl.1 (by omega) hE
  · exact key z.2.2 hl.2 (by omega) hE
theorem Seq.check : (checkR X).2 = 0 := by
  have hfX := h.fine
  have e1 : sizesE X = 0 := sizesE_ok (by have := hfX.m0; have := hfX.m1; omega) h.sz
  have hr := hfX.r
  have e2 : (defR X (tab0 X.max.toNat)).1.2 = 0 := defd_conv hfX.m0 hfX.r hfX.d.two hfX.d.nd
  have e3 := used_conv hfX.m0 hfX.d hfX.u
  have hfit : ∀ z ∈ X.ands, FitT X.max z := fun z hz => by
    have := hfX.u.a z hz
    have h1 := hfX.d.two z.1 (List.mem_append_right _ (List.mem_map.2 ⟨z, hz, rfl⟩))
    exact ⟨⟨by omega, h1.2.2⟩, ⟨this.1.1, this.1.2.1⟩, ⟨this.2.1, this.2.2.1⟩⟩
  have hnA : X.ands.length ≤ 16384 := by
    have := h.sz (X.ands.length : Int) (by simp [sizesL])
    omega
  have e4 : firstF (usesC X) = -1 := firstF_none (usesC_ok hfX.m0 hfit) (by rw [usesC_len]; exact hnA) (fun x y hx hE => h.edge x y hx hE)
  unfold checkR
  rw [if_neg (by simp [e1]), if_neg (by simp [e2]), if_neg (by simp [e3]), if_neg (by simp [e4]), if_neg (by simp [h.sy])]
  exact h.co
theorem Seq.ord : IsOrd X (intRange X.ands.length) := ⟨greedy_id (fun x y hx hE => h.edge x y hx hE) _ (by rw [usesC_len]; exact Nat.le_refl _), len_intRange _⟩
/-- What its values are. -/
theorem Seq.sem {st row T : List Bool} (hv : ValOk X st row T) : T.getD 0 false = false ∧ ∀ (k : Nat) (z : Tri), X.ands[k]? = some z → T.getD (X.inputs.length + X.latches.length + k + 1) false = (litV T z.2.1 && litV T z.2.2) := by
  refine ⟨hv.n 0 (fun hm => ?_), fun k z hz => ?_⟩
  · obtain ⟨k, _, e⟩ := h.mem.1 hm
    omega
  · have h1 := h.at_ hz
    have := hv.a z (List.mem_of_getElem? hz)
    rwa [show (z.1 / 2).toNat = X.inputs.length + X.latches.length + k + 1 by omega] at this
end

/-! Built anew. -/
def Bd.tris (b : Bd) : List Tri := (List.range b.g.length).map fun k => (b.out k, b.g.getD k (0, 0))
theorem tris_len (b : Bd) : b.tris.length = b.g.length := by simp [Bd.tris]
theorem tris_at {b : Bd} {k : Nat} {z : Tri} : b.tris[k]? = some z ↔ ∃ p, b.g[k]? = some p ∧ z = (b.out k, p) := by
  unfold Bd.tris
  rw [List.getElem?_map]
  by_cases hk : k < b.g.length
  · rw [List.getElem?_range hk, List.getElem?_eq_getElem hk]
    simp [List.getD_eq_getElem?_getD, hk]
    exact eq_comm
  · simp [hk]
section
variable {C : Circ} {O : List Int}
end
/-! Built again. -/
end Go.Proofs.Ytbeaicmjohlboab

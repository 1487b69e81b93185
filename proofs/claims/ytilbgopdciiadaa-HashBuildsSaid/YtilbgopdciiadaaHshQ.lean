/- Hash: plain data: a circuit in the binary order is right; a circuit built anew: what it means, and that it stays as it is. -/
import Derived.Test.YtilbgopdciiadaaHshP
import Derived.Test.YtilbgopdciiadaaTrnB
namespace Go.Proofs.Ytilbgopdciiadaa
open Go.RowKit

/-- A circuit whose variables come one by one, and whose gates use earlier ones alone. -/
structure Seq (X : Circ) : Prop where
  d : ∀ (k : Nat) (l : Int), (defsL X)[k]? = some l → l = 2 * ((k : Int) + 1)
  m : X.max = ((X.inputs.length + X.latches.length + X.ands.length : Nat) : Int)
  m1 : X.max ≤ 16384
  r : ∀ z ∈ X.latches, (0 ≤ z.2.1 ∧ z.2.1 / 2 ≤ X.max) ∧ (z.2.2 = 0 ∨ z.2.2 = 1 ∨ z.2.2 = z.1)
  o : ∀ l ∈ X.outputs, LitOk X l
  b : ∀ l ∈ X.bads, LitOk X l
  c : ∀ l ∈ X.constraints, LitOk X l
  j : ∀ zs ∈ X.justice, ∀ l ∈ zs, LitOk X l
  f : ∀ l ∈ X.fairness, LitOk X l
  a : ∀ (k : Nat) (z : Tri), X.ands[k]? = some z → 0 ≤ z.2.2 ∧ z.2.2 ≤ z.2.1 ∧ z.2.1 < z.1
  sz : ∀ x ∈ sizesL X, x ≤ 16384
  sy : (symR X).2 = 0
  co : (commR X).2 = 0
theorem Seq.dlen {X : Circ} : (defsL X).length = X.inputs.length + X.latches.length + X.ands.length := by simp [defsL]; omega
section
variable {X : Circ} (h : Seq X)
include h
theorem Seq.mem {l : Int} : l ∈ defsL X ↔ ∃ k : Nat, k < X.inputs.length + X.latches.length + X.ands.length ∧ l = 2 * ((k : Int) + 1) := by
  constructor
  · intro hl
    obtain ⟨k, hk⟩ := List.getElem?_of_mem hl
    have := (List.getElem?_eq_some_iff.1 hk).1
    rw [Seq.dlen] at this
    exact ⟨k, this, h.d k l hk⟩
  · rintro ⟨k, hk, rfl⟩
    obtain ⟨x, hx⟩ : ∃ x, (defsL X)[k]? = some x := ⟨_, List.getElem?_eq_getElem (by rw [Seq.dlen]; exact hk)⟩
    rw [← h.d k x hx]
    exact List.mem_of_getElem? hx
theorem Seq.at_ {k : Nat} {z : Tri} (hz : X.ands[k]? = some z) : z.1 = 2 * (((X.inputs.length + X.latches.length + k : Nat) : Int) + 1) := by
  refine h.d (X.inputs.length + X.latches.length + k) z.1 ?_
  unfold defsL
  rw [List.getElem?_append_right (by simp), List.getElem?_map]
  simp [show X.inputs.length + X.latches.length + k - (X.inputs.length + X.latches.length) = k by omega, hz]
theorem Seq.lat {k : Nat} {z : Tri} (hz : X.latches[k]? = some z) : z.1 = 2 * (((X.inputs.length + k : Nat) : Int) + 1) := by
  refine h.d (X.inputs.length + k) z.1 ?_
  have hkl := (List.getElem?_eq_some_iff.1 hz).1
  unfold defsL
  rw [List.append_assoc, List.getElem?_append_right (by omega), List.getElem?_append_left (by rw [List.length_map]; omega), show X.inputs.length + k - X.inputs.length = k by omega, List.getElem?_map, hz]
  rfl
theorem Seq.lit {k : Nat} {z : Tri} (hz : X.ands[k]? = some z) : LitOk X z.2.1 ∧ LitOk X z.2.2 := by
  have h1 := h.at_ hz
  have h2 := h.a k z hz
  have hk := (List.getElem?_eq_some_iff.1 hz).1
  have := h.m
  unfold LitOk
  omega
end

/-! Built anew. -/
def mvX (M : List Int) (l : Int) : Int := if l % 2 = 0 then M.getD (l / 2).toNat 0 else neg (M.getD (l / 2).toNat 0)
def tell1 (C : Circ) (s : Bd × List Int) (g : Int) : Bd × List Int :=
  ((s.1.and_ (mvX s.2 (C.ands.getD g.toNat (0, 0, 0)).2.1) (mvX s.2 (C.ands.getD g.toNat (0, 0, 0)).2.2)).2, s.2.set (outG C g / 2).toNat (s.1.and_ (mvX s.2 (C.ands.getD g.toNat (0, 0, 0)).2.1) (mvX s.2 (C.ands.getD g.toNat (0, 0, 0)).2.2)).1.1)
def mapL (C : Circ) : List Int := (numF (C.inputs ++ C.latches.map (·.1)) (0, List.replicate (C.max.toNat + 1) 0)).2
def bd0 (C : Circ) : Bd := ⟨C.inputs.length, C.latches.length, []⟩
def tellG (C : Circ) (gs : List Int) : Bd × List Int := gs.foldl (tell1 C) (bd0 C, mapL C)
def Bd.tris (b : Bd) : List Tri := (List.range b.g.length).map fun k => (b.out k, b.g.getD k (0, 0))
def bldC (C : Circ) (b : Bd) (M : List Int) : Circ :=
  { max := (b.last : Int), inputs := C.inputs.map (mvX M), latches := C.latches.map (fun z => (mvX M z.1, mvX M z.2.1, mvX M z.2.2)), outputs := C.outputs.map (mvX M), bads := C.bads.map (mvX M), constraints := C.constraints.map (mvX M),
    justice := C.justice.map (fun zs => zs.map (mvX M)), fairness := C.fairness.map (mvX M), ands := b.tris, symbols := C.symbols, comments := C.comments }
theorem tris_len (b : Bd) : b.tris.length = b.g.length := by simp [Bd.tris]
theorem tris_at {b : Bd} {k : Nat} {z : Tri} : b.tris[k]? = some z ↔ ∃ p, b.g[k]? = some p ∧ z = (b.out k, p) := by
  unfold Bd.tris
  rw [List.getElem?_map]
  by_cases hk : k < b.g.length
  · rw [List.getElem?_range hk, List.getElem?_eq_getElem hk]
    simp [List.getD_eq_getElem?_getD, hk]
    exact eq_comm
  · simp [hk]
theorem mvX_has {b : Bd} {M : List Int} (hM : ∀ v, b.has (M.getD v 0) = true) (l : Int) : b.has (mvX M l) = true := by
  unfold mvX
  split
  · exact hM _
  · rw [has_neg]; exact hM _
theorem tellG_snoc (C : Circ) (gs : List Int) (g : Int) : tellG C (gs ++ [g]) = tell1 C (tellG C gs) g := by simp [tellG, List.foldl_append]
structure TellI (C : Circ) (gs : List Int) (s : Bd × List Int) : Prop where
  ok : s.1.Ok
  i : s.1.i = C.inputs.length
  l : s.1.l = C.latches.length
  len : s.2.length = C.max.toNat + 1
  glen : s.1.g.length ≤ gs.length
  has : ∀ v, s.1.has (s.2.getD v 0) = true
  far : ∀ v, (∀ g ∈ gs, (outG C g / 2).toNat ≠ v) → s.2.getD v 0 = (mapL C).getD v 0
theorem numF_len2 : ∀ (ls : List Int) (st : Int × List Int), (numF ls st).2.length = st.2.length
  | [], _ => rfl
  | l :: r, st => by
    show (numF r (st.1 + 2, st.2.set (l / 2).toNat (st.1 + 2))).2.length = _
    rw [numF_len2 r]; simp
section
variable {C : Circ} {O : List Int}
theorem mapL_len : (mapL C).length = C.max.toNat + 1 := by unfold mapL; rw [numF_len2]; simp
theorem headL_two (hf : Fine C) : ∀ l ∈ C.inputs ++ C.latches.map (·.1), 0 ≤ l ∧ l % 2 = 0 ∧ l / 2 < ((List.replicate (C.max.toNat + 1) (0 : Int)).length : Int) := fun l hl => by
  have := hf.d.two l (List.mem_append_left _ hl)
  simp
  omega
theorem headL_nd (hf : Fine C) : (C.inputs ++ C.latches.map (·.1)).Nodup := by
  have := hf.d.nd
  unfold defsL at this
  exact (List.nodup_append.1 this).1
theorem mapL_get (hf : Fine C) {k : Nat} {l : Int} (hk : (C.inputs ++ C.latches.map (·.1))[k]? = some l) : (mapL C).getD (l / 2).toNat 0 = 2 * ((k : Int) + 1) := by
  have := (numF_get _ (0, List.replicate (C.max.toNat + 1) 0) (headL_two hf) (headL_nd hf)).1 k l hk
  unfold mapL
  rw [this]
  simp
theorem mapL_no (hf : Fine C) {v : Nat} (hv : 2 * (v : Int) ∉ C.inputs ++ C.latches.map (·.1)) : (mapL C).getD v 0 = 0 := by
  have := (numF_get _ (0, List.replicate (C.max.toNat + 1) 0) (headL_two hf) (headL_nd hf)).2 v hv
  unfold mapL
  rw [this]
  simp only [List.getD_eq_getElem?_getD, List.getElem?_replicate]
  split <;> rfl
theorem defs_le (hf : Fine C) (hO : IsOrd C O) : ((C.inputs.length + C.latches.length + C.ands.length : Nat) : Int) ≤ C.max := by
  have hp := ord_perm hO
  have hN := newL_of hf hp
  have := ren_max_le hf hN
  have e : (renC C O).max = (C.inputs.length : Int) + C.latches.length + C.ands.length := rfl
  rw [e] at this
  push_cast
  exact this
theorem tell0_i (hf : Fine C) (hO : IsOrd C O) : TellI C [] (tellG C []) := by
  have hle := defs_le hf hO
  have hm1 := hf.m1
  refine ⟨⟨?_, by simp [tellG, bd0], by simp [tellG, bd0]⟩, rfl, rfl, mapL_len, by simp [tellG, bd0], fun v => ?_, fun v _ => rfl⟩
  · simp [tellG, bd0, Bd.last]
    omega
  · rw [has_iff]
    show 0 ≤ (mapL C).getD v 0 ∧ (mapL C).getD v 0 ≤ 2 * (((bd0 C).last : Nat) : Int) + 1
    by_cases hv : 2 * (v : Int) ∈ C.inputs ++ C.latches.map (·.1)
    · obtain ⟨k, hk⟩ := List.getElem?_of_mem hv
      have h1 := mapL_get hf hk
      have h2 := (List.getElem?_eq_some_iff.1 hk).1
      rw [show (2 * (v : Int) / 2).toNat = v by omega] at h1
      rw [h1]
      simp at h2
      simp [bd0, Bd.last]
      omega
    · rw [mapL_no hf hv]
      omega
theorem tell1_i (hf : Fine C) (hO : IsOrd C O) {gs : List Int} {g : Int} {s : Bd × List Int} (h : TellI C gs s) (hg : gs.length < C.ands.length) :
    AndS s.1 (s.1.and_ (mvX s.2 (C.ands.getD g.toNat (0, 0, 0)).2.1) (mvX s.2 (C.ands.getD g.toNat (0, 0, 0)).2.2)) ∧ (s.1.and_ (mvX s.2 (C.ands.getD g.toNat (0, 0, 0)).2.1) (mvX s.2 (C.ands.getD g.toNat (0, 0, 0)).2.2)).1.2 = 0 ∧ TellI C (gs ++ [g]) (tell1 C s g) := by
  have hs := and_spec h.ok (mvX_has h.has (C.ands.getD g.toNat (0, 0, 0)).2.1) (mvX_has h.has (C.ands.getD g.toNat (0, 0, 0)).2.2)
  have hle := defs_le hf hO
  have hm1 := hf.m1
  have he : (s.1.and_ (mvX s.2 (C.ands.getD g.toNat (0, 0, 0)).2.1) (mvX s.2 (C.ands.getD g.toNat (0, 0, 0)).2.2)).1.2 = 0 := by
    rcases hs.err with ⟨e, _⟩ | ⟨_, _, _, e⟩
    · exact e
    · unfold Bd.last at e
      rw [h.i, h.l] at e
      have := h.glen
      omega
  refine ⟨hs, he, ?_⟩
  unfold tell1
  generalize s.1.and_ (mvX s.2 (C.ands.getD g.toNat (0, 0, 0)).2.1) (mvX s.2 (C.ands.getD g.toNat (0, 0, 0)).2.2) = r at *
  refine ⟨hs.ok, hs.i.trans h.i, hs.l.trans h.l, by simp [h.len], by have := hs.len; have := h.glen; simp; omega, fun v => ?_, fun v hv => ?_⟩
  · show r.2.has ((s.2.set (outG C g / 2).toNat r.1.1).getD v 0) = true
    by_cases e : (outG C g / 2).toNat = v
    · by_cases hv : v < s.2.length
      · subst e
        rw [set3_at hv]
        rcases hs.err with ⟨_, q⟩ | ⟨q, _⟩
        · exact q
        · omega
      · rw [show (s.2.set (outG C g / 2).toNat r.1.1).getD v 0 = 0 by simp [List.getD_eq_getElem?_getD, List.getElem?_eq_none (show (s.2.set (outG C g / 2).toNat r.1.1).length ≤ v by simp; omega)], has_iff]
        omega
    · rw [set3_far e]
      exact hs.has (h.has v)
  · show (s.2.set (outG C g / 2).toNat r.1.1).getD v 0 = _
    rw [set3_far (hv g (by simp))]
    exact h.far v fun g' hg' => hv g' (by simp [hg'])
theorem tellG_i (hf : Fine C) (hO : IsOrd C O) : ∀ k, k ≤ O.length → TellI C (O.take k) (tellG C (O.take k))
  | 0, _ => tell0_i hf hO
  | k + 1, hk => by
    obtain ⟨g, hg⟩ : ∃ g, O[k]? = some g := ⟨_, List.getElem?_eq_getElem (by omega)⟩
    have e : O.take (k + 1) = O.take k ++ [g] := by rw [List.take_add_one, hg]; rfl
    rw [e, tellG_snoc]
    exact (tell1_i hf hO (tellG_i hf hO k (by omega)) (by rw [List.length_take]; have := hO.l; omega)).2.2
def bldB (C : Circ) (O : List Int) : Bd := (tellG C O).1
def bldM (C : Circ) (O : List Int) : List Int := (tellG C O).2
def bldX (C : Circ) (O : List Int) : Circ := bldC C (bldB C O) (bldM C O)
theorem tellI_of (hf : Fine C) (hO : IsOrd C O) : TellI C O (bldB C O, bldM C O) := by
  have := tellG_i hf hO O.length (Nat.le_refl _)
  rwa [List.take_length] at this
theorem outs_ne (hf : Fine C) (hO : IsOrd C O) {l : Int} (hl : l ∈ C.inputs ++ C.latches.map (·.1)) {g : Int} (hg : g ∈ O) : (outG C g / 2).toNat ≠ (l / 2).toNat := fun e => by
  have hr := hO.inR g hg
  obtain ⟨z, hz⟩ : ∃ z, C.ands[g.toNat]? = some z := ⟨_, List.getElem?_eq_getElem (by omega)⟩
  have hzo : outG C g = z.1 := by unfold outG; simp [List.getD_eq_getElem?_getD, hz]
  have hzm : z.1 ∈ C.ands.map (·.1) := List.mem_map.2 ⟨z, List.mem_of_getElem? hz, rfl⟩
  have h1 := hf.d.two l (List.mem_append_left _ hl)
  have h2 := hf.d.two z.1 (List.mem_append_right _ hzm)
  have h3 := hf.d.nd
  unfold defsL at h3
  rw [hzo] at e
  exact (List.nodup_append.1 h3).2.2 l hl z.1 hzm (by omega)
theorem bldM_head (hf : Fine C) (hO : IsOrd C O) {k : Nat} {l : Int} (hk : (C.inputs ++ C.latches.map (·.1))[k]? = some l) : mvX (bldM C O) l = 2 * ((k : Int) + 1) := by
  have hi := tellI_of hf hO
  have h2 := hf.d.two l (List.mem_append_left _ (List.mem_of_getElem? hk))
  unfold mvX
  rw [if_pos h2.2.1]
  have := hi.far (l / 2).toNat fun g hg => outs_ne hf hO (List.mem_of_getElem? hk) hg
  simp only at this
  rw [this, mapL_get hf hk]
theorem outs_two (hf : Fine C) (hO : IsOrd C O) {g : Int} (hg : g ∈ O) : 2 ≤ outG C g ∧ outG C g % 2 = 0 ∧ outG C g / 2 ≤ C.max := by
  have hr := hO.inR g hg
  obtain ⟨z, hz⟩ : ∃ z, C.ands[g.toNat]? = some z := ⟨_, List.getElem?_eq_getElem (by omega)⟩
  have hzo : outG C g = z.1 := by unfold outG; simp [List.getD_eq_getElem?_getD, hz]
  rw [hzo]
  exact hf.d.two z.1 (List.mem_append_right _ (List.mem_map.2 ⟨z, List.mem_of_getElem? hz, rfl⟩))
theorem bldM_zero (hf : Fine C) (hO : IsOrd C O) : (bldM C O).getD 0 0 = 0 := by
  have hi := tellI_of hf hO
  have := hi.far 0 fun g hg => by have := outs_two hf hO hg; omega
  simp only at this
  rw [this]
  exact mapL_no hf (fun hm => by have := hf.d.two _ (List.mem_append_left _ hm); omega)
end
/-! Built again. -/
end Go.Proofs.Ytilbgopdciiadaa

/- Hash: plain data: a circuit in the binary order is right; a circuit built anew: what it means, and that it stays as it is. -/
import Derived.Test.YtahjmkdpnkffhaaHshP
import Derived.Test.YtahjmkdpnkffhaaTrnB
namespace Go.Proofs.Ytahjmkdpnkffhaa
open Go.RowKit

/-- A circuit whose variables come one by one, and whose gates use earlier ones alone. -/
structure Seq (X : Circ) : Prop where
  d : ∀ (k : Nat) (l : Int), (defsL X)[k]? = some l → l = 2 * ((k : Int) + 1)
  m : X.max = ((X.inputs.length + X.latches.length + X.ands.length : Nat) : Int)
  m1 : X.max ≤ 16384
  r : ∀ z ∈ X.latches, (0 ≤ z.2.1 ∧ z.2.1 / 2 ≤ X.max) ∧ (z.2.2 = 0 ∨ z.2.2 = 1 ∨ z.2.2 = z.1)
  o : ∀ l ∈ X.outputs, LitOk X l
  b : ∀ l ∈ X.bads, LitOk X l
  c : ∀ l ∈ X.constraints, LitOk X l
  j : ∀ zs ∈ X.justice, ∀ l ∈ zs, LitOk X l
  f : ∀ l ∈ X.fairness, LitOk X l
  a : ∀ (k : Nat) (z : Tri), X.ands[k]? = some z → 0 ≤ z.2.2 ∧ z.2.2 ≤ z.2.1 ∧ z.2.1 < z.1
  sz : ∀ x ∈ sizesL X, x ≤ 16384
  sy : (symR X).2 = 0
  co : (commR X).2 = 0
theorem Seq.dlen {X : Circ} : (defsL X).length = X.inputs.length + X.latches.length + X.ands.length := by simp [defsL]; omega
section
variable {X : Circ} (h : Seq X)
include h
theorem Seq.mem {l : Int} : l ∈ defsL X ↔ ∃ k : Nat, k < X.inputs.length + X.latches.length + X.ands.length ∧ l = 2 * ((k : Int) + 1) := by
  constructor
  · intro hl
    obtain ⟨k, hk⟩ := List.getElem?_of_mem hl
    have := (List.getElem?_eq_some_iff.1 hk).1
    rw [Seq.dlen] at this
    exact ⟨k, this, h.d k l hk⟩
  · rintro ⟨k, hk, rfl⟩
    obtain ⟨x, hx⟩ : ∃ x, (defsL X)[k]? = some x := ⟨_, List.getElem?_eq_getElem (by rw [Seq.dlen]; exact hk)⟩
    rw [← h.d k x hx]
    exact List.mem_of_getElem? hx
theorem Seq.use {l : Int} (hl : LitOk X l) : UseL X l := by
  refine ⟨hl.1, hl.2, ?_⟩
  by_cases h2 : l < 2
  · exact .inl h2
  · refine .inr (h.mem.2 ⟨(l / 2 - 1).toNat, ?_, by omega⟩)
    have := hl.2
    rw [h.m] at this
    omega
theorem Seq.at_ {k : Nat} {z : Tri} (hz : X.ands[k]? = some z) : z.1 = 2 * (((X.inputs.length + X.latches.length + k : Nat) : Int) + 1) := by
  refine h.d (X.inputs.length + X.latches.length + k) z.1 ?_
  unfold defsL
  rw [List.getElem?_append_right (by simp), List.getElem?_map]
  simp [show X.inputs.length + X.latches.length + k - (X.inputs.length + X.latches.length) = k by omega, hz]
theorem Seq.inp {k : Nat} {l : Int} (hl : X.inputs[k]? = some l) : l = 2 * ((k : Int) + 1) := by
  refine h.d k l ?_
  have hkl := (List.getElem?_eq_some_iff.1 hl).1
  unfold defsL
  rw [List.append_assoc, List.getElem?_append_left hkl, hl]
theorem Seq.lat {k : Nat} {z : Tri} (hz : X.latches[k]? = some z) : z.1 = 2 * (((X.inputs.length + k : Nat) : Int) + 1) := by
  refine h.d (X.inputs.length + k) z.1 ?_
  have hkl := (List.getElem?_eq_some_iff.1 hz).1
  unfold defsL
  rw [List.append_assoc, List.getElem?_append_right (by omega), List.getElem?_append_left (by rw [List.length_map]; omega), show X.inputs.length + k - X.inputs.length = k by omega, List.getElem?_map, hz]
  rfl
theorem Seq.lit {k : Nat} {z : Tri} (hz : X.ands[k]? = some z) : LitOk X z.2.1 ∧ LitOk X z.2.2 := by
  have h1 := h.at_ hz
  have h2 := h.a k z hz
  have hk := (List.getElem?_eq_some_iff.1 hz).1
  have := h.m
  unfold LitOk
  omega
theorem Seq.fine : Fine X := by
  have m0 : 0 ≤ X.max := by rw [h.m]; omega
  have hr : ∀ z ∈ X.latches, resetE z = 0 := fun z hz => by
    unfold resetE
    have := (h.r z hz).2
    rw [if_neg]
    rintro ⟨a, b, c⟩
    rcases this with e | e | e
    · exact a e
    · exact b e
    · exact c e
  have two : ∀ l ∈ defsL X, 2 ≤ l ∧ l % 2 = 0 ∧ l / 2 ≤ X.max := fun l hl => by
    obtain ⟨k, hk, rfl⟩ := h.mem.1 hl
    have := h.m
    omega
  have nd : (defsL X).Nodup := by
    refine List.pairwise_iff_getElem.2 fun i j hi hj hij e => ?_
    have h1 := h.d i _ (List.getElem?_eq_getElem hi)
    have h2 := h.d j _ (List.getElem?_eq_getElem hj)
    rw [e] at h1
    omega
  refine ⟨m0, h.m1, defd_of m0 (defd_conv m0 hr two nd), ⟨fun z hz => h.use (h.r z hz).1, fun l hl => h.use (h.o l hl), fun l hl => h.use (h.b l hl), fun l hl => h.use (h.c l hl), fun zs hz l hl => h.use (h.j zs hz l hl), fun l hl => h.use (h.f l hl), fun z hz => ?_⟩, hr⟩
  obtain ⟨k, hk⟩ := List.getElem?_of_mem hz
  exact ⟨h.use (h.lit hk).1, h.use (h.lit hk).2⟩
theorem Seq.edge (x y : Int) (hx : InR (usesC X).length x) (hE : Edge (usesC X) x y) : 0 ≤ y ∧ y < x := by
  have hf := h.fine
  rw [usesC_len] at hx
  unfold InR at hx
  obtain ⟨z, hz⟩ : ∃ z, X.ands[x.toNat]? = some z := ⟨_, List.getElem?_eq_getElem (by omega)⟩
  obtain ⟨hy, hE⟩ := hE
  have hget : (usesC X).getD x.toNat (-1, -1) = useOf (gateOf X) z := by
    unfold usesC
    simp only [List.getD_eq_getElem?_getD, List.getElem?_map, hz]
    rfl
  rw [hget] at hE
  have h1 := h.at_ hz
  have h2 := h.a _ z hz
  have hl := h.lit hz
  have key : ∀ l : Int, LitOk X l → l < z.1 → (gateOf X).getD (l / 2).toNat 0 = y → 0 ≤ y ∧ y < x := fun l hul hlt he => by
    obtain ⟨g1, g2⟩ := gateOf_get hf.m0 hf.d
    by_cases hm : 2 * (((l / 2).toNat : Nat) : Int) ∈ X.ands.map (·.1)
    · obtain ⟨z', hz', e'⟩ := List.mem_map.1 hm
      obtain ⟨j, hj⟩ := List.getElem?_of_mem hz'
      have := g1 j z' hj
      rw [e', show (2 * (((l / 2).toNat : Nat) : Int) / 2).toNat = (l / 2).toNat by omega, he] at this
      have e3 := h.at_ hj
      have := hul.1
      omega
    · have := g2 (l / 2).toNat (by have := hul.1; have := hul.2; omega) hm
      rw [he] at this
      exact absurd this hy
  rcases hE with hE | hE
  · exact key z.2.1 hl.1 (by omega) hE
  · exact key z.2.2 hl.2 (by omega) hE
theorem Seq.check : (checkR X).2 = 0 := by
  have hfX := h.fine
  have e1 : sizesE X = 0 := sizesE_ok (by have := hfX.m0; have := hfX.m1; omega) h.sz
  have hr := hfX.r
  have e2 : (defR X (tab0 X.max.toNat)).1.2 = 0 := defd_conv hfX.m0 hfX.r hfX.d.two hfX.d.nd
  have e3 := used_conv hfX.m0 hfX.d hfX.u
  have hfit : ∀ z ∈ X.ands, FitT X.max z := fun z hz => by
    have := hfX.u.a z hz
    have h1 := hfX.d.two z.1 (List.mem_append_right _ (List.mem_map.2 ⟨z, hz, rfl⟩))
    exact ⟨⟨by omega, h1.2.2⟩, ⟨this.1.1, this.1.2.1⟩, ⟨this.2.1, this.2.2.1⟩⟩
  have hnA : X.ands.length ≤ 16384 := by
    have := h.sz (X.ands.length : Int) (by simp [sizesL])
    omega
  have e4 : firstF (usesC X) = -1 := firstF_none (usesC_ok hfX.m0 hfit) (by rw [usesC_len]; exact hnA) (fun x y hx hE => h.edge x y hx hE)
  unfold checkR
  rw [if_neg (by simp [e1]), if_neg (by simp [e2]), if_neg (by simp [e3]), if_neg (by simp [e4]), if_neg (by simp [h.sy])]
  exact h.co
theorem Seq.ord : IsOrd X (intRange X.ands.length) := ⟨greedy_id (fun x y hx hE => h.edge x y hx hE) _ (by rw [usesC_len]; exact Nat.le_refl _), len_intRange _⟩
theorem Seq.bin : binB X = true := by
  unfold binB
  rw [follow_of _ _ (fun k l hk => by have := h.inp hk; omega), follow_of _ _ (fun k l hk => by
    rw [List.getElem?_map] at hk
    obtain ⟨z, hz, rfl⟩ := Option.map_eq_some_iff.1 hk
    have := h.lat hz
    push_cast at this
    omega), andB_of _ _ (fun k z hk => by
    have h1 := h.at_ hk
    have h2 := h.a k z hk
    push_cast at h1
    omega)]
  have := h.m
  push_cast at this
  simp
  omega
end

/-! Built anew. -/
def mvX (M : List Int) (l : Int) : Int := if l % 2 = 0 then M.getD (l / 2).toNat 0 else neg (M.getD (l / 2).toNat 0)
def tell1 (C : Circ) (s : Bd × List Int) (g : Int) : Bd × List Int :=
  ((s.1.and_ (mvX s.2 (C.ands.getD g.toNat (0, 0, 0)).2.1) (mvX s.2 (C.ands.getD g.toNat (0, 0, 0)).2.2)).2, s.2.set (outG C g / 2).toNat (s.1.and_ (mvX s.2 (C.ands.getD g.toNat (0, 0, 0)).2.1) (mvX s.2 (C.ands.getD g.toNat (0, 0, 0)).2.2)).1.1)
def mapL (C : Circ) : List Int := (numF (C.inputs ++ C.latches.map (·.1)) (0, List.replicate (C.max.toNat + 1) 0)).2
def bd0 (C : Circ) : Bd := ⟨C.inputs.length, C.latches.length, []⟩
def tellG (C : Circ) (gs : List Int) : Bd × List Int := gs.foldl (tell1 C) (bd0 C, mapL C)
def Bd.tris (b : Bd) : List Tri := (List.range b.g.length).map fun k => (b.out k, b.g.getD k (0, 0))
def bldC (C : Circ) (b : Bd) (M : List Int) : Circ :=
  { max := (b.last : Int), inputs := C.inputs.map (mvX M), latches := C.latches.map (fun z => (mvX M z.1, mvX M z.2.1, mvX M z.2.2)), outputs := C.outputs.map (mvX M), bads := C.bads.map (mvX M), constraints := C.constraints.map (mvX M),
    justice := C.justice.map (fun zs => zs.map (mvX M)), fairness := C.fairness.map (mvX M), ands := b.tris, symbols := C.symbols, comments := C.comments }
theorem tris_len (b : Bd) : b.tris.length = b.g.length := by simp [Bd.tris]
theorem tris_at {b : Bd} {k : Nat} {z : Tri} : b.tris[k]? = some z ↔ ∃ p, b.g[k]? = some p ∧ z = (b.out k, p) := by
  unfold Bd.tris
  rw [List.getElem?_map]
  by_cases hk : k < b.g.length
  · rw [List.getElem?_range hk, List.getElem?_eq_getElem hk]
    simp [List.getD_eq_getElem?_getD, hk]
    exact eq_comm
  · simp [hk]
theorem mvX_has {b : Bd} {M : List Int} (hM : ∀ v, b.has (M.getD v 0) = true) (l : Int) : b.has (mvX M l) = true := by
  unfold mvX
  split
  · exact hM _
  · rw [has_neg]; exact hM _
theorem tellG_snoc (C : Circ) (gs : List Int) (g : Int) : tellG C (gs ++ [g]) = tell1 C (tellG C gs) g := by simp [tellG, List.foldl_append]
structure TellI (C : Circ) (gs : List Int) (s : Bd × List Int) : Prop where
  ok : s.1.Ok
  i : s.1.i = C.inputs.length
  l : s.1.l = C.latches.length
  len : s.2.length = C.max.toNat + 1
  glen : s.1.g.length ≤ gs.length
  has : ∀ v, s.1.has (s.2.getD v 0) = true
  far : ∀ v, (∀ g ∈ gs, (outG C g / 2).toNat ≠ v) → s.2.getD v 0 = (mapL C).getD v 0
theorem numF_len2 : ∀ (ls : List Int) (st : Int × List Int), (numF ls st).2.length = st.2.length
  | [], _ => rfl
  | l :: r, st => by
    show (numF r (st.1 + 2, st.2.set (l / 2).toNat (st.1 + 2))).2.length = _
    rw [numF_len2 r]; simp
section
variable {C : Circ} {O : List Int}
theorem mapL_len : (mapL C).length = C.max.toNat + 1 := by unfold mapL; rw [numF_len2]; simp
theorem headL_two (hf : Fine C) : ∀ l ∈ C.inputs ++ C.latches.map (·.1), 0 ≤ l ∧ l % 2 = 0 ∧ l / 2 < ((List.replicate (C.max.toNat + 1) (0 : Int)).length : Int) := fun l hl => by
  have := hf.d.two l (List.mem_append_left _ hl)
  simp
  omega
theorem headL_nd (hf : Fine C) : (C.inputs ++ C.latches.map (·.1)).Nodup := by
  have := hf.d.nd
  unfold defsL at this
  exact (List.nodup_append.1 this).1
theorem mapL_get (hf : Fine C) {k : Nat} {l : Int} (hk : (C.inputs ++ C.latches.map (·.1))[k]? = some l) : (mapL C).getD (l / 2).toNat 0 = 2 * ((k : Int) + 1) := by
  have := (numF_get _ (0, List.replicate (C.max.toNat + 1) 0) (headL_two hf) (headL_nd hf)).1 k l hk
  unfold mapL
  rw [this]
  simp
theorem mapL_no (hf : Fine C) {v : Nat} (hv : 2 * (v : Int) ∉ C.inputs ++ C.latches.map (·.1)) : (mapL C).getD v 0 = 0 := by
  have := (numF_get _ (0, List.replicate (C.max.toNat + 1) 0) (headL_two hf) (headL_nd hf)).2 v hv
  unfold mapL
  rw [this]
  simp only [List.getD_eq_getElem?_getD, List.getElem?_replicate]
  split <;> rfl
theorem defs_le (hf : Fine C) (hO : IsOrd C O) : ((C.inputs.length + C.latches.length + C.ands.length : Nat) : Int) ≤ C.max := by
  have hp := ord_perm hO
  have hN := newL_of hf hp
  have := ren_max_le hf hN
  have e : (renC C O).max = (C.inputs.length : Int) + C.latches.length + C.ands.length := rfl
  rw [e] at this
  push_cast
  exact this
theorem tell0_i (hf : Fine C) (hO : IsOrd C O) : TellI C [] (tellG C []) := by
  have hle := defs_le hf hO
  have hm1 := hf.m1
  refine ⟨⟨?_, by simp [tellG, bd0], by simp [tellG, bd0]⟩, rfl, rfl, mapL_len, by simp [tellG, bd0], fun v => ?_, fun v _ => rfl⟩
  · simp [tellG, bd0, Bd.last]
    omega
  · rw [has_iff]
    show 0 ≤ (mapL C).getD v 0 ∧ (mapL C).getD v 0 ≤ 2 * (((bd0 C).last : Nat) : Int) + 1
    by_cases hv : 2 * (v : Int) ∈ C.inputs ++ C.latches.map (·.1)
    · obtain ⟨k, hk⟩ := List.getElem?_of_mem hv
      have h1 := mapL_get hf hk
      have h2 := (List.getElem?_eq_some_iff.1 hk).1
      rw [show (2 * (v : Int) / 2).toNat = v by omega] at h1
      rw [h1]
      simp at h2
      simp [bd0, Bd.last]
      omega
    · rw [mapL_no hf hv]
      omega
theorem tell1_i (hf : Fine C) (hO : IsOrd C O) {gs : List Int} {g : Int} {s : Bd × List Int} (h : TellI C gs s) (hg : gs.length < C.ands.length) :
    AndS s.1 (s.1.and_ (mvX s.2 (C.ands.getD g.toNat (0, 0, 0)).2.1) (mvX s.2 (C.ands.getD g.toNat (0, 0, 0)).2.2)) ∧ (s.1.and_ (mvX s.2 (C.ands.getD g.toNat (0, 0, 0)).2.1) (mvX s.2 (C.ands.getD g.toNat (0, 0, 0)).2.2)).1.2 = 0 ∧ TellI C (gs ++ [g]) (tell1 C s g) := by
  have hs := and_spec h.ok (mvX_has h.has (C.ands.getD g.toNat (0, 0, 0)).2.1) (mvX_has h.has (C.ands.getD g.toNat (0, 0, 0)).2.2)
  have hle := defs_le hf hO
  have hm1 := hf.m1
  have he : (s.1.and_ (mvX s.2 (C.ands.getD g.toNat (0, 0, 0)).2.1) (mvX s.2 (C.ands.getD g.toNat (0, 0, 0)).2.2)).1.2 = 0 := by
    rcases hs.err with ⟨e, _⟩ | ⟨_, _, _, e⟩
    · exact e
    · unfold Bd.last at e
      rw [h.i, h.l] at e
      have := h.glen
      omega
  refine ⟨hs, he, ?_⟩
  unfold tell1
  generalize s.1.and_ (mvX s.2 (C.ands.getD g.toNat (0, 0, 0)).2.1) (mvX s.2 (C.ands.getD g.toNat (0, 0, 0)).2.2) = r at *
  refine ⟨hs.ok, hs.i.trans h.i, hs.l.trans h.l, by simp [h.len], by have := hs.len; have := h.glen; simp; omega, fun v => ?_, fun v hv => ?_⟩
  · show r.2.has ((s.2.set (outG C g / 2).toNat r.1.1).getD v 0) = true
    by_cases e : (outG C g / 2).toNat = v
    · by_cases hv : v < s.2.length
      · subst e
        rw [set3_at hv]
        rcases hs.err with ⟨_, q⟩ | ⟨q, _⟩
        · exact q
        · omega
      · rw [show (s.2.set (outG C g / 2).toNat r.1.1).getD v 0 = 0 by simp [List.getD_eq_getElem?_getD, List.getElem?_eq_none (show (s.2.set (outG C g / 2).toNat r.1.1).length ≤ v by simp; omega)], has_iff]
        omega
    · rw [set3_far e]
      exact hs.has (h.has v)
  · show (s.2.set (outG C g / 2).toNat r.1.1).getD v 0 = _
    rw [set3_far (hv g (by simp))]
    exact h.far v fun g' hg' => hv g' (by simp [hg'])
theorem tellG_i (hf : Fine C) (hO : IsOrd C O) : ∀ k, k ≤ O.length → TellI C (O.take k) (tellG C (O.take k))
  | 0, _ => tell0_i hf hO
  | k + 1, hk => by
    obtain ⟨g, hg⟩ : ∃ g, O[k]? = some g := ⟨_, List.getElem?_eq_getElem (by omega)⟩
    have e : O.take (k + 1) = O.take k ++ [g] := by rw [List.take_add_one, hg]; rfl
    rw [e, tellG_snoc]
    exact (tell1_i hf hO (tellG_i hf hO k (by omega)) (by rw [List.length_take]; have := hO.l; omega)).2.2
def bldB (C : Circ) (O : List Int) : Bd := (tellG C O).1
def bldM (C : Circ) (O : List Int) : List Int := (tellG C O).2
def bldX (C : Circ) (O : List Int) : Circ := bldC C (bldB C O) (bldM C O)
theorem tellI_of (hf : Fine C) (hO : IsOrd C O) : TellI C O (bldB C O, bldM C O) := by
  have := tellG_i hf hO O.length (Nat.le_refl _)
  rwa [List.take_length] at this
theorem outs_ne (hf : Fine C) (hO : IsOrd C O) {l : Int} (hl : l ∈ C.inputs ++ C.latches.map (·.1)) {g : Int} (hg : g ∈ O) : (outG C g / 2).toNat ≠ (l / 2).toNat := fun e => by
  have hr := hO.inR g hg
  obtain ⟨z, hz⟩ : ∃ z, C.ands[g.toNat]? = some z := ⟨_, List.getElem?_eq_getElem (by omega)⟩
  have hzo : outG C g = z.1 := by unfold outG; simp [List.getD_eq_getElem?_getD, hz]
  have hzm : z.1 ∈ C.ands.map (·.1) := List.mem_map.2 ⟨z, List.mem_of_getElem? hz, rfl⟩
  have h1 := hf.d.two l (List.mem_append_left _ hl)
  have h2 := hf.d.two z.1 (List.mem_append_right _ hzm)
  have h3 := hf.d.nd
  unfold defsL at h3
  rw [hzo] at e
  exact (List.nodup_append.1 h3).2.2 l hl z.1 hzm (by omega)
theorem bldM_head (hf : Fine C) (hO : IsOrd C O) {k : Nat} {l : Int} (hk : (C.inputs ++ C.latches.map (·.1))[k]? = some l) : mvX (bldM C O) l = 2 * ((k : Int) + 1) := by
  have hi := tellI_of hf hO
  have h2 := hf.d.two l (List.mem_append_left _ (List.mem_of_getElem? hk))
  unfold mvX
  rw [if_pos h2.2.1]
  have := hi.far (l / 2).toNat fun g hg => outs_ne hf hO (List.mem_of_getElem? hk) hg
  simp only at this
  rw [this, mapL_get hf hk]
theorem outs_two (hf : Fine C) (hO : IsOrd C O) {g : Int} (hg : g ∈ O) : 2 ≤ outG C g ∧ outG C g % 2 = 0 ∧ outG C g / 2 ≤ C.max := by
  have hr := hO.inR g hg
  obtain ⟨z, hz⟩ : ∃ z, C.ands[g.toNat]? = some z := ⟨_, List.getElem?_eq_getElem (by omega)⟩
  have hzo : outG C g = z.1 := by unfold outG; simp [List.getD_eq_getElem?_getD, hz]
  rw [hzo]
  exact hf.d.two z.1 (List.mem_append_right _ (List.mem_map.2 ⟨z, List.mem_of_getElem? hz, rfl⟩))
theorem bldM_zero (hf : Fine C) (hO : IsOrd C O) : (bldM C O).getD 0 0 = 0 := by
  have hi := tellI_of hf hO
  have := hi.far 0 fun g hg => by have := outs_two hf hO hg; omega
  simp only at this
  rw [this]
  exact mapL_no hf (fun hm => by have := hf.d.two _ (List.mem_append_left _ hm); omega)
theorem mvX_lt (hf : Fine C) (hO : IsOrd C O) (l : Int) : 0 ≤ mvX (bldM C O) l ∧ mvX (bldM C O) l ≤ 2 * ((bldB C O).last : Int) + 1 := has_iff.1 (mvX_has (tellI_of hf hO).has l)
theorem bld_defs (hf : Fine C) (hO : IsOrd C O) : ∀ (k : Nat) (l : Int), (defsL (bldX C O))[k]? = some l → l = 2 * ((k : Int) + 1) := fun k l hk => by
  have hi := tellI_of hf hO
  have e : defsL (bldX C O) = (C.inputs ++ C.latches.map (·.1)).map (mvX (bldM C O)) ++ (bldB C O).tris.map (·.1) := by
    unfold defsL bldX bldC
    simp [List.map_append, Function.comp_def]
  rw [e] at hk
  rcases Nat.lt_or_ge k (C.inputs ++ C.latches.map (·.1)).length with hlt | hge
  · rw [List.getElem?_append_left (by rw [List.length_map]; exact hlt), List.getElem?_map] at hk
    obtain ⟨x, hx, rfl⟩ := Option.map_eq_some_iff.1 hk
    exact bldM_head hf hO hx
  · rw [List.getElem?_append_right (by rw [List.length_map]; exact hge), List.getElem?_map] at hk
    obtain ⟨z, hz, rfl⟩ := Option.map_eq_some_iff.1 hk
    obtain ⟨p, _, e2⟩ := tris_at.1 hz
    rw [e2]
    simp only [List.length_map, List.length_append] at hge ⊢
    unfold Bd.out
    have h1 := hi.i
    have h2 := hi.l
    simp only at h1 h2
    rw [h1, h2]
    omega
theorem bld_seq (h0 : (checkR C).2 = 0) (hO : IsOrd C O) : Seq (bldX C O) := by
  have hf := fine_of h0
  obtain ⟨hsz, _, _, _, hsy, hco⟩ := check_parts h0
  have hi := tellI_of hf hO
  have hle := defs_le hf hO
  have hm1 := hf.m1
  have hi1 := hi.i
  have hi2 := hi.l
  have hg := hi.glen
  have hll := hO.l
  simp only at hi1 hi2 hg
  have hmax : (bldX C O).max = ((bldB C O).last : Int) := rfl
  have hlit : ∀ l, LitOk (bldX C O) (mvX (bldM C O) l) := fun l => by
    have := mvX_lt hf hO l
    unfold LitOk
    rw [hmax]
    omega
  have lst : ∀ zs : List Int, ∀ l ∈ zs.map (mvX (bldM C O)), LitOk (bldX C O) l := fun zs l hl => by
    obtain ⟨x, _, rfl⟩ := List.mem_map.1 hl
    exact hlit x
  have hcf : ∀ k, countF (bldX C O) k = countF C k := fun k => by
    unfold countF bldX bldC
    simp only [List.length_map]
  refine ⟨bld_defs hf hO, ?_, ?_, fun z hz => ?_, lst _, lst _, lst _, fun zs hz => ?_, lst _, fun k z hz => ?_, fun x hx => ?_, ?_, ?_⟩
  · rw [hmax]
    unfold Bd.last
    rw [hi1, hi2]
    simp [bldX, bldC, tris_len]
  · rw [hmax]
    have := hi.ok.last
    simp only at this
    omega
  · obtain ⟨y, hy, rfl⟩ := List.mem_map.1 (show z ∈ C.latches.map _ from hz)
    refine ⟨hlit _, ?_⟩
    have hr := hf.r y hy
    unfold resetE at hr
    have h0m := bldM_zero hf hO
    by_cases e1 : y.2.2 = 0
    · left
      show mvX (bldM C O) y.2.2 = 0
      rw [e1]
      exact h0m
    · by_cases e2 : y.2.2 = 1
      · right; left
        show mvX (bldM C O) y.2.2 = 1
        rw [e2]
        unfold mvX
        rw [if_neg (by omega), show ((1 : Int) / 2).toNat = 0 from rfl, h0m]
        rfl
      · by_cases e3 : y.2.2 = y.1
        · right; right
          show mvX (bldM C O) y.2.2 = mvX (bldM C O) y.1
          rw [e3]
        · rw [if_pos ⟨e1, e2, e3⟩] at hr; cases hr
  · obtain ⟨y, _, rfl⟩ := List.mem_map.1 (show zs ∈ C.justice.map _ from hz)
    exact lst _
  · obtain ⟨p, hp, rfl⟩ := tris_at.1 (show (bldB C O).tris[k]? = some z from hz)
    have := hi.ok.fit k p hp
    simp only at this ⊢
    omega
  · have hall := (sizes_all hsz).2
    unfold sizesL at hall hx
    have es : sumW (bldX C O).justice = sumW C.justice := sumW_map _ (fun l => by simp) _
    rw [es] at hx
    have ea : (bldX C O).ands.length = (bldB C O).g.length := tris_len _
    rw [ea] at hx
    have hna := hall (C.ands.length : Int) (by simp)
    have hx2 : x ∈ [(C.inputs.length : Int), C.latches.length, C.outputs.length, C.bads.length, C.constraints.length, C.justice.length, sumW C.justice, C.fairness.length, ((bldB C O).g.length : Int), C.symbols.length, C.comments.length] := by
      simpa [bldX, bldC] using hx
    simp only [List.mem_cons, List.not_mem_nil, or_false] at hx2
    rcases hx2 with e | e | e | e | e | e | e | e | e | e | e
    · exact hall x (by simp [e])
    · exact hall x (by simp [e])
    · exact hall x (by simp [e])
    · exact hall x (by simp [e])
    · exact hall x (by simp [e])
    · exact hall x (by simp [e])
    · exact hall x (by simp [e])
    · exact hall x (by simp [e])
    · omega
    · exact hall x (by simp [e])
    · exact hall x (by simp [e])
  · have e5 : symR (bldX C O) = symR C := symAll_count hcf _ _ _
    rw [e5]; exact hsy
  · exact hco
end
/-! Built again. -/
theorem mvX_id {M : List Int} {n : Nat} (h : ∀ v, v ≤ n → M.getD v 0 = 2 * (v : Int)) {l : Int} (h0 : 0 ≤ l) (h1 : l / 2 ≤ n) : mvX M l = l := by
  unfold mvX
  rw [h _ (by omega)]
  split
  · omega
  · unfold neg; rw [if_pos (by omega)]; omega
theorem and_new {b : Bd} {x y : Int} (h1 : 2 ≤ y) (h2 : y < x) (h3 : x / 2 ≠ y / 2) (h4 : (x, y) ∉ b.g) (h5 : b.last < 16384) : b.and_ x y = ((b.out b.g.length, 0), { b with g := b.g ++ [(x, y)] }) := by
  unfold Bd.and_ Bd.and2
  rw [Int.max_eq_left (by omega), Int.min_eq_right (by omega), if_neg (by omega), if_neg (by omega)]
  unfold Bd.gate
  rw [findP_no h4]
  simp only
  have h6 : b.g.length ≤ b.last := by unfold Bd.last; omega
  rw [if_neg (by omega)]
theorem bld_again {b : Bd} {X : Circ} (hX : Seq X) (hb : b.Ok) (hi : b.i = X.inputs.length) (hl : b.l = X.latches.length) (ha : X.ands = b.tris) : bldX X (intRange X.ands.length) = X ∧ bldM X (intRange X.ands.length) = (List.range (X.max.toNat + 1)).map (fun v : Nat => 2 * (v : Int)) := by
  have hf := hX.fine
  have hlen : X.ands.length = b.g.length := by rw [ha, tris_len]
  have hm := hX.m
  have hm1 := hX.m1
  have key : ∀ k, k ≤ b.g.length → (tellG X (intRange k)).1 = ⟨b.i, b.l, b.g.take k⟩ ∧ (tellG X (intRange k)).2.length = X.max.toNat + 1 ∧ ∀ v, v ≤ b.i + b.l + k → (tellG X (intRange k)).2.getD v 0 = 2 * (v : Int) := by
    intro k
    induction k with
    | zero =>
      intro _
      refine ⟨?_, mapL_len, fun v hv => ?_⟩
      · show bd0 X = _
        unfold bd0
        rw [hi, hl]
        simp
      · show (mapL X).getD v 0 = _
        cases v with
        | zero => rw [mapL_no hf (fun hm => by have := hf.d.two _ (List.mem_append_left _ hm); omega)]; rfl
        | succ v =>
          obtain ⟨l, hl'⟩ : ∃ l, (X.inputs ++ X.latches.map (·.1))[v]? = some l := ⟨_, List.getElem?_eq_getElem (by simp; omega)⟩
          have h1 := mapL_get hf hl'
          have h2 : l = 2 * ((v : Int) + 1) := hX.d v l (by unfold defsL; rw [List.getElem?_append_left (List.getElem?_eq_some_iff.1 hl').1]; exact hl')
          rw [h2, show (2 * ((v : Int) + 1) / 2).toNat = v + 1 by omega] at h1
          rw [h1]
          push_cast
          rfl
    | succ k ih =>
      intro hk
      obtain ⟨e1, e2, e3⟩ := ih (by omega)
      obtain ⟨p, hp⟩ : ∃ p, b.g[k]? = some p := ⟨_, List.getElem?_eq_getElem (by omega)⟩
      have hfit := hb.fit k p hp
      have hz : X.ands[k]? = some (b.out k, p) := by rw [ha]; exact tris_at.2 ⟨p, hp, rfl⟩
      have hzD : X.ands.getD (k : Int).toNat (0, 0, 0) = (b.out k, p) := by simp [List.getD_eq_getElem?_getD, hz]
      have hout : outG X (k : Int) = b.out k := by unfold outG; rw [hzD]
      have hx1 : mvX (tellG X (intRange k)).2 p.1 = p.1 := mvX_id e3 (by omega) (by unfold Bd.out at hfit; omega)
      have hx2 : mvX (tellG X (intRange k)).2 p.2 = p.2 := mvX_id e3 (by omega) (by unfold Bd.out at hfit; omega)
      have hno : p ∉ b.g.take k := fun hm => by
        obtain ⟨j, hj⟩ := List.getElem?_of_mem hm
        have hjk : j < k := by have := (List.getElem?_eq_some_iff.1 hj).1; simp at this; omega
        rw [List.getElem?_take_of_lt hjk] at hj
        have := nodup_get hb.nd hj hp
        omega
      have hlast : (⟨b.i, b.l, b.g.take k⟩ : Bd).last < 16384 := by
        unfold Bd.last
        simp only [List.length_take]
        omega
      have hand := and_new (b := ⟨b.i, b.l, b.g.take k⟩) (x := p.1) (y := p.2) hfit.1 hfit.2.1 hfit.2.2.1 hno hlast
      rw [intRange_succ, tellG_snoc]
      unfold tell1
      rw [hzD, hout, e1]
      simp only
      rw [hx1, hx2, hand]
      simp only
      refine ⟨?_, by rw [List.length_set, e2], fun v hv => ?_⟩
      · rw [List.take_add_one, hp]; rfl
      · have hbo : (b.out k / 2).toNat = b.i + b.l + k + 1 := by unfold Bd.out; omega
        rw [hbo]
        by_cases ev : v = b.i + b.l + k + 1
        · subst ev
          rw [set3_at (by rw [e2]; omega)]
          unfold Bd.out
          simp only [List.length_take]
          omega
        · rw [set3_far (by omega)]
          exact e3 v (by omega)
  obtain ⟨e1, e2, e3⟩ := key b.g.length (Nat.le_refl _)
  rw [List.take_length] at e1
  have hB : bldB X (intRange X.ands.length) = b := by unfold bldB; rw [hlen, e1]
  have hlastm : X.max = (b.last : Int) := by unfold Bd.last; rw [hm, hi, hl, hlen]
  have hM : ∀ v, v ≤ b.last → (bldM X (intRange X.ands.length)).getD v 0 = 2 * (v : Int) := fun v hv => by unfold bldM; rw [hlen]; exact e3 v hv
  have hid : ∀ l, LitOk X l → mvX (bldM X (intRange X.ands.length)) l = l := fun l hl => mvX_id hM hl.1 (by have := hl.2; omega)
  have lst : ∀ zs : List Int, (∀ l ∈ zs, LitOk X l) → zs.map (mvX (bldM X (intRange X.ands.length))) = zs := fun zs hz => map_same fun l hl => hid l (hz l hl)
  have hdl : ∀ l ∈ defsL X, LitOk X l := fun l hl => by have := hf.d.two l hl; exact ⟨by omega, this.2.2⟩
  refine ⟨?_, ?_⟩
  · unfold bldX bldC
    rw [hB, lst _ (fun l hl => hdl l (by simp [defsL, hl])), lst _ hX.o, lst _ hX.b, lst _ hX.c, lst _ hX.f, map_same (l := X.justice) (fun zs hz => lst zs (hX.j zs hz)), map_same (l := X.latches) (fun z hz => by
      have h1 := hid z.1 (hdl _ (List.mem_append_left _ (List.mem_append_right _ (List.mem_map.2 ⟨z, hz, rfl⟩))))
      have h2 := hid _ (hX.r z hz).1
      have h3 : mvX (bldM X (intRange X.ands.length)) z.2.2 = z.2.2 := by
        rcases (hX.r z hz).2 with e | e | e
        · rw [e]; exact hid 0 ⟨by omega, by have := hf.m0; omega⟩
        · rw [e]; exact hid 1 ⟨by omega, by have := hf.m0; omega⟩
        · rw [e]; exact h1
      rw [h1, h2, h3]), ← hlastm, ← ha]
  · apply List.ext_getElem?
    intro v
    have hl2 : (bldM X (intRange X.ands.length)).length = X.max.toNat + 1 := by unfold bldM; rw [hlen]; exact e2
    by_cases hv : v < X.max.toNat + 1
    · have h9 := hM v (by omega)
      rw [List.getD_eq_getElem?_getD, List.getElem?_eq_getElem (by rw [hl2]; exact hv)] at h9
      rw [List.getElem?_eq_getElem (by rw [hl2]; exact hv), List.getElem?_map, List.getElem?_range hv]
      simp only [Option.getD_some] at h9
      simp [h9]
    · rw [List.getElem?_eq_none (by rw [hl2]; omega), List.getElem?_eq_none (by simp; omega)]
end Go.Proofs.Ytahjmkdpnkffhaa

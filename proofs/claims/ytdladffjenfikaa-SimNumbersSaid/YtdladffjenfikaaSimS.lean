/- Sim, as plain data: a circuit and what Renumber makes of it have the same values, moments and answers. -/
import Derived.Test.YtdladffjenfikaaSimP
import Derived.Test.YtdladffjenfikaaSimN
namespace Go.Proofs.Ytdladffjenfikaa

section
variable {C : Circ} {O : List Int}
theorem lit_ren (h : NewL C O) {T T' : List Bool} (e0 : T.getD 0 false = false) (e1 : T'.getD 0 false = false) {l : Int} (hu : UseL C l) (hq : ∀ (q : Nat) (l2 : Int), (linesL C O)[q]? = some l2 → l2 = 2 * (l / 2) → mvF (newM C O) l = 2 * ((q : Int) + 1) + l % 2 → T'.getD (q + 1) false = T.getD (l2 / 2).toNat false) : litV T' (mvF (newM C O) l) = litV T l := by
  have hl0 := hu.1
  rcases mv_cases h hu with ⟨hl, e⟩ | ⟨q, hk, e⟩
  · rw [e]
    have : (l / 2).toNat = 0 := by omega
    unfold litV
    rw [this, e0, e1]
  · have := hq q _ hk rfl e
    rw [e]
    unfold litV
    rw [show ((2 * ((q : Int) + 1) + l % 2) / 2).toNat = q + 1 by omega, this, show 2 * (l / 2) / 2 = l / 2 by omega, show (2 * ((q : Int) + 1) + l % 2) % 2 = l % 2 by omega]
theorem no_zero (h : NewL C O) : (2 * ((0 : Nat) : Int) ∉ defsL C) ∧ 2 * ((0 : Nat) : Int) ∉ defsL (renC C O) := by
  refine ⟨fun hm => ?_, fun hm => ?_⟩
  · have := (h.two _ ((h.mem _).2 hm)).1
    omega
  · have := (ren_two h _ hm).1
    omega
theorem ren_core (hf : Fine C) (h : NewL C O) (hG : Greedy (usesC C) O) (hl : O.length = C.ands.length) {st row T T' : List Bool} (h1 : st.length = C.latches.length) (h2 : row.length = C.inputs.length) (a : ValOk C st row T) (b : ValOk (renC C O) st row T') :
    ∀ (k : Nat) (l : Int), (linesL C O)[k]? = some l → T'.getD (k + 1) false = T.getD (l / 2).toNat false := by
  obtain ⟨z0, z1⟩ := no_zero h
  have e0 := a.n 0 z0
  have e1 := b.n 0 z1
  intro k
  induction k using Nat.strongRecOn with
  | ind k ih =>
  intro l hk
  have hkl := (List.getElem?_eq_some_iff.1 hk).1
  rw [h.len] at hkl
  have hmv := mv_def h hk
  have hidx : (mvF (newM C O) l / 2).toNat = k + 1 := by rw [hmv]; omega
  rw [← hidx]
  by_cases c1 : k < C.inputs.length
  · have hi : C.inputs[k]? = some l := by
      unfold linesL at hk
      rw [List.append_assoc, List.getElem?_append_left c1] at hk
      exact hk
    obtain ⟨r, hr⟩ : ∃ r, row[k]? = some r := ⟨_, List.getElem?_eq_getElem (by omega)⟩
    rw [a.i k l r hi hr]
    exact b.i k _ r (by show (C.inputs.map _)[k]? = _; rw [List.getElem?_map, hi]; rfl) hr
  · by_cases c2 : k < C.inputs.length + C.latches.length
    · obtain ⟨z, hz⟩ : ∃ z, C.latches[k - C.inputs.length]? = some z := ⟨_, List.getElem?_eq_getElem (by omega)⟩
      have hi : z.1 = l := by
        unfold linesL at hk
        rw [List.append_assoc, List.getElem?_append_right (by omega), List.getElem?_append_left (by simp; omega), List.getElem?_map, hz] at hk
        exact Option.some.inj hk
      obtain ⟨s, hs⟩ : ∃ s, st[k - C.inputs.length]? = some s := ⟨_, List.getElem?_eq_getElem (by omega)⟩
      rw [← hi, a.l _ z s hz hs]
      exact b.l (k - C.inputs.length) (mvF (newM C O) z.1, mvF (newM C O) z.2.1, mvF (newM C O) z.2.2) s (by show (C.latches.map _)[_]? = _; rw [List.getElem?_map, hz]; rfl) hs
    · obtain ⟨j, rfl⟩ : ∃ j, k = C.inputs.length + C.latches.length + j := ⟨k - (C.inputs.length + C.latches.length), by omega⟩
      obtain ⟨g, hg⟩ : ∃ g, O[j]? = some g := ⟨_, List.getElem?_eq_getElem (by omega)⟩
      have hlg := line_gate h hg
      rw [hk] at hlg
      have hi : l = (C.ands.getD g.toNat (0, 0, 0)).1 := Option.some.inj hlg
      have hr := hG.inR g (List.mem_of_getElem? hg)
      rw [usesC_len] at hr
      unfold InR at hr
      obtain ⟨z, hz⟩ : ∃ z, C.ands[g.toNat]? = some z := ⟨_, List.getElem?_eq_getElem (by omega)⟩
      have hzD : C.ands.getD g.toNat (0, 0, 0) = z := by simp [List.getD_eq_getElem?_getD, hz]
      have hx := and_get (C := C) hg
      have hrl := fun (l' : Int) (hl' : l' = (C.ands.getD g.toNat (0, 0, 0)).2.1 ∨ l' = (C.ands.getD g.toNat (0, 0, 0)).2.2) => ren_lt hf h hG hl hg hl'
      rw [hzD] at hi hx hrl
      have hu := hf.u.a z (List.mem_of_getElem? hz)
      have key : ∀ l', (l' = z.2.1 ∨ l' = z.2.2) → UseL C l' → litV T' (mvF (newM C O) l') = litV T l' := fun l' hl' hu' =>
        lit_ren h e0 e1 hu' fun q l2 hq _ e => by
          have h5 := hrl l' hl'
          have h6 := hu'.1
          exact ih q (by omega) l2 hq
      have k1 := key _ (.inl rfl) hu.1
      have k2 := key _ (.inr rfl) hu.2
      rw [hi, a.a z (List.mem_of_getElem? hz), ← k1, ← k2]
      have := b.a _ (List.mem_of_getElem? hx)
      unfold renAnd at this
      simp only at this
      rw [this]
      rcases Int.le_total (mvF (newM C O) z.2.1) (mvF (newM C O) z.2.2) with hle | hle
      · rw [Int.max_eq_right hle, Int.min_eq_left hle, Bool.and_comm]
      · rw [Int.max_eq_left hle, Int.min_eq_right hle]
/-- All that a circuit and its renumbering share, at one state and one row. -/
structure RenV (C : Circ) (O : List Int) (T T' : List Bool) : Prop where
  e : ∀ l, UseL C l → litV T' (mvF (newM C O) l) = litV T l
  m : ∀ (v : Nat) (x : Int), (newM C O)[v]? = some x → T'.getD (x / 2).toNat false = T.getD v false
theorem renV (hf : Fine C) (h : NewL C O) (hG : Greedy (usesC C) O) (hl : O.length = C.ands.length) {st row T T' : List Bool} (h1 : st.length = C.latches.length) (h2 : row.length = C.inputs.length) (a : ValOk C st row T) (b : ValOk (renC C O) st row T') : RenV C O T T' := by
  obtain ⟨z0, z1⟩ := no_zero h
  have e0 := a.n 0 z0
  have e1 := b.n 0 z1
  have hc := ren_core hf h hG hl h1 h2 a b
  refine ⟨fun l hu => lit_ren h e0 e1 hu fun q l2 hq _ _ => hc q l2 hq, fun v x hx => ?_⟩
  by_cases hv : 2 * (v : Int) ∈ linesL C O
  · obtain ⟨k, hk⟩ := List.getElem?_of_mem hv
    have h3 := h.get k _ hk
    have h4 := hc k _ hk
    rw [show (2 * (v : Int) / 2).toNat = v by omega] at h3 h4
    have : x = 2 * ((k : Int) + 1) := by rw [← h3]; simp [List.getD, hx]
    rw [this, show (2 * ((k : Int) + 1) / 2).toNat = k + 1 by omega, h4]
  · have h3 := h.none v hv
    have : x = 0 := by rw [← h3]; simp [List.getD, hx]
    rw [this, a.n v (fun hm => hv ((h.mem _).2 hm))]
    exact e1
section
variable {T T' : List Bool}
theorem RenV.next (r : RenV C O T T') (hf : Fine C) : nextF (renC C O) T' = nextF C T := by
  unfold nextF renC
  rw [List.map_map]
  exact List.map_congr_left fun z hz => r.e _ (hf.u.l z hz)
theorem all_congr {α : Type} {p q : α → Bool} : ∀ {l : List α}, (∀ x ∈ l, p x = q x) → l.all p = l.all q
  | [], _ => rfl
  | x :: r, h => by
    rw [List.all_cons, List.all_cons, h x (by simp), all_congr (fun y hy => h y (by simp [hy]))]
theorem RenV.holds (r : RenV C O T T') (hf : Fine C) : holdsF (renC C O) T' = holdsF C T := by
  unfold holdsF renC
  rw [List.all_map]
  exact all_congr fun l hl => r.e _ (hf.u.c l hl)
theorem RenV.placesG (r : RenV C O T T') : ∀ (zs : List Int) (k : Nat), (∀ l ∈ zs, UseL C l) → placesG T' (zs.map (mvF (newM C O))) k = placesG T zs k
  | [], _, _ => rfl
  | z :: rest, k, h => by
    have h1 := r.e z (h z (by simp))
    have h2 := RenV.placesG r rest (k + 1) (fun l hl => h l (by simp [hl]))
    simp only [List.map_cons, Go.Proofs.Ytdladffjenfikaa.placesG, h1, h2]
theorem RenV.places (r : RenV C O T T') {zs : List Int} (h : ∀ l ∈ zs, UseL C l) : placesF (zs.map (mvF (newM C O))) T' = placesF zs T := r.placesG zs 0 h
theorem RenV.fairG (r : RenV C O T T') : ∀ (J : List (List Int)) (k : Nat), (∀ zs ∈ J, ∀ l ∈ zs, UseL C l) → fairG T' (J.map (fun zs => zs.map (mvF (newM C O)))) k = fairG T J k
  | [], _, _ => rfl
  | z :: rest, k, h => by
    have h1 := r.places (h z (by simp))
    have h2 := RenV.fairG r rest (k + 1) (fun zs hz => h zs (by simp [hz]))
    simp only [List.map_cons, Go.Proofs.Ytdladffjenfikaa.fairG, h1, h2]
theorem RenV.mom (r : RenV C O T T') (hf : Fine C) (st : List Bool) : momOf (renC C O) st T' = momOf C st T := by
  have h1 := r.holds hf
  have h2 := r.places hf.u.b
  have h3 := r.fairG C.justice 0 hf.u.j
  have h4 := r.places hf.u.f
  have e1 : placesF (renC C O).bads T' = placesF C.bads T := h2
  have e2 : fairF (renC C O) T' = fairF C T := by
    unfold fairF
    have e3 : (renC C O).justice = C.justice.map (fun zs => zs.map (mvF (newM C O))) := rfl
    have e4 : (renC C O).fairness = C.fairness.map (mvF (newM C O)) := rfl
    rw [e3, e4, h3, h4]
  unfold momOf
  rw [h1, e1, e2]
end
/-- What Renumber makes, in one. -/
structure RenX (C : Circ) (O : List Int) : Prop where
  f : Fine C
  n : NewL C O
  c : (checkR (renC C O)).2 = 0
theorem renX_of (h0 : (checkR C).2 = 0) (hO : IsOrd C O) : RenX C O := by
  have hf := fine_of h0
  have hp := greedy_perm hO.g (by rw [hO.l, usesC_len])
  rw [usesC_len] at hp
  have hN := newL_of hf hp
  obtain ⟨h1, h2, h3, h4, h5, h6⟩ := check_parts h0
  exact ⟨hf, hN, ren_check hf h1 h5 h6 hN hO.g hO.l⟩
theorem ren_vals (h0 : (checkR C).2 = 0) (hO : IsOrd C O) {P : List Int} (hP : IsOrd (renC C O) P) {st row : List Bool} (h1 : st.length = C.latches.length) (h2 : row.length = C.inputs.length) : RenV C O (valF C O st row) (valF (renC C O) P st row) := by
  have x := renX_of h0 hO
  exact renV x.f x.n hO.g hO.l h1 h2 (valOk h0 hO h1 h2) (valOk x.c hP (by rw [h1]; simp [renC]) (by rw [h2]; simp [renC]))
theorem ren_moms (h0 : (checkR C).2 = 0) (hO : IsOrd C O) {P : List Int} (hP : IsOrd (renC C O) P) : ∀ (rows : List (List Bool)) (st : List Bool), st.length = C.latches.length → (∀ r ∈ rows, r.length = C.inputs.length) → momsG (renC C O) P st rows = momsG C O st rows
  | [], _, _, _ => rfl
  | r :: rest, st, h1, h2 => by
    have hv := ren_vals h0 hO hP h1 (h2 r (by simp))
    have hf := fine_of h0
    show momOf _ st _ :: momsG _ P (nextF _ _) rest = momOf C st _ :: momsG C O (nextF C _) rest
    rw [hv.mom hf, hv.next hf, ren_moms h0 hO hP rest _ (nextF_len C _) (fun y hy => h2 y (by simp [hy]))]
theorem ren_fits (t : Tr) : fitsB (renC C O) t = fitsB C t := by
  unfold fitsB rowsB
  simp [renC]
theorem ren_runE (h0 : (checkR C).2 = 0) (hO : IsOrd C O) (t : Tr) : runE (renC C O) t = runE C t := by
  unfold runE
  rw [(renX_of h0 hO).c, h0, ren_fits]
end
end Go.Proofs.Ytdladffjenfikaa

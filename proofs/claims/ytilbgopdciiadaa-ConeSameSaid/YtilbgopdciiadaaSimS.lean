/- Sim, as plain data: a circuit and what Renumber makes of it have the same values, moments and answers. -/
import Derived.Test.YtilbgopdciiadaaTrnB
import Derived.Test.YtilbgopdciiadaaSimN
namespace Go.Proofs.Ytilbgopdciiadaa

section
variable {C : Circ} {O : List Int}
/-- All that a circuit and its renumbering share, at one state and one row. -/
structure RenV (C : Circ) (O : List Int) (T T' : List Bool) : Prop where
  e : ∀ l, UseL C l → litV T' (mvF (newM C O) l) = litV T l
  m : ∀ (v : Nat) (x : Int), (newM C O)[v]? = some x → T'.getD (x / 2).toNat false = T.getD v false
section
variable {T T' : List Bool}
theorem RenV.next (r : RenV C O T T') (hf : Fine C) : nextF (renC C O) T' = nextF C T := by
  unfold nextF renC
  rw [List.map_map]
  exact List.map_congr_left fun z hz => r.e _ (hf.u.l z hz)
theorem all_congr {α : Type} {p q : α → Bool} : ∀ {l : List α}, (∀ x ∈ l, p x = q x) → l.all p = l.all q
  | [], _ => rfl
  | x :: r, h => by
    rw [List.all_cons, List.all_cons, h x (by simp), all_congr (fun y hy => h y (by simp [hy]))]
theorem RenV.holds (r : RenV C O T T') (hf : Fine C) : holdsF (renC C O) T' = holdsF C T := by
  unfold holdsF renC
  rw [List.all_map]
  exact all_congr fun l hl => r.e _ (hf.u.c l hl)
theorem RenV.placesG (r : RenV C O T T') : ∀ (zs : List Int) (k : Nat), (∀ l ∈ zs, UseL C l) → placesG T' (zs.map (mvF (newM C O))) k = placesG T zs k
  | [], _, _ => rfl
  | z :: rest, k, h => by
    have h1 := r.e z (h z (by simp))
    have h2 := RenV.placesG r rest (k + 1) (fun l hl => h l (by simp [hl]))
    simp only [List.map_cons, Go.Proofs.Ytilbgopdciiadaa.placesG, h1, h2]
theorem RenV.places (r : RenV C O T T') {zs : List Int} (h : ∀ l ∈ zs, UseL C l) : placesF (zs.map (mvF (newM C O))) T' = placesF zs T := r.placesG zs 0 h
theorem RenV.fairG (r : RenV C O T T') : ∀ (J : List (List Int)) (k : Nat), (∀ zs ∈ J, ∀ l ∈ zs, UseL C l) → fairG T' (J.map (fun zs => zs.map (mvF (newM C O)))) k = fairG T J k
  | [], _, _ => rfl
  | z :: rest, k, h => by
    have h1 := r.places (h z (by simp))
    have h2 := RenV.fairG r rest (k + 1) (fun zs hz => h zs (by simp [hz]))
    simp only [List.map_cons, Go.Proofs.Ytilbgopdciiadaa.fairG, h1, h2]
theorem RenV.mom (r : RenV C O T T') (hf : Fine C) (st : List Bool) : momOf (renC C O) st T' = momOf C st T := by
  have h1 := r.holds hf
  have h2 := r.places hf.u.b
  have h3 := r.fairG C.justice 0 hf.u.j
  have h4 := r.places hf.u.f
  have e1 : placesF (renC C O).bads T' = placesF C.bads T := h2
  have e2 : fairF (renC C O) T' = fairF C T := by
    unfold fairF
    have e3 : (renC C O).justice = C.justice.map (fun zs => zs.map (mvF (newM C O))) := rfl
    have e4 : (renC C O).fairness = C.fairness.map (mvF (newM C O)) := rfl
    rw [e3, e4, h3, h4]
  unfold momOf
  rw [h1, e1, e2]
end
/-- What Renumber makes, in one. -/
structure RenX (C : Circ) (O : List Int) : Prop where
  f : Fine C
  n : NewL C O
  c : (checkR (renC C O)).2 = 0
theorem renX_of (h0 : (checkR C).2 = 0) (hO : IsOrd C O) : RenX C O := by
  have hf := fine_of h0
  have hp := greedy_perm hO.g (by rw [hO.l, usesC_len])
  rw [usesC_len] at hp
  have hN := newL_of hf hp
  obtain ⟨h1, h2, h3, h4, h5, h6⟩ := check_parts h0
  exact ⟨hf, hN, ren_check hf h1 h5 h6 hN hO.g hO.l⟩
end
end Go.Proofs.Ytilbgopdciiadaa

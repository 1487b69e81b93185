/- Tern: the contracts of the calls Values and Step: the program's and the document's. -/
import Derived.Test.YtbeaicmjohlboaaGreatDoorSimD
import Derived.Test.YtbeaicmjohlboaaGreatDoorSetP
import Derived.Test.YtbeaicmjohlboaaGreatDoorSimE
namespace Go.Proofs.YtbeaicmjohlboaaGreatDoor

theorem getD_setF {T : List Bool} {i j : Nat} {b : Bool} (h : i ≠ j) : (T.set i b).getD j false = T.getD j false := by simp [List.getD, h]
theorem getD_setE {T : List Bool} {i : Nat} {b : Bool} (h : i < T.length) : (T.set i b).getD i false = b := by simp [List.getD, h]
def outG (C : Circ) (g : Int) : Int := (C.ands.getD g.toNat (0, 0, 0)).1
theorem half_inj {a b : Int} (ha : 2 ≤ a ∧ a % 2 = 0) (hb : 2 ≤ b ∧ b % 2 = 0) (h : (a / 2).toNat = (b / 2).toNat) : a = b := by omega
theorem nodup_half {ls : List Int} (h : ls.Nodup) (h2 : ∀ l ∈ ls, 2 ≤ l ∧ l % 2 = 0) : (ls.map (fun l => (l / 2).toNat)).Nodup := by
  induction ls with
  | nil => simp
  | cons a r ih =>
    rw [List.nodup_cons] at h
    rw [List.map_cons, List.nodup_cons]
    refine ⟨fun hm => ?_, ih h.2 (fun l hl => h2 l (by simp [hl]))⟩
    obtain ⟨b, hb, e⟩ := List.mem_map.1 hm
    have := half_inj (h2 b (by simp [hb])) (h2 a (by simp)) e
    subst this
    exact h.1 hb
theorem not_later {C : Circ} {out : List Int} (hf : Fine C) (h : NewL C out) (hG : Greedy (usesC C) out) (hl : out.length = C.ands.length) {k : Nat} {g : Int} (hg : out[k]? = some g) {l : Int}
    (hll : l = (C.ands.getD g.toNat (0, 0, 0)).2.1 ∨ l = (C.ands.getD g.toNat (0, 0, 0)).2.2) {j : Nat} {g2 : Int} (hj : k ≤ j) (hg2 : out[j]? = some g2) : (outG C g2 / 2).toNat ≠ (l / 2).toNat := by
  intro e
  have hlt := ren_lt hf h hG hl hg hll
  have hline := line_gate h hg2
  have h2 := h.two _ (List.mem_of_getElem? hline)
  unfold outG at e
  have hr := hG.inR g (List.mem_of_getElem? hg)
  rw [usesC_len] at hr
  unfold InR at hr
  obtain ⟨z, hz⟩ : ∃ z, C.ands[g.toNat]? = some z := ⟨_, List.getElem?_eq_getElem (by omega)⟩
  have hzD : C.ands.getD g.toNat (0, 0, 0) = z := by simp [List.getD_eq_getElem?_getD, hz]
  have hu : UseL C l := by
    have := hf.u.a z (List.mem_of_getElem? hz)
    rw [hzD] at hll
    rcases hll with rfl | rfl
    · exact this.1
    · exact this.2
  have hl0 := hu.1
  rcases mv_cases h hu with ⟨hl2, _⟩ | ⟨q, hq, eq⟩
  · omega
  · rw [show 2 * (l / 2) = (C.ands.getD g2.toNat (0, 0, 0)).1 by omega] at hq
    have := nodup_get h.nd hq hline
    omega
section
variable {C : Circ} {O : List Int} {st row : List Bool}
end
end Go.Proofs.YtbeaicmjohlboaaGreatDoor

namespace Go.Proofs.YtbeaicmjohlboaaGreatDoor

theorem def_two {C : Circ} (h0 : (checkR C).2 = 0) : ∀ l ∈ defsL C, 2 ≤ l ∧ l % 2 = 0 ∧ l / 2 ≤ C.max := fun l hl => (fine_of h0).d.two l hl
theorem def_nd {C : Circ} (h0 : (checkR C).2 = 0) : (defsL C).Nodup := (fine_of h0).d.nd
theorem ord_perm {C : Circ} {O : List Int} (hO : IsOrd C O) : O.Perm (intRange C.ands.length) := by
  have hp := greedy_perm hO.g (by rw [hO.l, usesC_len])
  rwa [usesC_len] at hp
theorem ord_mem {C : Circ} {O : List Int} (_h0 : (checkR C).2 = 0) (hO : IsOrd C O) : ∀ i : Nat, i < C.ands.length → (i : Int) ∈ O := fun i hi => (ord_perm hO).mem_iff.2 (mem_intRange.2 ⟨by omega, by omega⟩)
theorem ord_nd {C : Circ} {O : List Int} (_h0 : (checkR C).2 = 0) (hO : IsOrd C O) : O.Nodup := hO.g.nodup
theorem not_later_ {C : Circ} {O : List Int} (h0 : (checkR C).2 = 0) (hO : IsOrd C O) {k : Nat} {g : Int} (hg : O[k]? = some g) {l : Int}
    (hll : l = (C.ands.getD g.toNat (0, 0, 0)).2.1 ∨ l = (C.ands.getD g.toNat (0, 0, 0)).2.2) {j : Nat} {g2 : Int} (hj : k ≤ j) (hg2 : O[j]? = some g2) : (outG C g2 / 2).toNat ≠ (l / 2).toNat :=
  not_later (fine_of h0) (newL_of (fine_of h0) (ord_perm hO)) hO.g hO.l hg hll hj hg2
/-- Three values. -/
def not3 (x : Int) : Int := if x = 2 then 2 else 1 - x
def and3 (x y : Int) : Int := if x = 0 ∨ y = 0 then 0 else if x = 1 ∧ y = 1 then 1 else 2
def lit3 (t : List Int) (l : Int) : Int := if l % 2 = 1 then not3 (t.getD (l / 2).toNat 0) else t.getD (l / 2).toNat 0
def put3 (ps : List (Int × Int)) (t : List Int) : List Int := ps.foldl (fun t p => t.set (p.1 / 2).toNat p.2) t
def gate3 (C : Circ) (t : List Int) (g : Int) : List Int :=
  t.set ((C.ands.getD g.toNat (0, 0, 0)).1 / 2).toNat (and3 (lit3 t (C.ands.getD g.toNat (0, 0, 0)).2.1) (lit3 t (C.ands.getD g.toNat (0, 0, 0)).2.2))
def gates3 (C : Circ) (gs : List Int) (t : List Int) : List Int := gs.foldl (gate3 C) t
def zero3 (C : Circ) : List Int := 0 :: List.replicate C.max.toNat 2
def base3 (C : Circ) (L I : List Int) : List Int := put3 ((C.latches.map (·.1)).zip L) (put3 (C.inputs.zip I) (zero3 C))
def val3 (C : Circ) (gs L I : List Int) : List Int := gates3 C gs (base3 C L I)
def next3 (C : Circ) (t : List Int) : List Int := C.latches.map fun z => lit3 t z.2.1
def V3 (x : Int) : Prop := x = 0 ∨ x = 1 ∨ x = 2
def Row3 (L : List Int) : Prop := ∀ x ∈ L, V3 x
theorem put3_len : ∀ (ps : List (Int × Int)) (t : List Int), (put3 ps t).length = t.length
  | [], _ => rfl
  | p :: r, t => by
    show (put3 r (t.set (p.1 / 2).toNat p.2)).length = t.length
    rw [put3_len r]; simp
theorem put3_snoc (ps : List (Int × Int)) (p : Int × Int) (t : List Int) : put3 (ps ++ [p]) t = (put3 ps t).set (p.1 / 2).toNat p.2 := by simp [put3, List.foldl_append]
theorem gates3_len (C : Circ) : ∀ (gs : List Int) (t : List Int), (gates3 C gs t).length = t.length
  | [], _ => rfl
  | g :: r, t => by
    show (gates3 C r (gate3 C t g)).length = t.length
    rw [gates3_len C r]; simp [gate3]
theorem gates3_snoc (C : Circ) (gs : List Int) (g : Int) (t : List Int) : gates3 C (gs ++ [g]) t = gate3 C (gates3 C gs t) g := by simp [gates3, List.foldl_append]
theorem zero3_len (C : Circ) : (zero3 C).length = C.max.toNat + 1 := by simp [zero3]
theorem base3_len (C : Circ) (L I : List Int) : (base3 C L I).length = C.max.toNat + 1 := by unfold base3; rw [put3_len, put3_len, zero3_len]
theorem val3_len (C : Circ) (gs L I : List Int) : (val3 C gs L I).length = C.max.toNat + 1 := by unfold val3; rw [gates3_len, base3_len]
theorem next3_len (C : Circ) (T : List Int) : (next3 C T).length = C.latches.length := by simp [next3]
theorem next3_at {C : Circ} {T : List Int} {k : Nat} {z : Tri} (h : C.latches[k]? = some z) : (next3 C T)[k]? = some (lit3 T z.2.1) := by simp [next3, List.getElem?_map, h]
theorem set3_far {T : List Int} {i j : Nat} {b : Int} (h : i ≠ j) : (T.set i b).getD j 0 = T.getD j 0 := by simp [List.getD, h]
theorem set3_at {T : List Int} {i : Nat} {b : Int} (h : i < T.length) : (T.set i b).getD i 0 = b := by simp [List.getD, h]
theorem gates3_far {C : Circ} {v : Nat} : ∀ (gs : List Int) (T : List Int), (∀ g ∈ gs, (outG C g / 2).toNat ≠ v) → (gates3 C gs T).getD v 0 = T.getD v 0
  | [], _, _ => rfl
  | g :: r, T, h => by
    show (gates3 C r (gate3 C T g)).getD v 0 = _
    rw [gates3_far r _ (fun x hx => h x (by simp [hx]))]
    exact set3_far (h g (by simp))
theorem put3_far {v : Nat} : ∀ (ps : List (Int × Int)) (T : List Int), (∀ p ∈ ps, (p.1 / 2).toNat ≠ v) → (put3 ps T).getD v 0 = T.getD v 0
  | [], _, _ => rfl
  | p :: r, T, h => by
    show (put3 r (T.set (p.1 / 2).toNat p.2)).getD v 0 = _
    rw [put3_far r _ (fun x hx => h x (by simp [hx]))]
    exact set3_far (h p (by simp))
theorem put3_get : ∀ (ps : List (Int × Int)) (T : List Int), (ps.map (fun p => (p.1 / 2).toNat)).Nodup → (∀ p ∈ ps, (p.1 / 2).toNat < T.length) → ∀ p ∈ ps, (put3 ps T).getD (p.1 / 2).toNat 0 = p.2
  | q :: r, T, hn, hl, p, hp => by
    show (put3 r (T.set (q.1 / 2).toNat q.2)).getD (p.1 / 2).toNat 0 = p.2
    rw [List.map_cons, List.nodup_cons] at hn
    rcases List.mem_cons.1 hp with rfl | hp
    · rw [put3_far r _ (fun x hx e => hn.1 (List.mem_map.2 ⟨x, hx, e⟩))]
      exact set3_at (hl p (by simp))
    · exact put3_get r _ hn.2 (fun x hx => by rw [List.length_set]; exact hl x (by simp [hx])) p hp
/-- What three values of all variables are, but for those that nothing defines. -/
structure ValA (C : Circ) (L I T : List Int) : Prop where
  z : T.getD 0 0 = 0
  i : ∀ (k : Nat) (l b : Int), C.inputs[k]? = some l → I[k]? = some b → T.getD (l / 2).toNat 0 = b
  l : ∀ (k : Nat) (z : Tri) (b : Int), C.latches[k]? = some z → L[k]? = some b → T.getD (z.1 / 2).toNat 0 = b
  a : ∀ z ∈ C.ands, T.getD (z.1 / 2).toNat 0 = and3 (lit3 T z.2.1) (lit3 T z.2.2)
structure ValB (C : Circ) (L I T : List Int) : Prop extends ValA C L I T where
  len : T.length = C.max.toNat + 1
  n : ∀ v : Nat, 1 ≤ v → v ≤ C.max.toNat → 2 * (v : Int) ∉ defsL C → T.getD v 0 = 2
section
variable {C : Circ} {O L I : List Int}
theorem valB (h0 : (checkR C).2 = 0) (hO : IsOrd C O) (h1 : L.length = C.latches.length) (h2 : I.length = C.inputs.length) : ValB C L I (val3 C O L I) := by
  have hdt := def_two h0
  have hnd := def_nd h0
  have hm0 := (right_of h0).m0
  have hev : ∀ l ∈ defsL C, 2 ≤ l ∧ l % 2 = 0 := fun l hl => ⟨(hdt l hl).1, (hdt l hl).2.1⟩
  unfold defsL at hnd
  obtain ⟨hn1, hn2, hd1⟩ := List.nodup_append.1 hnd
  obtain ⟨hn3, hn4, hd2⟩ := List.nodup_append.1 hn1
  have mi : ∀ l ∈ C.inputs, l ∈ defsL C := fun l hl => by simp [defsL, hl]
  have ml2 : ∀ l ∈ C.latches.map (·.1), l ∈ defsL C := fun l hl => by
    unfold defsL
    exact List.mem_append_left _ (List.mem_append_right _ hl)
  have ml : ∀ z ∈ C.latches, z.1 ∈ defsL C := fun z hz => ml2 _ (List.mem_map.2 ⟨z, hz, rfl⟩)
  have mo1 : ∀ g ∈ O, outG C g ∈ C.ands.map (·.1) := fun g hg => by
    have hr := hO.inR g hg
    obtain ⟨z, hz⟩ : ∃ z, C.ands[g.toNat]? = some z := ⟨_, List.getElem?_eq_getElem (by omega)⟩
    refine List.mem_map.2 ⟨z, List.mem_of_getElem? hz, ?_⟩
    simp [outG, List.getD_eq_getElem?_getD, hz]
  have mo : ∀ g ∈ O, outG C g ∈ defsL C := fun g hg => by
    unfold defsL
    exact List.mem_append_right _ (mo1 g hg)
  have hbl := base3_len C L I
  have hz1 : (C.inputs.zip I).map (·.1) = C.inputs := List.map_fst_zip (by omega)
  have hz2 : ((C.latches.map (·.1)).zip L).map (·.1) = C.latches.map (·.1) := List.map_fst_zip (by simp; omega)
  have fst1 : ∀ p ∈ C.inputs.zip I, p.1 ∈ C.inputs := fun p hp => by rw [← hz1]; exact List.mem_map.2 ⟨p, hp, rfl⟩
  have fst2 : ∀ p ∈ (C.latches.map (·.1)).zip L, p.1 ∈ C.latches.map (·.1) := fun p hp => by rw [← hz2]; exact List.mem_map.2 ⟨p, hp, rfl⟩
  have hidx : ∀ l ∈ defsL C, (l / 2).toNat < C.max.toNat + 1 := fun l hl => by have := hdt l hl; omega
  have hz0 : (zero3 C).getD 0 0 = 0 := rfl
  have hno0 : ∀ l ∈ defsL C, (l / 2).toNat ≠ 0 := fun l hl => by have := hev l hl; omega
  refine ⟨⟨?_, fun k l b hk hb => ?_, fun k z b hk hb => ?_, fun z hz => ?_⟩, val3_len _ _ _ _, fun v hv1 hv2 hv => ?_⟩
  · unfold val3
    rw [gates3_far O _ (fun g hg => hno0 _ (mo g hg))]
    unfold base3
    rw [put3_far _ _ (fun p hp => hno0 _ (ml2 _ (fst2 p hp))), put3_far _ _ (fun p hp => hno0 _ (mi _ (fst1 p hp)))]
    exact hz0
  · have hl := List.mem_of_getElem? hk
    unfold val3
    rw [gates3_far O _ (fun g hg e => by
      have := half_inj (hev _ (mo g hg)) (hev _ (mi l hl)) e
      exact hd1 l (List.mem_append_left _ hl) (outG C g) (mo1 g hg) this.symm)]
    unfold base3
    rw [put3_far _ _ (fun p hp e => by
      have hp1 := fst2 p hp
      have := half_inj (hev _ (ml2 _ hp1)) (hev _ (mi l hl)) e
      exact hd2 l hl p.1 hp1 this.symm)]
    refine put3_get (C.inputs.zip I) _ ?_ (fun p hp => by rw [zero3_len]; exact hidx _ (mi _ (fst1 p hp))) (l, b) (List.mem_of_getElem? (by rw [List.getElem?_zip_eq_some]; exact ⟨hk, hb⟩))
    have := nodup_half hn3 (fun l hl => hev l (mi l hl))
    rw [← hz1, List.map_map] at this
    exact this
  · have hl : z.1 ∈ C.latches.map (·.1) := List.mem_map.2 ⟨z, List.mem_of_getElem? hk, rfl⟩
    unfold val3
    rw [gates3_far O _ (fun g hg e => by
      have := half_inj (hev _ (mo g hg)) (hev _ (ml2 _ hl)) e
      exact hd1 z.1 (List.mem_append_right _ hl) (outG C g) (mo1 g hg) this.symm)]
    unfold base3
    have hmem : (z.1, b) ∈ (C.latches.map (·.1)).zip L := by
      have hkm : (C.latches.map (·.1))[k]? = some z.1 := by rw [List.getElem?_map, hk]; rfl
      have : ((C.latches.map (·.1)).zip L)[k]? = some (z.1, b) := by rw [List.getElem?_zip_eq_some]; exact ⟨hkm, hb⟩
      exact List.mem_of_getElem? this
    refine put3_get ((C.latches.map (·.1)).zip L) (put3 (C.inputs.zip I) (zero3 C)) ?_ (fun p hp => by rw [put3_len, zero3_len]; exact hidx _ (ml2 _ (fst2 p hp))) (z.1, b) hmem
    have := nodup_half hn4 (fun l hl => hev l (ml2 l hl))
    rw [← hz2, List.map_map] at this
    exact this
  · obtain ⟨i, hi⟩ := List.getElem?_of_mem hz
    have hil : i < C.ands.length := (List.getElem?_eq_some_iff.1 hi).1
    have hiO : (i : Int) ∈ O := ord_mem h0 hO i hil
    obtain ⟨k, hk⟩ := List.getElem?_of_mem hiO
    have hkl : k < O.length := (List.getElem?_eq_some_iff.1 hk).1
    have hdrop : O.drop k = (i : Int) :: O.drop (k + 1) := by
      rw [List.drop_eq_getElem_cons hkl]
      rw [List.getElem?_eq_getElem hkl] at hk
      injection hk with hk
      rw [hk]
    have hsplit : O = O.take k ++ (i : Int) :: O.drop (k + 1) := by
      have h4 := List.take_append_drop k O
      rw [hdrop] at h4
      exact h4.symm
    have hzD : C.ands.getD (i : Int).toNat (0, 0, 0) = z := by simp [List.getD_eq_getElem?_getD, hi]
    have hout : outG C (i : Int) = z.1 := by unfold outG; rw [hzD]
    have hT : val3 C O L I = gates3 C (O.drop (k + 1)) (gate3 C (gates3 C (O.take k) (base3 C L I)) i) := by
      unfold val3
      conv => lhs; rw [hsplit]
      unfold gates3
      rw [List.foldl_append, List.foldl_cons]
    have hlater : ∀ (l : Int), (l = z.2.1 ∨ l = z.2.2) → lit3 (val3 C O L I) l = lit3 (gates3 C (O.take k) (base3 C L I)) l := fun l hl => by
      have h5 : val3 C O L I = gates3 C ((i : Int) :: O.drop (k + 1)) (gates3 C (O.take k) (base3 C L I)) := hT
      have h6 : (val3 C O L I).getD (l / 2).toNat 0 = (gates3 C (O.take k) (base3 C L I)).getD (l / 2).toNat 0 := by
        rw [h5, gates3_far _ _ (fun g hg => ?_)]
        have : ∃ j, k ≤ j ∧ O[j]? = some g := by
          rcases List.mem_cons.1 hg with rfl | hg
          · exact ⟨k, Nat.le_refl _, hk⟩
          · obtain ⟨j, hj⟩ := List.getElem?_of_mem hg
            rw [List.getElem?_drop] at hj
            exact ⟨k + 1 + j, by omega, hj⟩
        obtain ⟨j, hj, hgj⟩ := this
        exact not_later_ h0 hO hk (by rw [hzD]; exact hl) hj hgj
      unfold lit3
      rw [h6]
    rw [hlater z.2.1 (.inl rfl), hlater z.2.2 (.inr rfl), hT, gates3_far _ _ (fun g hg e => ?_)]
    · unfold gate3
      rw [hzD]
      exact set3_at (by rw [gates3_len, hbl]; rw [← hout]; exact hidx _ (mo _ hiO))
    · obtain ⟨j, hj⟩ := List.getElem?_of_mem hg
      rw [List.getElem?_drop] at hj
      rw [← hout] at e
      have h6 := half_inj (hev _ (mo g (List.mem_of_getElem? hj))) (hev _ (mo _ hiO)) e
      have hgr := hO.inR g (List.mem_of_getElem? hj)
      obtain ⟨y, hy⟩ : ∃ y, C.ands[g.toNat]? = some y := ⟨_, List.getElem?_eq_getElem (by omega)⟩
      have h7 : (C.ands.map (·.1))[g.toNat]? = some z.1 := by
        rw [List.getElem?_map, hy]
        have : outG C g = y.1 := by simp [outG, List.getD_eq_getElem?_getD, hy]
        rw [← hout, ← h6, this]; rfl
      have h8 : (C.ands.map (·.1))[i]? = some z.1 := by rw [List.getElem?_map, hi]; rfl
      have h9 := nodup_get hn2 h7 h8
      have h10 : g = (i : Int) := by omega
      subst h10
      have := nodup_get (ord_nd h0 hO) hj hk
      omega
  · have hno : ∀ l ∈ defsL C, (l / 2).toNat ≠ v := fun l hl e => by
      have := hev l hl
      refine hv ?_
      rw [show 2 * (v : Int) = l by omega]
      exact hl
    unfold val3
    rw [gates3_far O _ (fun g hg => hno _ (mo g hg))]
    unfold base3
    rw [put3_far _ _ (fun p hp => hno _ (ml2 _ (fst2 p hp))), put3_far _ _ (fun p hp => hno _ (mi _ (fst1 p hp)))]
    obtain ⟨u, rfl⟩ : ∃ u, v = u + 1 := ⟨v - 1, by omega⟩
    have hu : u < C.max.toNat := by omega
    simp [zero3, List.getD, hu]
end
/-- What a row with more 2s is. -/
def Le3 (x y : Int) : Prop := x = y ∨ y = 2
theorem Le3.not {x y : Int} (h : Le3 x y) : Le3 (not3 x) (not3 y) := by
  unfold Le3 not3 at *
  rcases h with rfl | rfl
  · exact .inl rfl
  · exact .inr (by simp)
theorem Le3.and {x y a b : Int} (h : Le3 x a) (k : Le3 y b) : Le3 (and3 x y) (and3 a b) := by
  unfold Le3 and3 at *
  rcases h with rfl | rfl <;> rcases k with rfl | rfl
  · exact .inl rfl
  · by_cases h1 : x = 0 <;> simp [h1]
  · by_cases h1 : y = 0 <;> simp [h1]
  · simp
theorem Le3.trans {x y z : Int} (h : Le3 x y) (k : Le3 y z) : Le3 x z := by
  unfold Le3 at *
  rcases k with rfl | rfl
  · exact h
  · exact .inr rfl
theorem Le3.anti {x y : Int} (h : Le3 x y) (k : Le3 y x) : x = y := by
  unfold Le3 at *
  rcases h with rfl | rfl
  · rfl
  · rcases k with rfl | rfl <;> rfl
theorem Le3.lit {T U : List Int} {l : Int} (h : Le3 (T.getD (l / 2).toNat 0) (U.getD (l / 2).toNat 0)) : Le3 (lit3 T l) (lit3 U l) := by
  unfold lit3
  split
  · exact h.not
  · exact h
/-- A rank: a gate's literals lie lower than its own. -/
theorem rank_ex {C : Circ} {O : List Int} (h0 : (checkR C).2 = 0) (hO : IsOrd C O) : ∃ rk : Nat → Nat, ∀ z ∈ C.ands, rk (z.2.1 / 2).toNat < rk (z.1 / 2).toNat ∧ rk (z.2.2 / 2).toNat < rk (z.1 / 2).toNat := by
  refine ⟨fun v => if ∃ g ∈ O, (outG C g / 2).toNat = v then (O.map (fun g => (outG C g / 2).toNat)).idxOf v + 1 else 0, fun z hz => ?_⟩
  obtain ⟨i, hi⟩ := List.getElem?_of_mem hz
  have hil : i < C.ands.length := (List.getElem?_eq_some_iff.1 hi).1
  have hiO : (i : Int) ∈ O := ord_mem h0 hO i hil
  have hzD : C.ands.getD (i : Int).toNat (0, 0, 0) = z := by simp [List.getD_eq_getElem?_getD, hi]
  have hout : outG C (i : Int) = z.1 := by unfold outG; rw [hzD]
  have hmem : (z.1 / 2).toNat ∈ O.map (fun g => (outG C g / 2).toNat) := List.mem_map.2 ⟨i, hiO, by rw [hout]⟩
  have hlt := List.idxOf_lt_length_iff.2 hmem
  have hget := List.getElem_idxOf hlt
  simp only [List.getElem_map] at hget
  have hlen : (O.map (fun g => (outG C g / 2).toNat)).length = O.length := by simp
  generalize hk : (O.map (fun g => (outG C g / 2).toNat)).idxOf (z.1 / 2).toNat = k at *
  have hkl : k < O.length := by omega
  have hkO : O[k]? = some O[k] := List.getElem?_eq_getElem hkl
  have hgk : O[k]'hkl = (i : Int) := by
    have hr := hO.inR (O[k]'hkl) (List.getElem_mem hkl)
    have hrl : (O[k]'hkl).toNat < C.ands.length := by omega
    obtain ⟨y, hy⟩ : ∃ y, C.ands[(O[k]'hkl).toNat]? = some y := ⟨_, List.getElem?_eq_getElem hrl⟩
    have ho : outG C (O[k]'hkl) = y.1 := by simp [outG, List.getD_eq_getElem?_getD, hy]
    have hd1 : y.1 ∈ defsL C := by unfold defsL; exact List.mem_append_right _ (List.mem_map.2 ⟨y, List.mem_of_getElem? hy, rfl⟩)
    have hd2 : z.1 ∈ defsL C := by unfold defsL; exact List.mem_append_right _ (List.mem_map.2 ⟨z, hz, rfl⟩)
    have e1 := def_two h0 _ hd1
    have e2 := def_two h0 _ hd2
    rw [ho] at hget
    have e3 : y.1 = z.1 := half_inj ⟨e1.1, e1.2.1⟩ ⟨e2.1, e2.2.1⟩ hget
    have hn := def_nd h0
    unfold defsL at hn
    have hn2 := (List.nodup_append.1 hn).2.1
    have h7 : (C.ands.map (·.1))[(O[k]'hkl).toNat]? = some z.1 := by rw [List.getElem?_map, hy, ← e3]; rfl
    have h8 : (C.ands.map (·.1))[i]? = some z.1 := by rw [List.getElem?_map, hi]; rfl
    have := nodup_get hn2 h7 h8
    omega
  rw [hgk] at hkO
  have hself : ∃ g ∈ O, (outG C g / 2).toNat = (z.1 / 2).toNat := ⟨i, hiO, by rw [hout]⟩
  have key : ∀ l : Int, (l = z.2.1 ∨ l = z.2.2) → (if ∃ g ∈ O, (outG C g / 2).toNat = (l / 2).toNat then (O.map (fun g => (outG C g / 2).toNat)).idxOf (l / 2).toNat + 1 else 0) < k + 1 := fun l hl => by
    by_cases h : ∃ g ∈ O, (outG C g / 2).toNat = (l / 2).toNat
    · rw [if_pos h]
      obtain ⟨g, hg, e⟩ := h
      have hm : (l / 2).toNat ∈ O.map (fun g => (outG C g / 2).toNat) := List.mem_map.2 ⟨g, hg, e⟩
      have hl2 := List.idxOf_lt_length_iff.2 hm
      have hg2 := List.getElem_idxOf hl2
      simp only [List.getElem_map] at hg2
      generalize (O.map (fun g => (outG C g / 2).toNat)).idxOf (l / 2).toNat = j at *
      rcases Nat.lt_or_ge j k with h9 | h9
      · omega
      · exact absurd hg2 (not_later_ h0 hO hkO (by rw [hzD]; exact hl) h9 (List.getElem?_eq_getElem (by omega)))
    · rw [if_neg h]; omega
  simp only
  rw [if_pos hself, hk]
  exact ⟨key _ (.inl rfl), key _ (.inr rfl)⟩
/-- With more 2s in the rows there are but more 2s. -/
theorem mono3 {C : Circ} {O L I T L' I' T' : List Int} (h0 : (checkR C).2 = 0) (hO : IsOrd C O) (h : ValA C L I T) (h' : ValB C L' I' T') (hL : L'.length = C.latches.length) (hI : I'.length = C.inputs.length) (l1 : L.length = L'.length) (i1 : I.length = I'.length)
    (hl : ∀ k, Le3 (L.getD k 0) (L'.getD k 0)) (hi : ∀ k, Le3 (I.getD k 0) (I'.getD k 0)) : ∀ v : Nat, v ≤ C.max.toNat → Le3 (T.getD v 0) (T'.getD v 0) := by
  obtain ⟨rk, hrk⟩ := rank_ex h0 hO
  have hr := right_of h0
  intro v
  generalize hn : rk v = n
  induction n using Nat.strongRecOn generalizing v with
  | _ n ih =>
    intro hv
    by_cases hz : v = 0
    · subst hz
      rw [h.z, h'.z]; exact .inl rfl
    by_cases hd : 2 * (v : Int) ∈ defsL C
    · unfold defsL at hd
      rcases List.mem_append.1 hd with hd | hd
      · rcases List.mem_append.1 hd with hd | hd
        · obtain ⟨k, hk⟩ := List.getElem?_of_mem hd
          have hkl := (List.getElem?_eq_some_iff.1 hk).1
          have e1 := h.i k _ (I.getD k 0) hk (by rw [List.getD_eq_getElem?_getD, List.getElem?_eq_getElem (by omega)]; rfl)
          have e2 := h'.i k _ (I'.getD k 0) hk (by rw [List.getD_eq_getElem?_getD, List.getElem?_eq_getElem (by omega)]; rfl)
          rw [show (2 * (v : Int) / 2).toNat = v by omega] at e1 e2
          rw [e1, e2]; exact hi k
        · obtain ⟨z, hz1, hz2⟩ := List.mem_map.1 hd
          obtain ⟨k, hk⟩ := List.getElem?_of_mem hz1
          have hkl := (List.getElem?_eq_some_iff.1 hk).1
          have e1 := h.l k _ (L.getD k 0) hk (by rw [List.getD_eq_getElem?_getD, List.getElem?_eq_getElem (by omega)]; rfl)
          have e2 := h'.l k _ (L'.getD k 0) hk (by rw [List.getD_eq_getElem?_getD, List.getElem?_eq_getElem (by omega)]; rfl)
          rw [show (z.1 / 2).toNat = v by omega] at e1 e2
          rw [e1, e2]; exact hl k
      · obtain ⟨z, hz1, hz2⟩ := List.mem_map.1 hd
        have e1 := h.a z hz1
        have e2 := h'.a z hz1
        have hv2 : (z.1 / 2).toNat = v := by omega
        rw [hv2] at e1 e2
        rw [e1, e2]
        obtain ⟨r1, r2⟩ := hrk z hz1
        rw [hv2] at r1 r2
        have hza := hr.a z hz1
        have b1 := hza.2.1
        have b2 := hza.2.2
        exact (ih _ (by omega) (z.2.1 / 2).toNat rfl (by obtain ⟨_, _⟩ := b1; omega)).lit.and (ih _ (by omega) (z.2.2 / 2).toNat rfl (by obtain ⟨_, _⟩ := b2; omega)).lit
    · exact .inr (h'.n v (by omega) hv hd)
theorem list_ext3 {T T' : List Int} {n : Nat} (h1 : T.length = n) (h2 : T'.length = n) (h : ∀ v, v < n → T.getD v 0 = T'.getD v 0) : T = T' := by
  refine List.ext_getElem (by omega) fun i hi hi' => ?_
  have := h i (by omega)
  simpa [List.getD_eq_getElem?_getD, List.getElem?_eq_getElem hi, List.getElem?_eq_getElem hi'] using this
/-- There is one such list alone. -/
theorem one3 {C : Circ} {O L I T T' : List Int} (h0 : (checkR C).2 = 0) (hO : IsOrd C O) (h : ValB C L I T) (h' : ValB C L I T') (hL : L.length = C.latches.length) (hI : I.length = C.inputs.length) : T = T' :=
  list_ext3 h.len h'.len fun v hv => Le3.anti (mono3 h0 hO h.toValA h' hL hI rfl rfl (fun _ => .inl rfl) (fun _ => .inl rfl) v (by omega)) (mono3 h0 hO h'.toValA h hL hI rfl rfl (fun _ => .inl rfl) (fun _ => .inl rfl) v (by omega))
/-- A variable made 2, and what it was. -/
def put1 (s : List Int × List (Int × Int)) (v : Nat) : List Int × List (Int × Int) := if s.1.getD v 0 = 2 then s else (s.1.set v 2, s.2 ++ [((v : Int), s.1.getD v 0)])
def gv3 (T : List Int) (z : Tri) : Int := and3 (lit3 T z.2.1) (lit3 T z.2.2)
def user1 (C : Circ) (s : List Int × List (Int × Int)) (i : Int) : List Int × List (Int × Int) :=
  if gv3 s.1 (C.ands.getD i.toNat (0, 0, 0)) = 2 then put1 s ((C.ands.getD i.toNat (0, 0, 0)).1 / 2).toNat else s
/-- What stands on the way of what becomes 2. -/
structure Lo (C : Circ) (T Ts : List Int) (tr0 : List (Int × Int)) (s : List Int × List (Int × Int)) (a : Nat) (Pd : Nat → Prop) : Prop where
  len : s.1.length = T.length
  ex : ∃ new, s.2 = tr0 ++ new ∧ (new.map (·.1)).Nodup ∧ (∀ p ∈ new, ∃ v : Nat, p.1 = (v : Int) ∧ v < T.length ∧ p.2 = T.getD v 0 ∧ p.2 ≠ 2 ∧ s.1.getD v 0 = 2) ∧ ∀ v : Nat, s.1.getD v 0 = T.getD v 0 ∨ ((v : Int), T.getD v 0) ∈ new
  up : ∀ v, Le3 (s.1.getD v 0) (Ts.getD v 0)
  le : ∀ z ∈ C.ands, Le3 (s.1.getD (z.1 / 2).toNat 0) (gv3 s.1 z)
  eq : ∀ (i : Nat) (z : Tri), C.ands[i]? = some z → s.1.getD (z.1 / 2).toNat 0 = gv3 s.1 z ∨ (∃ (pos : Nat) (p : Int × Int), a ≤ pos ∧ s.2[pos]? = some p ∧ (p.1 = z.2.1 / 2 ∨ p.1 = z.2.2 / 2)) ∨ Pd i
theorem set_le3 {T : List Int} {v w : Nat} (h : v < T.length) : Le3 (T.getD w 0) ((T.set v 2).getD w 0) := by
  by_cases e : v = w
  · subst e; rw [set3_at h]; exact .inr rfl
  · rw [set3_far e]; exact .inl rfl
theorem gv3_le {T U : List Int} {z : Tri} (h : ∀ v, Le3 (T.getD v 0) (U.getD v 0)) : Le3 (gv3 T z) (gv3 U z) := (h _).lit.and (h _).lit
theorem lit3_congr {T U : List Int} {l : Int} (h : T.getD (l / 2).toNat 0 = U.getD (l / 2).toNat 0) : lit3 T l = lit3 U l := by unfold lit3; rw [h]
section
variable {C : Circ} {O L I T Ts : List Int} {tr0 : List (Int × Int)} {s : List Int × List (Int × Int)} {a : Nat} {Pd : Nat → Prop}
/-- One variable more is made 2. -/
theorem Lo.put (h0 : (checkR C).2 = 0) (h : Lo C T Ts tr0 s a Pd) {v : Nat} (hv : v < T.length) (hts : Ts.getD v 0 = 2) (hg : ∀ z ∈ C.ands, (z.1 / 2).toNat = v → gv3 s.1 z = 2) (ha : a ≤ s.2.length) :
    Lo C T Ts tr0 (put1 s v) a Pd := by
  unfold put1
  by_cases h2 : s.1.getD v 0 = 2
  · rw [if_pos h2]; exact h
  rw [if_neg h2]
  obtain ⟨new, e1, e2, e3, e4⟩ := h.ex
  have hvl : v < s.1.length := by rw [h.len]; exact hv
  have hsv : s.1.getD v 0 = T.getD v 0 := by
    rcases e4 v with e | e
    · exact e
    · obtain ⟨u, q1, _, _, _, q5⟩ := e3 _ e
      simp only at q1
      have : v = u := by omega
      subst this
      exact absurd q5 h2
  have hnew : (v : Int) ∉ new.map (·.1) := fun hm => by
    obtain ⟨p, hp, hp1⟩ := List.mem_map.1 hm
    obtain ⟨u, q1, _, _, _, q5⟩ := e3 p hp
    have : u = v := by omega
    subst this
    exact h2 q5
  have hmono : ∀ w, Le3 (s.1.getD w 0) ((s.1.set v 2).getD w 0) := fun w => set_le3 hvl
  refine ⟨by simp [h.len], ⟨new ++ [((v : Int), s.1.getD v 0)], by simp [e1], ?_, fun p hp => ?_, fun w => ?_⟩, fun w => ?_, fun z hz => ?_, fun i z hz => ?_⟩
  · rw [List.map_append, List.nodup_append]
    refine ⟨e2, by simp, fun x hx y hy e => ?_⟩
    simp at hy
    subst hy e
    exact hnew hx
  · rcases List.mem_append.1 hp with hp | hp
    · obtain ⟨u, q1, q2, q3, q4, q5⟩ := e3 p hp
      refine ⟨u, q1, q2, q3, q4, ?_⟩
      by_cases e : v = u
      · subst e; exact set3_at hvl
      · simp only; rw [set3_far e]; exact q5
    · simp at hp
      subst hp
      exact ⟨v, rfl, hv, hsv, h2, set3_at hvl⟩
  · by_cases e : v = w
    · subst e
      exact .inr (by rw [hsv]; simp)
    · simp only
      rw [set3_far e]
      rcases e4 w with q | q
      · exact .inl q
      · exact .inr (List.mem_append_left _ q)
  · by_cases e : v = w
    · subst e; simp only; rw [set3_at hvl, hts]; exact .inl rfl
    · simp only; rw [set3_far e]; exact h.up w
  · by_cases e : (z.1 / 2).toNat = v
    · have := hg z hz e
      have h3 := gv3_le (z := z) hmono
      rw [this] at h3
      rcases h3 with h3 | h3
      · exact .inr h3.symm
      · exact .inr h3
    · simp only
      rw [set3_far (Ne.symm e)]
      exact (h.le z hz).trans (gv3_le hmono)
  · by_cases e : (z.1 / 2).toNat = v
    · refine .inl ?_
      have := hg z (List.mem_of_getElem? hz) e
      have h3 := gv3_le (z := z) hmono
      rw [this] at h3
      simp only
      rw [e, set3_at hvl]
      rcases h3 with h3 | h3
      · exact h3
      · exact h3.symm
    · have hend : (s.2 ++ [((v : Int), s.1.getD v 0)])[s.2.length]? = some ((v : Int), s.1.getD v 0) := by simp
      have hza := (right_of h0).a z (List.mem_of_getElem? hz)
      have hz1 : 0 ≤ z.2.1 := hza.2.1.1
      have hz2 : 0 ≤ z.2.2 := hza.2.2.1
      by_cases u1 : (z.2.1 / 2).toNat = v
      · exact .inr (.inl ⟨_, _, ha, hend, .inl (by simp only; omega)⟩)
      · by_cases u2 : (z.2.2 / 2).toNat = v
        · exact .inr (.inl ⟨_, _, ha, hend, .inr (by simp only; omega)⟩)
        · have hsame : gv3 (s.1.set v 2) z = gv3 s.1 z := by
            unfold gv3
            rw [lit3_congr (T := s.1.set v 2) (U := s.1) (set3_far (Ne.symm u1)), lit3_congr (T := s.1.set v 2) (U := s.1) (set3_far (Ne.symm u2))]
          rcases h.eq i z hz with q | ⟨pos, p, q1, q2, q3⟩ | q
          · refine .inl ?_
            simp only
            rw [set3_far (Ne.symm e), hsame]; exact q
          · refine .inr (.inl ⟨pos, p, q1, ?_, q3⟩)
            simp only
            rw [List.getElem?_append_left (List.getElem?_eq_some_iff.1 q2).1]; exact q2
          · exact .inr (.inr q)
theorem out_lt (h0 : (checkR C).2 = 0) {z : Tri} (hz : z ∈ C.ands) : (z.1 / 2).toNat < C.max.toNat + 1 := by
  have := ((right_of h0).a z hz).1
  omega
theorem out_one (h0 : (checkR C).2 = 0) {y z : Tri} (hy : y ∈ C.ands) (hz : z ∈ C.ands) (e : (y.1 / 2).toNat = (z.1 / 2).toNat) : y = z := by
  obtain ⟨i, hi⟩ := List.getElem?_of_mem hy
  obtain ⟨j, hj⟩ := List.getElem?_of_mem hz
  have hd1 : y.1 ∈ defsL C := by unfold defsL; exact List.mem_append_right _ (List.mem_map.2 ⟨y, hy, rfl⟩)
  have hd2 : z.1 ∈ defsL C := by unfold defsL; exact List.mem_append_right _ (List.mem_map.2 ⟨z, hz, rfl⟩)
  have e1 := def_two h0 _ hd1
  have e2 := def_two h0 _ hd2
  have e3 : y.1 = z.1 := half_inj ⟨e1.1, e1.2.1⟩ ⟨e2.1, e2.2.1⟩ e
  have hn := def_nd h0
  unfold defsL at hn
  have hn2 := (List.nodup_append.1 hn).2.1
  have h7 : (C.ands.map (·.1))[i]? = some z.1 := by rw [List.getElem?_map, hi, ← e3]; rfl
  have h8 : (C.ands.map (·.1))[j]? = some z.1 := by rw [List.getElem?_map, hj]; rfl
  have := nodup_get hn2 h7 h8
  subst this
  rw [hi] at hj
  injection hj
theorem Lo.user (h0 : (checkR C).2 = 0) (hTs : ValA C L I Ts) (hl : T.length = C.max.toNat + 1) (h : Lo C T Ts tr0 s a Pd) {i : Nat} (hi : i < C.ands.length) (ha : a ≤ s.2.length) : Lo C T Ts tr0 (user1 C s i) a (fun k => Pd k ∧ k ≠ i) := by
  obtain ⟨z, hz⟩ : ∃ z, C.ands[i]? = some z := ⟨_, List.getElem?_eq_getElem hi⟩
  have hzD : C.ands.getD (i : Int).toNat (0, 0, 0) = z := by simp [List.getD_eq_getElem?_getD, hz]
  have hzm := List.mem_of_getElem? hz
  unfold user1
  rw [hzD]
  by_cases hg : gv3 s.1 z = 2
  · rw [if_pos hg]
    have hts : Ts.getD (z.1 / 2).toNat 0 = 2 := by
      rw [hTs.a z hzm]
      have := gv3_le (z := z) h.up
      rw [hg] at this
      rcases this with e | e
      · exact e.symm
      · exact e
    have h9 := h.put h0 (v := (z.1 / 2).toNat) (by rw [hl]; exact out_lt h0 hzm) hts (fun y hy e => by rw [out_one h0 hy hzm e]; exact hg) ha
    refine ⟨h9.len, h9.ex, h9.up, h9.le, fun k y hk => ?_⟩
    by_cases e : k = i
    · subst e
      rw [hz] at hk
      injection hk with hk
      subst hk
      refine .inl ?_
      have hle := h9.le z hzm
      have h2 : (put1 s (z.1 / 2).toNat).1.getD (z.1 / 2).toNat 0 = 2 := by
        unfold put1
        split
        · assumption
        · exact set3_at (by rw [h.len, hl]; exact out_lt h0 hzm)
      rw [h2] at hle ⊢
      rcases hle with q | q
      · exact q
      · exact q.symm
    · rcases h9.eq k y hk with q | q | q
      · exact .inl q
      · exact .inr (.inl q)
      · exact .inr (.inr ⟨q, e⟩)
  · rw [if_neg hg]
    refine ⟨h.len, h.ex, h.up, h.le, fun k y hk => ?_⟩
    by_cases e : k = i
    · subst e
      rw [hz] at hk
      injection hk with hk
      subst hk
      rcases h.le z hzm with q | q
      · exact .inl q
      · exact absurd q hg
    · rcases h.eq k y hk with q | q | q
      · exact .inl q
      · exact .inr (.inl q)
      · exact .inr (.inr ⟨q, e⟩)
theorem Lo.longer {C : Circ} (s : List Int × List (Int × Int)) (i : Int) : s.2.length ≤ (user1 C s i).2.length := by
  unfold user1 put1
  split
  · split
    · exact Nat.le_refl _
    · simp
  · exact Nat.le_refl _
/-- The gates that use a variable. -/
def IsUsers (C : Circ) (v : Nat) (us : List Int) : Prop := ∀ x : Int, x ∈ us ↔ ∃ (i : Nat) (z : Tri), x = (i : Int) ∧ C.ands[i]? = some z ∧ ((z.2.1 / 2).toNat = v ∨ (z.2.2 / 2).toNat = v)
theorem Lo.users (h0 : (checkR C).2 = 0) (hTs : ValA C L I Ts) (hl : T.length = C.max.toNat + 1) : ∀ (us : List Int) {s : List Int × List (Int × Int)}, Lo C T Ts tr0 s a (fun k => (k : Int) ∈ us) → (∀ x ∈ us, 0 ≤ x ∧ x < (C.ands.length : Int)) → a ≤ s.2.length → Lo C T Ts tr0 (us.foldl (user1 C) s) a (fun _ => False)
  | [], s, h, _, _ => ⟨h.len, h.ex, h.up, h.le, fun i z hz => by
      rcases h.eq i z hz with q | q | q
      · exact .inl q
      · exact .inr (.inl q)
      · simp at q⟩
  | x :: r, s, h, hx, ha => by
    obtain ⟨x0, x1⟩ := hx x (by simp)
    obtain ⟨i, rfl⟩ : ∃ i : Nat, x = (i : Int) := ⟨x.toNat, by omega⟩
    have h1 := h.user h0 hTs hl (i := i) (by omega) ha
    refine Lo.users h0 hTs hl r ⟨h1.len, h1.ex, h1.up, h1.le, fun k z hz => ?_⟩ (fun y hy => hx y (by simp [hy])) (Nat.le_trans ha (Lo.longer s i))
    rcases h1.eq k z hz with q | q | ⟨q, q2⟩
    · exact .inl q
    · exact .inr (.inl q)
    · refine .inr (.inr ?_)
      rcases List.mem_cons.1 q with q | q
      · exact absurd (by omega) q2
      · exact q
theorem Lo.next (h : Lo C T Ts tr0 s a (fun _ => False)) {p : Int × Int} {v : Nat} (hp : s.2[a]? = some p) (hv : p.1 = (v : Int)) {us : List Int} (hu : IsUsers C v us) : Lo C T Ts tr0 s (a + 1) (fun k => (k : Int) ∈ us) :=
  ⟨h.len, h.ex, h.up, h.le, fun i z hz => by
    rcases h.eq i z hz with q | ⟨pos, r, q1, q2, q3⟩ | q
    · exact .inl q
    · rcases Nat.lt_or_ge a pos with hlt | hge
      · exact .inr (.inl ⟨pos, r, hlt, q2, q3⟩)
      · have : pos = a := by omega
        subst this
        rw [hp] at q2
        injection q2 with q2
        subst q2
        refine .inr (.inr ((hu _).2 ⟨i, z, rfl, hz, ?_⟩))
        rcases q3 with q | q
        · exact .inl (by omega)
        · exact .inr (by omega)
    · exact q.elim⟩
/-- At its end all is as the values are. -/
theorem Lo.fin (h0 : (checkR C).2 = 0) (hO : IsOrd C O) (hT : ValB C L I T) (hL : L.length = C.latches.length) (hI : I.length = C.inputs.length) {j : Nat} (hTs : ValB C (L.set j 2) I Ts) (h : Lo C T Ts tr0 s s.2.length (fun _ => False)) {zj : Tri} (hj : C.latches[j]? = some zj) (hsj : s.1.getD (zj.1 / 2).toNat 0 = 2) : s.1 = Ts := by
  obtain ⟨new, e1, e2, e3, e4⟩ := h.ex
  have hch : ∀ v, s.1.getD v 0 = T.getD v 0 ∨ (s.1.getD v 0 = 2 ∧ Ts.getD v 0 = 2) := fun v => by
    rcases e4 v with q | q
    · exact .inl q
    · obtain ⟨u, q1, _, _, _, q5⟩ := e3 _ q
      have : v = u := by simp only at q1; omega
      subst this
      refine .inr ⟨q5, ?_⟩
      have := h.up v
      rw [q5] at this
      rcases this with q | q
      · exact q.symm
      · exact q
  have hsame : ∀ v, Ts.getD v 0 = T.getD v 0 → s.1.getD v 0 = T.getD v 0 := fun v e => by
    rcases hch v with q | ⟨q, q2⟩
    · exact q
    · rw [q, ← e, q2]
  refine one3 h0 hO (L := L.set j 2) (I := I) ⟨⟨?_, fun k l b hk hb => ?_, fun k z b hk hb => ?_, fun z hz => ?_⟩, by rw [h.len, hT.len], fun v v1 v2 vd => ?_⟩ hTs (by simp [hL]) hI
  · rw [hsame 0 (by rw [hTs.z, hT.z]), hT.z]
  · rw [hsame _ (by rw [hTs.i k l b hk hb, hT.i k l b hk hb]), hT.i k l b hk hb]
  · by_cases e : j = k
    · subst e
      rw [hj] at hk
      injection hk with hk
      subst hk
      have : j < L.length := by rw [hL]; exact (List.getElem?_eq_some_iff.1 hj).1
      rw [List.getElem?_set_self this] at hb
      injection hb with hb
      rw [hsj, hb]
    · have hb2 : L[k]? = some b := by rwa [List.getElem?_set_ne e] at hb
      rw [hsame _ (by rw [hTs.l k z b hk hb, hT.l k z b hk hb2]), hT.l k z b hk hb2]
  · obtain ⟨i, hi⟩ := List.getElem?_of_mem hz
    rcases h.eq i z hi with q | ⟨pos, p, q1, q2, _⟩ | q
    · exact q
    · have := (List.getElem?_eq_some_iff.1 q2).1
      omega
    · exact q.elim
  · rw [hsame _ (by rw [hTs.n v v1 v2 vd, hT.n v v1 v2 vd]), hT.n v v1 v2 vd]
theorem latch_lt (h0 : (checkR C).2 = 0) {z : Tri} (hz : z ∈ C.latches) : (z.1 / 2).toNat < C.max.toNat + 1 := by
  have := ((right_of h0).l z hz).1
  omega
theorem latch_out (h0 : (checkR C).2 = 0) {z y : Tri} (hz : z ∈ C.latches) (hy : y ∈ C.ands) : (y.1 / 2).toNat ≠ (z.1 / 2).toNat := fun e => by
  have hd1 : y.1 ∈ defsL C := by unfold defsL; exact List.mem_append_right _ (List.mem_map.2 ⟨y, hy, rfl⟩)
  have hd2 : z.1 ∈ defsL C := by unfold defsL; exact List.mem_append_left _ (List.mem_append_right _ (List.mem_map.2 ⟨z, hz, rfl⟩))
  have e1 := def_two h0 _ hd1
  have e2 := def_two h0 _ hd2
  have e3 : y.1 = z.1 := half_inj ⟨e1.1, e1.2.1⟩ ⟨e2.1, e2.2.1⟩ e
  have hn := def_nd h0
  unfold defsL at hn
  exact (List.nodup_append.1 hn).2.2 z.1 (List.mem_append_right _ (List.mem_map.2 ⟨z, hz, rfl⟩)) y.1 (List.mem_map.2 ⟨y, hy, rfl⟩) e3.symm
/-- At its beginning: one latch is made 2. -/
theorem Lo.start (h0 : (checkR C).2 = 0) (hO : IsOrd C O) (hT : ValB C L I T) (hL : L.length = C.latches.length) (hI : I.length = C.inputs.length) {j : Nat} (hTs : ValB C (L.set j 2) I Ts) {zj : Tri} (hj : C.latches[j]? = some zj) : Lo C T Ts tr0 (put1 (T, tr0) (zj.1 / 2).toNat) tr0.length (fun _ => False) := by
  have hjl : j < L.length := by rw [hL]; exact (List.getElem?_eq_some_iff.1 hj).1
  have hup : ∀ v, Le3 (T.getD v 0) (Ts.getD v 0) := fun v => by
    rcases Nat.lt_or_ge v (C.max.toNat + 1) with hv | hv
    · refine mono3 h0 hO hT.toValA hTs (by simp [hL]) hI (by simp) rfl (fun k => ?_) (fun _ => .inl rfl) v (by omega)
      exact set_le3 hjl
    · rw [List.getD_eq_getElem?_getD, List.getElem?_eq_none (by rw [hT.len]; exact hv), List.getD_eq_getElem?_getD, List.getElem?_eq_none (by rw [hTs.len]; exact hv)]
      exact .inl rfl
  have hself : Lo C T Ts tr0 (T, tr0) tr0.length (fun _ => False) := by
    refine ⟨rfl, ⟨[], by simp, by simp, by simp, fun v => .inl rfl⟩, hup, fun z hz => .inl (hT.a z hz), fun i z hz => .inl (hT.a z (List.mem_of_getElem? hz))⟩
  refine hself.put h0 (by rw [hT.len]; exact latch_lt h0 (List.mem_of_getElem? hj)) (hTs.l j zj 2 hj (by rw [List.getElem?_set_self hjl])) (fun z hz e => absurd e (latch_out h0 (List.mem_of_getElem? hj) hz)) (Nat.le_refl _)
/-- What was changed is taken back. -/
def back1 (T : List Int) (new : List (Int × Int)) : List Int := new.foldl (fun t p => t.set p.1.toNat p.2) T
theorem back1_len : ∀ (new : List (Int × Int)) (T : List Int), (back1 T new).length = T.length
  | [], _ => rfl
  | p :: r, T => by
    show (back1 (T.set p.1.toNat p.2) r).length = _
    rw [back1_len r]; simp
theorem back1_snoc (T : List Int) (new : List (Int × Int)) (p : Int × Int) : back1 T (new ++ [p]) = (back1 T new).set p.1.toNat p.2 := by simp [back1, List.foldl_append]
theorem back1_get : ∀ (new : List (Int × Int)) (S T : List Int), S.length = T.length → (∀ p ∈ new, ∃ v : Nat, p.1 = (v : Int) ∧ v < T.length ∧ p.2 = T.getD v 0) → (∀ v : Nat, S.getD v 0 = T.getD v 0 ∨ ((v : Int), T.getD v 0) ∈ new) → ∀ v, (back1 S new).getD v 0 = T.getD v 0
  | [], S, T, _, _, h, v => by
    rcases h v with q | q
    · exact q
    · simp at q
  | p :: r, S, T, hl, hp, h, v => by
    show (back1 (S.set p.1.toNat p.2) r).getD v 0 = _
    obtain ⟨u, q1, q2, q3⟩ := hp p (by simp)
    refine back1_get r _ T (by simp [hl]) (fun x hx => hp x (by simp [hx])) (fun w => ?_) v
    have hpu : p.1.toNat = u := by omega
    rw [hpu]
    by_cases e : u = w
    · subst e
      exact .inl (by rw [set3_at (by rw [hl]; exact q2)]; exact q3)
    · rw [set3_far e]
      rcases h w with q | q
      · exact .inl q
      · rcases List.mem_cons.1 q with q | q
        · exfalso
          rw [← q] at q1
          simp only at q1
          omega
        · exact .inr q
theorem Lo.back (h : Lo C T Ts tr0 s a Pd) : back1 s.1 (s.2.drop tr0.length) = T := by
  obtain ⟨new, e1, e2, e3, e4⟩ := h.ex
  rw [e1, List.drop_left]
  refine list_ext3 (n := T.length) (by rw [back1_len, h.len]) rfl (fun v _ => back1_get new s.1 T h.len (fun p hp => ?_) e4 v)
  obtain ⟨v, q1, q2, q3, _⟩ := e3 p hp
  exact ⟨v, q1, q2, q3⟩
end
/-- From some values to others: what is 2 now, with what it was. -/
structure Ch (T U : List Int) (new : List (Int × Int)) : Prop where
  len : U.length = T.length
  nd : (new.map (·.1)).Nodup
  at_ : ∀ p ∈ new, ∃ v : Nat, p.1 = (v : Int) ∧ v < T.length ∧ p.2 = T.getD v 0 ∧ p.2 ≠ 2 ∧ U.getD v 0 = 2
  all : ∀ v : Nat, U.getD v 0 = T.getD v 0 ∨ ((v : Int), T.getD v 0) ∈ new
theorem Ch.refl (T : List Int) : Ch T T [] := ⟨rfl, by simp, by simp, fun _ => .inl rfl⟩
theorem Ch.trans {T U W : List Int} {a b : List (Int × Int)} (h : Ch T U a) (k : Ch U W b) : Ch T W (a ++ b) := by
  have keep : ∀ v : Nat, U.getD v 0 = 2 → W.getD v 0 = 2 := fun v e => by
    rcases k.all v with q | q
    · rw [q, e]
    · obtain ⟨u, q1, _, _, _, q5⟩ := k.at_ _ q
      have : v = u := by simp only at q1; omega
      subst this
      exact q5
  refine ⟨by rw [k.len, h.len], ?_, fun p hp => ?_, fun v => ?_⟩
  · rw [List.map_append, List.nodup_append]
    refine ⟨h.nd, k.nd, fun x hx y hy e => ?_⟩
    subst e
    obtain ⟨p, hp, rfl⟩ := List.mem_map.1 hx
    obtain ⟨q, hq, e⟩ := List.mem_map.1 hy
    obtain ⟨v, a1, _, _, _, a5⟩ := h.at_ p hp
    obtain ⟨u, b1, _, b3, b4, _⟩ := k.at_ q hq
    have : u = v := by omega
    subst this
    exact b4 (by rw [b3]; exact a5)
  · rcases List.mem_append.1 hp with hp | hp
    · obtain ⟨v, a1, a2, a3, a4, a5⟩ := h.at_ p hp
      exact ⟨v, a1, a2, a3, a4, keep v a5⟩
    · obtain ⟨u, b1, b2, b3, b4, b5⟩ := k.at_ p hp
      refine ⟨u, b1, by rw [← h.len]; exact b2, ?_, b4, b5⟩
      rcases h.all u with q | q
      · rw [b3, q]
      · obtain ⟨v, a1, _, _, _, a5⟩ := h.at_ _ q
        have : u = v := by simp only at a1; omega
        subst this
        exact absurd (by rw [b3]; exact a5) b4
  · rcases k.all v with q | q
    · rcases h.all v with q2 | q2
      · exact .inl (by rw [q, q2])
      · exact .inr (List.mem_append_left _ q2)
    · rcases h.all v with q2 | q2
      · rw [q2] at q
        exact .inr (List.mem_append_right _ q)
      · exact .inr (List.mem_append_left _ q2)
theorem Lo.ch {C : Circ} {T Ts : List Int} {tr0 : List (Int × Int)} {s : List Int × List (Int × Int)} {a : Nat} {Pd : Nat → Prop} (h : Lo C T Ts tr0 s a Pd) : Ch T s.1 (s.2.drop tr0.length) ∧ s.2 = tr0 ++ s.2.drop tr0.length := by
  obtain ⟨new, e1, e2, e3, e4⟩ := h.ex
  rw [e1, List.drop_left]
  exact ⟨⟨h.len, e2, e3, e4⟩, rfl⟩
/-- The trail, as it is bounded. -/
structure Trl (T : List Int) (tr : List (Int × Int)) : Prop where
  nd : (tr.map (·.1)).Nodup
  at_ : ∀ p ∈ tr, ∃ v : Nat, p.1 = (v : Int) ∧ v < T.length ∧ T.getD v 0 = 2
theorem Trl.nil (T : List Int) : Trl T [] := ⟨by simp, by simp⟩
theorem Trl.add {T U : List Int} {tr new : List (Int × Int)} (h : Trl T tr) (k : Ch T U new) : Trl U (tr ++ new) := by
  refine ⟨?_, fun p hp => ?_⟩
  · rw [List.map_append, List.nodup_append]
    refine ⟨h.nd, k.nd, fun x hx y hy e => ?_⟩
    subst e
    obtain ⟨p, hp, rfl⟩ := List.mem_map.1 hx
    obtain ⟨q, hq, e⟩ := List.mem_map.1 hy
    obtain ⟨v, a1, _, a5⟩ := h.at_ p hp
    obtain ⟨u, b1, _, b3, b4, _⟩ := k.at_ q hq
    have : u = v := by omega
    subst this
    exact b4 (by rw [b3]; exact a5)
  · rcases List.mem_append.1 hp with hp | hp
    · obtain ⟨v, a1, a2, a5⟩ := h.at_ p hp
      refine ⟨v, a1, by rw [k.len]; exact a2, ?_⟩
      rcases k.all v with q | q
      · rw [q, a5]
      · obtain ⟨u, b1, _, b3, b4, _⟩ := k.at_ _ q
        have : v = u := by simp only at b1; omega
        subst this
        exact absurd a5 (by simp only at b4; exact b4)
    · obtain ⟨u, b1, b2, b3, b4, b5⟩ := k.at_ p hp
      exact ⟨u, b1, by rw [k.len]; exact b2, b5⟩
theorem Trl.le {T : List Int} {tr : List (Int × Int)} (h : Trl T tr) : tr.length ≤ T.length := by
  have := nodup_sub h.nd (m := (List.range T.length).map (fun v : Nat => (v : Int))) (fun x hx => by
    obtain ⟨p, hp, rfl⟩ := List.mem_map.1 hx
    obtain ⟨v, a1, a2, _⟩ := h.at_ p hp
    exact List.mem_map.2 ⟨v, List.mem_range.2 a2, a1.symm⟩)
  simpa using this
theorem Lo.trl {C : Circ} {T Ts : List Int} {tr0 : List (Int × Int)} {s : List Int × List (Int × Int)} {a : Nat} {Pd : Nat → Prop} (h : Lo C T Ts tr0 s a Pd) (k : Trl T tr0) : Trl s.1 s.2 := by
  obtain ⟨h1, h2⟩ := h.ch
  rw [h2]
  exact k.add h1

theorem cnt_le : ∀ (L M : List Int), M.length = L.length → (∀ k, Le3 (L.getD k 0) (M.getD k 0)) → (M.filter (fun x => decide (x ≠ 2))).length ≤ (L.filter (fun x => decide (x ≠ 2))).length ∧ (M ≠ L → (M.filter (fun x => decide (x ≠ 2))).length < (L.filter (fun x => decide (x ≠ 2))).length)
  | [], [], _, _ => by simp
  | a :: r, b :: s, h, k => by
    have ih := cnt_le r s (by simpa using h) (fun i => by simpa using k (i + 1))
    have k0 : Le3 a b := by simpa using k 0
    rcases k0 with e | e
    · subst e
      by_cases h2 : a = 2
      · subst h2; simpa using ih
      · refine ⟨by simp [h2]; simpa using ih.1, fun hne => ?_⟩
        have := ih.2 (fun q => hne (by rw [q]))
        simp [h2]; simpa using this
    · subst e
      by_cases h2 : a = 2
      · subst h2; simpa using ih
      · refine ⟨?_, fun _ => ?_⟩
        · have := ih.1
          simp [h2] at this ⊢; omega
        · have := ih.1
          simp [h2] at this ⊢; omega
  | [], _ :: _, h, _ => by simp at h
  | _ :: _, [], h, _ => by simp at h
theorem cnt_lt {L M : List Int} (h : M.length = L.length) (k : ∀ i, Le3 (L.getD i 0) (M.getD i 0)) (hne : M ≠ L) : (M.filter (fun x => decide (x ≠ 2))).length < (L.filter (fun x => decide (x ≠ 2))).length := (cnt_le L M h k).2 hne
/-- Which latches would not keep their values. -/
def all2 (C : Circ) : List Int := List.replicate C.inputs.length 2
def join3 (A B : List Int) : List Int := List.zipWith (fun a b => if a = b then a else 2) A B
def stepS (C : Circ) (O L : List Int) : List Int := join3 L (next3 C (val3 C O L (all2 C)))
def settle3 (C : Circ) (O : List Int) : Nat → List Int → Nat → List Int × Nat
  | 0, L, n => (L, n)
  | f + 1, L, n => if stepS C O L = L then (L, n) else settle3 C O f (stepS C O L) (n + 1)
def Turn (C : Circ) (L T : List Int) (us : List Int) : Prop := ∀ x : Int, x ∈ us ↔ ∃ (k : Nat) (z : Tri), x = (k : Int) ∧ C.latches[k]? = some z ∧ L.getD k 0 ≠ 2 ∧ L.getD k 0 ≠ lit3 T z.2.1
theorem join3_len (A B : List Int) (h : A.length = B.length) : (join3 A B).length = A.length := by simp [join3, h]
theorem join3_get {A B : List Int} (h : A.length = B.length) (k : Nat) : (join3 A B).getD k 0 = if A.getD k 0 = B.getD k 0 then A.getD k 0 else 2 := by
  unfold join3
  rcases Nat.lt_or_ge k A.length with hk | hk
  · simp [List.getD_eq_getElem?_getD, List.getElem?_zipWith, List.getElem?_eq_getElem hk, List.getElem?_eq_getElem (show k < B.length by omega)]
  · simp [List.getD_eq_getElem?_getD, List.getElem?_zipWith, List.getElem?_eq_none hk, List.getElem?_eq_none (show B.length ≤ k by omega)]
theorem next3_get {C : Circ} {T : List Int} {k : Nat} {z : Tri} (h : C.latches[k]? = some z) : (next3 C T).getD k 0 = lit3 T z.2.1 := by rw [List.getD_eq_getElem?_getD, next3_at h]; rfl
def two1 (us : List Int) (L : List Int) : List Int := us.foldl (fun t i => t.set i.toNat 2) L
theorem two1_len : ∀ (us L : List Int), (two1 us L).length = L.length
  | [], _ => rfl
  | x :: r, L => by
    show (two1 r (L.set x.toNat 2)).length = _
    rw [two1_len r]; simp
theorem two1_snoc (us : List Int) (x : Int) (L : List Int) : two1 (us ++ [x]) L = (two1 us L).set x.toNat 2 := by simp [two1, List.foldl_append]
theorem two1_get : ∀ (us L : List Int) (k : Nat), k < L.length → (∀ x ∈ us, 0 ≤ x) → (two1 us L).getD k 0 = if (k : Int) ∈ us then 2 else L.getD k 0
  | [], L, k, _, _ => by simp [two1]
  | x :: r, L, k, hk, h => by
    show (two1 r (L.set x.toNat 2)).getD k 0 = _
    rw [two1_get r _ k (by simpa using hk) (fun y hy => h y (by simp [hy]))]
    have hx := h x (by simp)
    by_cases e : x = (k : Int)
    · subst e
      have e9 : (L.set (k : Int).toNat 2).getD k 0 = 2 := set3_at hk
      rw [e9]
      simp
    · have : x.toNat ≠ k := by omega
      rw [set3_far this]
      have e2 : ¬ (k : Int) = x := fun q => e q.symm
      by_cases hm : (k : Int) ∈ r <;> simp [hm, e2]
section
variable {C : Circ} {O L I T U : List Int}
/-- A round makes of the row its join with its step. -/
theorem turn_step (hL : L.length = C.latches.length) (hT : T = val3 C O L (all2 C)) {us : List Int} (hu : Turn C L T us) : two1 us L = stepS C O L := by
  have hnl : L.length = (next3 C (val3 C O L (all2 C))).length := by rw [next3_len]; exact hL
  refine list_ext3 (n := L.length) (two1_len _ _) (join3_len _ _ hnl) fun k hk => ?_
  unfold stepS
  rw [two1_get us L k hk (fun x hx => by obtain ⟨_, _, q, _⟩ := (hu x).1 hx; omega), join3_get hnl]
  obtain ⟨z, hz⟩ : ∃ z, C.latches[k]? = some z := ⟨_, List.getElem?_eq_getElem (by omega)⟩
  rw [next3_get hz, ← hT]
  by_cases hm : (k : Int) ∈ us
  · obtain ⟨k', z', q1, q2, q3, q4⟩ := (hu _).1 hm
    have : k' = k := by omega
    subst this
    rw [hz] at q2
    injection q2 with q2
    subst q2
    rw [if_pos hm, if_neg q4]
  · rw [if_neg hm]
    by_cases e : L.getD k 0 = lit3 T z.2.1
    · rw [if_pos e]
    · rw [if_neg e]
      rcases Decidable.em (L.getD k 0 = 2) with e2 | e2
      · exact e2
      · exact absurd ((hu _).2 ⟨k, z, rfl, hz, e2, e⟩) hm
theorem turn_none (hL : L.length = C.latches.length) (hT : T = val3 C O L (all2 C)) {us : List Int} (hu : Turn C L T us) : us = [] ↔ stepS C O L = L := by
  rw [← turn_step hL hT hu]
  constructor
  · rintro rfl; rfl
  · intro e
    cases us with
    | nil => rfl
    | cons x r =>
      exfalso
      obtain ⟨k, z, q1, q2, q3, q4⟩ := (hu x).1 (by simp)
      have hk : k < L.length := by rw [hL]; exact (List.getElem?_eq_some_iff.1 q2).1
      have h1 := two1_get (x :: r) L k hk (fun y hy => by obtain ⟨_, _, q, _⟩ := (hu y).1 hy; omega)
      rw [e, if_pos (by rw [← q1]; simp)] at h1
      exact q3 h1
/-- Behind a round those turn whose Next was changed, if they are not 2. -/
theorem turn_next (h0 : (checkR C).2 = 0) (hL : L.length = C.latches.length) {us : List Int} (hu : Turn C L T us) {new : List (Int × Int)} (hc : Ch T U new) {ws : List Int}
    (hw : ∀ x : Int, x ∈ ws ↔ ∃ (k : Nat) (z : Tri) (p : Int × Int), x = (k : Int) ∧ C.latches[k]? = some z ∧ p ∈ new ∧ (z.2.1 / 2).toNat = p.1.toNat ∧ (two1 us L).getD k 0 ≠ 2) : Turn C (two1 us L) U ws := by
  intro x
  rw [hw]
  have hus : ∀ x ∈ us, 0 ≤ x := fun x hx => by obtain ⟨_, _, q, _⟩ := (hu x).1 hx; omega
  have key : ∀ (k : Nat) (z : Tri), C.latches[k]? = some z → (two1 us L).getD k 0 ≠ 2 → (two1 us L).getD k 0 = lit3 T z.2.1 ∧ (two1 us L).getD k 0 = L.getD k 0 := fun k z hz h2 => by
    have hk : k < L.length := by rw [hL]; exact (List.getElem?_eq_some_iff.1 hz).1
    rw [two1_get us L k hk hus] at h2 ⊢
    by_cases hm : (k : Int) ∈ us
    · rw [if_pos hm] at h2; exact absurd rfl h2
    · rw [if_neg hm] at h2 ⊢
      refine ⟨?_, rfl⟩
      rcases Decidable.em (L.getD k 0 = lit3 T z.2.1) with e | e
      · exact e
      · exact absurd ((hu _).2 ⟨k, z, rfl, hz, h2, e⟩) hm
  constructor
  · rintro ⟨k, z, p, rfl, hz, hp, e, h2⟩
    obtain ⟨v, a1, a2, a3, a4, a5⟩ := hc.at_ p hp
    have hv : (z.2.1 / 2).toNat = v := by omega
    refine ⟨k, z, rfl, hz, h2, fun q => h2 ?_⟩
    rw [q]
    unfold lit3
    rw [hv, a5]
    split <;> simp [not3]
  · rintro ⟨k, z, rfl, hz, h2, h3⟩
    obtain ⟨k1, _⟩ := key k z hz h2
    have hzl := ((right_of h0).l z (List.mem_of_getElem? hz)).2.1
    rcases hc.all (z.2.1 / 2).toNat with q | q
    · exact absurd (k1.trans (lit3_congr q.symm)) h3
    · exact ⟨k, z, _, rfl, hz, q, by simp only; omega, h2⟩
theorem settle3_fix : ∀ (f : Nat) (L : List Int) (n : Nat), L.length = C.latches.length → (L.filter (fun x => decide (x ≠ 2))).length < f → ∃ L' n', settle3 C O f L n = (L', n') ∧ stepS C O L' = L' ∧ L'.length = L.length ∧ ∀ k, Le3 (L.getD k 0) (L'.getD k 0)
  | 0, L, n, _, h => absurd h (by omega)
  | f + 1, L, n, hl, h => by
    unfold settle3
    by_cases e : stepS C O L = L
    · rw [if_pos e]; exact ⟨L, n, rfl, e, rfl, fun _ => .inl rfl⟩
    · rw [if_neg e]
      have hnl : L.length = (next3 C (val3 C O L (all2 C))).length := by rw [next3_len]; exact hl
      have hsl : (stepS C O L).length = L.length := join3_len _ _ hnl
      have hle : ∀ k, Le3 (L.getD k 0) ((stepS C O L).getD k 0) := fun k => by
        unfold stepS
        rw [join3_get hnl]
        split
        · exact .inl rfl
        · exact .inr rfl
      obtain ⟨L', n', e1, e2, e3, e4⟩ := settle3_fix f (stepS C O L) (n + 1) (by rw [hsl, hl]) (by have := cnt_lt hsl hle e; omega)
      exact ⟨L', n', e1, e2, by rw [e3, hsl], fun k => (hle k).trans (e4 k)⟩
end
/-- All literals have the value 1. -/
def ones3 (T lits : List Int) : Bool := lits.all fun l => decide (lit3 T l = 1)
def lift1 (C : Circ) (O I lits L : List Int) (k : Nat) : List Int := if ones3 (val3 C O (L.set k 2) I) lits then L.set k 2 else L
def lift3 (C : Circ) (O I lits L : List Int) : List Int := (List.range L.length).foldl (lift1 C O I lits) L
def liftN (C : Circ) (O I lits L : List Int) (k : Nat) : List Int := (List.range k).foldl (lift1 C O I lits) L
theorem liftN_succ (C : Circ) (O I lits L : List Int) (k : Nat) : liftN C O I lits L (k + 1) = lift1 C O I lits (liftN C O I lits L k) k := by
  unfold liftN
  rw [List.range_succ, List.foldl_append]; rfl
theorem lift1_len (C : Circ) (O I lits L : List Int) (k : Nat) : (lift1 C O I lits L k).length = L.length := by unfold lift1; split <;> simp
theorem liftN_len (C : Circ) (O I lits L : List Int) : ∀ k, (liftN C O I lits L k).length = L.length
  | 0 => rfl
  | k + 1 => by rw [liftN_succ, lift1_len, liftN_len C O I lits L k]
theorem lit3_two {T : List Int} {l : Int} (h : T.getD (l / 2).toNat 0 = 2) : lit3 T l = 2 := by
  unfold lit3
  rw [h]
  split <;> simp [not3]
section
variable {C : Circ} {O L I T Ts : List Int}
/-- Literals that are 1 are so still where nothing of theirs was changed, and there alone. -/
theorem ones_same {lits : List Int} (h1 : ones3 T lits = true) (hup : ∀ v, Le3 (T.getD v 0) (Ts.getD v 0)) {H : List Bool} (hH : ∀ v : Nat, H.getD v false = true ↔ ∃ l ∈ lits, (l / 2).toNat = v) :
    ones3 Ts lits = true ↔ ∀ v : Nat, H.getD v false = true → T.getD v 0 = Ts.getD v 0 := by
  unfold ones3 at *
  rw [List.all_eq_true] at h1 ⊢
  constructor
  · intro h v hv
    obtain ⟨l, hl, rfl⟩ := (hH v).1 hv
    rcases hup (l / 2).toNat with q | q
    · exact q
    · have := h l hl
      rw [lit3_two q] at this
      simp at this
  · intro h l hl
    have := h _ ((hH _).2 ⟨l, hl, rfl⟩)
    rw [← lit3_congr this]
    exact h1 l hl
theorem val3_le (h0 : (checkR C).2 = 0) (hO : IsOrd C O) (hL : L.length = C.latches.length) {L' I' : List Int} (hL' : L'.length = C.latches.length) (hI : I.length = C.inputs.length) (hI' : I'.length = C.inputs.length) (h : ∀ k, Le3 (L.getD k 0) (L'.getD k 0)) (hi : ∀ k, Le3 (I.getD k 0) (I'.getD k 0)) : ∀ v, Le3 ((val3 C O L I).getD v 0) ((val3 C O L' I').getD v 0) := fun v => by
  rcases Nat.lt_or_ge v (C.max.toNat + 1) with hv | hv
  · exact mono3 h0 hO (valB h0 hO hL hI).toValA (valB h0 hO hL' hI') hL' hI' (by omega) (by omega) h hi v (by omega)
  · rw [List.getD_eq_getElem?_getD, List.getElem?_eq_none (by rw [val3_len]; exact hv), List.getD_eq_getElem?_getD, List.getElem?_eq_none (by rw [val3_len]; exact hv)]
    exact .inl rfl
end
/-- Truths as values. -/
def b2i (b : Bool) : Int := if b then 1 else 0
theorem map_getD (T : List Bool) (v : Nat) : (T.map b2i).getD v 0 = b2i (T.getD v false) := by
  rcases Nat.lt_or_ge v T.length with h | h
  · simp [List.getD_eq_getElem?_getD, h]
  · simp [List.getD_eq_getElem?_getD, List.getElem?_eq_none h, b2i]
/-- A row covers a state. -/
def Cov3 (L : List Int) (st : List Bool) : Prop := L.length = st.length ∧ ∀ k, k < L.length → Le3 (b2i (st.getD k false)) (L.getD k 0)
theorem Cov3.le {L : List Int} {st : List Bool} (h : Cov3 L st) (k : Nat) : Le3 ((st.map b2i).getD k 0) (L.getD k 0) := by
  rw [map_getD]
  rcases Nat.lt_or_ge k L.length with hk | hk
  · exact h.2 k hk
  · rw [List.getD_eq_getElem?_getD, List.getElem?_eq_none (by rw [← h.1]; exact hk), List.getD_eq_getElem?_getD, List.getElem?_eq_none hk]
    exact .inl rfl
/-- The values with which the latches may begin. -/
def reset3 (C : Circ) : List Int := C.latches.map fun z => if z.2.2 = z.1 then 2 else z.2.2
end Go.Proofs.YtbeaicmjohlboaaGreatDoor

namespace Go.Proofs.YtbeaicmjohlboaaGreatDoor
open Go.RowKit

/-- The program's two tables stand. -/
def TabC (w : World) : Prop := (∃ t fr, w.heap[1]? = some (.cells #[.int .i64 1, .int .i64 0, .int .i64 2] t fr)) ∧ ∃ t fr, w.heap[0]? = some (.cells #[.int .i64 0, .int .i64 0, .int .i64 0, .int .i64 0, .int .i64 1, .int .i64 2, .int .i64 0, .int .i64 2, .int .i64 2] t fr)
theorem TabC.below {w w' : World} (h : TabC w) (hb : Below w.heap.size w w') : TabC w' := by
  obtain ⟨⟨t, fr, h1⟩, t2, fr2, h2⟩ := h
  exact ⟨⟨t, fr, (hb.block _ (Array.getElem?_eq_some_iff.1 h1).1).trans h1⟩, t2, fr2, (hb.block _ (Array.getElem?_eq_some_iff.1 h2).1).trans h2⟩
theorem not3_cell {w : World} (h : TabC w) {a : Nat} (ha : a < 3) : w.cell? ⟨1, a, none⟩ = some (.int .i64 (not3 (a : Int))) := by
  obtain ⟨⟨t, fr, h1⟩, _⟩ := h
  rw [cell_of_row w _ _ _ _ _ h1]
  have : a = 0 ∨ a = 1 ∨ a = 2 := by omega
  rcases this with rfl | rfl | rfl <;> rfl
theorem and3_cell {w : World} (h : TabC w) {a b : Nat} (ha : a < 3) (hb : b < 3) : w.cell? ⟨0, a * 3 + b, none⟩ = some (.int .i64 (and3 (a : Int) (b : Int))) := by
  obtain ⟨_, t, fr, h1⟩ := h
  rw [cell_of_row w _ _ _ _ _ h1]
  have h2 : a = 0 ∨ a = 1 ∨ a = 2 := by omega
  have h3 : b = 0 ∨ b = 1 ∨ b = 2 := by omega
  rcases h2 with rfl | rfl | rfl <;> rcases h3 with rfl | rfl | rfl <;> rfl
theorem v3_nat {x : Int} (h : V3 x) : ∃ a : Nat, x = (a : Int) ∧ a < 3 := by
  rcases h with rfl | rfl | rfl
  · exact ⟨0, rfl, by omega⟩
  · exact ⟨1, rfl, by omega⟩
  · exact ⟨2, rfl, by omega⟩
theorem row3_at {T : List Int} (h : Row3 T) (k : Nat) : V3 (T.getD k 0) := by
  rcases Nat.lt_or_ge k T.length with hk | hk
  · rw [List.getD_eq_getElem?_getD, List.getElem?_eq_getElem hk]; exact h _ (List.getElem_mem hk)
  · rw [List.getD_eq_getElem?_getD, List.getElem?_eq_none hk]; exact .inl rfl
theorem not3_v {x : Int} (h : V3 x) : V3 (not3 x) := by
  rcases h with rfl | rfl | rfl
  · exact .inr (.inl rfl)
  · exact .inl rfl
  · exact .inr (.inr rfl)
theorem and3_v (x y : Int) : V3 (and3 x y) := by
  unfold and3 V3
  split
  · exact .inl rfl
  · split
    · exact .inr (.inl rfl)
    · exact .inr (.inr rfl)
theorem lit3_v {T : List Int} (h : Row3 T) (l : Int) : V3 (lit3 T l) := by
  unfold lit3
  split
  · exact not3_v (row3_at h _)
  · exact row3_at h _
theorem row3_set {T : List Int} (h : Row3 T) (k : Nat) {x : Int} (hx : V3 x) : Row3 (T.set k x) := fun y hy => by
  rcases List.mem_or_eq_of_mem_set hy with q | q
  · exact h y q
  · rw [q]; exact hx
theorem row3_put : ∀ (ps : List (Int × Int)) (T : List Int), Row3 T → (∀ p ∈ ps, V3 p.2) → Row3 (put3 ps T)
  | [], _, h, _ => h
  | p :: r, T, h, hp => row3_put r _ (row3_set h _ (hp p (by simp))) (fun q hq => hp q (by simp [hq]))
theorem row3_gates (C : Circ) : ∀ (gs T : List Int), Row3 T → Row3 (gates3 C gs T)
  | [], _, h => h
  | _g :: r, _T, h => row3_gates C r _ (row3_set h _ (and3_v _ _))
theorem row3_zero (C : Circ) : Row3 (zero3 C) := fun x hx => by
  rcases List.mem_cons.1 hx with q | q
  · exact .inl q
  · exact .inr (.inr (List.eq_of_mem_replicate q))
theorem row3_zip {xs L : List Int} (h : Row3 L) : ∀ p ∈ xs.zip L, V3 p.2 := fun _p hp => h _ (List.of_mem_zip hp).2
theorem row3_base {C : Circ} {L I : List Int} (hL : Row3 L) (hI : Row3 I) : Row3 (base3 C L I) := row3_put _ _ (row3_put _ _ (row3_zero C) (row3_zip hI)) (row3_zip hL)
theorem row3_val {C : Circ} {gs L I : List Int} (hL : Row3 L) (hI : Row3 I) : Row3 (val3 C gs L I) := row3_gates C gs _ (row3_base hL hI)
theorem getD_int {t : List Int} {k : Nat} (h : k < t.length) : t[k]? = some (t.getD k 0) := by simp [List.getD, h]
/-- Where a literal's value lies. -/
theorem lit3_cell {w : World} {v : Value} {t : List Int} {l : Int} (hv : RowE 1 encI w v t) (h0 : 0 ≤ l) (hl : l / 2 < (t.length : Int)) :
    ∃ b off c, v = .slice (some ⟨b, off, none⟩) t.length c ∧ w.cell? ⟨b, off + (l / 2).toNat, none⟩ = some (.int .i64 (t.getD (l / 2).toNat 0)) := by
  obtain ⟨A, c, rfl, _, _, hr⟩ := hv
  have hk : (l / 2).toNat < t.length := by omega
  obtain ⟨b, off, rfl, _, hc⟩ := hr (l / 2).toNat _ (getD_int hk)
  refine ⟨b, off, c, rfl, ?_⟩
  have := hc 0 _ rfl
  simpa using this

set_option maxHeartbeats 400000 in
set_option maxRecDepth 100000 in
theorem valueOf_any (w : World) (v : Value) (t : List Int) (l : Int) (ht : TabC w) (hv : RowE 1 encI w v t) (h3 : V3 (t.getD (l / 2).toNat 0)) (h0 : 0 ≤ l) (hl : l / 2 < (t.length : Int)) (h6 : l ≤ 1000000) :
    Calls Tryz.prog 66 #[v, .int .i64 l] w fun e w' => e = .returned (.int .i64 (lit3 t l)) ∧ w' = w := by
  obtain ⟨b, off, c, rfl, hc⟩ := lit3_cell hv h0 hl
  obtain ⟨x, hx, hx3⟩ := v3_nat h3
  unfold lit3
  rw [hx] at hc ⊢
  have hn := not3_cell ht hx3
  have hx0 : (0 : Int) ≤ (x : Int) := by omega
  have hx4 : (x : Int) < 3 := by omega
  have hq := tdiv_nn (b := 2) h0
  have hq0 : 0 ≤ l / 2 := by omega
  clear hv ht hx h3
  by_cases h1 : l % 2 = 1
  · have hm : l.tmod 2 = 1 := by rw [Int.tmod_eq_emod_of_nonneg h0]; exact h1
    rw [if_pos h1]
    clear h1
    go_enter Tryz.func66, Tryz.ntmps66
    go_wp2
    go_ret
    exact ⟨rfl, rfl⟩
  · have hm : l.tmod 2 = 0 := by rw [Int.tmod_eq_emod_of_nonneg h0]; omega
    rw [if_neg h1]
    clear h1 hn
    go_enter Tryz.func66, Tryz.ntmps66
    go_wp2
    go_ret
    exact ⟨rfl, rfl⟩

set_option maxHeartbeats 400000 in
set_option maxRecDepth 100000 in
theorem gateOf_any (w : World) (v : Value) (t : List Int) (z : Tri) (ht : TabC w) (hv : RowE 1 encI w v t) (h3 : Row3 t) (h0 : 0 ≤ z.2.1 ∧ z.2.1 / 2 < (t.length : Int) ∧ z.2.1 ≤ 1000000) (h1 : 0 ≤ z.2.2 ∧ z.2.2 / 2 < (t.length : Int) ∧ z.2.2 ≤ 1000000) :
    Calls Tryz.prog 63 #[v, .agg #[.int .i64 z.1, .int .i64 z.2.1, .int .i64 z.2.2]] w fun e w' => e = .returned (.int .i64 (gv3 t z)) ∧ Below w.heap.size w w' := by
  obtain ⟨z0, z1, z2⟩ := z
  simp only at h0 h1 ⊢
  unfold gv3
  simp only
  have hb1 : Below w.heap.size w (w.alloc (.cells #[.int .i64 z0, .int .i64 z1, .int .i64 z2] 45)) := (Below.refl w.heap.size w).alloc (Nat.le_refl _) _
  obtain ⟨x, hx, hx3⟩ := v3_nat (lit3_v h3 z1)
  obtain ⟨y, hy, hy3⟩ := v3_nat (lit3_v h3 z2)
  have c1 := fun nn => valueOf_any ((w.alloc (.cells #[.int .i64 z0, .int .i64 z1, .int .i64 z2] 45)).drewN nn) v t z1 (ht.below (below_drewN hb1 nn)) (hv.below (below_drewN hb1 nn)) (row3_at h3 _) h0.1 h0.2.1 h0.2.2
  have c2 := fun nn => valueOf_any ((w.alloc (.cells #[.int .i64 z0, .int .i64 z1, .int .i64 z2] 45)).drewN nn) v t z2 (ht.below (below_drewN hb1 nn)) (hv.below (below_drewN hb1 nn)) (row3_at h3 _) h1.1 h1.2.1 h1.2.2
  have hn := and3_cell (ht.below hb1) hx3 hy3
  rw [hx] at c1 ⊢
  rw [hy] at c2 ⊢
  have HB := Lib.hid hb1
  have HC1 := Lib.hid c1
  have HC2 := Lib.hid c2
  have hx0 : (0 : Int) ≤ (x : Int) := by omega
  have hx4 : (x : Int) < 3 := by omega
  have hy0 : (0 : Int) ≤ (y : Int) := by omega
  have hy4 : (y : Int) < 3 := by omega
  clear hb1 c1 c2 ht hx hy h0 h1
  obtain ⟨A, c, e, _⟩ := hv
  subst e
  go_enter Tryz.func63, Tryz.ntmps63
  go_upto_region 1 with (fail)
  go_quiet (first
    | (go_at_call_of 66 z1; exact Calls.quiet_of_same (HC1.out _))
    | (go_at_call_of 66 z2; exact Calls.quiet_of_same (HC2.out _)))
  go_wp2
  go_ret
  exact ⟨rfl, below_drewN HB.out _⟩

set_option maxHeartbeats 400000 in
set_option maxRecDepth 100000 in
theorem rNot_any (w : World) (x : Int) (h : V3 x) : Calls Tryz.prog 86 #[.int .i64 x] w fun e w' => e = .returned (.int .i64 (not3 x)) ∧ w' = w := by
  rcases h with rfl | rfl | rfl
  all_goals (
    go_enter Tryz.func86, Tryz.ntmps86
    go_wp2
    go_ret
    exact ⟨rfl, rfl⟩)
set_option maxHeartbeats 400000 in
set_option maxRecDepth 100000 in
theorem rAnd_any (w : World) (x y : Int) (h : V3 x) (k : V3 y) : Calls Tryz.prog 85 #[.int .i64 x, .int .i64 y] w fun e w' => e = .returned (.int .i64 (and3 x y)) ∧ w' = w := by
  rcases h with rfl | rfl | rfl <;> rcases k with rfl | rfl | rfl
  all_goals (
    go_enter Tryz.func85, Tryz.ntmps85
    go_wp2
    go_ret
    exact ⟨rfl, rfl⟩)
set_option maxHeartbeats 400000 in
set_option maxRecDepth 100000 in
theorem rLit0_any (w : World) (v : Value) (t : List Int) (l : Int) (hv : RowE 1 encI w v t) (h3 : V3 (t.getD (l / 2).toNat 0)) (h0 : 0 ≤ l) (hl : l / 2 < (t.length : Int)) (h6 : l ≤ 1000000) :
    Calls Tryz.prog 71 #[v, .int .i64 l] w fun e w' => e = .returned (.int .i64 (lit3 t l)) ∧ w' = w := by
  obtain ⟨b, off, c, rfl, hc⟩ := lit3_cell hv h0 hl
  have hno := Lib.hid (rNot_any w _ h3)
  unfold lit3
  generalize t.getD (l / 2).toNat 0 = x at *
  clear h3
  have hq := tdiv_nn (b := 2) h0
  have hq0 : 0 ≤ l / 2 := by omega
  clear hv
  by_cases h1 : l % 2 = 1
  · have hm : l.tmod 2 = 1 := by rw [Int.tmod_eq_emod_of_nonneg h0]; exact h1
    rw [if_pos h1]
    clear h1
    go_enter Tryz.func71, Tryz.ntmps71
    go_wp2_with (go_at_call 86; refine hno.out.mono ?_; rintro e w5 ⟨rfl, rfl⟩)
    go_ret
    exact ⟨rfl, rfl⟩
  · have hm : l.tmod 2 = 0 := by rw [Int.tmod_eq_emod_of_nonneg h0]; omega
    rw [if_neg h1]
    clear h1
    go_enter Tryz.func71, Tryz.ntmps71
    go_wp2
    go_ret
    exact ⟨rfl, rfl⟩
end Go.Proofs.YtbeaicmjohlboaaGreatDoor

namespace Go.Proofs.YtbeaicmjohlboaaGreatDoor
open Go.RowKit

/-- What stands while values are gone through: the circuit's box, the values' block. -/
structure VT (w0 wr : World) (bx g : Nat) (cs : Array Value) (T : List Int) : Prop where
  below : Below w0.heap.size w0 wr
  box : Blk wr bx 29 cs
  tab : Nums wr g T
section
variable {w0 wr : World} {bx g : Nat} {cs : Array Value} {T : List Int}
theorem VT.alloc (h : VT w0 wr bx g cs T) (o : Obj) : VT w0 (wr.alloc o) bx g cs T := ⟨h.below.alloc h.below.size o, h.box.alloc o, Blk.alloc h.tab o⟩
theorem VT.drew (h : VT w0 wr bx g cs T) : VT w0 wr.drew bx g cs T := ⟨h.below.drew, h.box.drew, h.tab⟩
theorem VT.on {w1 : World} (h : VT w0 wr bx g cs T) (hb : Below wr.heap.size wr w1) : VT w0 w1 bx g cs T := ⟨bt h.below (Nat.le_refl _) hb, h.box.below hb h.box.lt, Blk.below h.tab hb (Blk.lt h.tab)⟩
theorem VT.set_ (h : VT w0 wr bx g cs T) (hB : w0.heap.size ≤ g) (hx : bx ≠ g) (i : Nat) (b : Int) : VT w0 (wr.setCell ⟨g, i, none⟩ (.int .i64 b)) bx g cs (T.set i b) :=
  ⟨h.below.setCell hB _, Blk.far h.box (by simpa using hx) _, Nums.set_ h.tab i b⟩
end
theorem nums_row {w : World} {g : Nat} {T : List Int} (h : Nums w g T) (hm : T.length ≤ maxLen) : RowE 1 encI w (.slice (some ⟨g, 0, none⟩) T.length T.length) T :=
  ⟨_, _, rfl, Nat.le_refl _, hm, fun i z hz => ⟨g, 0, rfl, Blk.lt h, fun j u hu => by
    have hj : j = 0 := by have := (List.getElem?_eq_some_iff.1 hu).1; simp at this; exact this
    subst hj
    simp at hu
    subst hu
    have := h.cell hz
    simpa using this⟩⟩
theorem zip3_snoc {xs ys : List Int} {q : Nat} {x y : Int} (hx : xs[q]? = some x) (hy : ys[q]? = some y) : (xs.zip ys).take (q + 1) = (xs.zip ys).take q ++ [(x, y)] := by
  have : (xs.zip ys)[q]? = some (x, y) := by rw [List.getElem?_zip_eq_some]; exact ⟨hx, hy⟩
  rw [List.take_add_one, this]; rfl
theorem zip3_all {xs ys : List Int} {n : Nat} (hx : xs.length = n) : (xs.zip ys).take n = xs.zip ys := List.take_of_length_le (by simp [List.length_zip]; omega)
theorem fill3_set {L : List Int} {n k : Nat} {x : Int} (hl : L.length = n) (hx : L[k]? = some x) : (L.take k ++ List.replicate (n - k) 0).set k x = L.take (k + 1) ++ List.replicate (n - (k + 1)) 0 := by
  have hk : k < n := by rw [← hl]; exact (List.getElem?_eq_some_iff.1 hx).1
  obtain ⟨d, hd⟩ : ∃ d, n - k = d + 1 := ⟨n - k - 1, by omega⟩
  have hd2 : n - (k + 1) = d := by omega
  have htl : (L.take k).length = k := by rw [List.length_take]; omega
  rw [hd, hd2, List.set_append_right _ _ (by omega), htl, Nat.sub_self, List.replicate_succ, List.set_cons_zero, List.take_add_one, hx]
  simp
theorem fill3_len {L : List Int} {n k : Nat} (hl : L.length = n) (hk : k ≤ n) : (L.take k ++ List.replicate (n - k) 0).length = n := by simp; omega
theorem fill3_end {L : List Int} {n : Nat} (hl : L.length = n) : L.take n ++ List.replicate (n - n) 0 = L := by simp [List.take_of_length_le (Nat.le_of_eq hl)]

set_option maxHeartbeats 8000000 in
set_option maxRecDepth 100000 in
theorem tValuesOf_any (w : World) (V : CV) (C : Circ) (gv sv rv : Value) (gs st row : List Int) (htc : TabC w) (h : C.In w V) (hg : RowE 1 encI w gv gs) (hs : RowE 1 encI w sv st) (hr : RowE 1 encI w rv row)
    (hrt : Right C) (hls : st.length = C.latches.length) (hlr : row.length = C.inputs.length) (h3s : Row3 st) (h3r : Row3 row) (hG : ∀ g ∈ gs, 0 ≤ g ∧ g < (C.ands.length : Int)) (hgl : gs.length ≤ 16384) :
    Calls Tryz.prog 32 #[V.val C.max, gv, sv, rv] w fun e w' => ∃ g, e = .returned (.slice (some ⟨g, 0, none⟩) (C.max.toNat + 1) (C.max.toNat + 1)) ∧ w.heap.size ≤ g ∧ Below w.heap.size w w' ∧ Nums w' g (val3 C gs st row) := by
  obtain ⟨m, hmm⟩ : ∃ m : Nat, C.max = (m : Int) := ⟨C.max.toNat, by have := hrt.m0; omega⟩
  have hm1 := hrt.m1
  have hmt : C.max.toNat = m := by rw [hmm]; rfl
  have hvf : val3 C gs st row = gates3 C gs (put3 ((C.latches.map (·.1)).zip st) (put3 (C.inputs.zip row) (0 :: List.replicate m 2))) := by unfold val3 base3 zero3; rw [hmt]
  have H3 := Lib.hid (And.intro (row3_put _ _ (row3_zero C) (row3_zip h3r (xs := C.inputs))) (row3_base (C := C) h3s h3r))
  unfold base3 zero3 at H3
  rw [hmt] at H3
  rw [hmt, hvf]
  rw [hmm] at hm1 ⊢
  have hmk := make_ints (m + 1) (by omega)
  push_cast at hmk
  have hn1 := hrt.ni
  have hn2 := hrt.nl
  have hn3 := hrt.na
  have HI : Hid (∀ l ∈ C.inputs, 0 ≤ l ∧ l / 2 ≤ (m : Int)) := Lib.hid (fun l hl => by have := hrt.i l hl; omega)
  have HL : Hid (∀ z ∈ C.latches, 0 ≤ z.1 ∧ z.1 / 2 ≤ (m : Int)) := Lib.hid (fun z hz => by have := (hrt.l z hz).1; omega)
  have HA : Hid (∀ z ∈ C.ands, (0 ≤ z.1 ∧ z.1 / 2 ≤ (m : Int)) ∧ (0 ≤ z.2.1 ∧ z.2.1 / 2 ≤ (m : Int)) ∧ (0 ≤ z.2.2 ∧ z.2.2 / 2 ≤ (m : Int))) := Lib.hid (fun z hz => by
    obtain ⟨a, b, c⟩ := hrt.a z hz
    unfold LitOk at b c
    rw [hmm] at a b c
    exact ⟨⟨by omega, a.2⟩, b, c⟩)
  obtain ⟨AI, cI, eI, _, _, rI⟩ := h.i
  obtain ⟨AL, cL, eL, _, _, rL⟩ := h.l
  obtain ⟨AA, cA, eA, _, _, rA⟩ := h.a
  obtain ⟨AG, cG, eG, _, _, rG⟩ := hg
  obtain ⟨AS, cS, eS, _, _, rS⟩ := hs
  obtain ⟨AR, cR, eR, _, _, rR⟩ := hr
  obtain ⟨Vi, Vl, Vo, Vb, Vc, Vj, Vf, Va, Vs, Vt⟩ := V
  simp only at eI eL eA
  subst eI eL eA eG eS eR
  rw [hls, hlr]
  have HS0 : Hid (VT w ((w.alloc (.cells #[.int .i64 m, .slice AI C.inputs.length cI, .slice AL C.latches.length cL, Vo, Vb, Vc, Vj, Vf, .slice AA C.ands.length cA, Vs, Vt] 29)).alloc (.cells (madeCells #[Value.int .i64 0] (m + 1)) 3)) w.heap.size (w.heap.size + 1) #[.int .i64 m, .slice AI C.inputs.length cI, .slice AL C.latches.length cL, Vo, Vb, Vc, Vj, Vf, .slice AA C.ands.length cA, Vs, Vt] ((0 :: List.replicate m 2).take 1 ++ List.replicate (m + 1 - 1) 0)) := by
    refine Lib.hid ⟨((Below.refl w.heap.size w).alloc (Nat.le_refl _) _).alloc (by simp) _, (Blk.new w _ _).alloc _, ?_⟩
    have e0 : (0 :: List.replicate m 2).take 1 ++ List.replicate (m + 1 - 1) (0 : Int) = List.replicate (m + 1) 0 := by simp [List.replicate_succ]
    rw [e0]
    unfold Nums
    rw [← made_ints]
    have := (Blk.new (w.alloc (.cells #[.int .i64 m, .slice AI C.inputs.length cI, .slice AL C.latches.length cL, Vo, Vb, Vc, Vj, Vf, .slice AA C.ands.length cA, Vs, Vt] 29)) 3 (madeCells #[Value.int .i64 0] (m + 1)))
    simpa using this
  have HRI := Lib.hid rI
  have HRL := Lib.hid rL
  have HRA := Lib.hid rA
  have HRG := Lib.hid rG
  have HRS := Lib.hid rS
  have HRR := Lib.hid rR
  have HG := Lib.hid hG
  have HTC := Lib.hid htc
  clear htc
  clear rI rL rA rG rS rR hG h hrt hmm hmt hvf h3s h3r
  generalize hnI : C.inputs.length = nI at *
  generalize hnL : C.latches.length = nL at *
  generalize hnA : C.ands.length = nA at *
  generalize hnG : gs.length = nG at *
  have HNI := Lib.hid hnI
  have HNL := Lib.hid hnL
  have HNA := Lib.hid hnA
  have HNG := Lib.hid hnG
  have HLR := Lib.hid hlr
  have HLS := Lib.hid hls
  clear hnI hnL hnA hnG hlr hls
  go_enter Tryz.func32, Tryz.ntmps32
  go_wp2
  go_loopg [10] m (fun k j wx => ∃ q : Nat, 1 ≤ q ∧ q ≤ m + 1 ∧ k = m + 1 - q ∧ j = .int .i64 q ∧ VT w wx w.heap.size (w.heap.size + 1) #[.int .i64 m, .slice AI nI cI, .slice AL nL cL, Vo, Vb, Vc, Vj, Vf, .slice AA nA cA, Vs, Vt] ((0 :: List.replicate m 2).take q ++ List.replicate (m + 1 - q) 0))
  case atStart => exact ⟨1, Nat.le_refl _, by omega, by omega, rfl, HS0.out⟩
  case round =>
    obtain ⟨q, hq1, hq, hgk, rfl, hst⟩ := hrel
    subst hgk
    have HST := Lib.hid hst
    have bx := hst.box
    have x0 := bx.cell 0
    have x1 := bx.cell 1
    have x2 := bx.cell 2
    have x8 := bx.cell 8
    simp only [List.getElem?_toArray, List.getElem?_cons_zero, List.getElem?_cons_succ] at x0 x1 x2 x8
    clear bx
    by_cases hlt : q < m + 1
    · have hz2 : (0 :: List.replicate m (2 : Int))[q]? = some 2 := by
        obtain ⟨u, rfl⟩ : ∃ u, q = u + 1 := ⟨q - 1, by omega⟩
        rw [List.getElem?_cons_succ, List.getElem?_replicate, if_pos (by omega)]
      have HP := Lib.hid (fill3_set (L := 0 :: List.replicate m (2 : Int)) (n := m + 1) (by simp) hz2)
      have hlen := fill3_len (L := 0 :: List.replicate m (2 : Int)) (n := m + 1) (k := q) (by simp) hq
      have htl : q < ((0 :: List.replicate m (2 : Int)).take q ++ List.replicate (m + 1 - q) 0).length := by rw [hlen]; exact hlt
      have hold := Nums.cell hst.tab (getD_int htl)
      have hfr := Blk.frozen hst.tab q
      have hgb := Blk.lt hst.tab
      have hql : (q : Int) < (m : Int) + 1 := by omega
      have hql2 : (q : Int) ≤ (m : Int) := by omega
      have hql0 : (0 : Int) ≤ (q : Int) := by omega
      clear hz2 hst hlen htl
      go_wp2
      go_roundg (m + 1 - (q + 1))
      case measure => omega
      case rel =>
        refine ⟨q + 1, by omega, by omega, rfl, by go_num, ?_⟩
        rw [← HP.out]
        exact HST.out.set_ (by omega) (by omega) _ _
    · have hqe : q = m + 1 := by omega
      have hql2 : ¬ (q : Int) ≤ (m : Int) := by omega
      have HZ0 : Hid (VT w wr w.heap.size (w.heap.size + 1) #[.int .i64 m, .slice AI nI cI, .slice AL nL cL, Vo, Vb, Vc, Vj, Vf, .slice AA nA cA, Vs, Vt] (0 :: List.replicate m 2)) := Lib.hid (by
        have h9 := hst
        rw [hqe, fill3_end (by simp)] at h9
        exact h9)
      clear hst hlt hq HS0 HST hqe
      go_wp2
      go_loopg [34] nI (fun k j wx => ∃ q : Nat, q ≤ nI ∧ k = nI - q ∧ j = .int .i64 q ∧ VT w wx w.heap.size (w.heap.size + 1) #[.int .i64 m, .slice AI nI cI, .slice AL nL cL, Vo, Vb, Vc, Vj, Vf, .slice AA nA cA, Vs, Vt] (put3 ((C.inputs.zip row).take q) (0 :: List.replicate m 2)))
      case atStart => exact ⟨0, Nat.zero_le _, rfl, rfl, HZ0.out⟩
      case round =>
        obtain ⟨q, hq, hgk, rfl, hst⟩ := hrel
        subst hgk
        clear x0 x1 x2 x8
        have HST := Lib.hid hst
        have bx := hst.box
        have x0 := bx.cell 0
        have x1 := bx.cell 1
        have x2 := bx.cell 2
        have x8 := bx.cell 8
        simp only [List.getElem?_toArray, List.getElem?_cons_zero, List.getElem?_cons_succ] at x0 x1 x2 x8
        clear bx
        by_cases hlt : q < nI
        · obtain ⟨l, hl⟩ : ∃ l, C.inputs[q]? = some l := ⟨_, List.getElem?_eq_getElem (by rw [HNI.out]; exact hlt)⟩
          obtain ⟨y, hy⟩ : ∃ y, row[q]? = some y := ⟨_, List.getElem?_eq_getElem (by rw [HLR.out]; exact hlt)⟩
          obtain ⟨b, off, e, hb, hcell⟩ := HRI.out q l hl
          subst e
          obtain ⟨b2, off2, e, hb2, hcell2⟩ := HRR.out q y hy
          subst e
          have h0 := (HST.out.below.cell (p := ⟨b, off + (q * 1 + 0), none⟩) hb).trans (hcell 0 _ rfl)
          have h1 := (HST.out.below.cell (p := ⟨b2, off2 + (q * 1 + 0), none⟩) hb2).trans (hcell2 0 _ rfl)
          simp only [Nat.mul_one, Nat.add_zero] at h0 h1
          obtain ⟨hl0, hl1⟩ := HI.out l (List.mem_of_getElem? hl)
          have hp := zip3_snoc hl hy
          have HP := Lib.hid hp
          have hq2 := tdiv_nn (b := 2) hl0
          have hq3 : 0 ≤ l / 2 := by omega
          have hq4 : l / 2 < (m : Int) + 1 := by omega
          have hlen : (put3 ((C.inputs.zip row).take q) (0 :: List.replicate m 2)).length = m + 1 := by rw [put3_len]; simp
          have htl : (l / 2).toNat < (put3 ((C.inputs.zip row).take q) (0 :: List.replicate m 2)).length := by rw [hlen]; omega
          have hold := Nums.cell hst.tab (getD_int htl)
          have hfr := Blk.frozen hst.tab (l / 2).toNat
          have hgb := Blk.lt hst.tab
          have hq5 : l / 2 < ((m + 1 : Nat) : Int) := by push_cast; omega
          have hq8 : IntKind.i64.wrap (l / 2) = l / 2 := by simp [IntKind.wrap, IntKind.bits, IntKind.signed]; omega
          have hql : (q : Int) < (nI : Int) := by omega
          have hql0 : (0 : Int) ≤ (q : Int) := by omega
          clear hcell hcell2 hl hy hp hst hlen htl
          go_wp2
          go_roundg (nI - (q + 1))
          case measure => omega
          case rel =>
            refine ⟨q + 1, by omega, rfl, by go_num, ?_⟩
            rw [HP.out, put3_snoc]
            exact HST.out.set_ (by omega) (by omega) _ _
        · have hqe : nI = q := by omega
          subst hqe
          clear hst hlt hq
          have HB1 : Hid (put3 ((C.inputs.zip row).take nI) (0 :: List.replicate m 2) = put3 (C.inputs.zip row) (0 :: List.replicate m 2)) := Lib.hid (by rw [zip3_all HNI.out])
          have HL1 : Hid ((put3 (C.inputs.zip row) (0 :: List.replicate m 2)).length = m + 1) := Lib.hid (by rw [put3_len]; simp)
          rw [HB1.out] at HST
          clear HB1
          obtain ⟨T1, hT1⟩ : ∃ T1, put3 (C.inputs.zip row) (0 :: List.replicate m 2) = T1 := ⟨_, rfl⟩
          rw [hT1] at HST HL1 H3
          have HT1 := Lib.hid hT1
          clear hT1
          go_wp2
          go_loopg [51] nL (fun k j wx => ∃ q : Nat, q ≤ nL ∧ k = nL - q ∧ j = .int .i64 q ∧ VT w wx w.heap.size (w.heap.size + 1) #[.int .i64 m, .slice AI nI cI, .slice AL nL cL, Vo, Vb, Vc, Vj, Vf, .slice AA nA cA, Vs, Vt] (put3 (((C.latches.map (·.1)).zip st).take q) T1))
          case atStart => exact ⟨0, Nat.zero_le _, rfl, rfl, HST.out⟩
          case round =>
            obtain ⟨q, hq, hgk, rfl, hst⟩ := hrel
            subst hgk
            clear x0 x1 x2 x8
            have HST2 := Lib.hid hst
            have bx := hst.box
            have x0 := bx.cell 0
            have x1 := bx.cell 1
            have x2 := bx.cell 2
            have x8 := bx.cell 8
            simp only [List.getElem?_toArray, List.getElem?_cons_zero, List.getElem?_cons_succ] at x0 x1 x2 x8
            clear bx
            by_cases hlt : q < nL
            · obtain ⟨z, hz⟩ : ∃ z, C.latches[q]? = some z := ⟨_, List.getElem?_eq_getElem (by rw [HNL.out]; exact hlt)⟩
              obtain ⟨y, hy⟩ : ∃ y, st[q]? = some y := ⟨_, List.getElem?_eq_getElem (by rw [HLS.out]; exact hlt)⟩
              obtain ⟨b, off, e, hb, hcell⟩ := HRL.out q z hz
              subst e
              obtain ⟨b2, off2, e, hb2, hcell2⟩ := HRS.out q y hy
              subst e
              have hl : (C.latches.map (·.1))[q]? = some z.1 := by rw [List.getElem?_map, hz]; rfl
              have hp := zip3_snoc hl hy
              have HP := Lib.hid hp
              have HZ := Lib.hid (HL.out z (List.mem_of_getElem? hz))
              obtain ⟨z0, z1, z2⟩ := z
              have h0 := (HST2.out.below.cell (p := ⟨b, off + (q * 3 + 0), none⟩) hb).trans (hcell 0 _ rfl)
              have h1 := (HST2.out.below.cell (p := ⟨b, off + (q * 3 + 1), none⟩) hb).trans (hcell 1 _ rfl)
              have h2 := (HST2.out.below.cell (p := ⟨b, off + (q * 3 + 2), none⟩) hb).trans (hcell 2 _ rfl)
              simp only [Nat.add_zero, ← Nat.add_assoc] at h0 h1 h2
              obtain ⟨hl0, hl1⟩ := HZ.out
              simp only at hl0 hl1
              have hq2 := tdiv_nn (b := 2) hl0
              have hq3 : 0 ≤ z0 / 2 := by omega
              have hq4 : z0 / 2 < (m : Int) + 1 := by omega
              have hlen : (put3 (((C.latches.map (·.1)).zip st).take q) T1).length = m + 1 := by rw [put3_len, HL1.out]
              have htl : (z0 / 2).toNat < (put3 (((C.latches.map (·.1)).zip st).take q) T1).length := by rw [hlen]; omega
              have HX := Lib.hid (hst.alloc (.cells #[.int .i64 z0, .int .i64 z1, .int .i64 z2] 43))
              have hbb2 : b2 < wr.heap.size := Nat.lt_of_lt_of_le hb2 HST2.out.below.size
              have h3 := (HX.out.drew.below.cell (p := ⟨b2, off2 + (q * 1 + 0), none⟩) hb2).trans (hcell2 0 _ rfl)
              simp only [Nat.mul_one, Nat.add_zero] at h3
              have hold := Nums.cell HX.out.drew.tab (getD_int htl)
              have hfr := Blk.frozen HX.out.drew.tab (z0 / 2).toNat
              have hgb := Blk.lt HX.out.drew.tab
              have hql : (q : Int) < (nL : Int) := by omega
              have hql0 : (0 : Int) ≤ (q : Int) := by omega
              clear hcell hcell2 hz hl hy hp hst hlen htl
              have hq5 : z0 / 2 < ((m + 1 : Nat) : Int) := by push_cast; omega
              have hq8 : IntKind.i64.wrap (z0 / 2) = z0 / 2 := by simp [IntKind.wrap, IntKind.bits, IntKind.signed]; omega
              go_upto_region 14 with (fail)
              go_region
              go_wp2
              go_roundg (nL - (q + 1))
              case measure => omega
              case rel =>
                refine ⟨q + 1, by omega, rfl, by go_num, ?_⟩
                rw [HP.out, put3_snoc]
                exact HX.out.drew.set_ (by omega) (by omega) _ _
            · have hqe : nL = q := by omega
              subst hqe
              clear hst hlt hq
              have HB2 : Hid (put3 (((C.latches.map (·.1)).zip st).take nL) T1 = put3 ((C.latches.map (·.1)).zip st) T1) := Lib.hid (by rw [zip3_all (by rw [List.length_map]; exact HNL.out)])
              have HL2 : Hid ((put3 ((C.latches.map (·.1)).zip st) T1).length = m + 1) := Lib.hid (by rw [put3_len]; exact HL1.out)
              rw [HB2.out] at HST2
              clear HB2
              obtain ⟨T2, hT2⟩ : ∃ T2, put3 ((C.latches.map (·.1)).zip st) T1 = T2 := ⟨_, rfl⟩
              rw [hT2] at HST2 HL2 H3
              have HT2 := Lib.hid hT2
              clear hT2
              go_wp2
              go_loopg [68] nG (fun k j wx => ∃ q : Nat, q ≤ nG ∧ k = nG - q ∧ j = .int .i64 q ∧ VT w wx w.heap.size (w.heap.size + 1) #[.int .i64 m, .slice AI nI cI, .slice AL nL cL, Vo, Vb, Vc, Vj, Vf, .slice AA nA cA, Vs, Vt] (gates3 C (gs.take q) T2))
              case atStart => exact ⟨0, Nat.zero_le _, rfl, rfl, HST2.out⟩
              case round =>
                obtain ⟨q, hq, hgk, rfl, hst⟩ := hrel
                subst hgk
                clear x0 x1 x2 x8
                have HST3 := Lib.hid hst
                have bx := hst.box
                have x0 := bx.cell 0
                have x1 := bx.cell 1
                have x2 := bx.cell 2
                have x8 := bx.cell 8
                simp only [List.getElem?_toArray, List.getElem?_cons_zero, List.getElem?_cons_succ] at x0 x1 x2 x8
                clear bx
                by_cases hlt : q < nG
                · obtain ⟨gq, hgq⟩ : ∃ gq, gs[q]? = some gq := ⟨_, List.getElem?_eq_getElem (by rw [HNG.out]; exact hlt)⟩
                  obtain ⟨hg0, hg1⟩ := HG.out gq (List.mem_of_getElem? hgq)
                  obtain ⟨gn, rfl⟩ : ∃ n : Nat, gq = (n : Int) := ⟨gq.toNat, by omega⟩
                  obtain ⟨z, hz⟩ : ∃ z, C.ands[gn]? = some z := ⟨_, List.getElem?_eq_getElem (by rw [HNA.out]; omega)⟩
                  have HGT : Hid (∀ T, gate3 C T (gn : Int) = T.set (z.1 / 2).toNat (and3 (lit3 T z.2.1) (lit3 T z.2.2))) := Lib.hid (fun T => by
                    unfold gate3
                    have : C.ands.getD (gn : Int).toNat (0, 0, 0) = z := by simp [List.getD, hz]
                    rw [this])
                  have HP := Lib.hid (gsT_snoc hgq)
                  obtain ⟨b, off, e, hb, hcell⟩ := HRG.out q _ hgq
                  subst e
                  have h0 := (HST3.out.below.cell (p := ⟨b, off + (q * 1 + 0), none⟩) hb).trans (hcell 0 _ rfl)
                  simp only [Nat.mul_one, Nat.add_zero] at h0
                  have HZ := Lib.hid (HA.out z (List.mem_of_getElem? hz))
                  obtain ⟨b2, off2, e2, hb2, hcell2⟩ := HRA.out gn z hz
                  subst e2
                  obtain ⟨z0, z1, z2⟩ := z
                  have h3 := (HST3.out.below.cell (p := ⟨b2, off2 + (gn * 3 + 0), none⟩) hb2).trans (hcell2 0 _ rfl)
                  have h4 := (HST3.out.below.cell (p := ⟨b2, off2 + (gn * 3 + 1), none⟩) hb2).trans (hcell2 1 _ rfl)
                  have h5 := (HST3.out.below.cell (p := ⟨b2, off2 + (gn * 3 + 2), none⟩) hb2).trans (hcell2 2 _ rfl)
                  simp only [Nat.add_zero, ← Nat.add_assoc] at h3 h4 h5
                  have HTL : Hid ((gates3 C (gs.take q) T2).length = m + 1) := Lib.hid (by rw [gates3_len]; exact HL2.out)
                  have HR3 : Hid (Row3 (gates3 C (gs.take q) T2)) := Lib.hid (row3_gates C _ _ H3.out.2)
                  have HSN : Hid (gates3 C (gs.take (q + 1)) T2 = (gates3 C (gs.take q) T2).set (z0 / 2).toNat (and3 (lit3 (gates3 C (gs.take q) T2) z1) (lit3 (gates3 C (gs.take q) T2) z2))) := Lib.hid (by rw [HP.out, gates3_snoc, HGT.out])
                  clear hcell hcell2 hz hgq HGT HP
                  generalize gates3 C (gs.take q) T2 = T at *
                  obtain ⟨⟨a0, a1⟩, ⟨b0, b1⟩, ⟨c0, c1⟩⟩ := HZ.out
                  simp only at a0 a1 b0 b1 c0 c1
                  have hq2 := tdiv_nn (b := 2) a0
                  have hq3 : 0 ≤ z0 / 2 := by omega
                  have hq4 : z0 / 2 < (m : Int) + 1 := by omega
                  have htl : (z0 / 2).toNat < T.length := by rw [HTL.out]; omega
                  have HX := Lib.hid ((hst.alloc (.cells #[.int .i64 z0, .int .i64 z1, .int .i64 z2] 45)).drew)
                  have hgnl : (gn : Int) < (nA : Int) := by omega
                  have hgn0 : (0 : Int) ≤ (gn : Int) := by omega
                  have HBC := Lib.hid (And.intro (And.intro b0 b1) (And.intro c0 c1))
                  have hql : (q : Int) < (nG : Int) := by omega
                  have hql0 : (0 : Int) ≤ (q : Int) := by omega
                  have hnb : Blk ((wr.alloc (.cells #[.int .i64 z0, .int .i64 z1, .int .i64 z2] 45)).drew) wr.heap.size 45 #[.int .i64 z0, .int .i64 z1, .int .i64 z2] := (Blk.new wr _ _).drew
                  have hne : w.heap.size + 1 ≠ wr.heap.size := by have := Blk.lt hst.tab; omega
                  have HNB := Lib.hid (And.intro hnb hne)
                  clear hst hnb hne b0 b1 c0 c1
                  have HCA : Hid (∀ wx, Below ((wr.alloc (.cells #[.int .i64 z0, .int .i64 z1, .int .i64 z2] 45)).drew).heap.size ((wr.alloc (.cells #[.int .i64 z0, .int .i64 z1, .int .i64 z2] 45)).drew) wx → Calls Tryz.prog 63 #[.slice (some ⟨w.heap.size + 1, 0, none⟩) (m + 1) (m + 1), .agg #[.int .i64 z0, .int .i64 z1, .int .i64 z2]] wx fun e w' => e = .returned (.int .i64 (and3 (lit3 T z1) (lit3 T z2))) ∧ Below wx.heap.size wx w') := Lib.hid (fun wx hb => by
                    have hx := HX.out.on hb
                    have hv := nums_row hx.tab (by rw [HTL.out]; unfold maxLen; omega)
                    rw [HTL.out] at hv
                    exact gateOf_any wx _ T (z0, z1, z2) (HTC.out.below hx.below) hv HR3.out ⟨HBC.out.1.1, by rw [HTL.out]; push_cast; have := HBC.out.1.2; show z1 / 2 < (m : Int) + 1; omega, by have := HBC.out.1.2; show z1 ≤ 1000000; omega⟩ ⟨HBC.out.2.1, by rw [HTL.out]; push_cast; have := HBC.out.2.2; show z2 / 2 < (m : Int) + 1; omega, by have := HBC.out.2.2; show z2 ≤ 1000000; omega⟩)
                  have HKE : Hid (∀ wx, Below ((wr.alloc (.cells #[.int .i64 z0, .int .i64 z1, .int .i64 z2] 45)).drew).heap.size ((wr.alloc (.cells #[.int .i64 z0, .int .i64 z1, .int .i64 z2] 45)).drew) wx → ∀ x : Int, (wx.cell? ⟨wr.heap.size, 0, none⟩ = some (.int .i64 z0) ∧ wx.cell? ⟨wr.heap.size, 1, none⟩ = some (.int .i64 z1) ∧ wx.cell? ⟨wr.heap.size, 2, none⟩ = some (.int .i64 z2)) ∧ ((wx.setCell ⟨w.heap.size + 1, (z0 / 2).toNat, none⟩ (.int .i64 x)).cell? ⟨wr.heap.size, 0, none⟩ = some (.int .i64 z0) ∧ (wx.setCell ⟨w.heap.size + 1, (z0 / 2).toNat, none⟩ (.int .i64 x)).cell? ⟨wr.heap.size, 1, none⟩ = some (.int .i64 z1) ∧ (wx.setCell ⟨w.heap.size + 1, (z0 / 2).toNat, none⟩ (.int .i64 x)).cell? ⟨wr.heap.size, 2, none⟩ = some (.int .i64 z2)) ∧ (wx.cell? ⟨w.heap.size + 1, (z0 / 2).toNat, none⟩ = some (.int .i64 (T.getD (z0 / 2).toNat 0)) ∧ wx.frozen? ⟨w.heap.size + 1, (z0 / 2).toNat, none⟩ = false ∧ w.heap.size + 1 < wx.heap.size)) := Lib.hid (fun wx hb x => by
                    have hn := HNB.out.1.below hb HNB.out.1.lt
                    have e := Blk.far hn (p := ⟨w.heap.size + 1, (z0 / 2).toNat, none⟩) (by simpa using Ne.symm HNB.out.2) (.int .i64 x)
                    have hx := (HX.out.on hb).tab
                    exact ⟨⟨hn.cell 0, hn.cell 1, hn.cell 2⟩, ⟨e.cell 0, e.cell 1, e.cell 2⟩, Nums.cell hx (getD_int (by rw [HTL.out]; omega)), Blk.frozen hx _, Blk.lt hx⟩)
                  clear htl
                  go_upto_region 20 with (fail)
                  have hbd : Below ((wr.alloc (.cells #[.int .i64 z0, .int .i64 z1, .int .i64 z2] 45)).drew).heap.size ((wr.alloc (.cells #[.int .i64 z0, .int .i64 z1, .int .i64 z2] 45)).drew) ((wr.alloc (.cells #[.int .i64 z0, .int .i64 z1, .int .i64 z2] 45)).drew) := Below.refl _ _
                  have HBD := Lib.hid hbd
                  clear hbd
                  obtain ⟨⟨y0, y1, y2⟩, _, hold, hfr, hgb⟩ := HKE.out _ HBD.out 0
                  have hq5 : z0 / 2 < ((m + 1 : Nat) : Int) := by push_cast; omega
                  have hq6 : z0.tdiv 2 < ((m + 1 : Nat) : Int) := by rw [hq2]; exact hq5
                  have hq7 : 0 ≤ z0.tdiv 2 := by rw [hq2]; exact hq3
                  have hq8 : IntKind.i64.wrap (z0 / 2) = z0 / 2 := by simp [IntKind.wrap, IntKind.bits, IntKind.signed]; omega
                  have hq9 : ¬ z0 / 2 < 0 := by omega
                  go_region_held3 (fun w' => w'.cell? ⟨wr.heap.size, 0, none⟩ = some (.int .i64 z0) ∧ w'.cell? ⟨wr.heap.size, 1, none⟩ = some (.int .i64 z1) ∧ w'.cell? ⟨wr.heap.size, 2, none⟩ = some (.int .i64 z2)) (first | exact (HKE.out _ HBD.out 0).1 | exact (HKE.out _ HW5.out 0).1 | exact (HKE.out _ HW5.out _).2.1 | go_keep)
                    (first | (go_at_call 63; refine (HCA.out _ HBD.out).mono ?_; rintro e w5 ⟨rfl, hb5⟩; have HW5 := Lib.hid hb5; have hold5 := (HKE.out _ HW5.out 0).2.2.1; have hfr5 := (HKE.out _ HW5.out 0).2.2.2.1; have hgb5 := (HKE.out _ HW5.out 0).2.2.2.2; clear hb5))
                  go_wp2
                  go_roundg (nG - (q + 1))
                  case measure => omega
                  case rel =>
                    refine ⟨q + 1, by omega, rfl, by go_num, ?_⟩
                    rw [HSN.out]
                    exact (HX.out.on HW5.out).set_ (by omega) (by omega) _ _
                · have hqe : nG = q := by omega
                  subst hqe
                  clear hst hlt hq
                  go_wp2
                  have := HST3.out
                  rw [List.take_of_length_le (by rw [HNG.out]; exact Nat.le_refl _)] at this
                  go_ret
                  exact ⟨w.heap.size + 1, rfl, by omega, this.below, by rw [HT1.out, HT2.out]; exact this.tab⟩

set_option maxHeartbeats 8000000 in
set_option maxRecDepth 100000 in
theorem rTern0_any (w : World) (V : CV) (C : Circ) (gv sv rv : Value) (gs st row : List Int) (h : C.In w V) (hg : RowE 1 encI w gv gs) (hs : RowE 1 encI w sv st) (hr : RowE 1 encI w rv row)
    (hrt : Right C) (hls : st.length = C.latches.length) (hlr : row.length = C.inputs.length) (h3s : Row3 st) (h3r : Row3 row) (hG : ∀ g ∈ gs, 0 ≤ g ∧ g < (C.ands.length : Int)) (hgl : gs.length ≤ 16384) :
    Calls Tryz.prog 70 #[V.val C.max, gv, sv, rv] w fun e w' => ∃ g, e = .returned (.slice (some ⟨g, 0, none⟩) (C.max.toNat + 1) (C.max.toNat + 1)) ∧ w.heap.size ≤ g ∧ Below w.heap.size w w' ∧ Nums w' g (val3 C gs st row) := by
  obtain ⟨m, hmm⟩ : ∃ m : Nat, C.max = (m : Int) := ⟨C.max.toNat, by have := hrt.m0; omega⟩
  have hm1 := hrt.m1
  have hmt : C.max.toNat = m := by rw [hmm]; rfl
  have hvf : val3 C gs st row = gates3 C gs (put3 ((C.latches.map (·.1)).zip st) (put3 (C.inputs.zip row) (0 :: List.replicate m 2))) := by unfold val3 base3 zero3; rw [hmt]
  have H3 := Lib.hid (And.intro (row3_put _ _ (row3_zero C) (row3_zip h3r (xs := C.inputs))) (row3_base (C := C) h3s h3r))
  unfold base3 zero3 at H3
  rw [hmt] at H3
  rw [hmt, hvf]
  rw [hmm] at hm1 ⊢
  have hmk := make_ints (m + 1) (by omega)
  push_cast at hmk
  have hn1 := hrt.ni
  have hn2 := hrt.nl
  have hn3 := hrt.na
  have HI : Hid (∀ l ∈ C.inputs, 0 ≤ l ∧ l / 2 ≤ (m : Int)) := Lib.hid (fun l hl => by have := hrt.i l hl; omega)
  have HL : Hid (∀ z ∈ C.latches, 0 ≤ z.1 ∧ z.1 / 2 ≤ (m : Int)) := Lib.hid (fun z hz => by have := (hrt.l z hz).1; omega)
  have HA : Hid (∀ z ∈ C.ands, (0 ≤ z.1 ∧ z.1 / 2 ≤ (m : Int)) ∧ (0 ≤ z.2.1 ∧ z.2.1 / 2 ≤ (m : Int)) ∧ (0 ≤ z.2.2 ∧ z.2.2 / 2 ≤ (m : Int))) := Lib.hid (fun z hz => by
    obtain ⟨a, b, c⟩ := hrt.a z hz
    unfold LitOk at b c
    rw [hmm] at a b c
    exact ⟨⟨by omega, a.2⟩, b, c⟩)
  obtain ⟨AI, cI, eI, _, _, rI⟩ := h.i
  obtain ⟨AL, cL, eL, _, _, rL⟩ := h.l
  obtain ⟨AA, cA, eA, _, _, rA⟩ := h.a
  obtain ⟨AG, cG, eG, _, _, rG⟩ := hg
  obtain ⟨AS, cS, eS, _, _, rS⟩ := hs
  obtain ⟨AR, cR, eR, _, _, rR⟩ := hr
  obtain ⟨Vi, Vl, Vo, Vb, Vc, Vj, Vf, Va, Vs, Vt⟩ := V
  simp only at eI eL eA
  subst eI eL eA eG eS eR
  rw [hls, hlr]
  have HS0 : Hid (VT w ((w.alloc (.cells #[.int .i64 m, .slice AI C.inputs.length cI, .slice AL C.latches.length cL, Vo, Vb, Vc, Vj, Vf, .slice AA C.ands.length cA, Vs, Vt] 29)).alloc (.cells (madeCells #[Value.int .i64 0] (m + 1)) 3)) w.heap.size (w.heap.size + 1) #[.int .i64 m, .slice AI C.inputs.length cI, .slice AL C.latches.length cL, Vo, Vb, Vc, Vj, Vf, .slice AA C.ands.length cA, Vs, Vt] ((0 :: List.replicate m 2).take 1 ++ List.replicate (m + 1 - 1) 0)) := by
    refine Lib.hid ⟨((Below.refl w.heap.size w).alloc (Nat.le_refl _) _).alloc (by simp) _, (Blk.new w _ _).alloc _, ?_⟩
    have e0 : (0 :: List.replicate m 2).take 1 ++ List.replicate (m + 1 - 1) (0 : Int) = List.replicate (m + 1) 0 := by simp [List.replicate_succ]
    rw [e0]
    unfold Nums
    rw [← made_ints]
    have := (Blk.new (w.alloc (.cells #[.int .i64 m, .slice AI C.inputs.length cI, .slice AL C.latches.length cL, Vo, Vb, Vc, Vj, Vf, .slice AA C.ands.length cA, Vs, Vt] 29)) 3 (madeCells #[Value.int .i64 0] (m + 1)))
    simpa using this
  have HRI := Lib.hid rI
  have HRL := Lib.hid rL
  have HRA := Lib.hid rA
  have HRG := Lib.hid rG
  have HRS := Lib.hid rS
  have HRR := Lib.hid rR
  have HG := Lib.hid hG
  clear rI rL rA rG rS rR hG h hrt hmm hmt hvf h3s h3r
  generalize hnI : C.inputs.length = nI at *
  generalize hnL : C.latches.length = nL at *
  generalize hnA : C.ands.length = nA at *
  generalize hnG : gs.length = nG at *
  have HNI := Lib.hid hnI
  have HNL := Lib.hid hnL
  have HNA := Lib.hid hnA
  have HNG := Lib.hid hnG
  have HLR := Lib.hid hlr
  have HLS := Lib.hid hls
  clear hnI hnL hnA hnG hlr hls
  go_enter Tryz.func70, Tryz.ntmps70
  go_wp2
  go_loopg [10] m (fun k j wx => ∃ q : Nat, 1 ≤ q ∧ q ≤ m + 1 ∧ k = m + 1 - q ∧ j = .int .i64 q ∧ VT w wx w.heap.size (w.heap.size + 1) #[.int .i64 m, .slice AI nI cI, .slice AL nL cL, Vo, Vb, Vc, Vj, Vf, .slice AA nA cA, Vs, Vt] ((0 :: List.replicate m 2).take q ++ List.replicate (m + 1 - q) 0))
  case atStart => exact ⟨1, Nat.le_refl _, by omega, by omega, rfl, HS0.out⟩
  case round =>
    obtain ⟨q, hq1, hq, hgk, rfl, hst⟩ := hrel
    subst hgk
    have HST := Lib.hid hst
    have bx := hst.box
    have x0 := bx.cell 0
    have x1 := bx.cell 1
    have x2 := bx.cell 2
    have x8 := bx.cell 8
    simp only [List.getElem?_toArray, List.getElem?_cons_zero, List.getElem?_cons_succ] at x0 x1 x2 x8
    clear bx
    by_cases hlt : q < m + 1
    · have hz2 : (0 :: List.replicate m (2 : Int))[q]? = some 2 := by
        obtain ⟨u, rfl⟩ : ∃ u, q = u + 1 := ⟨q - 1, by omega⟩
        rw [List.getElem?_cons_succ, List.getElem?_replicate, if_pos (by omega)]
      have HP := Lib.hid (fill3_set (L := 0 :: List.replicate m (2 : Int)) (n := m + 1) (by simp) hz2)
      have hlen := fill3_len (L := 0 :: List.replicate m (2 : Int)) (n := m + 1) (k := q) (by simp) hq
      have htl : q < ((0 :: List.replicate m (2 : Int)).take q ++ List.replicate (m + 1 - q) 0).length := by rw [hlen]; exact hlt
      have hold := Nums.cell hst.tab (getD_int htl)
      have hfr := Blk.frozen hst.tab q
      have hgb := Blk.lt hst.tab
      have hql : (q : Int) < (m : Int) + 1 := by omega
      have hql2 : (q : Int) ≤ (m : Int) := by omega
      have hql0 : (0 : Int) ≤ (q : Int) := by omega
      clear hz2 hst hlen htl
      go_wp2
      go_roundg (m + 1 - (q + 1))
      case measure => omega
      case rel =>
        refine ⟨q + 1, by omega, by omega, rfl, by go_num, ?_⟩
        rw [← HP.out]
        exact HST.out.set_ (by omega) (by omega) _ _
    · have hqe : q = m + 1 := by omega
      have hql2 : ¬ (q : Int) ≤ (m : Int) := by omega
      have HZ0 : Hid (VT w wr w.heap.size (w.heap.size + 1) #[.int .i64 m, .slice AI nI cI, .slice AL nL cL, Vo, Vb, Vc, Vj, Vf, .slice AA nA cA, Vs, Vt] (0 :: List.replicate m 2)) := Lib.hid (by
        have h9 := hst
        rw [hqe, fill3_end (by simp)] at h9
        exact h9)
      clear hst hlt hq HS0 HST hqe
      go_wp2
      go_loopg [11] nI (fun k j wx => ∃ q : Nat, q ≤ nI ∧ k = nI - q ∧ j = .int .i64 q ∧ VT w wx w.heap.size (w.heap.size + 1) #[.int .i64 m, .slice AI nI cI, .slice AL nL cL, Vo, Vb, Vc, Vj, Vf, .slice AA nA cA, Vs, Vt] (put3 ((C.inputs.zip row).take q) (0 :: List.replicate m 2)))
      case atStart => exact ⟨0, Nat.zero_le _, rfl, rfl, HZ0.out⟩
      case round =>
        obtain ⟨q, hq, hgk, rfl, hst⟩ := hrel
        subst hgk
        clear x0 x1 x2 x8
        have HST := Lib.hid hst
        have bx := hst.box
        have x0 := bx.cell 0
        have x1 := bx.cell 1
        have x2 := bx.cell 2
        have x8 := bx.cell 8
        simp only [List.getElem?_toArray, List.getElem?_cons_zero, List.getElem?_cons_succ] at x0 x1 x2 x8
        clear bx
        by_cases hlt : q < nI
        · obtain ⟨l, hl⟩ : ∃ l, C.inputs[q]? = some l := ⟨_, List.getElem?_eq_getElem (by rw [HNI.out]; exact hlt)⟩
          obtain ⟨y, hy⟩ : ∃ y, row[q]? = some y := ⟨_, List.getElem?_eq_getElem (by rw [HLR.out]; exact hlt)⟩
          obtain ⟨b, off, e, hb, hcell⟩ := HRI.out q l hl
          subst e
          obtain ⟨b2, off2, e, hb2, hcell2⟩ := HRR.out q y hy
          subst e
          have h0 := (HST.out.below.cell (p := ⟨b, off + (q * 1 + 0), none⟩) hb).trans (hcell 0 _ rfl)
          have h1 := (HST.out.below.cell (p := ⟨b2, off2 + (q * 1 + 0), none⟩) hb2).trans (hcell2 0 _ rfl)
          simp only [Nat.mul_one, Nat.add_zero] at h0 h1
          obtain ⟨hl0, hl1⟩ := HI.out l (List.mem_of_getElem? hl)
          have hp := zip3_snoc hl hy
          have HP := Lib.hid hp
          have hq2 := tdiv_nn (b := 2) hl0
          have hq3 : 0 ≤ l / 2 := by omega
          have hq4 : l / 2 < (m : Int) + 1 := by omega
          have hlen : (put3 ((C.inputs.zip row).take q) (0 :: List.replicate m 2)).length = m + 1 := by rw [put3_len]; simp
          have htl : (l / 2).toNat < (put3 ((C.inputs.zip row).take q) (0 :: List.replicate m 2)).length := by rw [hlen]; omega
          have hold := Nums.cell hst.drew.tab (getD_int htl)
          have hfr := Blk.frozen hst.drew.tab (l / 2).toNat
          have hgb := Blk.lt hst.drew.tab
          have hq5 : l / 2 < ((m + 1 : Nat) : Int) := by push_cast; omega
          have hq8 : IntKind.i64.wrap (l / 2) = l / 2 := by simp [IntKind.wrap, IntKind.bits, IntKind.signed]; omega
          have hql : (q : Int) < (nI : Int) := by omega
          have hql0 : (0 : Int) ≤ (q : Int) := by omega
          clear hcell hcell2 hl hy hp hst hlen htl
          go_upto_region 9 with (fail)
          go_region
          go_wp2
          go_roundg (nI - (q + 1))
          case measure => omega
          case rel =>
            refine ⟨q + 1, by omega, rfl, by go_num, ?_⟩
            rw [HP.out, put3_snoc]
            exact HST.out.drew.set_ (by omega) (by omega) _ _
        · have hqe : nI = q := by omega
          subst hqe
          clear hst hlt hq
          have HB1 : Hid (put3 ((C.inputs.zip row).take nI) (0 :: List.replicate m 2) = put3 (C.inputs.zip row) (0 :: List.replicate m 2)) := Lib.hid (by rw [zip3_all HNI.out])
          have HL1 : Hid ((put3 (C.inputs.zip row) (0 :: List.replicate m 2)).length = m + 1) := Lib.hid (by rw [put3_len]; simp)
          rw [HB1.out] at HST
          clear HB1
          obtain ⟨T1, hT1⟩ : ∃ T1, put3 (C.inputs.zip row) (0 :: List.replicate m 2) = T1 := ⟨_, rfl⟩
          rw [hT1] at HST HL1 H3
          have HT1 := Lib.hid hT1
          clear hT1
          go_wp2
          go_loopg [12] nL (fun k j wx => ∃ q : Nat, q ≤ nL ∧ k = nL - q ∧ j = .int .i64 q ∧ VT w wx w.heap.size (w.heap.size + 1) #[.int .i64 m, .slice AI nI cI, .slice AL nL cL, Vo, Vb, Vc, Vj, Vf, .slice AA nA cA, Vs, Vt] (put3 (((C.latches.map (·.1)).zip st).take q) T1))
          case atStart => exact ⟨0, Nat.zero_le _, rfl, rfl, HST.out⟩
          case round =>
            obtain ⟨q, hq, hgk, rfl, hst⟩ := hrel
            subst hgk
            clear x0 x1 x2 x8
            have HST2 := Lib.hid hst
            have bx := hst.box
            have x0 := bx.cell 0
            have x1 := bx.cell 1
            have x2 := bx.cell 2
            have x8 := bx.cell 8
            simp only [List.getElem?_toArray, List.getElem?_cons_zero, List.getElem?_cons_succ] at x0 x1 x2 x8
            clear bx
            by_cases hlt : q < nL
            · obtain ⟨z, hz⟩ : ∃ z, C.latches[q]? = some z := ⟨_, List.getElem?_eq_getElem (by rw [HNL.out]; exact hlt)⟩
              obtain ⟨y, hy⟩ : ∃ y, st[q]? = some y := ⟨_, List.getElem?_eq_getElem (by rw [HLS.out]; exact hlt)⟩
              obtain ⟨b, off, e, hb, hcell⟩ := HRL.out q z hz
              subst e
              obtain ⟨b2, off2, e, hb2, hcell2⟩ := HRS.out q y hy
              subst e
              have hl : (C.latches.map (·.1))[q]? = some z.1 := by rw [List.getElem?_map, hz]; rfl
              have hp := zip3_snoc hl hy
              have HP := Lib.hid hp
              have HZ := Lib.hid (HL.out z (List.mem_of_getElem? hz))
              obtain ⟨z0, z1, z2⟩ := z
              have h0 := (HST2.out.below.cell (p := ⟨b, off + (q * 3 + 0), none⟩) hb).trans (hcell 0 _ rfl)
              have h1 := (HST2.out.below.cell (p := ⟨b, off + (q * 3 + 1), none⟩) hb).trans (hcell 1 _ rfl)
              have h2 := (HST2.out.below.cell (p := ⟨b, off + (q * 3 + 2), none⟩) hb).trans (hcell 2 _ rfl)
              simp only [Nat.add_zero, ← Nat.add_assoc] at h0 h1 h2
              obtain ⟨hl0, hl1⟩ := HZ.out
              simp only at hl0 hl1
              have hq2 := tdiv_nn (b := 2) hl0
              have hq3 : 0 ≤ z0 / 2 := by omega
              have hq4 : z0 / 2 < (m : Int) + 1 := by omega
              have hlen : (put3 (((C.latches.map (·.1)).zip st).take q) T1).length = m + 1 := by rw [put3_len, HL1.out]
              have htl : (z0 / 2).toNat < (put3 (((C.latches.map (·.1)).zip st).take q) T1).length := by rw [hlen]; omega
              have HX := Lib.hid (hst)
              have hbb2 : b2 < wr.heap.size := Nat.lt_of_lt_of_le hb2 HST2.out.below.size
              have h3 := (HX.out.drew.below.cell (p := ⟨b2, off2 + (q * 1 + 0), none⟩) hb2).trans (hcell2 0 _ rfl)
              simp only [Nat.mul_one, Nat.add_zero] at h3
              have hold := Nums.cell HX.out.drew.tab (getD_int htl)
              have hfr := Blk.frozen HX.out.drew.tab (z0 / 2).toNat
              have hgb := Blk.lt HX.out.drew.tab
              have hql : (q : Int) < (nL : Int) := by omega
              have hql0 : (0 : Int) ≤ (q : Int) := by omega
              clear hcell hcell2 hz hl hy hp hst hlen htl
              have hq5 : z0 / 2 < ((m + 1 : Nat) : Int) := by push_cast; omega
              have hq8 : IntKind.i64.wrap (z0 / 2) = z0 / 2 := by simp [IntKind.wrap, IntKind.bits, IntKind.signed]; omega
              go_upto_region 13 with (fail)
              go_region
              go_wp2
              go_roundg (nL - (q + 1))
              case measure => omega
              case rel =>
                refine ⟨q + 1, by omega, rfl, by go_num, ?_⟩
                rw [HP.out, put3_snoc]
                exact HX.out.drew.set_ (by omega) (by omega) _ _
            · have hqe : nL = q := by omega
              subst hqe
              clear hst hlt hq
              have HB2 : Hid (put3 (((C.latches.map (·.1)).zip st).take nL) T1 = put3 ((C.latches.map (·.1)).zip st) T1) := Lib.hid (by rw [zip3_all (by rw [List.length_map]; exact HNL.out)])
              have HL2 : Hid ((put3 ((C.latches.map (·.1)).zip st) T1).length = m + 1) := Lib.hid (by rw [put3_len]; exact HL1.out)
              rw [HB2.out] at HST2
              clear HB2
              obtain ⟨T2, hT2⟩ : ∃ T2, put3 ((C.latches.map (·.1)).zip st) T1 = T2 := ⟨_, rfl⟩
              rw [hT2] at HST2 HL2 H3
              have HT2 := Lib.hid hT2
              clear hT2
              go_wp2
              go_loopg [13] nG (fun k j wx => ∃ q : Nat, q ≤ nG ∧ k = nG - q ∧ j = .int .i64 q ∧ VT w wx w.heap.size (w.heap.size + 1) #[.int .i64 m, .slice AI nI cI, .slice AL nL cL, Vo, Vb, Vc, Vj, Vf, .slice AA nA cA, Vs, Vt] (gates3 C (gs.take q) T2))
              case atStart => exact ⟨0, Nat.zero_le _, rfl, rfl, HST2.out⟩
              case round =>
                obtain ⟨q, hq, hgk, rfl, hst⟩ := hrel
                subst hgk
                clear x0 x1 x2 x8
                have HST3 := Lib.hid hst
                have bx := hst.box
                have x0 := bx.cell 0
                have x1 := bx.cell 1
                have x2 := bx.cell 2
                have x8 := bx.cell 8
                simp only [List.getElem?_toArray, List.getElem?_cons_zero, List.getElem?_cons_succ] at x0 x1 x2 x8
                clear bx
                by_cases hlt : q < nG
                · obtain ⟨gq, hgq⟩ : ∃ gq, gs[q]? = some gq := ⟨_, List.getElem?_eq_getElem (by rw [HNG.out]; exact hlt)⟩
                  obtain ⟨hg0, hg1⟩ := HG.out gq (List.mem_of_getElem? hgq)
                  obtain ⟨gn, rfl⟩ : ∃ n : Nat, gq = (n : Int) := ⟨gq.toNat, by omega⟩
                  obtain ⟨z, hz⟩ : ∃ z, C.ands[gn]? = some z := ⟨_, List.getElem?_eq_getElem (by rw [HNA.out]; omega)⟩
                  have HGT : Hid (∀ T, gate3 C T (gn : Int) = T.set (z.1 / 2).toNat (and3 (lit3 T z.2.1) (lit3 T z.2.2))) := Lib.hid (fun T => by
                    unfold gate3
                    have : C.ands.getD (gn : Int).toNat (0, 0, 0) = z := by simp [List.getD, hz]
                    rw [this])
                  have HP := Lib.hid (gsT_snoc hgq)
                  obtain ⟨b, off, e, hb, hcell⟩ := HRG.out q _ hgq
                  subst e
                  have h0 := (HST3.out.below.cell (p := ⟨b, off + (q * 1 + 0), none⟩) hb).trans (hcell 0 _ rfl)
                  simp only [Nat.mul_one, Nat.add_zero] at h0
                  have HZ := Lib.hid (HA.out z (List.mem_of_getElem? hz))
                  obtain ⟨b2, off2, e2, hb2, hcell2⟩ := HRA.out gn z hz
                  subst e2
                  obtain ⟨z0, z1, z2⟩ := z
                  have h3 := (HST3.out.below.cell (p := ⟨b2, off2 + (gn * 3 + 0), none⟩) hb2).trans (hcell2 0 _ rfl)
                  have h4 := (HST3.out.below.cell (p := ⟨b2, off2 + (gn * 3 + 1), none⟩) hb2).trans (hcell2 1 _ rfl)
                  have h5 := (HST3.out.below.cell (p := ⟨b2, off2 + (gn * 3 + 2), none⟩) hb2).trans (hcell2 2 _ rfl)
                  simp only [Nat.add_zero, ← Nat.add_assoc] at h3 h4 h5
                  have HTL : Hid ((gates3 C (gs.take q) T2).length = m + 1) := Lib.hid (by rw [gates3_len]; exact HL2.out)
                  have HR3 : Hid (Row3 (gates3 C (gs.take q) T2)) := Lib.hid (row3_gates C _ _ H3.out.2)
                  have HSN : Hid (gates3 C (gs.take (q + 1)) T2 = (gates3 C (gs.take q) T2).set (z0 / 2).toNat (and3 (lit3 (gates3 C (gs.take q) T2) z1) (lit3 (gates3 C (gs.take q) T2) z2))) := Lib.hid (by rw [HP.out, gates3_snoc, HGT.out])
                  clear hcell hcell2 hz hgq HGT HP
                  generalize gates3 C (gs.take q) T2 = T at *
                  obtain ⟨⟨a0, a1⟩, ⟨b0, b1⟩, ⟨c0, c1⟩⟩ := HZ.out
                  simp only at a0 a1 b0 b1 c0 c1
                  have hq2 := tdiv_nn (b := 2) a0
                  have hq3 : 0 ≤ z0 / 2 := by omega
                  have hq4 : z0 / 2 < (m : Int) + 1 := by omega
                  have htl : (z0 / 2).toNat < T.length := by rw [HTL.out]; omega
                  have HX := Lib.hid ((hst.alloc (.cells #[.int .i64 z0, .int .i64 z1, .int .i64 z2] 45)).drew.drew)
                  have hgnl : (gn : Int) < (nA : Int) := by omega
                  have hgn0 : (0 : Int) ≤ (gn : Int) := by omega
                  have HBC := Lib.hid (And.intro (And.intro b0 b1) (And.intro c0 c1))
                  have hql : (q : Int) < (nG : Int) := by omega
                  have hql0 : (0 : Int) ≤ (q : Int) := by omega
                  have hnb : Blk ((wr.alloc (.cells #[.int .i64 z0, .int .i64 z1, .int .i64 z2] 45)).drew.drew) wr.heap.size 45 #[.int .i64 z0, .int .i64 z1, .int .i64 z2] := (Blk.new wr _ _).drew.drew
                  have hne : w.heap.size + 1 ≠ wr.heap.size := by have := Blk.lt hst.tab; omega
                  have HNB := Lib.hid (And.intro hnb hne)
                  clear hst hnb hne b0 b1 c0 c1
                  have HIS : Hid (∀ (wx : World) (l : Int), VT w wx w.heap.size (w.heap.size + 1) #[.int .i64 m, .slice AI nI cI, .slice AL nL cL, Vo, Vb, Vc, Vj, Vf, .slice (some ⟨b2, off2, none⟩) nA cA, Vs, Vt] T → 0 ≤ l → l / 2 ≤ (m : Int) → Calls Tryz.prog 71 #[.slice (some ⟨w.heap.size + 1, 0, none⟩) (m + 1) (m + 1), .int .i64 l] wx fun e w' => e = .returned (.int .i64 (lit3 T l)) ∧ w' = wx) := Lib.hid (fun wx l hx h0 h1 => by
                    have hv := nums_row hx.tab (by rw [HTL.out]; unfold maxLen; omega)
                    rw [HTL.out] at hv
                    exact rLit0_any wx _ T l hv (row3_at HR3.out _) h0 (by rw [HTL.out]; push_cast; omega) (by omega))
                  have hold := Nums.cell HX.out.tab (getD_int htl)
                  have hfr := Blk.frozen HX.out.tab (z0 / 2).toNat
                  have hgb := Blk.lt HX.out.tab
                  have HKE : Hid (∀ b : Int, (((wr.alloc (.cells #[.int .i64 z0, .int .i64 z1, .int .i64 z2] 45)).drew.drew).setCell ⟨w.heap.size + 1, (z0 / 2).toNat, none⟩ (.int .i64 b)).cell? ⟨wr.heap.size, 0, none⟩ = some (.int .i64 z0) ∧ (((wr.alloc (.cells #[.int .i64 z0, .int .i64 z1, .int .i64 z2] 45)).drew.drew).setCell ⟨w.heap.size + 1, (z0 / 2).toNat, none⟩ (.int .i64 b)).cell? ⟨wr.heap.size, 1, none⟩ = some (.int .i64 z1) ∧ (((wr.alloc (.cells #[.int .i64 z0, .int .i64 z1, .int .i64 z2] 45)).drew.drew).setCell ⟨w.heap.size + 1, (z0 / 2).toNat, none⟩ (.int .i64 b)).cell? ⟨wr.heap.size, 2, none⟩ = some (.int .i64 z2)) := Lib.hid (fun b => by
                    have e := Blk.far HNB.out.1 (p := ⟨w.heap.size + 1, (z0 / 2).toNat, none⟩) (by simpa using Ne.symm HNB.out.2) (.int .i64 b)
                    exact ⟨e.cell 0, e.cell 1, e.cell 2⟩)
                  have y0 := HNB.out.1.cell 0
                  have y1 := HNB.out.1.cell 1
                  have y2 := HNB.out.1.cell 2
                  simp only [List.getElem?_toArray, List.getElem?_cons_zero, List.getElem?_cons_succ] at y0 y1 y2
                  have HY := Lib.hid (And.intro y0 (And.intro y1 y2))
                  have hbX : Below wr.heap.size wr ((wr.alloc (.cells #[.int .i64 0, .int .i64 0, .int .i64 0] 45)).drew) := ((Below.refl _ _).alloc (Nat.le_refl _) _).drew
                  have hbw : b < wr.heap.size := Nat.lt_of_lt_of_le hb HST3.out.below.size
                  have hbw2 : b2 < wr.heap.size := Nat.lt_of_lt_of_le hb2 HST3.out.below.size
                  have k0 := (hbX.cell (p := ⟨b, off + q, none⟩) hbw).trans h0
                  have k3 := (hbX.cell (p := ⟨b2, off2 + gn * 3, none⟩) hbw2).trans h3
                  have k4 := (hbX.cell (p := ⟨b2, off2 + gn * 3 + 1, none⟩) hbw2).trans h4
                  have k5 := (hbX.cell (p := ⟨b2, off2 + gn * 3 + 2, none⟩) hbw2).trans h5
                  have k8 := (hbX.cell (p := ⟨w.heap.size, 8, none⟩) (by have := Blk.lt HST3.out.box; exact this)).trans x8
                  clear hbX htl y0 y1 y2
                  go_upto_region 17 with (fail)
                  go_region
                  go_upto_region 18 with (fail)
                  clear k0 k3 k4 k5 k8
                  have hq5 : z0 / 2 < ((m + 1 : Nat) : Int) := by push_cast; omega
                  have hq6 : z0.tdiv 2 < ((m + 1 : Nat) : Int) := by rw [hq2]; exact hq5
                  have hq7 : 0 ≤ z0.tdiv 2 := by rw [hq2]; exact hq3
                  have hq8 : IntKind.i64.wrap (z0 / 2) = z0 / 2 := by simp [IntKind.wrap, IntKind.bits, IntKind.signed]; omega
                  have hq9 : ¬ z0 / 2 < 0 := by omega
                  have HI1 : Hid (∀ wx, VT w wx w.heap.size (w.heap.size + 1) #[.int .i64 m, .slice AI nI cI, .slice AL nL cL, Vo, Vb, Vc, Vj, Vf, .slice (some ⟨b2, off2, none⟩) nA cA, Vs, Vt] T → Calls Tryz.prog 71 #[.slice (some ⟨w.heap.size + 1, 0, none⟩) (m + 1) (m + 1), .int .i64 z1] wx fun e w' => e = .returned (.int .i64 (lit3 T z1)) ∧ w' = wx) := Lib.hid (fun wx hx => HIS.out wx z1 hx HBC.out.1.1 HBC.out.1.2)
                  have HI2 : Hid (∀ wx, VT w wx w.heap.size (w.heap.size + 1) #[.int .i64 m, .slice AI nI cI, .slice AL nL cL, Vo, Vb, Vc, Vj, Vf, .slice (some ⟨b2, off2, none⟩) nA cA, Vs, Vt] T → Calls Tryz.prog 71 #[.slice (some ⟨w.heap.size + 1, 0, none⟩) (m + 1) (m + 1), .int .i64 z2] wx fun e w' => e = .returned (.int .i64 (lit3 T z2)) ∧ w' = wx) := Lib.hid (fun wx hx => HIS.out wx z2 hx HBC.out.2.1 HBC.out.2.2)
                  have HI3 : Hid (∀ (wx : World), Calls Tryz.prog 85 #[.int .i64 (lit3 T z1), .int .i64 (lit3 T z2)] wx fun e w' => e = .returned (.int .i64 (and3 (lit3 T z1) (lit3 T z2))) ∧ w' = wx) := Lib.hid (fun wx => rAnd_any wx _ _ (lit3_v HR3.out _) (lit3_v HR3.out _))
                  generalize lit3 T z1 = u1 at *
                  generalize lit3 T z2 = u2 at *
                  (go_region_held3 (fun w' => w'.cell? ⟨wr.heap.size, 0, none⟩ = some (.int .i64 z0) ∧ w'.cell? ⟨wr.heap.size, 1, none⟩ = some (.int .i64 z1) ∧ w'.cell? ⟨wr.heap.size, 2, none⟩ = some (.int .i64 z2)) (first | exact HY.out | exact HKE.out _ | go_keep)
                      (first
                        | (go_at_call_of 71 z1; refine (HI1.out _ HX.out).mono ?_; rintro e w5 ⟨rfl, rfl⟩)
                        | (go_at_call_of 71 z2; refine (HI2.out _ HX.out).mono ?_; rintro e w5 ⟨rfl, rfl⟩)
                        | (go_at_call 85; refine (HI3.out _).mono ?_; rintro e w5 ⟨rfl, rfl⟩)))
                  go_wp2
                  go_roundg (nG - (q + 1))
                  case measure => omega
                  case rel =>
                    refine ⟨q + 1, by omega, rfl, by go_num, ?_⟩
                    rw [HSN.out]
                    exact HX.out.set_ (by omega) (by omega) _ _
                · have hqe : nG = q := by omega
                  subst hqe
                  clear hst hlt hq
                  go_wp2
                  have := HST3.out
                  rw [List.take_of_length_le (by rw [HNG.out]; exact Nat.le_refl _)] at this
                  go_ret
                  exact ⟨w.heap.size + 1, rfl, by omega, this.below, by rw [HT1.out, HT2.out]; exact this.tab⟩
end Go.Proofs.YtbeaicmjohlboaaGreatDoor

namespace Go.Proofs.YtbeaicmjohlboaaGreatDoor
open Go.RowKit

/-- Are so many values a row? -/
def ok3 (x : Int) : Bool := decide (0 ≤ x) && decide (x ≤ 2)
def okRow (L : List Int) (n : Nat) : Bool := decide (L.length = n) && L.all ok3
theorem ok3_v {x : Int} : ok3 x = true ↔ V3 x := by
  unfold ok3 V3
  simp only [Bool.and_eq_true, decide_eq_true_eq]
  omega
theorem okRow_iff {L : List Int} {n : Nat} : okRow L n = true ↔ L.length = n ∧ Row3 L := by
  unfold okRow Row3
  rw [Bool.and_eq_true, decide_eq_true_eq, List.all_eq_true]
  exact ⟨fun ⟨a, b⟩ => ⟨a, fun x hx => ok3_v.1 (b x hx)⟩, fun ⟨a, b⟩ => ⟨a, fun x hx => ok3_v.2 (b x hx)⟩⟩
theorem okRow_len {L : List Int} {n : Nat} (h : L.length ≠ n) : okRow L n = false := by unfold okRow; rw [decide_eq_false h]; rfl
theorem okRow_bad {L : List Int} {n k : Nat} {x : Int} (hk : L[k]? = some x) (h : ok3 x = false) : okRow L n = false := by
  unfold okRow
  rw [Bool.and_eq_false_iff]
  refine .inr ?_
  rw [List.all_eq_false]
  exact ⟨x, List.mem_of_getElem? hk, by rw [h]; decide⟩
theorem okRow_all {L : List Int} {n : Nat} (hl : L.length = n) (h : ∀ k, k < n → ok3 (L.getD k 0) = true) : okRow L n = true := by
  unfold okRow
  rw [decide_eq_true hl, Bool.true_and, List.all_eq_true]
  intro x hx
  obtain ⟨k, hk⟩ := List.getElem?_of_mem hx
  have := h k (by rw [← hl]; exact (List.getElem?_eq_some_iff.1 hk).1)
  rwa [List.getD_eq_getElem?_getD, hk] at this
/-- What is refused of two rows. -/
def fit3 (C : Circ) (L I : List Int) : Int := if (checkR C).2 = 0 then (if okRow L C.latches.length = true ∧ okRow I C.inputs.length = true then 0 else 80) else (checkR C).2
theorem fit3_ok {C : Circ} {L I : List Int} (h : fit3 C L I = 0) : (checkR C).2 = 0 ∧ (L.length = C.latches.length ∧ Row3 L) ∧ I.length = C.inputs.length ∧ Row3 I := by
  unfold fit3 at h
  by_cases h0 : (checkR C).2 = 0
  · rw [if_pos h0] at h
    by_cases h1 : okRow L C.latches.length = true ∧ okRow I C.inputs.length = true
    · exact ⟨h0, okRow_iff.1 h1.1, okRow_iff.1 h1.2⟩
    · rw [if_neg h1] at h; cases h
  · rw [if_neg h0] at h; exact absurd h h0
theorem fit3_not1 {C : Circ} {L I : List Int} (h : (checkR C).2 = 0) (h1 : okRow L C.latches.length = false) : fit3 C L I = 80 := by unfold fit3; rw [if_pos h, if_neg (by simp [h1])]
theorem fit3_not2 {C : Circ} {L I : List Int} (h : (checkR C).2 = 0) (h1 : okRow I C.inputs.length = false) : fit3 C L I = 80 := by unfold fit3; rw [if_pos h, if_neg (by simp [h1])]
theorem fit3_bad {C : Circ} {L I : List Int} (h : (checkR C).2 ≠ 0) : fit3 C L I = (checkR C).2 := by unfold fit3; rw [if_neg h]
theorem fit3_yes {C : Circ} {L I : List Int} (h : (checkR C).2 = 0) (h1 : okRow L C.latches.length = true) (h2 : okRow I C.inputs.length = true) : fit3 C L I = 0 := by unfold fit3; rw [if_pos h, if_pos ⟨h1, h2⟩]
theorem slI_form {w : World} {v : Value} {t : List Int} (h : RowE 1 encI w v t) : ∃ A n c, v = .slice A n c := by
  obtain ⟨A, c, e, _⟩ := h
  exact ⟨A, _, c, e⟩

set_option maxHeartbeats 400000 in
theorem isValue_any (w : World) (x : Int) : Calls Tryz.prog 62 #[.int .i64 x] w fun e w' => e = .returned (.bool (ok3 x)) ∧ w' = w := by
  unfold ok3
  by_cases h1 : 0 ≤ x
  · by_cases h2 : x ≤ 2
    · rw [decide_eq_true h1, decide_eq_true h2]
      go_enter Tryz.func62, Tryz.ntmps62
      go_wp2
      go_ret
      exact ⟨rfl, rfl⟩
    · rw [decide_eq_true h1, decide_eq_false h2]
      go_enter Tryz.func62, Tryz.ntmps62
      go_wp2
      go_ret
      exact ⟨rfl, rfl⟩
  · rw [decide_eq_false h1]
    go_enter Tryz.func62, Tryz.ntmps62
    go_wp2
    go_ret
    exact ⟨rfl, rfl⟩

set_option maxHeartbeats 1000000 in
set_option maxRecDepth 100000 in
theorem isRow_any (w : World) (v : Value) (L : List Int) (n : Nat) (hv : RowE 1 encI w v L) :
    Calls Tryz.prog 31 #[v, .int .i64 n] w fun e w' => e = .returned (.bool (okRow L n)) ∧ w' = w := by
  obtain ⟨A, c, rfl, hlc, hcm, hr⟩ := hv
  have HR := Lib.hid hr
  have hcm2 : c ≤ 9223372036854775807 := by unfold maxLen at hcm; omega
  clear hr hcm
  by_cases hl : L.length = n
  · obtain ⟨b, hb⟩ : ∃ b, okRow L n = b := ⟨_, rfl⟩
    have HOK := Lib.hid hb
    have HL := Lib.hid hl
    rw [hb, hl]
    have hnm : n ≤ 9223372036854775807 := by omega
    clear hb hl hlc
    go_enter Tryz.func31, Tryz.ntmps31
    go_wp2
    go_loopg [13] n (fun k j wx => ∃ q : Nat, q ≤ n ∧ k = n - q ∧ j = .int .i64 q ∧ wx = w ∧ ∀ i, i < q → ok3 (L.getD i 0) = true)
    case atStart => exact ⟨0, Nat.zero_le _, rfl, rfl, rfl, fun i hi => absurd hi (by omega)⟩
    case round =>
      obtain ⟨q, hq, hgk, rfl, hwe, hall⟩ := hrel
      subst hwe
      subst hgk
      have HALL := Lib.hid hall
      clear hall
      by_cases hlt : q < n
      · obtain ⟨x, hx⟩ : ∃ x, L[q]? = some x := ⟨_, List.getElem?_eq_getElem (by rw [HL.out]; exact hlt)⟩
        obtain ⟨g, off, e, hb, hcell⟩ := HR.out q x hx
        subst e
        have h0 := hcell 0 _ rfl
        simp only [Nat.mul_one, Nat.add_zero] at h0
        have hql : (q : Int) < (n : Int) := by omega
        have hql0 : (0 : Int) ≤ (q : Int) := by omega
        have HXD : Hid (L.getD q 0 = x) := Lib.hid (by rw [List.getD_eq_getElem?_getD, hx]; rfl)
        clear hcell
        cases hk : ok3 x
        · have HF : Hid (b = false) := Lib.hid (by rw [← HOK.out]; exact okRow_bad hx hk)
          have HIV : Hid (Calls Tryz.prog 62 #[.int .i64 x] wr fun e w' => e = .returned (.bool false) ∧ w' = wr) := Lib.hid (by have := isValue_any wr x; rwa [hk] at this)
          clear hk
          clear hx
          go_wp2_with (go_at_call 62; refine HIV.out.mono ?_; rintro e w5 ⟨rfl, rfl⟩)
          go_ret
          exact ⟨ret_bool HF.out.symm, rfl⟩
        · have HK := Lib.hid hk
          have HIV : Hid (Calls Tryz.prog 62 #[.int .i64 x] wr fun e w' => e = .returned (.bool true) ∧ w' = wr) := Lib.hid (by have := isValue_any wr x; rwa [hk] at this)
          clear hk
          clear hx
          go_wp2_with (go_at_call 62; refine HIV.out.mono ?_; rintro e w5 ⟨rfl, rfl⟩)
          go_roundg (n - (q + 1))
          case measure => omega
          case rel =>
            refine ⟨q + 1, by omega, rfl, by go_num, rfl, fun i hi => ?_⟩
            by_cases e : i = q
            · subst e; rw [HXD.out]; exact HK.out
            · exact HALL.out i (by omega)
      · have hqe : q = n := by omega
        have HF : Hid (b = true) := Lib.hid (by rw [← HOK.out]; exact okRow_all HL.out (fun i hi => HALL.out i (by omega)))
        clear hq
        go_wp2
        go_ret
        exact ⟨ret_bool HF.out.symm, rfl⟩
  · have hne : ((L.length : Int) != (n : Int)) = true := by simp; omega
    rw [okRow_len hl]
    generalize L.length = q at *
    clear hl
    go_enter Tryz.func31, Tryz.ntmps31
    go_wp2
    go_ret
    exact ⟨rfl, rfl⟩

set_option maxHeartbeats 1000000 in
set_option maxRecDepth 100000 in
theorem rRow_any (w : World) (v : Value) (L : List Int) (n : Nat) (hv : RowE 1 encI w v L) :
    Calls Tryz.prog 39 #[v, .int .i64 n] w fun e w' => e = .returned (.bool (okRow L n)) ∧ w' = w := by
  obtain ⟨A, c, rfl, hlc, hcm, hr⟩ := hv
  have HR := Lib.hid hr
  have hcm2 : c ≤ 9223372036854775807 := by unfold maxLen at hcm; omega
  clear hr hcm
  by_cases hl : L.length = n
  · obtain ⟨b, hb⟩ : ∃ b, okRow L n = b := ⟨_, rfl⟩
    have HOK := Lib.hid hb
    have HL := Lib.hid hl
    rw [hb, hl]
    have hnm : n ≤ 9223372036854775807 := by omega
    clear hb hl hlc
    go_enter Tryz.func39, Tryz.ntmps39
    go_wp2
    go_loopg [5] n (fun k j wx => ∃ q : Nat, q ≤ n ∧ k = n - q ∧ j = .int .i64 q ∧ wx = w ∧ ∀ i, i < q → ok3 (L.getD i 0) = true)
    case atStart => exact ⟨0, Nat.zero_le _, rfl, rfl, rfl, fun i hi => absurd hi (by omega)⟩
    case round =>
      obtain ⟨q, hq, hgk, rfl, hwe, hall⟩ := hrel
      subst hwe
      subst hgk
      have HALL := Lib.hid hall
      clear hall
      by_cases hlt : q < n
      · obtain ⟨x, hx⟩ : ∃ x, L[q]? = some x := ⟨_, List.getElem?_eq_getElem (by rw [HL.out]; exact hlt)⟩
        obtain ⟨g, off, e, hb, hcell⟩ := HR.out q x hx
        subst e
        have h0 := hcell 0 _ rfl
        simp only [Nat.mul_one, Nat.add_zero] at h0
        have hql : (q : Int) < (n : Int) := by omega
        have hql0 : (0 : Int) ≤ (q : Int) := by omega
        have HXD : Hid (L.getD q 0 = x) := Lib.hid (by rw [List.getD_eq_getElem?_getD, hx]; rfl)
        clear hcell
        cases hk : ok3 x
        · have HF : Hid (b = false) := Lib.hid (by rw [← HOK.out]; exact okRow_bad hx hk)
          have hk2 : x < 0 ∨ ¬ x < 0 ∧ 2 < x := by unfold ok3 at hk; simp only [Bool.and_eq_false_iff, decide_eq_false_iff_not] at hk; omega
          clear hk
          clear hx
          rcases hk2 with k1 | ⟨k1, k2⟩
          · go_wp2
            go_ret
            exact ⟨ret_bool HF.out.symm, rfl⟩
          · go_wp2
            go_ret
            exact ⟨ret_bool HF.out.symm, rfl⟩
        · have HK := Lib.hid hk
          have hk2 : ¬ x < 0 ∧ ¬ 2 < x := by unfold ok3 at hk; simp only [Bool.and_eq_true, decide_eq_true_eq] at hk; omega
          clear hk
          obtain ⟨k1, k2⟩ := hk2
          clear hx
          go_wp2
          go_roundg (n - (q + 1))
          case measure => omega
          case rel =>
            refine ⟨q + 1, by omega, rfl, by go_num, rfl, fun i hi => ?_⟩
            by_cases e : i = q
            · subst e; rw [HXD.out]; exact HK.out
            · exact HALL.out i (by omega)
      · have hqe : q = n := by omega
        have HF : Hid (b = true) := Lib.hid (by rw [← HOK.out]; exact okRow_all HL.out (fun i hi => HALL.out i (by omega)))
        clear hq
        go_wp2
        go_ret
        exact ⟨ret_bool HF.out.symm, rfl⟩
  · have hne : ((L.length : Int) != (n : Int)) = true := by simp; omega
    rw [okRow_len hl]
    generalize L.length = q at *
    clear hl
    go_enter Tryz.func39, Tryz.ntmps39
    go_wp2
    go_ret
    exact ⟨rfl, rfl⟩

set_option maxHeartbeats 4000000 in
set_option maxRecDepth 100000 in
theorem tValues_any (w : World) (V : CV) (C : Circ) (sv rv : Value) (L I O : List Int) (h : C.In w V) (ok : C.Ok) (htc : TabC w) (hs : RowE 1 encI w sv L) (hr : RowE 1 encI w rv I) (hO : (checkR C).2 = 0 → IsOrd C O) :
    Calls Tryz.prog 15 #[V.val C.max, sv, rv] w fun e w' => Below w.heap.size w w' ∧ ∃ v, e = .returned (.tuple #[v, .int .i64 (fit3 C L I)]) ∧ (fit3 C L I ≠ 0 → v = .slice none 0 0) ∧
      (fit3 C L I = 0 → ∃ g, v = .slice (some ⟨g, 0, none⟩) (C.max.toNat + 1) (C.max.toNat + 1) ∧ w.heap.size ≤ g ∧ Nums w' g (val3 C O L I)) := by
  have hord := Order_any (w.alloc (.cells (V.cells C.max) 29)) V C (h.below ((Below.refl w.heap.size w).alloc (Nat.le_refl _) _)) ok
  have HVO := Lib.hid (fun (wx : World) (gv : Value) (ht : TabC wx) (hx : C.In wx V) (hg : RowE 1 encI wx gv O) (hy : RowE 1 encI wx sv L) (hz : RowE 1 encI wx rv I) (h0 : fit3 C L I = 0) =>
    tValuesOf_any wx V C gv sv rv O L I ht hx hg hy hz (right_of (fit3_ok h0).1) (fit3_ok h0).2.1.1 (fit3_ok h0).2.2.1 (fit3_ok h0).2.1.2 (fit3_ok h0).2.2.2 (hO (fit3_ok h0).1).inR (by rw [(hO (fit3_ok h0).1).l]; exact (right_of (fit3_ok h0).1).na))
  have HI1 := Lib.hid (fun (wx : World) (hy : RowE 1 encI wx sv L) => isRow_any wx sv L C.latches.length hy)
  have HI2 := Lib.hid (fun (wx : World) (hy : RowE 1 encI wx rv I) => isRow_any wx rv I C.inputs.length hy)
  have hall : ∀ wz, Below (w.alloc (.cells (V.cells C.max) 29)).heap.size (w.alloc (.cells (V.cells C.max) 29)) wz → Blk wz w.heap.size 29 (V.cells C.max) ∧ C.In wz V ∧ RowE 1 encI wz sv L ∧ RowE 1 encI wz rv I ∧ Below w.heap.size w wz := fun wz hb => by
    have h1 : Below w.heap.size w wz := ((Below.refl w.heap.size w).alloc (Nat.le_refl _) _).trans (hb.mono (by simp))
    exact ⟨(Blk.new w _ _).below hb (by simp), h.below h1, hs.below h1, hr.below h1, h1⟩
  have HX : Hid (Below (w.alloc (.cells (V.cells C.max) 29)).heap.size (w.alloc (.cells (V.cells C.max) 29)) (w.alloc (.cells (V.cells C.max) 29))) := Lib.hid (Below.refl _ _)
  have HTC := Lib.hid htc
  clear htc
  obtain ⟨AI, cI, eI, _⟩ := len_form h.i
  obtain ⟨AL, cL, eL, _⟩ := len_form h.l
  obtain ⟨Vi, Vl, Vo, Vb, Vc, Vj, Vf, Va, Vs, Vt⟩ := V
  simp only at eI eL
  subst eI eL
  obtain ⟨m, hmm⟩ : ∃ m, C.max = m := ⟨_, rfl⟩
  obtain ⟨r, hrr⟩ : ∃ r, (checkR C).2 = r := ⟨_, rfl⟩
  obtain ⟨nI, hnI⟩ : ∃ n, C.inputs.length = n := ⟨_, rfl⟩
  obtain ⟨nL, hnL⟩ : ∃ n, C.latches.length = n := ⟨_, rfl⟩
  rw [hmm] at hall HX HVO hord
  rw [hnI] at HI2
  rw [hnL] at HI1
  rw [hnI, hnL] at hall HX HVO hord
  rw [hrr] at hord
  rw [hmm, hnI, hnL]
  obtain ⟨sA, sn, sc, esv⟩ := slI_form hs
  obtain ⟨rA, rn, rc, erv⟩ := slI_form hr
  subst esv erv
  have HALL := Lib.hid hall
  have HORD := Lib.hid hord
  have HO := Lib.hid hO
  have HRR := Lib.hid hrr
  have HNN := Lib.hid (And.intro hnI hnL)
  clear hall hord hO hmm h ok hs hr hnI hnL
  obtain ⟨c0, c1, c2, c3, c4, c5, c6, c7, c8, c9, c10⟩ := rbox_of (HALL.out _ HX.out).1
  by_cases h0 : r = 0
  · subst h0
    by_cases h1 : okRow L C.latches.length = true
    · by_cases h2 : okRow I C.inputs.length = true
      · have HF := Lib.hid (fit3_yes HRR.out h1 h2)
        rw [HNN.out.2] at h1
        rw [HNN.out.1] at h2
        rw [h1] at HI1
        rw [h2] at HI2
        clear h1 h2 hrr
        rw [HF.out]
        go_enter Tryz.func15, Tryz.ntmps15
        go_wp2_with (first
          | (go_at_call 30; refine HORD.out.mono ?_; rintro e w1 ⟨hb, v1, out1, rfl, _, hyes⟩; obtain ⟨ho1, hg1, hl1⟩ := hyes rfl; obtain rfl := (HO.out HRR.out).same hg1 hl1; have HO1 := Lib.hid (own_rowe lenI (by rw [flat_ints]; exact ho1)); clear hyes ho1 hg1 hl1; have HXN := Lib.hid (bt HX.out (Nat.le_refl _) hb); clear HX hb c0 c1 c2 c3 c4 c5 c6 c7 c8 c9 c10; have HX := HXN; clear HXN; obtain ⟨c0, c1, c2, c3, c4, c5, c6, c7, c8, c9, c10⟩ := rbox_of (HALL.out _ HX.out).1)
          | (go_at_call_of 31 sc; refine (HI1.out _ (HALL.out _ HX.out).2.2.1).mono ?_; rintro e w5 ⟨rfl, rfl⟩)
          | (go_at_call_of 31 rc; refine (HI2.out _ (HALL.out _ HX.out).2.2.2.1).mono ?_; rintro e w5 ⟨rfl, rfl⟩)
          | (go_at_call 32; refine (HVO.out _ _ (HTC.out.below (HALL.out _ HX.out).2.2.2.2) (HALL.out _ HX.out).2.1 HO1.out (HALL.out _ HX.out).2.2.1 (HALL.out _ HX.out).2.2.2.1 HF.out).mono ?_; rintro e w4 ⟨g, rfl, hg4, hb, ht4⟩; have HG4 := Lib.hid (And.intro (Nat.le_trans (HALL.out _ HX.out).2.2.2.2.size hg4) ht4); clear hg4 ht4; have HXN := Lib.hid (bt HX.out (Nat.le_refl _) hb); clear HX hb c0 c1 c2 c3 c4 c5 c6 c7 c8 c9 c10; have HX := HXN; clear HXN; obtain ⟨c0, c1, c2, c3, c4, c5, c6, c7, c8, c9, c10⟩ := rbox_of (HALL.out _ HX.out).1))
        go_ret2
        exact ⟨(HALL.out _ HX.out).2.2.2.2, _, rfl, fun h => absurd rfl h, fun _ => ⟨g, rfl, HG4.out.1, HG4.out.2⟩⟩
      · rw [Bool.not_eq_true] at h2
        have HF := Lib.hid (fit3_not2 (L := L) HRR.out h2)
        rw [HNN.out.2] at h1
        rw [HNN.out.1] at h2
        rw [h1] at HI1
        rw [h2] at HI2
        clear h1 h2 hrr HVO
        rw [HF.out]
        go_enter Tryz.func15, Tryz.ntmps15
        go_wp2_with (first
          | (go_at_call 30; refine HORD.out.mono ?_; rintro e w1 ⟨hb, v1, out1, rfl, _, _⟩; have HXN := Lib.hid (bt HX.out (Nat.le_refl _) hb); clear HX hb c0 c1 c2 c3 c4 c5 c6 c7 c8 c9 c10; have HX := HXN; clear HXN; obtain ⟨c0, c1, c2, c3, c4, c5, c6, c7, c8, c9, c10⟩ := rbox_of (HALL.out _ HX.out).1)
          | (go_at_call_of 31 sc; refine (HI1.out _ (HALL.out _ HX.out).2.2.1).mono ?_; rintro e w5 ⟨rfl, rfl⟩)
          | (go_at_call_of 31 rc; refine (HI2.out _ (HALL.out _ HX.out).2.2.2.1).mono ?_; rintro e w5 ⟨rfl, rfl⟩))
        go_ret2
        exact ⟨(HALL.out _ HX.out).2.2.2.2, _, rfl, fun _ => rfl, fun h => absurd h (by decide)⟩
    · rw [Bool.not_eq_true] at h1
      have HF := Lib.hid (fit3_not1 (I := I) HRR.out h1)
      rw [HNN.out.2] at h1
      rw [h1] at HI1
      clear h1 hrr HVO
      rw [HF.out]
      go_enter Tryz.func15, Tryz.ntmps15
      go_wp2_with (first
        | (go_at_call 30; refine HORD.out.mono ?_; rintro e w1 ⟨hb, v1, out1, rfl, _, _⟩; have HXN := Lib.hid (bt HX.out (Nat.le_refl _) hb); clear HX hb c0 c1 c2 c3 c4 c5 c6 c7 c8 c9 c10; have HX := HXN; clear HXN; obtain ⟨c0, c1, c2, c3, c4, c5, c6, c7, c8, c9, c10⟩ := rbox_of (HALL.out _ HX.out).1)
        | (go_at_call_of 31 sc; refine (HI1.out _ (HALL.out _ HX.out).2.2.1).mono ?_; rintro e w5 ⟨rfl, rfl⟩))
      go_ret2
      exact ⟨(HALL.out _ HX.out).2.2.2.2, _, rfl, fun _ => rfl, fun h => absurd h (by decide)⟩
  · have hq : (r != 0) = true := by simpa using h0
    have HF : Hid (fit3 C L I = r) := Lib.hid (by rw [fit3_bad (by rw [HRR.out]; exact h0), HRR.out])
    have H0 := Lib.hid h0
    clear h0 hrr HVO
    rw [HF.out]
    go_enter Tryz.func15, Tryz.ntmps15
    go_wp2_with (go_at_call 30; refine HORD.out.mono ?_; rintro e w1 ⟨hb, v1, out1, rfl, _, _⟩; have HXN := Lib.hid (bt HX.out (Nat.le_refl _) hb); clear HX hb c0 c1 c2 c3 c4 c5 c6 c7 c8 c9 c10; have HX := HXN; clear HXN; obtain ⟨c0, c1, c2, c3, c4, c5, c6, c7, c8, c9, c10⟩ := rbox_of (HALL.out _ HX.out).1)
    go_ret2
    exact ⟨(HALL.out _ HX.out).2.2.2.2, _, rfl, fun _ => rfl, fun h => absurd h H0.out⟩

set_option maxHeartbeats 4000000 in
set_option maxRecDepth 100000 in
theorem rTValues_any (w : World) (V : CV) (C : Circ) (sv rv : Value) (L I O : List Int) (h : C.In w V) (ok : C.Ok) (htn : ∀ s ∈ C.comments, s.size ≤ maxLen) (hs : RowE 1 encI w sv L) (hr : RowE 1 encI w rv I) (hO : (checkR C).2 = 0 → IsOrd C O) :
    Calls Tryz.prog 37 #[V.val C.max, sv, rv] w fun e w' => Below w.heap.size w w' ∧ ∃ v, e = .returned (.tuple #[v, .int .i64 (fit3 C L I)]) ∧ (fit3 C L I ≠ 0 → v = .slice none 0 0) ∧
      (fit3 C L I = 0 → ∃ g, v = .slice (some ⟨g, 0, none⟩) (C.max.toNat + 1) (C.max.toNat + 1) ∧ w.heap.size ≤ g ∧ Nums w' g (val3 C O L I)) := by
  have hord := rOrder_any (w.alloc (.cells (V.cells C.max) 29)) V C (h.below ((Below.refl w.heap.size w).alloc (Nat.le_refl _) _)) ok htn
  have HVO := Lib.hid (fun (wx : World) (gv : Value) (hx : C.In wx V) (hg : RowE 1 encI wx gv O) (hy : RowE 1 encI wx sv L) (hz : RowE 1 encI wx rv I) (h0 : fit3 C L I = 0) =>
    rTern0_any wx V C gv sv rv O L I hx hg hy hz (right_of (fit3_ok h0).1) (fit3_ok h0).2.1.1 (fit3_ok h0).2.2.1 (fit3_ok h0).2.1.2 (fit3_ok h0).2.2.2 (hO (fit3_ok h0).1).inR (by rw [(hO (fit3_ok h0).1).l]; exact (right_of (fit3_ok h0).1).na))
  have HI1 := Lib.hid (fun (wx : World) (hy : RowE 1 encI wx sv L) => rRow_any wx sv L C.latches.length hy)
  have HI2 := Lib.hid (fun (wx : World) (hy : RowE 1 encI wx rv I) => rRow_any wx rv I C.inputs.length hy)
  have hall : ∀ wz, Below (w.alloc (.cells (V.cells C.max) 29)).heap.size (w.alloc (.cells (V.cells C.max) 29)) wz → Blk wz w.heap.size 29 (V.cells C.max) ∧ C.In wz V ∧ RowE 1 encI wz sv L ∧ RowE 1 encI wz rv I ∧ Below w.heap.size w wz := fun wz hb => by
    have h1 : Below w.heap.size w wz := ((Below.refl w.heap.size w).alloc (Nat.le_refl _) _).trans (hb.mono (by simp))
    exact ⟨(Blk.new w _ _).below hb (by simp), h.below h1, hs.below h1, hr.below h1, h1⟩
  have HX : Hid (Below (w.alloc (.cells (V.cells C.max) 29)).heap.size (w.alloc (.cells (V.cells C.max) 29)) (w.alloc (.cells (V.cells C.max) 29))) := Lib.hid (Below.refl _ _)
  obtain ⟨AI, cI, eI, _⟩ := len_form h.i
  obtain ⟨AL, cL, eL, _⟩ := len_form h.l
  obtain ⟨Vi, Vl, Vo, Vb, Vc, Vj, Vf, Va, Vs, Vt⟩ := V
  simp only at eI eL
  subst eI eL
  obtain ⟨m, hmm⟩ : ∃ m, C.max = m := ⟨_, rfl⟩
  obtain ⟨r, hrr⟩ : ∃ r, (checkR C).2 = r := ⟨_, rfl⟩
  obtain ⟨nI, hnI⟩ : ∃ n, C.inputs.length = n := ⟨_, rfl⟩
  obtain ⟨nL, hnL⟩ : ∃ n, C.latches.length = n := ⟨_, rfl⟩
  rw [hmm] at hall HX HVO hord
  rw [hnI] at HI2
  rw [hnL] at HI1
  rw [hnI, hnL] at hall HX HVO hord
  rw [hrr] at hord
  rw [hmm, hnI, hnL]
  obtain ⟨sA, sn, sc, esv⟩ := slI_form hs
  obtain ⟨rA, rn, rc, erv⟩ := slI_form hr
  subst esv erv
  have HALL := Lib.hid hall
  have HORD := Lib.hid hord
  have HO := Lib.hid hO
  have HRR := Lib.hid hrr
  have HNN := Lib.hid (And.intro hnI hnL)
  clear hall hord hO hmm h ok hs hr hnI hnL
  obtain ⟨c0, c1, c2, c3, c4, c5, c6, c7, c8, c9, c10⟩ := rbox_of (HALL.out _ HX.out).1
  by_cases h0 : r = 0
  · subst h0
    by_cases h1 : okRow L C.latches.length = true
    · by_cases h2 : okRow I C.inputs.length = true
      · have HF := Lib.hid (fit3_yes HRR.out h1 h2)
        rw [HNN.out.2] at h1
        rw [HNN.out.1] at h2
        rw [h1] at HI1
        rw [h2] at HI2
        clear h1 h2 hrr
        rw [HF.out]
        go_enter Tryz.func37, Tryz.ntmps37
        go_wp2_with (first
          | (go_at_call 69; refine HORD.out.mono ?_; rintro e w1 ⟨hb, v1, out1, rfl, _, hyes⟩; obtain ⟨ho1, hg1, hl1⟩ := hyes rfl; obtain rfl := (HO.out HRR.out).same hg1 hl1; have HO1 := Lib.hid (own_rowe lenI (by rw [flat_ints]; exact ho1)); clear hyes ho1 hg1 hl1; have HXN := Lib.hid (bt HX.out (Nat.le_refl _) hb); clear HX hb c0 c1 c2 c3 c4 c5 c6 c7 c8 c9 c10; have HX := HXN; clear HXN; obtain ⟨c0, c1, c2, c3, c4, c5, c6, c7, c8, c9, c10⟩ := rbox_of (HALL.out _ HX.out).1)
          | (go_at_call_of 39 sc; refine (HI1.out _ (HALL.out _ HX.out).2.2.1).mono ?_; rintro e w5 ⟨rfl, rfl⟩)
          | (go_at_call_of 39 rc; refine (HI2.out _ (HALL.out _ HX.out).2.2.2.1).mono ?_; rintro e w5 ⟨rfl, rfl⟩)
          | (go_at_call 70; refine (HVO.out _ _ (HALL.out _ HX.out).2.1 HO1.out (HALL.out _ HX.out).2.2.1 (HALL.out _ HX.out).2.2.2.1 HF.out).mono ?_; rintro e w4 ⟨g, rfl, hg4, hb, ht4⟩; have HG4 := Lib.hid (And.intro (Nat.le_trans (HALL.out _ HX.out).2.2.2.2.size hg4) ht4); clear hg4 ht4; have HXN := Lib.hid (bt HX.out (Nat.le_refl _) hb); clear HX hb c0 c1 c2 c3 c4 c5 c6 c7 c8 c9 c10; have HX := HXN; clear HXN; obtain ⟨c0, c1, c2, c3, c4, c5, c6, c7, c8, c9, c10⟩ := rbox_of (HALL.out _ HX.out).1))
        go_ret2
        exact ⟨(HALL.out _ HX.out).2.2.2.2, _, rfl, fun h => absurd rfl h, fun _ => ⟨g, rfl, HG4.out.1, HG4.out.2⟩⟩
      · rw [Bool.not_eq_true] at h2
        have HF := Lib.hid (fit3_not2 (L := L) HRR.out h2)
        rw [HNN.out.2] at h1
        rw [HNN.out.1] at h2
        rw [h1] at HI1
        rw [h2] at HI2
        clear h1 h2 hrr HVO
        rw [HF.out]
        go_enter Tryz.func37, Tryz.ntmps37
        go_wp2_with (first
          | (go_at_call 69; refine HORD.out.mono ?_; rintro e w1 ⟨hb, v1, out1, rfl, _, _⟩; have HXN := Lib.hid (bt HX.out (Nat.le_refl _) hb); clear HX hb c0 c1 c2 c3 c4 c5 c6 c7 c8 c9 c10; have HX := HXN; clear HXN; obtain ⟨c0, c1, c2, c3, c4, c5, c6, c7, c8, c9, c10⟩ := rbox_of (HALL.out _ HX.out).1)
          | (go_at_call_of 39 sc; refine (HI1.out _ (HALL.out _ HX.out).2.2.1).mono ?_; rintro e w5 ⟨rfl, rfl⟩)
          | (go_at_call_of 39 rc; refine (HI2.out _ (HALL.out _ HX.out).2.2.2.1).mono ?_; rintro e w5 ⟨rfl, rfl⟩))
        go_ret2
        exact ⟨(HALL.out _ HX.out).2.2.2.2, _, rfl, fun _ => rfl, fun h => absurd h (by decide)⟩
    · rw [Bool.not_eq_true] at h1
      have HF := Lib.hid (fit3_not1 (I := I) HRR.out h1)
      rw [HNN.out.2] at h1
      rw [h1] at HI1
      clear h1 hrr HVO
      rw [HF.out]
      go_enter Tryz.func37, Tryz.ntmps37
      go_wp2_with (first
        | (go_at_call 69; refine HORD.out.mono ?_; rintro e w1 ⟨hb, v1, out1, rfl, _, _⟩; have HXN := Lib.hid (bt HX.out (Nat.le_refl _) hb); clear HX hb c0 c1 c2 c3 c4 c5 c6 c7 c8 c9 c10; have HX := HXN; clear HXN; obtain ⟨c0, c1, c2, c3, c4, c5, c6, c7, c8, c9, c10⟩ := rbox_of (HALL.out _ HX.out).1)
        | (go_at_call_of 39 sc; refine (HI1.out _ (HALL.out _ HX.out).2.2.1).mono ?_; rintro e w5 ⟨rfl, rfl⟩))
      go_ret2
      exact ⟨(HALL.out _ HX.out).2.2.2.2, _, rfl, fun _ => rfl, fun h => absurd h (by decide)⟩
  · have hq : (r != 0) = true := by simpa using h0
    have HF : Hid (fit3 C L I = r) := Lib.hid (by rw [fit3_bad (by rw [HRR.out]; exact h0), HRR.out])
    have H0 := Lib.hid h0
    clear h0 hrr HVO
    rw [HF.out]
    go_enter Tryz.func37, Tryz.ntmps37
    go_wp2_with (go_at_call 69; refine HORD.out.mono ?_; rintro e w1 ⟨hb, v1, out1, rfl, _, _⟩; have HXN := Lib.hid (bt HX.out (Nat.le_refl _) hb); clear HX hb c0 c1 c2 c3 c4 c5 c6 c7 c8 c9 c10; have HX := HXN; clear HXN; obtain ⟨c0, c1, c2, c3, c4, c5, c6, c7, c8, c9, c10⟩ := rbox_of (HALL.out _ HX.out).1)
    go_ret2
    exact ⟨(HALL.out _ HX.out).2.2.2.2, _, rfl, fun _ => rfl, fun h => absurd h H0.out⟩

set_option maxHeartbeats 4000000 in
set_option maxRecDepth 100000 in
theorem rStep0_any (w : World) (V : CV) (C : Circ) (v : Value) (T : List Int) (h : C.In w V) (hrt : Right C) (hv : RowE 1 encI w v T) (h3 : Row3 T) (hT : T.length = C.max.toNat + 1) :
    Calls Tryz.prog 38 #[V.val C.max, v] w fun e w' => ∃ g, e = .returned (.slice (some ⟨g, 0, none⟩) C.latches.length C.latches.length) ∧ w.heap.size ≤ g ∧ Below w.heap.size w w' ∧ Nums w' g (next3 C T) := by
  have hnl := hrt.nl
  have hm0 := hrt.m0
  have hm1 := hrt.m1
  have hmk := make_ints C.latches.length (by omega)
  have HL : Hid (∀ z ∈ C.latches, 0 ≤ z.2.1 ∧ z.2.1 / 2 ≤ C.max) := Lib.hid (fun z hz => by have := (hrt.l z hz).2.1; unfold LitOk at this; exact this)
  have HIS : Hid (∀ (wx : World) (l : Int), Below w.heap.size w wx → 0 ≤ l → l / 2 ≤ C.max → Calls Tryz.prog 71 #[v, .int .i64 l] wx fun e w' => e = .returned (.int .i64 (lit3 T l)) ∧ w' = wx) := Lib.hid (fun wx l hx h0 h1 =>
    rLit0_any wx v T l (hv.below hx) (row3_at h3 _) h0 (by rw [hT]; omega) (by omega))
  obtain ⟨AL, cL, eL, _, _, rL⟩ := h.l
  obtain ⟨Vi, Vl, Vo, Vb, Vc, Vj, Vf, Va, Vs, Vt⟩ := V
  simp only at eL
  subst eL
  obtain ⟨vA, vn, vc, ev⟩ := slI_form hv
  subst ev
  have HRL := Lib.hid rL
  have HNX := Lib.hid (next3_len C T)
  have HNA := Lib.hid (fun (k : Nat) (z : Tri) (hz : C.latches[k]? = some z) => next3_at (T := T) hz)
  have HS0 : Hid (VT w ((w.alloc (.cells #[.int .i64 C.max, Vi, .slice AL C.latches.length cL, Vo, Vb, Vc, Vj, Vf, Va, Vs, Vt] 29)).alloc (.cells (madeCells #[Value.int .i64 0] C.latches.length) 3)) w.heap.size (w.heap.size + 1) #[.int .i64 C.max, Vi, .slice AL C.latches.length cL, Vo, Vb, Vc, Vj, Vf, Va, Vs, Vt] (List.replicate C.latches.length 0)) := by
    refine Lib.hid ⟨((Below.refl w.heap.size w).alloc (Nat.le_refl _) _).alloc (by simp) _, (Blk.new w _ _).alloc _, ?_⟩
    unfold Nums
    rw [← made_ints]
    have := Blk.new (w.alloc (.cells #[.int .i64 C.max, Vi, .slice AL C.latches.length cL, Vo, Vb, Vc, Vj, Vf, Va, Vs, Vt] 29)) 3 (madeCells #[Value.int .i64 0] C.latches.length)
    simpa using this
  obtain ⟨n, hn⟩ : ∃ n, C.latches.length = n := ⟨_, rfl⟩
  obtain ⟨m, hmm⟩ : ∃ m, C.max = m := ⟨_, rfl⟩
  rw [hn] at HNX hnl HS0 hmk
  rw [hmm] at HL HIS HS0 hm0 hm1
  rw [hn, hmm]
  have HN := Lib.hid hn
  have HMM := Lib.hid hmm
  clear rL h hrt hv hT hn hmm h3
  generalize next3 C T = N at *
  go_enter Tryz.func38, Tryz.ntmps38
  go_wp2
  go_loopg [6] n (fun k j wx => ∃ q : Nat, q ≤ n ∧ k = n - q ∧ j = .int .i64 q ∧ VT w wx w.heap.size (w.heap.size + 1) #[.int .i64 m, Vi, .slice AL n cL, Vo, Vb, Vc, Vj, Vf, Va, Vs, Vt] (N.take q ++ List.replicate (n - q) 0))
  case atStart => exact ⟨0, Nat.zero_le _, rfl, rfl, HS0.out⟩
  case round =>
    obtain ⟨q, hq, hgk, rfl, hst⟩ := hrel
    subst hgk
    have HST := Lib.hid hst
    have bx := hst.box
    have x2 := bx.cell 2
    simp only [List.getElem?_toArray, List.getElem?_cons_zero, List.getElem?_cons_succ] at x2
    clear hst bx
    by_cases hlt : q < n
    · obtain ⟨z, hz⟩ : ∃ z, C.latches[q]? = some z := ⟨_, List.getElem?_eq_getElem (by rw [HN.out]; exact hlt)⟩
      obtain ⟨b, off, e, hb, hcell⟩ := HRL.out q z hz
      subst e
      have HZ := Lib.hid (HL.out z (List.mem_of_getElem? hz))
      have HXZ := Lib.hid (HNA.out q z hz)
      obtain ⟨z0, z1, z2⟩ := z
      have h1 := (HST.out.below.cell (p := ⟨b, off + (q * 3 + 1), none⟩) hb).trans (hcell 1 _ rfl)
      simp only [← Nat.add_assoc] at h1
      have htl : q < (N.take q ++ List.replicate (n - q) 0).length := by rw [fill3_len HNX.out hq]; exact hlt
      have hold := Nums.cell HST.out.tab (getD_int htl)
      have hfr := Blk.frozen HST.out.tab q
      have hgb := Blk.lt HST.out.tab
      have hql : (q : Int) < (n : Int) := by omega
      have hql0 : (0 : Int) ≤ (q : Int) := by omega
      clear hcell hz htl
      go_wp2_with (go_at_call 71; refine (HIS.out _ z1 HST.out.below HZ.out.1 HZ.out.2).mono ?_; rintro e w5 ⟨rfl, rfl⟩)
      go_roundg (n - (q + 1))
      case measure => omega
      case rel =>
        refine ⟨q + 1, by omega, rfl, by go_num, ?_⟩
        rw [← fill3_set HNX.out HXZ.out]
        exact HST.out.set_ (by omega) (by omega) _ _
    · have hqe : n = q := by omega
      subst hqe
      have hend := HST.out
      rw [fill3_end HNX.out] at hend
      have HE := Lib.hid hend
      clear hend hlt hq
      go_wp2
      go_ret
      exact ⟨w.heap.size + 1, rfl, by omega, HE.out.below, HE.out.tab⟩

set_option maxHeartbeats 4000000 in
set_option maxRecDepth 100000 in
theorem rTStep_any (w : World) (V : CV) (C : Circ) (sv rv : Value) (L I O : List Int) (h : C.In w V) (ok : C.Ok) (htn : ∀ s ∈ C.comments, s.size ≤ maxLen) (hs : RowE 1 encI w sv L) (hr : RowE 1 encI w rv I) (hO : (checkR C).2 = 0 → IsOrd C O) :
    Calls Tryz.prog 20 #[V.val C.max, sv, rv] w fun e w' => Below w.heap.size w w' ∧ ∃ v, e = .returned (.tuple #[v, .int .i64 (fit3 C L I)]) ∧ (fit3 C L I ≠ 0 → v = .slice none 0 0) ∧
      (fit3 C L I = 0 → ∃ g, v = .slice (some ⟨g, 0, none⟩) C.latches.length C.latches.length ∧ w.heap.size ≤ g ∧ Nums w' g (next3 C (val3 C O L I))) := by
  have HVAL := Lib.hid (fun (wx : World) (hx : C.In wx V) (hy : RowE 1 encI wx sv L) (hz : RowE 1 encI wx rv I) => rTValues_any wx V C sv rv L I O hx ok htn hy hz hO)
  have HST := Lib.hid (fun (wx : World) (vv : Value) (hx : C.In wx V) (hv : RowE 1 encI wx vv (val3 C O L I)) (h0 : fit3 C L I = 0) => rStep0_any wx V C vv (val3 C O L I) hx (right_of (fit3_ok h0).1) hv (row3_val (fit3_ok h0).2.1.2 (fit3_ok h0).2.2.2) (val3_len C O L I))
  have hall : ∀ wz, Below (w.alloc (.cells (V.cells C.max) 29)).heap.size (w.alloc (.cells (V.cells C.max) 29)) wz → Blk wz w.heap.size 29 (V.cells C.max) ∧ C.In wz V ∧ RowE 1 encI wz sv L ∧ RowE 1 encI wz rv I ∧ Below w.heap.size w wz := fun wz hb => by
    have h1 : Below w.heap.size w wz := ((Below.refl w.heap.size w).alloc (Nat.le_refl _) _).trans (hb.mono (by simp))
    exact ⟨(Blk.new w _ _).below hb (by simp), h.below h1, hs.below h1, hr.below h1, h1⟩
  have HX : Hid (Below (w.alloc (.cells (V.cells C.max) 29)).heap.size (w.alloc (.cells (V.cells C.max) 29)) (w.alloc (.cells (V.cells C.max) 29))) := Lib.hid (Below.refl _ _)
  obtain ⟨AL, cL, eL, _, _, rL⟩ := h.l
  have HRL := Lib.hid rL
  obtain ⟨Vi, Vl, Vo, Vb, Vc, Vj, Vf, Va, Vs, Vt⟩ := V
  simp only at eL
  subst eL
  obtain ⟨m, hmm⟩ : ∃ m, C.max = m := ⟨_, rfl⟩
  obtain ⟨n, hn⟩ : ∃ n, C.latches.length = n := ⟨_, rfl⟩
  rw [hmm, hn] at hall HX HVAL HST
  rw [hmm, hn]
  obtain ⟨sA, sn, sc, esv⟩ := slI_form hs
  obtain ⟨rA, rn, rc, erv⟩ := slI_form hr
  subst esv erv
  have HALL := Lib.hid hall
  have HMM := Lib.hid hmm
  have HN := Lib.hid hn
  clear hall hmm hn h ok hs hr rL
  obtain ⟨c0, c1, c2, c3, c4, c5, c6, c7, c8, c9, c10⟩ := rbox_of (HALL.out _ HX.out).1
  by_cases h0 : fit3 C L I = 0
  · have HF := Lib.hid h0
    have hrt := right_of (fit3_ok h0).1
    rw [h0] at HVAL
    rw [h0]
    have HTL : Hid ((val3 C O L I).length = m.toNat + 1) := Lib.hid (by rw [val3_len, HMM.out])
    have hm1 : m ≤ 16384 := by have := hrt.m1; rw [HMM.out] at this; exact this
    clear h0 hrt
    go_enter Tryz.func20, Tryz.ntmps20
    go_wp2_with (first
      | (go_at_call 37; refine (HVAL.out _ (HALL.out _ HX.out).2.1 (HALL.out _ HX.out).2.2.1 (HALL.out _ HX.out).2.2.2.1).mono ?_; rintro e w1 ⟨hb, v1, rfl, _, hyes⟩; obtain ⟨g, rfl, hg1, ht1⟩ := hyes rfl; have HG1 := Lib.hid hg1; have HT1 := Lib.hid ht1; clear hyes hg1 ht1; have HXN := Lib.hid (bt HX.out (Nat.le_refl _) hb); clear HX hb c0 c1 c2 c3 c4 c5 c6 c7 c8 c9 c10; have HX := HXN; clear HXN; obtain ⟨c0, c1, c2, c3, c4, c5, c6, c7, c8, c9, c10⟩ := rbox_of (HALL.out _ HX.out).1)
      | (go_at_call 38; refine (HST.out _ _ (HALL.out _ HX.out).2.1 (by have h9 := nums_row HT1.out (by rw [HTL.out]; unfold maxLen; omega); rw [HTL.out] at h9; exact h9) HF.out).mono ?_; rintro e w4 ⟨g4, rfl, hg4, hb, ht4⟩; have HG4 := Lib.hid (And.intro (Nat.le_trans (HALL.out _ HX.out).2.2.2.2.size hg4) ht4); clear hg4 ht4; have HXN := Lib.hid (bt HX.out (Nat.le_refl _) hb); clear HX hb c0 c1 c2 c3 c4 c5 c6 c7 c8 c9 c10; have HX := HXN; clear HXN; obtain ⟨c0, c1, c2, c3, c4, c5, c6, c7, c8, c9, c10⟩ := rbox_of (HALL.out _ HX.out).1))
    go_ret2
    exact ⟨(HALL.out _ HX.out).2.2.2.2, _, rfl, fun h => absurd rfl h, fun _ => ⟨g4, rfl, HG4.out.1, HG4.out.2⟩⟩
  · obtain ⟨r, hr⟩ : ∃ r, fit3 C L I = r := ⟨_, rfl⟩
    rw [hr] at HVAL h0
    rw [hr]
    have hq : (r != 0) = true := by simpa using h0
    have H0 := Lib.hid h0
    clear h0 hr
    go_enter Tryz.func20, Tryz.ntmps20
    go_wp2_with (go_at_call 37; refine (HVAL.out _ (HALL.out _ HX.out).2.1 (HALL.out _ HX.out).2.2.1 (HALL.out _ HX.out).2.2.2.1).mono ?_; rintro e w1 ⟨hb, v1, rfl, hno, _⟩; obtain rfl := hno H0.out; clear hno; have HXN := Lib.hid (bt HX.out (Nat.le_refl _) hb); clear HX hb c0 c1 c2 c3 c4 c5 c6 c7 c8 c9 c10; have HX := HXN; clear HXN; obtain ⟨c0, c1, c2, c3, c4, c5, c6, c7, c8, c9, c10⟩ := rbox_of (HALL.out _ HX.out).1)
    go_ret2
    exact ⟨(HALL.out _ HX.out).2.2.2.2, _, rfl, fun _ => rfl, fun h => absurd h H0.out⟩
end Go.Proofs.YtbeaicmjohlboaaGreatDoor

/- Sim, as plain data: the values of a right circuit are those of its inputs, latches and gates. -/
import Derived.Test.YtdladffjenfikaaSimD
import Derived.Test.YtdladffjenfikaaSetP
namespace Go.Proofs.Ytdladffjenfikaa

theorem getD_setF {T : List Bool} {i j : Nat} {b : Bool} (h : i ≠ j) : (T.set i b).getD j false = T.getD j false := by simp [List.getD, h]
theorem getD_setE {T : List Bool} {i : Nat} {b : Bool} (h : i < T.length) : (T.set i b).getD i false = b := by simp [List.getD, h]
def outG (C : Circ) (g : Int) : Int := (C.ands.getD g.toNat (0, 0, 0)).1
theorem gatesT_far {C : Circ} {v : Nat} : ∀ (gs : List Int) (T : List Bool), (∀ g ∈ gs, (outG C g / 2).toNat ≠ v) → (gatesT C gs T).getD v false = T.getD v false
  | [], _, _ => rfl
  | g :: r, T, h => by
    show (gatesT C r (gateT C T g)).getD v false = _
    rw [gatesT_far r _ (fun x hx => h x (by simp [hx]))]
    exact getD_setF (h g (by simp))
theorem putF_far {v : Nat} : ∀ (ps : List (Int × Bool)) (T : List Bool), (∀ p ∈ ps, (p.1 / 2).toNat ≠ v) → (putF ps T).getD v false = T.getD v false
  | [], _, _ => rfl
  | p :: r, T, h => by
    show (putF r (T.set (p.1 / 2).toNat p.2)).getD v false = _
    rw [putF_far r _ (fun x hx => h x (by simp [hx]))]
    exact getD_setF (h p (by simp))
theorem putF_get : ∀ (ps : List (Int × Bool)) (T : List Bool), (ps.map (fun p => (p.1 / 2).toNat)).Nodup → (∀ p ∈ ps, (p.1 / 2).toNat < T.length) → ∀ p ∈ ps, (putF ps T).getD (p.1 / 2).toNat false = p.2
  | q :: r, T, hn, hl, p, hp => by
    show (putF r (T.set (q.1 / 2).toNat q.2)).getD (p.1 / 2).toNat false = p.2
    rw [List.map_cons, List.nodup_cons] at hn
    rcases List.mem_cons.1 hp with rfl | hp
    · rw [putF_far r _ (fun x hx e => hn.1 (List.mem_map.2 ⟨x, hx, e⟩))]
      exact getD_setE (hl p (by simp))
    · exact putF_get r _ hn.2 (fun x hx => by rw [List.length_set]; exact hl x (by simp [hx])) p hp
theorem half_inj {a b : Int} (ha : 2 ≤ a ∧ a % 2 = 0) (hb : 2 ≤ b ∧ b % 2 = 0) (h : (a / 2).toNat = (b / 2).toNat) : a = b := by omega
theorem nodup_half {ls : List Int} (h : ls.Nodup) (h2 : ∀ l ∈ ls, 2 ≤ l ∧ l % 2 = 0) : (ls.map (fun l => (l / 2).toNat)).Nodup := by
  induction ls with
  | nil => simp
  | cons a r ih =>
    rw [List.nodup_cons] at h
    rw [List.map_cons, List.nodup_cons]
    refine ⟨fun hm => ?_, ih h.2 (fun l hl => h2 l (by simp [hl]))⟩
    obtain ⟨b, hb, e⟩ := List.mem_map.1 hm
    have := half_inj (h2 b (by simp [hb])) (h2 a (by simp)) e
    subst this
    exact h.1 hb
/-- What the values of a circuit are. -/
structure ValOk (C : Circ) (st row T : List Bool) : Prop where
  i : ∀ (k : Nat) (l : Int) (b : Bool), C.inputs[k]? = some l → row[k]? = some b → T.getD (l / 2).toNat false = b
  l : ∀ (k : Nat) (z : Tri) (b : Bool), C.latches[k]? = some z → st[k]? = some b → T.getD (z.1 / 2).toNat false = b
  a : ∀ z ∈ C.ands, T.getD (z.1 / 2).toNat false = (litV T z.2.1 && litV T z.2.2)
  n : ∀ v : Nat, 2 * (v : Int) ∉ defsL C → T.getD v false = false
theorem not_later {C : Circ} {out : List Int} (hf : Fine C) (h : NewL C out) (hG : Greedy (usesC C) out) (hl : out.length = C.ands.length) {k : Nat} {g : Int} (hg : out[k]? = some g) {l : Int}
    (hll : l = (C.ands.getD g.toNat (0, 0, 0)).2.1 ∨ l = (C.ands.getD g.toNat (0, 0, 0)).2.2) {j : Nat} {g2 : Int} (hj : k ≤ j) (hg2 : out[j]? = some g2) : (outG C g2 / 2).toNat ≠ (l / 2).toNat := by
  intro e
  have hlt := ren_lt hf h hG hl hg hll
  have hline := line_gate h hg2
  have h2 := h.two _ (List.mem_of_getElem? hline)
  unfold outG at e
  have hr := hG.inR g (List.mem_of_getElem? hg)
  rw [usesC_len] at hr
  unfold InR at hr
  obtain ⟨z, hz⟩ : ∃ z, C.ands[g.toNat]? = some z := ⟨_, List.getElem?_eq_getElem (by omega)⟩
  have hzD : C.ands.getD g.toNat (0, 0, 0) = z := by simp [List.getD_eq_getElem?_getD, hz]
  have hu : UseL C l := by
    have := hf.u.a z (List.mem_of_getElem? hz)
    rw [hzD] at hll
    rcases hll with rfl | rfl
    · exact this.1
    · exact this.2
  have hl0 := hu.1
  rcases mv_cases h hu with ⟨hl2, _⟩ | ⟨q, hq, eq⟩
  · omega
  · rw [show 2 * (l / 2) = (C.ands.getD g2.toNat (0, 0, 0)).1 by omega] at hq
    have := nodup_get h.nd hq hline
    omega
section
variable {C : Circ} {O : List Int} {st row : List Bool}
theorem valOk (h0 : (checkR C).2 = 0) (hO : IsOrd C O) (h1 : st.length = C.latches.length) (h2 : row.length = C.inputs.length) : ValOk C st row (valF C O st row) := by
  have hf := fine_of h0
  have hp := greedy_perm hO.g (by rw [hO.l, usesC_len])
  rw [usesC_len] at hp
  have hN := newL_of hf hp
  have hm0 := hf.m0
  have hnd := hN.nd
  have htwo := hN.two
  have hev : ∀ l ∈ linesL C O, 2 ≤ l ∧ l % 2 = 0 := fun l hl => ⟨(htwo l hl).1, (htwo l hl).2.1⟩
  unfold linesL at hnd
  obtain ⟨hn1, hn2, hd1⟩ := List.nodup_append.1 hnd
  obtain ⟨hn3, hn4, hd2⟩ := List.nodup_append.1 hn1
  have mi : ∀ l ∈ C.inputs, l ∈ linesL C O := fun l hl => by simp [linesL, hl]
  have ml : ∀ z ∈ C.latches, z.1 ∈ linesL C O := fun z hz => by
    unfold linesL
    exact List.mem_append_left _ (List.mem_append_right _ (List.mem_map.2 ⟨z, hz, rfl⟩))
  have mo : ∀ g ∈ O, outG C g ∈ linesL C O := fun g hg => by
    unfold linesL
    exact List.mem_append_right _ (List.mem_map.2 ⟨g, hg, rfl⟩)
  have hbl := baseT_len C st row
  have hz1 : (C.inputs.zip row).map (·.1) = C.inputs := List.map_fst_zip (by omega)
  have hz2 : ((C.latches.map (·.1)).zip st).map (·.1) = C.latches.map (·.1) := List.map_fst_zip (by simp; omega)
  have fst1 : ∀ p ∈ C.inputs.zip row, p.1 ∈ C.inputs := fun p hp => by rw [← hz1]; exact List.mem_map.2 ⟨p, hp, rfl⟩
  have fst2 : ∀ p ∈ (C.latches.map (·.1)).zip st, p.1 ∈ C.latches.map (·.1) := fun p hp => by rw [← hz2]; exact List.mem_map.2 ⟨p, hp, rfl⟩
  have hidx : ∀ l ∈ linesL C O, (l / 2).toNat < C.max.toNat + 1 := fun l hl => by have := htwo l hl; omega
  have ml2 : ∀ l ∈ C.latches.map (·.1), l ∈ linesL C O := fun l hl => by
    obtain ⟨z, hz, rfl⟩ := List.mem_map.1 hl
    exact ml z hz
  refine ⟨fun k l b hk hb => ?_, fun k z b hk hb => ?_, fun z hz => ?_, fun v hv => ?_⟩
  · have hl := List.mem_of_getElem? hk
    unfold valF
    rw [gatesT_far O _ (fun g hg e => by
      have := half_inj (hev _ (mo g hg)) (hev _ (mi l hl)) e
      exact hd1 l (List.mem_append_left _ hl) (outG C g) (List.mem_map.2 ⟨g, hg, rfl⟩) this.symm)]
    unfold baseT
    rw [putF_far _ _ (fun p hp e => by
      have hp1 := fst2 p hp
      have := half_inj (hev _ (ml2 _ hp1)) (hev _ (mi l hl)) e
      exact hd2 l hl p.1 hp1 this.symm)]
    refine putF_get (C.inputs.zip row) _ ?_ (fun p hp => by rw [List.length_replicate]; exact hidx _ (mi _ (fst1 p hp))) (l, b) (List.mem_of_getElem? (by rw [List.getElem?_zip_eq_some]; exact ⟨hk, hb⟩))
    have := nodup_half hn3 (fun l hl => hev l (mi l hl))
    rw [← hz1, List.map_map] at this
    exact this
  · have hl : z.1 ∈ C.latches.map (·.1) := List.mem_map.2 ⟨z, List.mem_of_getElem? hk, rfl⟩
    unfold valF
    rw [gatesT_far O _ (fun g hg e => by
      have := half_inj (hev _ (mo g hg)) (hev _ (ml2 _ hl)) e
      exact hd1 z.1 (List.mem_append_right _ hl) (outG C g) (List.mem_map.2 ⟨g, hg, rfl⟩) this.symm)]
    unfold baseT
    have hmem : (z.1, b) ∈ (C.latches.map (·.1)).zip st := by
      have hkm : (C.latches.map (·.1))[k]? = some z.1 := by rw [List.getElem?_map, hk]; rfl
      have : ((C.latches.map (·.1)).zip st)[k]? = some (z.1, b) := by rw [List.getElem?_zip_eq_some]; exact ⟨hkm, hb⟩
      exact List.mem_of_getElem? this
    refine putF_get ((C.latches.map (·.1)).zip st) (putF (C.inputs.zip row) (List.replicate (C.max.toNat + 1) false)) ?_ (fun p hp => by rw [putF_len, List.length_replicate]; exact hidx _ (ml2 _ (fst2 p hp))) (z.1, b) hmem
    have := nodup_half hn4 (fun l hl => hev l (ml2 l hl))
    rw [← hz2, List.map_map] at this
    exact this
  · obtain ⟨i, hi⟩ := List.getElem?_of_mem hz
    have hil : i < C.ands.length := (List.getElem?_eq_some_iff.1 hi).1
    have hiO : (i : Int) ∈ O := hp.mem_iff.2 (mem_intRange.2 ⟨by omega, by omega⟩)
    obtain ⟨k, hk⟩ := List.getElem?_of_mem hiO
    have hkl : k < O.length := (List.getElem?_eq_some_iff.1 hk).1
    have hsplit : O = O.take k ++ (i : Int) :: O.drop (k + 1) := by
      have h4 := List.take_append_drop k O
      rw [drop_one hk] at h4
      exact h4.symm
    have hzD : C.ands.getD (i : Int).toNat (0, 0, 0) = z := by simp [List.getD_eq_getElem?_getD, hi]
    have hout : outG C (i : Int) = z.1 := by unfold outG; rw [hzD]
    have hT : valF C O st row = gatesT C (O.drop (k + 1)) (gateT C (gatesT C (O.take k) (baseT C st row)) i) := by
      unfold valF
      conv => lhs; rw [hsplit]
      unfold gatesT
      rw [List.foldl_append, List.foldl_cons]
    have hlater : ∀ (l : Int), (l = z.2.1 ∨ l = z.2.2) → litV (valF C O st row) l = litV (gatesT C (O.take k) (baseT C st row)) l := fun l hl => by
      unfold litV
      congr 1
      have h5 : valF C O st row = gatesT C ((i : Int) :: O.drop (k + 1)) (gatesT C (O.take k) (baseT C st row)) := hT
      rw [h5, gatesT_far _ _ (fun g hg => ?_)]
      have : ∃ j, k ≤ j ∧ O[j]? = some g := by
        rcases List.mem_cons.1 hg with rfl | hg
        · exact ⟨k, Nat.le_refl _, hk⟩
        · obtain ⟨j, hj⟩ := List.getElem?_of_mem hg
          rw [List.getElem?_drop] at hj
          exact ⟨k + 1 + j, by omega, hj⟩
      obtain ⟨j, hj, hgj⟩ := this
      exact not_later hf hN hO.g hO.l hk (by rw [hzD]; exact hl) hj hgj
    rw [hlater z.2.1 (.inl rfl), hlater z.2.2 (.inr rfl), hT, gatesT_far _ _ (fun g hg e => ?_)]
    · unfold gateT
      rw [hzD]
      exact getD_setE (by rw [gatesT_len, hbl]; rw [← hout]; exact hidx _ (mo _ hiO))
    · obtain ⟨j, hj⟩ := List.getElem?_of_mem hg
      rw [List.getElem?_drop] at hj
      rw [← hout] at e
      have h6 := half_inj (hev _ (mo g (List.mem_of_getElem? hj))) (hev _ (mo _ hiO)) e
      have h7 : (O.map (outG C))[k + 1 + j]? = some (outG C (i : Int)) := by rw [List.getElem?_map, hj, ← h6]; rfl
      have h8 : (O.map (outG C))[k]? = some (outG C (i : Int)) := by rw [List.getElem?_map, hk]; rfl
      have := nodup_get hn2 h7 h8
      omega
  · have hno : ∀ l ∈ linesL C O, (l / 2).toNat ≠ v := fun l hl e => by
      have := hev l hl
      refine hv ((hN.mem _).1 ?_)
      rw [show 2 * (v : Int) = l by omega]
      exact hl
    unfold valF
    rw [gatesT_far O _ (fun g hg => hno _ (mo g hg))]
    unfold baseT
    rw [putF_far _ _ (fun p hp => hno _ (ml2 _ (fst2 p hp))), putF_far _ _ (fun p hp => hno _ (mi _ (fst1 p hp)))]
    by_cases hvl : v < C.max.toNat + 1 <;> simp [List.getD, hvl]
end
end Go.Proofs.Ytdladffjenfikaa

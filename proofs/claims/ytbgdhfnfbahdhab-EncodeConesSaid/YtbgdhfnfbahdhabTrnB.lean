/- Tern: the contracts of the calls Values and Step: the program's and the document's. -/
import Derived.Test.YtbgdhfnfbahdhabSimE
import Derived.Test.YtbgdhfnfbahdhabSetP
namespace Go.Proofs.Ytbgdhfnfbahdhab

theorem getD_setF {T : List Bool} {i j : Nat} {b : Bool} (h : i ≠ j) : (T.set i b).getD j false = T.getD j false := by simp [List.getD, h]
theorem getD_setE {T : List Bool} {i : Nat} {b : Bool} (h : i < T.length) : (T.set i b).getD i false = b := by simp [List.getD, h]
def outG (C : Circ) (g : Int) : Int := (C.ands.getD g.toNat (0, 0, 0)).1
theorem gatesT_far {C : Circ} {v : Nat} : ∀ (gs : List Int) (T : List Bool), (∀ g ∈ gs, (outG C g / 2).toNat ≠ v) → (gatesT C gs T).getD v false = T.getD v false
  | [], _, _ => rfl
  | g :: r, T, h => by
    show (gatesT C r (gateT C T g)).getD v false = _
    rw [gatesT_far r _ (fun x hx => h x (by simp [hx]))]
    exact getD_setF (h g (by simp))
theorem putF_far {v : Nat} : ∀ (ps : List (Int × Bool)) (T : List Bool), (∀ p ∈ ps, (p.1 / 2).toNat ≠ v) → (putF ps T).getD v false = T.getD v false
  | [], _, _ => rfl
  | p :: r, T, h => by
    show (putF r (T.set (p.1 / 2).toNat p.2)).getD v false = _
    rw [putF_far r _ (fun x hx => h x (by simp [hx]))]
    exact getD_setF (h p (by simp))
theorem putF_get : ∀ (ps : List (Int × Bool)) (T : List Bool), (ps.map (fun p => (p.1 / 2).toNat)).Nodup → (∀ p ∈ ps, (p.1 / 2).toNat < T.length) → ∀ p ∈ ps, (putF ps T).getD (p.1 / 2).toNat false = p.2
  | q :: r, T, hn, hl, p, hp => by
    show (putF r (T.set (q.1 / 2).toNat q.2)).getD (p.1 / 2).toNat false = p.2
    rw [List.map_cons, List.nodup_cons] at hn
    rcases List.mem_cons.1 hp with rfl | hp
    · rw [putF_far r _ (fun x hx e => hn.1 (List.mem_map.2 ⟨x, hx, e⟩))]
      exact getD_setE (hl p (by simp))
    · exact putF_get r _ hn.2 (fun x hx => by rw [List.length_set]; exact hl x (by simp [hx])) p hp
theorem half_inj {a b : Int} (ha : 2 ≤ a ∧ a % 2 = 0) (hb : 2 ≤ b ∧ b % 2 = 0) (h : (a / 2).toNat = (b / 2).toNat) : a = b := by omega
theorem nodup_half {ls : List Int} (h : ls.Nodup) (h2 : ∀ l ∈ ls, 2 ≤ l ∧ l % 2 = 0) : (ls.map (fun l => (l / 2).toNat)).Nodup := by
  induction ls with
  | nil => simp
  | cons a r ih =>
    rw [List.nodup_cons] at h
    rw [List.map_cons, List.nodup_cons]
    refine ⟨fun hm => ?_, ih h.2 (fun l hl => h2 l (by simp [hl]))⟩
    obtain ⟨b, hb, e⟩ := List.mem_map.1 hm
    have := half_inj (h2 b (by simp [hb])) (h2 a (by simp)) e
    subst this
    exact h.1 hb
/-- What the values of a circuit are. -/
structure ValOk (C : Circ) (st row T : List Bool) : Prop where
  i : ∀ (k : Nat) (l : Int) (b : Bool), C.inputs[k]? = some l → row[k]? = some b → T.getD (l / 2).toNat false = b
  l : ∀ (k : Nat) (z : Tri) (b : Bool), C.latches[k]? = some z → st[k]? = some b → T.getD (z.1 / 2).toNat false = b
  a : ∀ z ∈ C.ands, T.getD (z.1 / 2).toNat false = (litV T z.2.1 && litV T z.2.2)
  n : ∀ v : Nat, 2 * (v : Int) ∉ defsL C → T.getD v false = false
theorem not_later {C : Circ} {out : List Int} (hf : Fine C) (h : NewL C out) (hG : Greedy (usesC C) out) (hl : out.length = C.ands.length) {k : Nat} {g : Int} (hg : out[k]? = some g) {l : Int}
    (hll : l = (C.ands.getD g.toNat (0, 0, 0)).2.1 ∨ l = (C.ands.getD g.toNat (0, 0, 0)).2.2) {j : Nat} {g2 : Int} (hj : k ≤ j) (hg2 : out[j]? = some g2) : (outG C g2 / 2).toNat ≠ (l / 2).toNat := by
  intro e
  have hlt := ren_lt hf h hG hl hg hll
  have hline := line_gate h hg2
  have h2 := h.two _ (List.mem_of_getElem? hline)
  unfold outG at e
  have hr := hG.inR g (List.mem_of_getElem? hg)
  rw [usesC_len] at hr
  unfold InR at hr
  obtain ⟨z, hz⟩ : ∃ z, C.ands[g.toNat]? = some z := ⟨_, List.getElem?_eq_getElem (by omega)⟩
  have hzD : C.ands.getD g.toNat (0, 0, 0) = z := by simp [List.getD_eq_getElem?_getD, hz]
  have hu : UseL C l := by
    have := hf.u.a z (List.mem_of_getElem? hz)
    rw [hzD] at hll
    rcases hll with rfl | rfl
    · exact this.1
    · exact this.2
  have hl0 := hu.1
  rcases mv_cases h hu with ⟨hl2, _⟩ | ⟨q, hq, eq⟩
  · omega
  · rw [show 2 * (l / 2) = (C.ands.getD g2.toNat (0, 0, 0)).1 by omega] at hq
    have := nodup_get h.nd hq hline
    omega
section
variable {C : Circ} {O : List Int} {st row : List Bool}
theorem valOk (h0 : (checkR C).2 = 0) (hO : IsOrd C O) (h1 : st.length = C.latches.length) (h2 : row.length = C.inputs.length) : ValOk C st row (valF C O st row) := by
  have hf := fine_of h0
  have hp := greedy_perm hO.g (by rw [hO.l, usesC_len])
  rw [usesC_len] at hp
  have hN := newL_of hf hp
  have hm0 := hf.m0
  have hnd := hN.nd
  have htwo := hN.two
  have hev : ∀ l ∈ linesL C O, 2 ≤ l ∧ l % 2 = 0 := fun l hl => ⟨(htwo l hl).1, (htwo l hl).2.1⟩
  unfold linesL at hnd
  obtain ⟨hn1, hn2, hd1⟩ := List.nodup_append.1 hnd
  obtain ⟨hn3, hn4, hd2⟩ := List.nodup_append.1 hn1
  have mi : ∀ l ∈ C.inputs, l ∈ linesL C O := fun l hl => by simp [linesL, hl]
  have ml : ∀ z ∈ C.latches, z.1 ∈ linesL C O := fun z hz => by
    unfold linesL
    exact List.mem_append_left _ (List.mem_append_right _ (List.mem_map.2 ⟨z, hz, rfl⟩))
  have mo : ∀ g ∈ O, outG C g ∈ linesL C O := fun g hg => by
    unfold linesL
    exact List.mem_append_right _ (List.mem_map.2 ⟨g, hg, rfl⟩)
  have hbl := baseT_len C st row
  have hz1 : (C.inputs.zip row).map (·.1) = C.inputs := List.map_fst_zip (by omega)
  have hz2 : ((C.latches.map (·.1)).zip st).map (·.1) = C.latches.map (·.1) := List.map_fst_zip (by simp; omega)
  have fst1 : ∀ p ∈ C.inputs.zip row, p.1 ∈ C.inputs := fun p hp => by rw [← hz1]; exact List.mem_map.2 ⟨p, hp, rfl⟩
  have fst2 : ∀ p ∈ (C.latches.map (·.1)).zip st, p.1 ∈ C.latches.map (·.1) := fun p hp => by rw [← hz2]; exact List.mem_map.2 ⟨p, hp, rfl⟩
  have hidx : ∀ l ∈ linesL C O, (l / 2).toNat < C.max.toNat + 1 := fun l hl => by have := htwo l hl; omega
  have ml2 : ∀ l ∈ C.latches.map (·.1), l ∈ linesL C O := fun l hl => by
    obtain ⟨z, hz, rfl⟩ := List.mem_map.1 hl
    exact ml z hz
  refine ⟨fun k l b hk hb => ?_, fun k z b hk hb => ?_, fun z hz => ?_, fun v hv => ?_⟩
  · have hl := List.mem_of_getElem? hk
    unfold valF
    rw [gatesT_far O _ (fun g hg e => by
      have := half_inj (hev _ (mo g hg)) (hev _ (mi l hl)) e
      exact hd1 l (List.mem_append_left _ hl) (outG C g) (List.mem_map.2 ⟨g, hg, rfl⟩) this.symm)]
    unfold baseT
    rw [putF_far _ _ (fun p hp e => by
      have hp1 := fst2 p hp
      have := half_inj (hev _ (ml2 _ hp1)) (hev _ (mi l hl)) e
      exact hd2 l hl p.1 hp1 this.symm)]
    refine putF_get (C.inputs.zip row) _ ?_ (fun p hp => by rw [List.length_replicate]; exact hidx _ (mi _ (fst1 p hp))) (l, b) (List.mem_of_getElem? (by rw [List.getElem?_zip_eq_some]; exact ⟨hk, hb⟩))
    have := nodup_half hn3 (fun l hl => hev l (mi l hl))
    rw [← hz1, List.map_map] at this
    exact this
  · have hl : z.1 ∈ C.latches.map (·.1) := List.mem_map.2 ⟨z, List.mem_of_getElem? hk, rfl⟩
    unfold valF
    rw [gatesT_far O _ (fun g hg e => by
      have := half_inj (hev _ (mo g hg)) (hev _ (ml2 _ hl)) e
      exact hd1 z.1 (List.mem_append_right _ hl) (outG C g) (List.mem_map.2 ⟨g, hg, rfl⟩) this.symm)]
    unfold baseT
    have hmem : (z.1, b) ∈ (C.latches.map (·.1)).zip st := by
      have hkm : (C.latches.map (·.1))[k]? = some z.1 := by rw [List.getElem?_map, hk]; rfl
      have : ((C.latches.map (·.1)).zip st)[k]? = some (z.1, b) := by rw [List.getElem?_zip_eq_some]; exact ⟨hkm, hb⟩
      exact List.mem_of_getElem? this
    refine putF_get ((C.latches.map (·.1)).zip st) (putF (C.inputs.zip row) (List.replicate (C.max.toNat + 1) false)) ?_ (fun p hp => by rw [putF_len, List.length_replicate]; exact hidx _ (ml2 _ (fst2 p hp))) (z.1, b) hmem
    have := nodup_half hn4 (fun l hl => hev l (ml2 l hl))
    rw [← hz2, List.map_map] at this
    exact this
  · obtain ⟨i, hi⟩ := List.getElem?_of_mem hz
    have hil : i < C.ands.length := (List.getElem?_eq_some_iff.1 hi).1
    have hiO : (i : Int) ∈ O := hp.mem_iff.2 (mem_intRange.2 ⟨by omega, by omega⟩)
    obtain ⟨k, hk⟩ := List.getElem?_of_mem hiO
    have hkl : k < O.length := (List.getElem?_eq_some_iff.1 hk).1
    have hsplit : O = O.take k ++ (i : Int) :: O.drop (k + 1) := by
      have h4 := List.take_append_drop k O
      rw [drop_one hk] at h4
      exact h4.symm
    have hzD : C.ands.getD (i : Int).toNat (0, 0, 0) = z := by simp [List.getD_eq_getElem?_getD, hi]
    have hout : outG C (i : Int) = z.1 := by unfold outG; rw [hzD]
    have hT : valF C O st row = gatesT C (O.drop (k + 1)) (gateT C (gatesT C (O.take k) (baseT C st row)) i) := by
      unfold valF
      conv => lhs; rw [hsplit]
      unfold gatesT
      rw [List.foldl_append, List.foldl_cons]
    have hlater : ∀ (l : Int), (l = z.2.1 ∨ l = z.2.2) → litV (valF C O st row) l = litV (gatesT C (O.take k) (baseT C st row)) l := fun l hl => by
      unfold litV
      congr 1
      have h5 : valF C O st row = gatesT C ((i : Int) :: O.drop (k + 1)) (gatesT C (O.take k) (baseT C st row)) := hT
      rw [h5, gatesT_far _ _ (fun g hg => ?_)]
      have : ∃ j, k ≤ j ∧ O[j]? = some g := by
        rcases List.mem_cons.1 hg with rfl | hg
        · exact ⟨k, Nat.le_refl _, hk⟩
        · obtain ⟨j, hj⟩ := List.getElem?_of_mem hg
          rw [List.getElem?_drop] at hj
          exact ⟨k + 1 + j, by omega, hj⟩
      obtain ⟨j, hj, hgj⟩ := this
      exact not_later hf hN hO.g hO.l hk (by rw [hzD]; exact hl) hj hgj
    rw [hlater z.2.1 (.inl rfl), hlater z.2.2 (.inr rfl), hT, gatesT_far _ _ (fun g hg e => ?_)]
    · unfold gateT
      rw [hzD]
      exact getD_setE (by rw [gatesT_len, hbl]; rw [← hout]; exact hidx _ (mo _ hiO))
    · obtain ⟨j, hj⟩ := List.getElem?_of_mem hg
      rw [List.getElem?_drop] at hj
      rw [← hout] at e
      have h6 := half_inj (hev _ (mo g (List.mem_of_getElem? hj))) (hev _ (mo _ hiO)) e
      have h7 : (O.map (outG C))[k + 1 + j]? = some (outG C (i : Int)) := by rw [List.getElem?_map, hj, ← h6]; rfl
      have h8 : (O.map (outG C))[k]? = some (outG C (i : Int)) := by rw [List.getElem?_map, hk]; rfl
      have := nodup_get hn2 h7 h8
      omega
  · have hno : ∀ l ∈ linesL C O, (l / 2).toNat ≠ v := fun l hl e => by
      have := hev l hl
      refine hv ((hN.mem _).1 ?_)
      rw [show 2 * (v : Int) = l by omega]
      exact hl
    unfold valF
    rw [gatesT_far O _ (fun g hg => hno _ (mo g hg))]
    unfold baseT
    rw [putF_far _ _ (fun p hp => hno _ (ml2 _ (fst2 p hp))), putF_far _ _ (fun p hp => hno _ (mi _ (fst1 p hp)))]
    by_cases hvl : v < C.max.toNat + 1 <;> simp [List.getD, hvl]
end
end Go.Proofs.Ytbgdhfnfbahdhab

namespace Go.Proofs.Ytbgdhfnfbahdhab

/-- Three values. -/
def not3 (x : Int) : Int := if x = 2 then 2 else 1 - x
def and3 (x y : Int) : Int := if x = 0 ∨ y = 0 then 0 else if x = 1 ∧ y = 1 then 1 else 2
def lit3 (t : List Int) (l : Int) : Int := if l % 2 = 1 then not3 (t.getD (l / 2).toNat 0) else t.getD (l / 2).toNat 0
theorem set3_far {T : List Int} {i j : Nat} {b : Int} (h : i ≠ j) : (T.set i b).getD j 0 = T.getD j 0 := by simp [List.getD, h]
theorem set3_at {T : List Int} {i : Nat} {b : Int} (h : i < T.length) : (T.set i b).getD i 0 = b := by simp [List.getD, h]
section
variable {C : Circ} {O L I : List Int}
end
/-- What a row with more 2s is. -/
def Le3 (x y : Int) : Prop := x = y ∨ y = 2
theorem Le3.not {x y : Int} (h : Le3 x y) : Le3 (not3 x) (not3 y) := by
  unfold Le3 not3 at *
  rcases h with rfl | rfl
  · exact .inl rfl
  · exact .inr (by simp)
theorem Le3.and {x y a b : Int} (h : Le3 x a) (k : Le3 y b) : Le3 (and3 x y) (and3 a b) := by
  unfold Le3 and3 at *
  rcases h with rfl | rfl <;> rcases k with rfl | rfl
  · exact .inl rfl
  · by_cases h1 : x = 0 <;> simp [h1]
  · by_cases h1 : y = 0 <;> simp [h1]
  · simp
theorem Le3.trans {x y z : Int} (h : Le3 x y) (k : Le3 y z) : Le3 x z := by
  unfold Le3 at *
  rcases k with rfl | rfl
  · exact h
  · exact .inr rfl
theorem Le3.lit {T U : List Int} {l : Int} (h : Le3 (T.getD (l / 2).toNat 0) (U.getD (l / 2).toNat 0)) : Le3 (lit3 T l) (lit3 U l) := by
  unfold lit3
  split
  · exact h.not
  · exact h
theorem list_ext3 {T T' : List Int} {n : Nat} (h1 : T.length = n) (h2 : T'.length = n) (h : ∀ v, v < n → T.getD v 0 = T'.getD v 0) : T = T' := by
  refine List.ext_getElem (by omega) fun i hi hi' => ?_
  have := h i (by omega)
  simpa [List.getD_eq_getElem?_getD, List.getElem?_eq_getElem hi, List.getElem?_eq_getElem hi'] using this
/-- A variable made 2, and what it was. -/
def put1 (s : List Int × List (Int × Int)) (v : Nat) : List Int × List (Int × Int) := if s.1.getD v 0 = 2 then s else (s.1.set v 2, s.2 ++ [((v : Int), s.1.getD v 0)])
def gv3 (T : List Int) (z : Tri) : Int := and3 (lit3 T z.2.1) (lit3 T z.2.2)
/-- What stands on the way of what becomes 2. -/
structure Lo (C : Circ) (T Ts : List Int) (tr0 : List (Int × Int)) (s : List Int × List (Int × Int)) (a : Nat) (Pd : Nat → Prop) : Prop where
  len : s.1.length = T.length
  ex : ∃ new, s.2 = tr0 ++ new ∧ (new.map (·.1)).Nodup ∧ (∀ p ∈ new, ∃ v : Nat, p.1 = (v : Int) ∧ v < T.length ∧ p.2 = T.getD v 0 ∧ p.2 ≠ 2 ∧ s.1.getD v 0 = 2) ∧ ∀ v : Nat, s.1.getD v 0 = T.getD v 0 ∨ ((v : Int), T.getD v 0) ∈ new
  up : ∀ v, Le3 (s.1.getD v 0) (Ts.getD v 0)
  le : ∀ z ∈ C.ands, Le3 (s.1.getD (z.1 / 2).toNat 0) (gv3 s.1 z)
  eq : ∀ (i : Nat) (z : Tri), C.ands[i]? = some z → s.1.getD (z.1 / 2).toNat 0 = gv3 s.1 z ∨ (∃ (pos : Nat) (p : Int × Int), a ≤ pos ∧ s.2[pos]? = some p ∧ (p.1 = z.2.1 / 2 ∨ p.1 = z.2.2 / 2)) ∨ Pd i
theorem set_le3 {T : List Int} {v w : Nat} (h : v < T.length) : Le3 (T.getD w 0) ((T.set v 2).getD w 0) := by
  by_cases e : v = w
  · subst e; rw [set3_at h]; exact .inr rfl
  · rw [set3_far e]; exact .inl rfl
theorem gv3_le {T U : List Int} {z : Tri} (h : ∀ v, Le3 (T.getD v 0) (U.getD v 0)) : Le3 (gv3 T z) (gv3 U z) := (h _).lit.and (h _).lit
theorem lit3_congr {T U : List Int} {l : Int} (h : T.getD (l / 2).toNat 0 = U.getD (l / 2).toNat 0) : lit3 T l = lit3 U l := by unfold lit3; rw [h]
section
variable {C : Circ} {O L I T Ts : List Int} {tr0 : List (Int × Int)} {s : List Int × List (Int × Int)} {a : Nat} {Pd : Nat → Prop}
/-- One variable more is made 2. -/
theorem Lo.put (h0 : (checkR C).2 = 0) (h : Lo C T Ts tr0 s a Pd) {v : Nat} (hv : v < T.length) (hts : Ts.getD v 0 = 2) (hg : ∀ z ∈ C.ands, (z.1 / 2).toNat = v → gv3 s.1 z = 2) (ha : a ≤ s.2.length) :
    Lo C T Ts tr0 (put1 s v) a Pd := by
  unfold put1
  by_cases h2 : s.1.getD v 0 = 2
  · rw [if_pos h2]; exact h
  rw [if_neg h2]
  obtain ⟨new, e1, e2, e3, e4⟩ := h.ex
  have hvl : v < s.1.length := by rw [h.len]; exact hv
  have hsv : s.1.getD v 0 = T.getD v 0 := by
    rcases e4 v with e | e
    · exact e
    · obtain ⟨u, q1, _, _, _, q5⟩ := e3 _ e
      simp only at q1
      have : v = u := by omega
      subst this
      exact absurd q5 h2
  have hnew : (v : Int) ∉ new.map (·.1) := fun hm => by
    obtain ⟨p, hp, hp1⟩ := List.mem_map.1 hm
    obtain ⟨u, q1, _, _, _, q5⟩ := e3 p hp
    have : u = v := by omega
    subst this
    exact h2 q5
  have hmono : ∀ w, Le3 (s.1.getD w 0) ((s.1.set v 2).getD w 0) := fun w => set_le3 hvl
  refine ⟨by simp [h.len], ⟨new ++ [((v : Int), s.1.getD v 0)], by simp [e1], ?_, fun p hp => ?_, fun w => ?_⟩, fun w => ?_, fun z hz => ?_, fun i z hz => ?_⟩
  · rw [List.map_append, List.nodup_append]
    refine ⟨e2, by simp, fun x hx y hy e => ?_⟩
    simp at hy
    subst hy e
    exact hnew hx
  · rcases List.mem_append.1 hp with hp | hp
    · obtain ⟨u, q1, q2, q3, q4, q5⟩ := e3 p hp
      refine ⟨u, q1, q2, q3, q4, ?_⟩
      by_cases e : v = u
      · subst e; exact set3_at hvl
      · simp only; rw [set3_far e]; exact q5
    · simp at hp
      subst hp
      exact ⟨v, rfl, hv, hsv, h2, set3_at hvl⟩
  · by_cases e : v = w
    · subst e
      exact .inr (by rw [hsv]; simp)
    · simp only
      rw [set3_far e]
      rcases e4 w with q | q
      · exact .inl q
      · exact .inr (List.mem_append_left _ q)
  · by_cases e : v = w
    · subst e; simp only; rw [set3_at hvl, hts]; exact .inl rfl
    · simp only; rw [set3_far e]; exact h.up w
  · by_cases e : (z.1 / 2).toNat = v
    · have := hg z hz e
      have h3 := gv3_le (z := z) hmono
      rw [this] at h3
      rcases h3 with h3 | h3
      · exact .inr h3.symm
      · exact .inr h3
    · simp only
      rw [set3_far (Ne.symm e)]
      exact (h.le z hz).trans (gv3_le hmono)
  · by_cases e : (z.1 / 2).toNat = v
    · refine .inl ?_
      have := hg z (List.mem_of_getElem? hz) e
      have h3 := gv3_le (z := z) hmono
      rw [this] at h3
      simp only
      rw [e, set3_at hvl]
      rcases h3 with h3 | h3
      · exact h3
      · exact h3.symm
    · have hend : (s.2 ++ [((v : Int), s.1.getD v 0)])[s.2.length]? = some ((v : Int), s.1.getD v 0) := by simp
      have hza := (right_of h0).a z (List.mem_of_getElem? hz)
      have hz1 : 0 ≤ z.2.1 := hza.2.1.1
      have hz2 : 0 ≤ z.2.2 := hza.2.2.1
      by_cases u1 : (z.2.1 / 2).toNat = v
      · exact .inr (.inl ⟨_, _, ha, hend, .inl (by simp only; omega)⟩)
      · by_cases u2 : (z.2.2 / 2).toNat = v
        · exact .inr (.inl ⟨_, _, ha, hend, .inr (by simp only; omega)⟩)
        · have hsame : gv3 (s.1.set v 2) z = gv3 s.1 z := by
            unfold gv3
            rw [lit3_congr (T := s.1.set v 2) (U := s.1) (set3_far (Ne.symm u1)), lit3_congr (T := s.1.set v 2) (U := s.1) (set3_far (Ne.symm u2))]
          rcases h.eq i z hz with q | ⟨pos, p, q1, q2, q3⟩ | q
          · refine .inl ?_
            simp only
            rw [set3_far (Ne.symm e), hsame]; exact q
          · refine .inr (.inl ⟨pos, p, q1, ?_, q3⟩)
            simp only
            rw [List.getElem?_append_left (List.getElem?_eq_some_iff.1 q2).1]; exact q2
          · exact .inr (.inr q)
/-- The gates that use a variable. -/
def IsUsers (C : Circ) (v : Nat) (us : List Int) : Prop := ∀ x : Int, x ∈ us ↔ ∃ (i : Nat) (z : Tri), x = (i : Int) ∧ C.ands[i]? = some z ∧ ((z.2.1 / 2).toNat = v ∨ (z.2.2 / 2).toNat = v)
theorem Lo.next (h : Lo C T Ts tr0 s a (fun _ => False)) {p : Int × Int} {v : Nat} (hp : s.2[a]? = some p) (hv : p.1 = (v : Int)) {us : List Int} (hu : IsUsers C v us) : Lo C T Ts tr0 s (a + 1) (fun k => (k : Int) ∈ us) :=
  ⟨h.len, h.ex, h.up, h.le, fun i z hz => by
    rcases h.eq i z hz with q | ⟨pos, r, q1, q2, q3⟩ | q
    · exact .inl q
    · rcases Nat.lt_or_ge a pos with hlt | hge
      · exact .inr (.inl ⟨pos, r, hlt, q2, q3⟩)
      · have : pos = a := by omega
        subst this
        rw [hp] at q2
        injection q2 with q2
        subst q2
        refine .inr (.inr ((hu _).2 ⟨i, z, rfl, hz, ?_⟩))
        rcases q3 with q | q
        · exact .inl (by omega)
        · exact .inr (by omega)
    · exact q.elim⟩
/-- What was changed is taken back. -/
def back1 (T : List Int) (new : List (Int × Int)) : List Int := new.foldl (fun t p => t.set p.1.toNat p.2) T
theorem back1_len : ∀ (new : List (Int × Int)) (T : List Int), (back1 T new).length = T.length
  | [], _ => rfl
  | p :: r, T => by
    show (back1 (T.set p.1.toNat p.2) r).length = _
    rw [back1_len r]; simp
theorem back1_get : ∀ (new : List (Int × Int)) (S T : List Int), S.length = T.length → (∀ p ∈ new, ∃ v : Nat, p.1 = (v : Int) ∧ v < T.length ∧ p.2 = T.getD v 0) → (∀ v : Nat, S.getD v 0 = T.getD v 0 ∨ ((v : Int), T.getD v 0) ∈ new) → ∀ v, (back1 S new).getD v 0 = T.getD v 0
  | [], S, T, _, _, h, v => by
    rcases h v with q | q
    · exact q
    · simp at q
  | p :: r, S, T, hl, hp, h, v => by
    show (back1 (S.set p.1.toNat p.2) r).getD v 0 = _
    obtain ⟨u, q1, q2, q3⟩ := hp p (by simp)
    refine back1_get r _ T (by simp [hl]) (fun x hx => hp x (by simp [hx])) (fun w => ?_) v
    have hpu : p.1.toNat = u := by omega
    rw [hpu]
    by_cases e : u = w
    · subst e
      exact .inl (by rw [set3_at (by rw [hl]; exact q2)]; exact q3)
    · rw [set3_far e]
      rcases h w with q | q
      · exact .inl q
      · rcases List.mem_cons.1 q with q | q
        · exfalso
          rw [← q] at q1
          simp only at q1
          omega
        · exact .inr q
theorem Lo.back (h : Lo C T Ts tr0 s a Pd) : back1 s.1 (s.2.drop tr0.length) = T := by
  obtain ⟨new, e1, e2, e3, e4⟩ := h.ex
  rw [e1, List.drop_left]
  refine list_ext3 (n := T.length) (by rw [back1_len, h.len]) rfl (fun v _ => back1_get new s.1 T h.len (fun p hp => ?_) e4 v)
  obtain ⟨v, q1, q2, q3, _⟩ := e3 p hp
  exact ⟨v, q1, q2, q3⟩
end
/-- From some values to others: what is 2 now, with what it was. -/
structure Ch (T U : List Int) (new : List (Int × Int)) : Prop where
  len : U.length = T.length
  nd : (new.map (·.1)).Nodup
  at_ : ∀ p ∈ new, ∃ v : Nat, p.1 = (v : Int) ∧ v < T.length ∧ p.2 = T.getD v 0 ∧ p.2 ≠ 2 ∧ U.getD v 0 = 2
  all : ∀ v : Nat, U.getD v 0 = T.getD v 0 ∨ ((v : Int), T.getD v 0) ∈ new
theorem Ch.refl (T : List Int) : Ch T T [] := ⟨rfl, by simp, by simp, fun _ => .inl rfl⟩
theorem Ch.trans {T U W : List Int} {a b : List (Int × Int)} (h : Ch T U a) (k : Ch U W b) : Ch T W (a ++ b) := by
  have keep : ∀ v : Nat, U.getD v 0 = 2 → W.getD v 0 = 2 := fun v e => by
    rcases k.all v with q | q
    · rw [q, e]
    · obtain ⟨u, q1, _, _, _, q5⟩ := k.at_ _ q
      have : v = u := by simp only at q1; omega
      subst this
      exact q5
  refine ⟨by rw [k.len, h.len], ?_, fun p hp => ?_, fun v => ?_⟩
  · rw [List.map_append, List.nodup_append]
    refine ⟨h.nd, k.nd, fun x hx y hy e => ?_⟩
    subst e
    obtain ⟨p, hp, rfl⟩ := List.mem_map.1 hx
    obtain ⟨q, hq, e⟩ := List.mem_map.1 hy
    obtain ⟨v, a1, _, _, _, a5⟩ := h.at_ p hp
    obtain ⟨u, b1, _, b3, b4, _⟩ := k.at_ q hq
    have : u = v := by omega
    subst this
    exact b4 (by rw [b3]; exact a5)
  · rcases List.mem_append.1 hp with hp | hp
    · obtain ⟨v, a1, a2, a3, a4, a5⟩ := h.at_ p hp
      exact ⟨v, a1, a2, a3, a4, keep v a5⟩
    · obtain ⟨u, b1, b2, b3, b4, b5⟩ := k.at_ p hp
      refine ⟨u, b1, by rw [← h.len]; exact b2, ?_, b4, b5⟩
      rcases h.all u with q | q
      · rw [b3, q]
      · obtain ⟨v, a1, _, _, _, a5⟩ := h.at_ _ q
        have : u = v := by simp only at a1; omega
        subst this
        exact absurd (by rw [b3]; exact a5) b4
  · rcases k.all v with q | q
    · rcases h.all v with q2 | q2
      · exact .inl (by rw [q, q2])
      · exact .inr (List.mem_append_left _ q2)
    · rcases h.all v with q2 | q2
      · rw [q2] at q
        exact .inr (List.mem_append_right _ q)
      · exact .inr (List.mem_append_left _ q2)
theorem Lo.ch {C : Circ} {T Ts : List Int} {tr0 : List (Int × Int)} {s : List Int × List (Int × Int)} {a : Nat} {Pd : Nat → Prop} (h : Lo C T Ts tr0 s a Pd) : Ch T s.1 (s.2.drop tr0.length) ∧ s.2 = tr0 ++ s.2.drop tr0.length := by
  obtain ⟨new, e1, e2, e3, e4⟩ := h.ex
  rw [e1, List.drop_left]
  exact ⟨⟨h.len, e2, e3, e4⟩, rfl⟩
/-- The trail, as it is bounded. -/
structure Trl (T : List Int) (tr : List (Int × Int)) : Prop where
  nd : (tr.map (·.1)).Nodup
  at_ : ∀ p ∈ tr, ∃ v : Nat, p.1 = (v : Int) ∧ v < T.length ∧ T.getD v 0 = 2
theorem Trl.nil (T : List Int) : Trl T [] := ⟨by simp, by simp⟩
theorem Trl.add {T U : List Int} {tr new : List (Int × Int)} (h : Trl T tr) (k : Ch T U new) : Trl U (tr ++ new) := by
  refine ⟨?_, fun p hp => ?_⟩
  · rw [List.map_append, List.nodup_append]
    refine ⟨h.nd, k.nd, fun x hx y hy e => ?_⟩
    subst e
    obtain ⟨p, hp, rfl⟩ := List.mem_map.1 hx
    obtain ⟨q, hq, e⟩ := List.mem_map.1 hy
    obtain ⟨v, a1, _, a5⟩ := h.at_ p hp
    obtain ⟨u, b1, _, b3, b4, _⟩ := k.at_ q hq
    have : u = v := by omega
    subst this
    exact b4 (by rw [b3]; exact a5)
  · rcases List.mem_append.1 hp with hp | hp
    · obtain ⟨v, a1, a2, a5⟩ := h.at_ p hp
      refine ⟨v, a1, by rw [k.len]; exact a2, ?_⟩
      rcases k.all v with q | q
      · rw [q, a5]
      · obtain ⟨u, b1, _, b3, b4, _⟩ := k.at_ _ q
        have : v = u := by simp only at b1; omega
        subst this
        exact absurd a5 (by simp only at b4; exact b4)
    · obtain ⟨u, b1, b2, b3, b4, b5⟩ := k.at_ p hp
      exact ⟨u, b1, by rw [k.len]; exact b2, b5⟩
theorem Trl.le {T : List Int} {tr : List (Int × Int)} (h : Trl T tr) : tr.length ≤ T.length := by
  have := nodup_sub h.nd (m := (List.range T.length).map (fun v : Nat => (v : Int))) (fun x hx => by
    obtain ⟨p, hp, rfl⟩ := List.mem_map.1 hx
    obtain ⟨v, a1, a2, _⟩ := h.at_ p hp
    exact List.mem_map.2 ⟨v, List.mem_range.2 a2, a1.symm⟩)
  simpa using this
section
variable {C : Circ} {O L I T U : List Int}
end
section
variable {C : Circ} {O L I T Ts : List Int}
end
/-- Truths as values. -/
def b2i (b : Bool) : Int := if b then 1 else 0
theorem map_getD (T : List Bool) (v : Nat) : (T.map b2i).getD v 0 = b2i (T.getD v false) := by
  rcases Nat.lt_or_ge v T.length with h | h
  · simp [List.getD_eq_getElem?_getD, h]
  · simp [List.getD_eq_getElem?_getD, List.getElem?_eq_none h, b2i]
/-- A row covers a state. -/
def Cov3 (L : List Int) (st : List Bool) : Prop := L.length = st.length ∧ ∀ k, k < L.length → Le3 (b2i (st.getD k false)) (L.getD k 0)
theorem Cov3.le {L : List Int} {st : List Bool} (h : Cov3 L st) (k : Nat) : Le3 ((st.map b2i).getD k 0) (L.getD k 0) := by
  rw [map_getD]
  rcases Nat.lt_or_ge k L.length with hk | hk
  · exact h.2 k hk
  · rw [List.getD_eq_getElem?_getD, List.getElem?_eq_none (by rw [← h.1]; exact hk), List.getD_eq_getElem?_getD, List.getElem?_eq_none hk]
    exact .inl rfl
end Go.Proofs.Ytbgdhfnfbahdhab

namespace Go.Proofs.Ytbgdhfnfbahdhab
open Go.RowKit

end Go.Proofs.Ytbgdhfnfbahdhab

namespace Go.Proofs.Ytbgdhfnfbahdhab
open Go.RowKit

/-- What stands while values are gone through: the circuit's box, the values' block. -/
structure VT (w0 wr : World) (bx g : Nat) (cs : Array Value) (T : List Int) : Prop where
  below : Below w0.heap.size w0 wr
  box : Blk wr bx 29 cs
  tab : Nums wr g T
section
variable {w0 wr : World} {bx g : Nat} {cs : Array Value} {T : List Int}
theorem VT.alloc (h : VT w0 wr bx g cs T) (o : Obj) : VT w0 (wr.alloc o) bx g cs T := ⟨h.below.alloc h.below.size o, h.box.alloc o, Blk.alloc h.tab o⟩
theorem VT.drew (h : VT w0 wr bx g cs T) : VT w0 wr.drew bx g cs T := ⟨h.below.drew, h.box.drew, h.tab⟩
theorem VT.on {w1 : World} (h : VT w0 wr bx g cs T) (hb : Below wr.heap.size wr w1) : VT w0 w1 bx g cs T := ⟨bt h.below (Nat.le_refl _) hb, h.box.below hb h.box.lt, Blk.below h.tab hb (Blk.lt h.tab)⟩
theorem VT.set_ (h : VT w0 wr bx g cs T) (hB : w0.heap.size ≤ g) (hx : bx ≠ g) (i : Nat) (b : Int) : VT w0 (wr.setCell ⟨g, i, none⟩ (.int .i64 b)) bx g cs (T.set i b) :=
  ⟨h.below.setCell hB _, Blk.far h.box (by simpa using hx) _, Nums.set_ h.tab i b⟩
end
end Go.Proofs.Ytbgdhfnfbahdhab

namespace Go.Proofs.Ytbgdhfnfbahdhab
open Go.RowKit

end Go.Proofs.Ytbgdhfnfbahdhab

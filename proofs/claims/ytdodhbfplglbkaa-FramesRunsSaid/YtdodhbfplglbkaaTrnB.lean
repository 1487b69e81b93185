/- Tern: the contracts of the calls Values and Step: the program's and the document's. -/
import Derived.Test.YtdodhbfplglbkaaSimE
import Derived.Test.YtdodhbfplglbkaaSetP
namespace Go.Proofs.Ytdodhbfplglbkaa

def outG (C : Circ) (g : Int) : Int := (C.ands.getD g.toNat (0, 0, 0)).1
theorem half_inj {a b : Int} (ha : 2 ≤ a ∧ a % 2 = 0) (hb : 2 ≤ b ∧ b % 2 = 0) (h : (a / 2).toNat = (b / 2).toNat) : a = b := by omega
theorem not_later {C : Circ} {out : List Int} (hf : Fine C) (h : NewL C out) (hG : Greedy (usesC C) out) (hl : out.length = C.ands.length) {k : Nat} {g : Int} (hg : out[k]? = some g) {l : Int}
    (hll : l = (C.ands.getD g.toNat (0, 0, 0)).2.1 ∨ l = (C.ands.getD g.toNat (0, 0, 0)).2.2) {j : Nat} {g2 : Int} (hj : k ≤ j) (hg2 : out[j]? = some g2) : (outG C g2 / 2).toNat ≠ (l / 2).toNat := by
  intro e
  have hlt := ren_lt hf h hG hl hg hll
  have hline := line_gate h hg2
  have h2 := h.two _ (List.mem_of_getElem? hline)
  unfold outG at e
  have hr := hG.inR g (List.mem_of_getElem? hg)
  rw [usesC_len] at hr
  unfold InR at hr
  obtain ⟨z, hz⟩ : ∃ z, C.ands[g.toNat]? = some z := ⟨_, List.getElem?_eq_getElem (by omega)⟩
  have hzD : C.ands.getD g.toNat (0, 0, 0) = z := by simp [List.getD_eq_getElem?_getD, hz]
  have hu : UseL C l := by
    have := hf.u.a z (List.mem_of_getElem? hz)
    rw [hzD] at hll
    rcases hll with rfl | rfl
    · exact this.1
    · exact this.2
  have hl0 := hu.1
  rcases mv_cases h hu with ⟨hl2, _⟩ | ⟨q, hq, eq⟩
  · omega
  · rw [show 2 * (l / 2) = (C.ands.getD g2.toNat (0, 0, 0)).1 by omega] at hq
    have := nodup_get h.nd hq hline
    omega
section
variable {C : Circ} {O : List Int} {st row : List Bool}
end
end Go.Proofs.Ytdodhbfplglbkaa

namespace Go.Proofs.Ytdodhbfplglbkaa

theorem def_two {C : Circ} (h0 : (checkR C).2 = 0) : ∀ l ∈ defsL C, 2 ≤ l ∧ l % 2 = 0 ∧ l / 2 ≤ C.max := fun l hl => (fine_of h0).d.two l hl
theorem def_nd {C : Circ} (h0 : (checkR C).2 = 0) : (defsL C).Nodup := (fine_of h0).d.nd
theorem ord_perm {C : Circ} {O : List Int} (hO : IsOrd C O) : O.Perm (intRange C.ands.length) := by
  have hp := greedy_perm hO.g (by rw [hO.l, usesC_len])
  rwa [usesC_len] at hp
theorem ord_mem {C : Circ} {O : List Int} (_h0 : (checkR C).2 = 0) (hO : IsOrd C O) : ∀ i : Nat, i < C.ands.length → (i : Int) ∈ O := fun i hi => (ord_perm hO).mem_iff.2 (mem_intRange.2 ⟨by omega, by omega⟩)
theorem not_later_ {C : Circ} {O : List Int} (h0 : (checkR C).2 = 0) (hO : IsOrd C O) {k : Nat} {g : Int} (hg : O[k]? = some g) {l : Int}
    (hll : l = (C.ands.getD g.toNat (0, 0, 0)).2.1 ∨ l = (C.ands.getD g.toNat (0, 0, 0)).2.2) {j : Nat} {g2 : Int} (hj : k ≤ j) (hg2 : O[j]? = some g2) : (outG C g2 / 2).toNat ≠ (l / 2).toNat :=
  not_later (fine_of h0) (newL_of (fine_of h0) (ord_perm hO)) hO.g hO.l hg hll hj hg2
/-- Three values. -/
def not3 (x : Int) : Int := if x = 2 then 2 else 1 - x
def and3 (x y : Int) : Int := if x = 0 ∨ y = 0 then 0 else if x = 1 ∧ y = 1 then 1 else 2
def lit3 (t : List Int) (l : Int) : Int := if l % 2 = 1 then not3 (t.getD (l / 2).toNat 0) else t.getD (l / 2).toNat 0
theorem set3_far {T : List Int} {i j : Nat} {b : Int} (h : i ≠ j) : (T.set i b).getD j 0 = T.getD j 0 := by simp [List.getD, h]
theorem set3_at {T : List Int} {i : Nat} {b : Int} (h : i < T.length) : (T.set i b).getD i 0 = b := by simp [List.getD, h]
/-- What three values of all variables are, but for those that nothing defines. -/
structure ValA (C : Circ) (L I T : List Int) : Prop where
  z : T.getD 0 0 = 0
  i : ∀ (k : Nat) (l b : Int), C.inputs[k]? = some l → I[k]? = some b → T.getD (l / 2).toNat 0 = b
  l : ∀ (k : Nat) (z : Tri) (b : Int), C.latches[k]? = some z → L[k]? = some b → T.getD (z.1 / 2).toNat 0 = b
  a : ∀ z ∈ C.ands, T.getD (z.1 / 2).toNat 0 = and3 (lit3 T z.2.1) (lit3 T z.2.2)
structure ValB (C : Circ) (L I T : List Int) : Prop extends ValA C L I T where
  len : T.length = C.max.toNat + 1
  n : ∀ v : Nat, 1 ≤ v → v ≤ C.max.toNat → 2 * (v : Int) ∉ defsL C → T.getD v 0 = 2
section
variable {C : Circ} {O L I : List Int}
end
/-- What a row with more 2s is. -/
def Le3 (x y : Int) : Prop := x = y ∨ y = 2
theorem Le3.not {x y : Int} (h : Le3 x y) : Le3 (not3 x) (not3 y) := by
  unfold Le3 not3 at *
  rcases h with rfl | rfl
  · exact .inl rfl
  · exact .inr (by simp)
theorem Le3.and {x y a b : Int} (h : Le3 x a) (k : Le3 y b) : Le3 (and3 x y) (and3 a b) := by
  unfold Le3 and3 at *
  rcases h with rfl | rfl <;> rcases k with rfl | rfl
  · exact .inl rfl
  · by_cases h1 : x = 0 <;> simp [h1]
  · by_cases h1 : y = 0 <;> simp [h1]
  · simp
theorem Le3.trans {x y z : Int} (h : Le3 x y) (k : Le3 y z) : Le3 x z := by
  unfold Le3 at *
  rcases k with rfl | rfl
  · exact h
  · exact .inr rfl
theorem Le3.anti {x y : Int} (h : Le3 x y) (k : Le3 y x) : x = y := by
  unfold Le3 at *
  rcases h with rfl | rfl
  · rfl
  · rcases k with rfl | rfl <;> rfl
theorem Le3.lit {T U : List Int} {l : Int} (h : Le3 (T.getD (l / 2).toNat 0) (U.getD (l / 2).toNat 0)) : Le3 (lit3 T l) (lit3 U l) := by
  unfold lit3
  split
  · exact h.not
  · exact h
/-- A rank: a gate's literals lie lower than its own. -/
theorem rank_ex {C : Circ} {O : List Int} (h0 : (checkR C).2 = 0) (hO : IsOrd C O) : ∃ rk : Nat → Nat, ∀ z ∈ C.ands, rk (z.2.1 / 2).toNat < rk (z.1 / 2).toNat ∧ rk (z.2.2 / 2).toNat < rk (z.1 / 2).toNat := by
  refine ⟨fun v => if ∃ g ∈ O, (outG C g / 2).toNat = v then (O.map (fun g => (outG C g / 2).toNat)).idxOf v + 1 else 0, fun z hz => ?_⟩
  obtain ⟨i, hi⟩ := List.getElem?_of_mem hz
  have hil : i < C.ands.length := (List.getElem?_eq_some_iff.1 hi).1
  have hiO : (i : Int) ∈ O := ord_mem h0 hO i hil
  have hzD : C.ands.getD (i : Int).toNat (0, 0, 0) = z := by simp [List.getD_eq_getElem?_getD, hi]
  have hout : outG C (i : Int) = z.1 := by unfold outG; rw [hzD]
  have hmem : (z.1 / 2).toNat ∈ O.map (fun g => (outG C g / 2).toNat) := List.mem_map.2 ⟨i, hiO, by rw [hout]⟩
  have hlt := List.idxOf_lt_length_iff.2 hmem
  have hget := List.getElem_idxOf hlt
  simp only [List.getElem_map] at hget
  have hlen : (O.map (fun g => (outG C g / 2).toNat)).length = O.length := by simp
  generalize hk : (O.map (fun g => (outG C g / 2).toNat)).idxOf (z.1 / 2).toNat = k at *
  have hkl : k < O.length := by omega
  have hkO : O[k]? = some O[k] := List.getElem?_eq_getElem hkl
  have hgk : O[k]'hkl = (i : Int) := by
    have hr := hO.inR (O[k]'hkl) (List.getElem_mem hkl)
    have hrl : (O[k]'hkl).toNat < C.ands.length := by omega
    obtain ⟨y, hy⟩ : ∃ y, C.ands[(O[k]'hkl).toNat]? = some y := ⟨_, List.getElem?_eq_getElem hrl⟩
    have ho : outG C (O[k]'hkl) = y.1 := by simp [outG, List.getD_eq_getElem?_getD, hy]
    have hd1 : y.1 ∈ defsL C := by unfold defsL; exact List.mem_append_right _ (List.mem_map.2 ⟨y, List.mem_of_getElem? hy, rfl⟩)
    have hd2 : z.1 ∈ defsL C := by unfold defsL; exact List.mem_append_right _ (List.mem_map.2 ⟨z, hz, rfl⟩)
    have e1 := def_two h0 _ hd1
    have e2 := def_two h0 _ hd2
    rw [ho] at hget
    have e3 : y.1 = z.1 := half_inj ⟨e1.1, e1.2.1⟩ ⟨e2.1, e2.2.1⟩ hget
    have hn := def_nd h0
    unfold defsL at hn
    have hn2 := (List.nodup_append.1 hn).2.1
    have h7 : (C.ands.map (·.1))[(O[k]'hkl).toNat]? = some z.1 := by rw [List.getElem?_map, hy, ← e3]; rfl
    have h8 : (C.ands.map (·.1))[i]? = some z.1 := by rw [List.getElem?_map, hi]; rfl
    have := nodup_get hn2 h7 h8
    omega
  rw [hgk] at hkO
  have hself : ∃ g ∈ O, (outG C g / 2).toNat = (z.1 / 2).toNat := ⟨i, hiO, by rw [hout]⟩
  have key : ∀ l : Int, (l = z.2.1 ∨ l = z.2.2) → (if ∃ g ∈ O, (outG C g / 2).toNat = (l / 2).toNat then (O.map (fun g => (outG C g / 2).toNat)).idxOf (l / 2).toNat + 1 else 0) < k + 1 := fun l hl => by
    by_cases h : ∃ g ∈ O, (outG C g / 2).toNat = (l / 2).toNat
    · rw [if_pos h]
      obtain ⟨g, hg, e⟩ := h
      have hm : (l / 2).toNat ∈ O.map (fun g => (outG C g / 2).toNat) := List.mem_map.2 ⟨g, hg, e⟩
      have hl2 := List.idxOf_lt_length_iff.2 hm
      have hg2 := List.getElem_idxOf hl2
      simp only [List.getElem_map] at hg2
      generalize (O.map (fun g => (outG C g / 2).toNat)).idxOf (l / 2).toNat = j at *
      rcases Nat.lt_or_ge j k with h9 | h9
      · omega
      · exact absurd hg2 (not_later_ h0 hO hkO (by rw [hzD]; exact hl) h9 (List.getElem?_eq_getElem (by omega)))
    · rw [if_neg h]; omega
  simp only
  rw [if_pos hself, hk]
  exact ⟨key _ (.inl rfl), key _ (.inr rfl)⟩
/-- With more 2s in the rows there are but more 2s. -/
theorem mono3 {C : Circ} {O L I T L' I' T' : List Int} (h0 : (checkR C).2 = 0) (hO : IsOrd C O) (h : ValA C L I T) (h' : ValB C L' I' T') (hL : L'.length = C.latches.length) (hI : I'.length = C.inputs.length) (l1 : L.length = L'.length) (i1 : I.length = I'.length)
    (hl : ∀ k, Le3 (L.getD k 0) (L'.getD k 0)) (hi : ∀ k, Le3 (I.getD k 0) (I'.getD k 0)) : ∀ v : Nat, v ≤ C.max.toNat → Le3 (T.getD v 0) (T'.getD v 0) := by
  obtain ⟨rk, hrk⟩ := rank_ex h0 hO
  have hr := right_of h0
  intro v
  generalize hn : rk v = n
  induction n using Nat.strongRecOn generalizing v with
  | _ n ih =>
    intro hv
    by_cases hz : v = 0
    · subst hz
      rw [h.z, h'.z]; exact .inl rfl
    by_cases hd : 2 * (v : Int) ∈ defsL C
    · unfold defsL at hd
      rcases List.mem_append.1 hd with hd | hd
      · rcases List.mem_append.1 hd with hd | hd
        · obtain ⟨k, hk⟩ := List.getElem?_of_mem hd
          have hkl := (List.getElem?_eq_some_iff.1 hk).1
          have e1 := h.i k _ (I.getD k 0) hk (by rw [List.getD_eq_getElem?_getD, List.getElem?_eq_getElem (by omega)]; rfl)
          have e2 := h'.i k _ (I'.getD k 0) hk (by rw [List.getD_eq_getElem?_getD, List.getElem?_eq_getElem (by omega)]; rfl)
          rw [show (2 * (v : Int) / 2).toNat = v by omega] at e1 e2
          rw [e1, e2]; exact hi k
        · obtain ⟨z, hz1, hz2⟩ := List.mem_map.1 hd
          obtain ⟨k, hk⟩ := List.getElem?_of_mem hz1
          have hkl := (List.getElem?_eq_some_iff.1 hk).1
          have e1 := h.l k _ (L.getD k 0) hk (by rw [List.getD_eq_getElem?_getD, List.getElem?_eq_getElem (by omega)]; rfl)
          have e2 := h'.l k _ (L'.getD k 0) hk (by rw [List.getD_eq_getElem?_getD, List.getElem?_eq_getElem (by omega)]; rfl)
          rw [show (z.1 / 2).toNat = v by omega] at e1 e2
          rw [e1, e2]; exact hl k
      · obtain ⟨z, hz1, hz2⟩ := List.mem_map.1 hd
        have e1 := h.a z hz1
        have e2 := h'.a z hz1
        have hv2 : (z.1 / 2).toNat = v := by omega
        rw [hv2] at e1 e2
        rw [e1, e2]
        obtain ⟨r1, r2⟩ := hrk z hz1
        rw [hv2] at r1 r2
        have hza := hr.a z hz1
        have b1 := hza.2.1
        have b2 := hza.2.2
        exact (ih _ (by omega) (z.2.1 / 2).toNat rfl (by obtain ⟨_, _⟩ := b1; omega)).lit.and (ih _ (by omega) (z.2.2 / 2).toNat rfl (by obtain ⟨_, _⟩ := b2; omega)).lit
    · exact .inr (h'.n v (by omega) hv hd)
theorem list_ext3 {T T' : List Int} {n : Nat} (h1 : T.length = n) (h2 : T'.length = n) (h : ∀ v, v < n → T.getD v 0 = T'.getD v 0) : T = T' := by
  refine List.ext_getElem (by omega) fun i hi hi' => ?_
  have := h i (by omega)
  simpa [List.getD_eq_getElem?_getD, List.getElem?_eq_getElem hi, List.getElem?_eq_getElem hi'] using this
/-- There is one such list alone. -/
theorem one3 {C : Circ} {O L I T T' : List Int} (h0 : (checkR C).2 = 0) (hO : IsOrd C O) (h : ValB C L I T) (h' : ValB C L I T') (hL : L.length = C.latches.length) (hI : I.length = C.inputs.length) : T = T' :=
  list_ext3 h.len h'.len fun v hv => Le3.anti (mono3 h0 hO h.toValA h' hL hI rfl rfl (fun _ => .inl rfl) (fun _ => .inl rfl) v (by omega)) (mono3 h0 hO h'.toValA h hL hI rfl rfl (fun _ => .inl rfl) (fun _ => .inl rfl) v (by omega))
/-- A variable made 2, and what it was. -/
def put1 (s : List Int × List (Int × Int)) (v : Nat) : List Int × List (Int × Int) := if s.1.getD v 0 = 2 then s else (s.1.set v 2, s.2 ++ [((v : Int), s.1.getD v 0)])
def gv3 (T : List Int) (z : Tri) : Int := and3 (lit3 T z.2.1) (lit3 T z.2.2)
/-- What stands on the way of what becomes 2. -/
structure Lo (C : Circ) (T Ts : List Int) (tr0 : List (Int × Int)) (s : List Int × List (Int × Int)) (a : Nat) (Pd : Nat → Prop) : Prop where
  len : s.1.length = T.length
  ex : ∃ new, s.2 = tr0 ++ new ∧ (new.map (·.1)).Nodup ∧ (∀ p ∈ new, ∃ v : Nat, p.1 = (v : Int) ∧ v < T.length ∧ p.2 = T.getD v 0 ∧ p.2 ≠ 2 ∧ s.1.getD v 0 = 2) ∧ ∀ v : Nat, s.1.getD v 0 = T.getD v 0 ∨ ((v : Int), T.getD v 0) ∈ new
  up : ∀ v, Le3 (s.1.getD v 0) (Ts.getD v 0)
  le : ∀ z ∈ C.ands, Le3 (s.1.getD (z.1 / 2).toNat 0) (gv3 s.1 z)
  eq : ∀ (i : Nat) (z : Tri), C.ands[i]? = some z → s.1.getD (z.1 / 2).toNat 0 = gv3 s.1 z ∨ (∃ (pos : Nat) (p : Int × Int), a ≤ pos ∧ s.2[pos]? = some p ∧ (p.1 = z.2.1 / 2 ∨ p.1 = z.2.2 / 2)) ∨ Pd i
theorem set_le3 {T : List Int} {v w : Nat} (h : v < T.length) : Le3 (T.getD w 0) ((T.set v 2).getD w 0) := by
  by_cases e : v = w
  · subst e; rw [set3_at h]; exact .inr rfl
  · rw [set3_far e]; exact .inl rfl
theorem gv3_le {T U : List Int} {z : Tri} (h : ∀ v, Le3 (T.getD v 0) (U.getD v 0)) : Le3 (gv3 T z) (gv3 U z) := (h _).lit.and (h _).lit
theorem lit3_congr {T U : List Int} {l : Int} (h : T.getD (l / 2).toNat 0 = U.getD (l / 2).toNat 0) : lit3 T l = lit3 U l := by unfold lit3; rw [h]
section
variable {C : Circ} {O L I T Ts : List Int} {tr0 : List (Int × Int)} {s : List Int × List (Int × Int)} {a : Nat} {Pd : Nat → Prop}
/-- One variable more is made 2. -/
theorem Lo.put (h0 : (checkR C).2 = 0) (h : Lo C T Ts tr0 s a Pd) {v : Nat} (hv : v < T.length) (hts : Ts.getD v 0 = 2) (hg : ∀ z ∈ C.ands, (z.1 / 2).toNat = v → gv3 s.1 z = 2) (ha : a ≤ s.2.length) :
    Lo C T Ts tr0 (put1 s v) a Pd := by
  unfold put1
  by_cases h2 : s.1.getD v 0 = 2
  · rw [if_pos h2]; exact h
  rw [if_neg h2]
  obtain ⟨new, e1, e2, e3, e4⟩ := h.ex
  have hvl : v < s.1.length := by rw [h.len]; exact hv
  have hsv : s.1.getD v 0 = T.getD v 0 := by
    rcases e4 v with e | e
    · exact e
    · obtain ⟨u, q1, _, _, _, q5⟩ := e3 _ e
      simp only at q1
      have : v = u := by omega
      subst this
      exact absurd q5 h2
  have hnew : (v : Int) ∉ new.map (·.1) := fun hm => by
    obtain ⟨p, hp, hp1⟩ := List.mem_map.1 hm
    obtain ⟨u, q1, _, _, _, q5⟩ := e3 p hp
    have : u = v := by omega
    subst this
    exact h2 q5
  have hmono : ∀ w, Le3 (s.1.getD w 0) ((s.1.set v 2).getD w 0) := fun w => set_le3 hvl
  refine ⟨by simp [h.len], ⟨new ++ [((v : Int), s.1.getD v 0)], by simp [e1], ?_, fun p hp => ?_, fun w => ?_⟩, fun w => ?_, fun z hz => ?_, fun i z hz => ?_⟩
  · rw [List.map_append, List.nodup_append]
    refine ⟨e2, by simp, fun x hx y hy e => ?_⟩
    simp at hy
    subst hy e
    exact hnew hx
  · rcases List.mem_append.1 hp with hp | hp
    · obtain ⟨u, q1, q2, q3, q4, q5⟩ := e3 p hp
      refine ⟨u, q1, q2, q3, q4, ?_⟩
      by_cases e : v = u
      · subst e; exact set3_at hvl
      · simp only; rw [set3_far e]; exact q5
    · simp at hp
      subst hp
      exact ⟨v, rfl, hv, hsv, h2, set3_at hvl⟩
  · by_cases e : v = w
    · subst e
      exact .inr (by rw [hsv]; simp)
    · simp only
      rw [set3_far e]
      rcases e4 w with q | q
      · exact .inl q
      · exact .inr (List.mem_append_left _ q)
  · by_cases e : v = w
    · subst e; simp only; rw [set3_at hvl, hts]; exact .inl rfl
    · simp only; rw [set3_far e]; exact h.up w
  · by_cases e : (z.1 / 2).toNat = v
    · have := hg z hz e
      have h3 := gv3_le (z := z) hmono
      rw [this] at h3
      rcases h3 with h3 | h3
      · exact .inr h3.symm
      · exact .inr h3
    · simp only
      rw [set3_far (Ne.symm e)]
      exact (h.le z hz).trans (gv3_le hmono)
  · by_cases e : (z.1 / 2).toNat = v
    · refine .inl ?_
      have := hg z (List.mem_of_getElem? hz) e
      have h3 := gv3_le (z := z) hmono
      rw [this] at h3
      simp only
      rw [e, set3_at hvl]
      rcases h3 with h3 | h3
      · exact h3
      · exact h3.symm
    · have hend : (s.2 ++ [((v : Int), s.1.getD v 0)])[s.2.length]? = some ((v : Int), s.1.getD v 0) := by simp
      have hza := (right_of h0).a z (List.mem_of_getElem? hz)
      have hz1 : 0 ≤ z.2.1 := hza.2.1.1
      have hz2 : 0 ≤ z.2.2 := hza.2.2.1
      by_cases u1 : (z.2.1 / 2).toNat = v
      · exact .inr (.inl ⟨_, _, ha, hend, .inl (by simp only; omega)⟩)
      · by_cases u2 : (z.2.2 / 2).toNat = v
        · exact .inr (.inl ⟨_, _, ha, hend, .inr (by simp only; omega)⟩)
        · have hsame : gv3 (s.1.set v 2) z = gv3 s.1 z := by
            unfold gv3
            rw [lit3_congr (T := s.1.set v 2) (U := s.1) (set3_far (Ne.symm u1)), lit3_congr (T := s.1.set v 2) (U := s.1) (set3_far (Ne.symm u2))]
          rcases h.eq i z hz with q | ⟨pos, p, q1, q2, q3⟩ | q
          · refine .inl ?_
            simp only
            rw [set3_far (Ne.symm e), hsame]; exact q
          · refine .inr (.inl ⟨pos, p, q1, ?_, q3⟩)
            simp only
            rw [List.getElem?_append_left (List.getElem?_eq_some_iff.1 q2).1]; exact q2
          · exact .inr (.inr q)
/-- The gates that use a variable. -/
def IsUsers (C : Circ) (v : Nat) (us : List Int) : Prop := ∀ x : Int, x ∈ us ↔ ∃ (i : Nat) (z : Tri), x = (i : Int) ∧ C.ands[i]? = some z ∧ ((z.2.1 / 2).toNat = v ∨ (z.2.2 / 2).toNat = v)
theorem Lo.next (h : Lo C T Ts tr0 s a (fun _ => False)) {p : Int × Int} {v : Nat} (hp : s.2[a]? = some p) (hv : p.1 = (v : Int)) {us : List Int} (hu : IsUsers C v us) : Lo C T Ts tr0 s (a + 1) (fun k => (k : Int) ∈ us) :=
  ⟨h.len, h.ex, h.up, h.le, fun i z hz => by
    rcases h.eq i z hz with q | ⟨pos, r, q1, q2, q3⟩ | q
    · exact .inl q
    · rcases Nat.lt_or_ge a pos with hlt | hge
      · exact .inr (.inl ⟨pos, r, hlt, q2, q3⟩)
      · have : pos = a := by omega
        subst this
        rw [hp] at q2
        injection q2 with q2
        subst q2
        refine .inr (.inr ((hu _).2 ⟨i, z, rfl, hz, ?_⟩))
        rcases q3 with q | q
        · exact .inl (by omega)
        · exact .inr (by omega)
    · exact q.elim⟩
/-- At its end all is as the values are. -/
theorem Lo.fin (h0 : (checkR C).2 = 0) (hO : IsOrd C O) (hT : ValB C L I T) (hL : L.length = C.latches.length) (hI : I.length = C.inputs.length) {j : Nat} (hTs : ValB C (L.set j 2) I Ts) (h : Lo C T Ts tr0 s s.2.length (fun _ => False)) {zj : Tri} (hj : C.latches[j]? = some zj) (hsj : s.1.getD (zj.1 / 2).toNat 0 = 2) : s.1 = Ts := by
  obtain ⟨new, e1, e2, e3, e4⟩ := h.ex
  have hch : ∀ v, s.1.getD v 0 = T.getD v 0 ∨ (s.1.getD v 0 = 2 ∧ Ts.getD v 0 = 2) := fun v => by
    rcases e4 v with q | q
    · exact .inl q
    · obtain ⟨u, q1, _, _, _, q5⟩ := e3 _ q
      have : v = u := by simp only at q1; omega
      subst this
      refine .inr ⟨q5, ?_⟩
      have := h.up v
      rw [q5] at this
      rcases this with q | q
      · exact q.symm
      · exact q
  have hsame : ∀ v, Ts.getD v 0 = T.getD v 0 → s.1.getD v 0 = T.getD v 0 := fun v e => by
    rcases hch v with q | ⟨q, q2⟩
    · exact q
    · rw [q, ← e, q2]
  refine one3 h0 hO (L := L.set j 2) (I := I) ⟨⟨?_, fun k l b hk hb => ?_, fun k z b hk hb => ?_, fun z hz => ?_⟩, by rw [h.len, hT.len], fun v v1 v2 vd => ?_⟩ hTs (by simp [hL]) hI
  · rw [hsame 0 (by rw [hTs.z, hT.z]), hT.z]
  · rw [hsame _ (by rw [hTs.i k l b hk hb, hT.i k l b hk hb]), hT.i k l b hk hb]
  · by_cases e : j = k
    · subst e
      rw [hj] at hk
      injection hk with hk
      subst hk
      have : j < L.length := by rw [hL]; exact (List.getElem?_eq_some_iff.1 hj).1
      rw [List.getElem?_set_self this] at hb
      injection hb with hb
      rw [hsj, hb]
    · have hb2 : L[k]? = some b := by rwa [List.getElem?_set_ne e] at hb
      rw [hsame _ (by rw [hTs.l k z b hk hb, hT.l k z b hk hb2]), hT.l k z b hk hb2]
  · obtain ⟨i, hi⟩ := List.getElem?_of_mem hz
    rcases h.eq i z hi with q | ⟨pos, p, q1, q2, _⟩ | q
    · exact q
    · have := (List.getElem?_eq_some_iff.1 q2).1
      omega
    · exact q.elim
  · rw [hsame _ (by rw [hTs.n v v1 v2 vd, hT.n v v1 v2 vd]), hT.n v v1 v2 vd]
theorem latch_lt (h0 : (checkR C).2 = 0) {z : Tri} (hz : z ∈ C.latches) : (z.1 / 2).toNat < C.max.toNat + 1 := by
  have := ((right_of h0).l z hz).1
  omega
theorem latch_out (h0 : (checkR C).2 = 0) {z y : Tri} (hz : z ∈ C.latches) (hy : y ∈ C.ands) : (y.1 / 2).toNat ≠ (z.1 / 2).toNat := fun e => by
  have hd1 : y.1 ∈ defsL C := by unfold defsL; exact List.mem_append_right _ (List.mem_map.2 ⟨y, hy, rfl⟩)
  have hd2 : z.1 ∈ defsL C := by unfold defsL; exact List.mem_append_left _ (List.mem_append_right _ (List.mem_map.2 ⟨z, hz, rfl⟩))
  have e1 := def_two h0 _ hd1
  have e2 := def_two h0 _ hd2
  have e3 : y.1 = z.1 := half_inj ⟨e1.1, e1.2.1⟩ ⟨e2.1, e2.2.1⟩ e
  have hn := def_nd h0
  unfold defsL at hn
  exact (List.nodup_append.1 hn).2.2 z.1 (List.mem_append_right _ (List.mem_map.2 ⟨z, hz, rfl⟩)) y.1 (List.mem_map.2 ⟨y, hy, rfl⟩) e3.symm
/-- At its beginning: one latch is made 2. -/
theorem Lo.start (h0 : (checkR C).2 = 0) (hO : IsOrd C O) (hT : ValB C L I T) (hL : L.length = C.latches.length) (hI : I.length = C.inputs.length) {j : Nat} (hTs : ValB C (L.set j 2) I Ts) {zj : Tri} (hj : C.latches[j]? = some zj) : Lo C T Ts tr0 (put1 (T, tr0) (zj.1 / 2).toNat) tr0.length (fun _ => False) := by
  have hjl : j < L.length := by rw [hL]; exact (List.getElem?_eq_some_iff.1 hj).1
  have hup : ∀ v, Le3 (T.getD v 0) (Ts.getD v 0) := fun v => by
    rcases Nat.lt_or_ge v (C.max.toNat + 1) with hv | hv
    · refine mono3 h0 hO hT.toValA hTs (by simp [hL]) hI (by simp) rfl (fun k => ?_) (fun _ => .inl rfl) v (by omega)
      exact set_le3 hjl
    · rw [List.getD_eq_getElem?_getD, List.getElem?_eq_none (by rw [hT.len]; exact hv), List.getD_eq_getElem?_getD, List.getElem?_eq_none (by rw [hTs.len]; exact hv)]
      exact .inl rfl
  have hself : Lo C T Ts tr0 (T, tr0) tr0.length (fun _ => False) := by
    refine ⟨rfl, ⟨[], by simp, by simp, by simp, fun v => .inl rfl⟩, hup, fun z hz => .inl (hT.a z hz), fun i z hz => .inl (hT.a z (List.mem_of_getElem? hz))⟩
  refine hself.put h0 (by rw [hT.len]; exact latch_lt h0 (List.mem_of_getElem? hj)) (hTs.l j zj 2 hj (by rw [List.getElem?_set_self hjl])) (fun z hz e => absurd e (latch_out h0 (List.mem_of_getElem? hj) hz)) (Nat.le_refl _)
/-- What was changed is taken back. -/
def back1 (T : List Int) (new : List (Int × Int)) : List Int := new.foldl (fun t p => t.set p.1.toNat p.2) T
theorem back1_len : ∀ (new : List (Int × Int)) (T : List Int), (back1 T new).length = T.length
  | [], _ => rfl
  | p :: r, T => by
    show (back1 (T.set p.1.toNat p.2) r).length = _
    rw [back1_len r]; simp
theorem back1_get : ∀ (new : List (Int × Int)) (S T : List Int), S.length = T.length → (∀ p ∈ new, ∃ v : Nat, p.1 = (v : Int) ∧ v < T.length ∧ p.2 = T.getD v 0) → (∀ v : Nat, S.getD v 0 = T.getD v 0 ∨ ((v : Int), T.getD v 0) ∈ new) → ∀ v, (back1 S new).getD v 0 = T.getD v 0
  | [], S, T, _, _, h, v => by
    rcases h v with q | q
    · exact q
    · simp at q
  | p :: r, S, T, hl, hp, h, v => by
    show (back1 (S.set p.1.toNat p.2) r).getD v 0 = _
    obtain ⟨u, q1, q2, q3⟩ := hp p (by simp)
    refine back1_get r _ T (by simp [hl]) (fun x hx => hp x (by simp [hx])) (fun w => ?_) v
    have hpu : p.1.toNat = u := by omega
    rw [hpu]
    by_cases e : u = w
    · subst e
      exact .inl (by rw [set3_at (by rw [hl]; exact q2)]; exact q3)
    · rw [set3_far e]
      rcases h w with q | q
      · exact .inl q
      · rcases List.mem_cons.1 q with q | q
        · exfalso
          rw [← q] at q1
          simp only at q1
          omega
        · exact .inr q
theorem Lo.back (h : Lo C T Ts tr0 s a Pd) : back1 s.1 (s.2.drop tr0.length) = T := by
  obtain ⟨new, e1, e2, e3, e4⟩ := h.ex
  rw [e1, List.drop_left]
  refine list_ext3 (n := T.length) (by rw [back1_len, h.len]) rfl (fun v _ => back1_get new s.1 T h.len (fun p hp => ?_) e4 v)
  obtain ⟨v, q1, q2, q3, _⟩ := e3 p hp
  exact ⟨v, q1, q2, q3⟩
end
/-- From some values to others: what is 2 now, with what it was. -/
structure Ch (T U : List Int) (new : List (Int × Int)) : Prop where
  len : U.length = T.length
  nd : (new.map (·.1)).Nodup
  at_ : ∀ p ∈ new, ∃ v : Nat, p.1 = (v : Int) ∧ v < T.length ∧ p.2 = T.getD v 0 ∧ p.2 ≠ 2 ∧ U.getD v 0 = 2
  all : ∀ v : Nat, U.getD v 0 = T.getD v 0 ∨ ((v : Int), T.getD v 0) ∈ new
theorem Ch.refl (T : List Int) : Ch T T [] := ⟨rfl, by simp, by simp, fun _ => .inl rfl⟩
theorem Ch.trans {T U W : List Int} {a b : List (Int × Int)} (h : Ch T U a) (k : Ch U W b) : Ch T W (a ++ b) := by
  have keep : ∀ v : Nat, U.getD v 0 = 2 → W.getD v 0 = 2 := fun v e => by
    rcases k.all v with q | q
    · rw [q, e]
    · obtain ⟨u, q1, _, _, _, q5⟩ := k.at_ _ q
      have : v = u := by simp only at q1; omega
      subst this
      exact q5
  refine ⟨by rw [k.len, h.len], ?_, fun p hp => ?_, fun v => ?_⟩
  · rw [List.map_append, List.nodup_append]
    refine ⟨h.nd, k.nd, fun x hx y hy e => ?_⟩
    subst e
    obtain ⟨p, hp, rfl⟩ := List.mem_map.1 hx
    obtain ⟨q, hq, e⟩ := List.mem_map.1 hy
    obtain ⟨v, a1, _, _, _, a5⟩ := h.at_ p hp
    obtain ⟨u, b1, _, b3, b4, _⟩ := k.at_ q hq
    have : u = v := by omega
    subst this
    exact b4 (by rw [b3]; exact a5)
  · rcases List.mem_append.1 hp with hp | hp
    · obtain ⟨v, a1, a2, a3, a4, a5⟩ := h.at_ p hp
      exact ⟨v, a1, a2, a3, a4, keep v a5⟩
    · obtain ⟨u, b1, b2, b3, b4, b5⟩ := k.at_ p hp
      refine ⟨u, b1, by rw [← h.len]; exact b2, ?_, b4, b5⟩
      rcases h.all u with q | q
      · rw [b3, q]
      · obtain ⟨v, a1, _, _, _, a5⟩ := h.at_ _ q
        have : u = v := by simp only at a1; omega
        subst this
        exact absurd (by rw [b3]; exact a5) b4
  · rcases k.all v with q | q
    · rcases h.all v with q2 | q2
      · exact .inl (by rw [q, q2])
      · exact .inr (List.mem_append_left _ q2)
    · rcases h.all v with q2 | q2
      · rw [q2] at q
        exact .inr (List.mem_append_right _ q)
      · exact .inr (List.mem_append_left _ q2)
/-- The trail, as it is bounded. -/
structure Trl (T : List Int) (tr : List (Int × Int)) : Prop where
  nd : (tr.map (·.1)).Nodup
  at_ : ∀ p ∈ tr, ∃ v : Nat, p.1 = (v : Int) ∧ v < T.length ∧ T.getD v 0 = 2
theorem Trl.nil (T : List Int) : Trl T [] := ⟨by simp, by simp⟩
theorem Trl.add {T U : List Int} {tr new : List (Int × Int)} (h : Trl T tr) (k : Ch T U new) : Trl U (tr ++ new) := by
  refine ⟨?_, fun p hp => ?_⟩
  · rw [List.map_append, List.nodup_append]
    refine ⟨h.nd, k.nd, fun x hx y hy e => ?_⟩
    subst e
    obtain ⟨p, hp, rfl⟩ := List.mem_map.1 hx
    obtain ⟨q, hq, e⟩ := List.mem_map.1 hy
    obtain ⟨v, a1, _, a5⟩ := h.at_ p hp
    obtain ⟨u, b1, _, b3, b4, _⟩ := k.at_ q hq
    have : u = v := by omega
    subst this
    exact b4 (by rw [b3]; exact a5)
  · rcases List.mem_append.1 hp with hp | hp
    · obtain ⟨v, a1, a2, a5⟩ := h.at_ p hp
      refine ⟨v, a1, by rw [k.len]; exact a2, ?_⟩
      rcases k.all v with q | q
      · rw [q, a5]
      · obtain ⟨u, b1, _, b3, b4, _⟩ := k.at_ _ q
        have : v = u := by simp only at b1; omega
        subst this
        exact absurd a5 (by simp only at b4; exact b4)
    · obtain ⟨u, b1, b2, b3, b4, b5⟩ := k.at_ p hp
      exact ⟨u, b1, by rw [k.len]; exact b2, b5⟩
theorem Trl.le {T : List Int} {tr : List (Int × Int)} (h : Trl T tr) : tr.length ≤ T.length := by
  have := nodup_sub h.nd (m := (List.range T.length).map (fun v : Nat => (v : Int))) (fun x hx => by
    obtain ⟨p, hp, rfl⟩ := List.mem_map.1 hx
    obtain ⟨v, a1, a2, _⟩ := h.at_ p hp
    exact List.mem_map.2 ⟨v, List.mem_range.2 a2, a1.symm⟩)
  simpa using this
section
variable {C : Circ} {O L I T U : List Int}
end
section
variable {C : Circ} {O L I T Ts : List Int}
end
/-- Truths as values. -/
def b2i (b : Bool) : Int := if b then 1 else 0
theorem map_getD (T : List Bool) (v : Nat) : (T.map b2i).getD v 0 = b2i (T.getD v false) := by
  rcases Nat.lt_or_ge v T.length with h | h
  · simp [List.getD_eq_getElem?_getD, h]
  · simp [List.getD_eq_getElem?_getD, List.getElem?_eq_none h, b2i]
/-- A row covers a state. -/
def Cov3 (L : List Int) (st : List Bool) : Prop := L.length = st.length ∧ ∀ k, k < L.length → Le3 (b2i (st.getD k false)) (L.getD k 0)
theorem Cov3.le {L : List Int} {st : List Bool} (h : Cov3 L st) (k : Nat) : Le3 ((st.map b2i).getD k 0) (L.getD k 0) := by
  rw [map_getD]
  rcases Nat.lt_or_ge k L.length with hk | hk
  · exact h.2 k hk
  · rw [List.getD_eq_getElem?_getD, List.getElem?_eq_none (by rw [← h.1]; exact hk), List.getD_eq_getElem?_getD, List.getElem?_eq_none hk]
    exact .inl rfl
end Go.Proofs.Ytdodhbfplglbkaa

namespace Go.Proofs.Ytdodhbfplglbkaa
open Go.RowKit

end Go.Proofs.Ytdodhbfplglbkaa

namespace Go.Proofs.Ytdodhbfplglbkaa
open Go.RowKit

/-- What stands while values are gone through: the circuit's box, the values' block. -/
structure VT (w0 wr : World) (bx g : Nat) (cs : Array Value) (T : List Int) : Prop where
  below : Below w0.heap.size w0 wr
  box : Blk wr bx 29 cs
  tab : Nums wr g T
section
variable {w0 wr : World} {bx g : Nat} {cs : Array Value} {T : List Int}
theorem VT.alloc (h : VT w0 wr bx g cs T) (o : Obj) : VT w0 (wr.alloc o) bx g cs T := ⟨h.below.alloc h.below.size o, h.box.alloc o, Blk.alloc h.tab o⟩
theorem VT.drew (h : VT w0 wr bx g cs T) : VT w0 wr.drew bx g cs T := ⟨h.below.drew, h.box.drew, h.tab⟩
theorem VT.on {w1 : World} (h : VT w0 wr bx g cs T) (hb : Below wr.heap.size wr w1) : VT w0 w1 bx g cs T := ⟨bt h.below (Nat.le_refl _) hb, h.box.below hb h.box.lt, Blk.below h.tab hb (Blk.lt h.tab)⟩
theorem VT.set_ (h : VT w0 wr bx g cs T) (hB : w0.heap.size ≤ g) (hx : bx ≠ g) (i : Nat) (b : Int) : VT w0 (wr.setCell ⟨g, i, none⟩ (.int .i64 b)) bx g cs (T.set i b) :=
  ⟨h.below.setCell hB _, Blk.far h.box (by simpa using hx) _, Nums.set_ h.tab i b⟩
end
end Go.Proofs.Ytdodhbfplglbkaa

namespace Go.Proofs.Ytdodhbfplglbkaa
open Go.RowKit

end Go.Proofs.Ytdodhbfplglbkaa

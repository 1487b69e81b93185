/- Replay: plain data: what follows of a cut run, and of a lasso unrolled once more. -/
import Derived.Test.YtjbglgmbnjdhcaaRplP
namespace Go.Proofs.Ytjbglgmbnjdhcaa
open Go.RowKit

theorem walk_ok {C : Circ} {O : List Int} {t : Tr} (h : (walkR C O t).2 = 0) : Fits C t ∧ wrongF C t.init = -1 ∧ ∀ T ∈ valsT C O t, holdsF C T = true := by
  unfold walkR at h
  by_cases h1 : fitsB C t = false
  · rw [if_pos h1] at h; cases h
  · rw [if_neg h1] at h
    by_cases h2 : wrongF C t.init ≠ -1
    · rw [if_pos h2] at h; cases h
    · rw [if_neg h2] at h
      by_cases h3 : brokF C (valsT C O t) ≠ -1
      · rw [if_pos h3] at h; cases h
      · refine ⟨fits_of (by simpa using h1), Decidable.not_not.1 h2, fun T hT => ?_⟩
        have := firstB_all (Decidable.not_not.1 h3 : brokF C (valsT C O t) = -1) T hT
        simpa using this
theorem walk_yes {C : Circ} {O : List Int} {t : Tr} (h1 : fitsB C t = true) (h2 : wrongF C t.init = -1) (h3 : ∀ T ∈ valsT C O t, holdsF C T = true) : walkR C O t = (0, 0) := by
  unfold walkR
  have hb : brokF C (valsT C O t) = -1 := firstB_none (fun T hT => by simp [h3 T hT])
  rw [if_neg (by simp [h1]), if_neg (by simp [h2]), if_neg (by simp [hb])]
theorem fitsB_of {C : Circ} {t : Tr} (h : Fits C t) : fitsB C t = true := by
  unfold fitsB rowsB
  simp only [Bool.and_eq_true, decide_eq_true_eq, List.all_eq_true]
  exact ⟨h.i, h.n1, h.n2, h.r, h.l⟩
/-- A trace cut behind some step. -/
def cutT (t : Tr) (k : Nat) : Tr := ⟨t.init, t.rows.take k, -1⟩
theorem cut_walk {C : Circ} {O : List Int} {t : Tr} (h : (walkR C O t).2 = 0) {k : Nat} (h1 : 1 ≤ k) (h2 : k ≤ t.rows.length) : walkR C O (loopless (cutT t k)) = (0, 0) := by
  obtain ⟨hf, hw, hh⟩ := walk_ok h
  have hl : (t.rows.take k).length = k := by simp; omega
  refine walk_yes (fitsB_of ⟨hf.i, by show 1 ≤ (t.rows.take k).length; omega, by have := hf.n2; show (t.rows.take k).length ≤ 512; omega, fun r hr => hf.r r (List.mem_of_mem_take hr), by show (-1 : Int) ≤ -1 ∧ (-1 : Int) < ((t.rows.take k).length : Int); omega⟩) hw (fun T hT => ?_)
  have hT' : T ∈ valsG C O t.init (t.rows.take k) := hT
  rw [← valsG_take] at hT'
  exact hh T (List.mem_of_mem_take hT')
theorem cut_bad {C : Circ} {O : List Int} {t : Tr} (hc : (checkR C).2 = 0) (h : (walkR C O t).2 = 0) {k : Nat} (h1 : 1 ≤ k) (h2 : k ≤ t.rows.length) {i : Nat} {l : Int} (hi : C.bads[i]? = some l) {T : List Bool} (hT : (valsT C O t)[k - 1]? = some T) :
    (badR C O i (cutT t k)).2 = if litV T l = true then 0 else 131 := by
  have hil : i < C.bads.length := (List.getElem?_eq_some_iff.1 hi).1
  unfold badR
  have hl : (cutT t k).rows.length = k := by show (t.rows.take k).length = k; simp; omega
  rw [if_neg (by simp [hc]), if_neg (by omega), cut_walk h h1 h2, if_neg (by simp), hl]
  have hv : (valsT C O (cutT t k)).drop (k - 1) = [T] := by
    show (valsG C O t.init (t.rows.take k)).drop (k - 1) = _
    rw [← valsG_take]
    have e : (valsG C O t.init t.rows).take k = (valsG C O t.init t.rows).take (k - 1) ++ [T] := by
      have h9 : (valsG C O t.init t.rows)[k - 1]? = some T := hT
      have h8 := List.take_add_one (l := valsG C O t.init t.rows) (i := k - 1)
      rw [h9, show k - 1 + 1 = k by omega] at h8
      simpa using h8
    rw [e]
    have hlen : ((valsG C O t.init t.rows).take (k - 1)).length = k - 1 := by rw [List.length_take, valsG_len]; omega
    rw [List.drop_append, hlen, Nat.sub_self, List.drop_of_length_le (by rw [hlen]; exact Nat.le_refl _)]
    rfl
  rw [hv]
  have hg : C.bads.getD (i : Int).toNat 0 = l := by simp [List.getD, hi]
  rw [hg]
  by_cases hb : litV T l = true
  · rw [if_pos hb, if_pos (by simp [cameS, hb])]
  · rw [if_neg hb, if_neg (by simp [cameS, hb])]
theorem reach_ok {C : Circ} {O : List Int} {t : Tr} (h : reachE C O t = 0) : (checkR C).2 = 0 ∧ (walkR C O t).2 = 0 := by
  unfold reachE at h
  by_cases h1 : (checkR C).2 ≠ 0
  · rw [if_pos h1] at h; exact absurd h h1
  · rw [if_neg h1] at h; exact ⟨by omega, h⟩
theorem reach_told {C : Circ} {O : List Int} {t : Tr} (h : reachE C O t = 0) {i : Nat} {l : Int} (hi : C.bads[i]? = some l) : decide ((i : Int) ∈ reachL C O t) = (valsT C O t).any fun T => litV T l := by
  unfold reachL
  rw [if_pos h]
  have e : ((i : Int) ∈ truesG (cameS C.bads (valsT C O t)) 0) ↔ ((valsT C O t).any fun T => litV T l) = true := by
    rw [truesG_mem]
    have hc : (cameS C.bads (valsT C O t))[i]? = some ((valsT C O t).any fun T => litV T l) := by simp [cameS, hi]
    constructor
    · rintro ⟨q, e, hq⟩
      have : q = i := by omega
      subst this
      rw [hc] at hq
      exact Option.some.inj hq
    · intro hb
      exact ⟨i, by omega, by rw [hc, hb]⟩
  by_cases hb : ((valsT C O t).any fun T => litV T l) = true
  · rw [hb]; exact decide_eq_true (e.2 hb)
  · have hb' : ((valsT C O t).any fun T => litV T l) = false := by simpa using hb
    rw [hb']; exact decide_eq_false (fun h9 => hb (e.1 h9))

/-! A lasso, unrolled once more. -/
theorem just_ok {C : Circ} {O : List Int} {j : Int} {t : Tr} (h : (justR C O j t).2 = 0) :
    (checkR C).2 = 0 ∧ (0 ≤ j ∧ j < (C.justice.length : Int)) ∧ (walkR C O t).2 = 0 ∧ closesB C O t = true ∧ missF (cameS (mustOf C j) ((valsT C O t).drop t.loop.toNat)) = -1 ∧ justR C O j t = (t.loop, 0) := by
  have h0 := h
  unfold justR at h ⊢
  by_cases h1 : (checkR C).2 ≠ 0
  · rw [if_pos h1] at h; exact absurd h h1
  · rw [if_neg h1] at h ⊢
    by_cases h2 : j < 0 ∨ (C.justice.length : Int) ≤ j
    · rw [if_pos h2] at h; cases h
    · rw [if_neg h2] at h ⊢
      by_cases h3 : (walkR C O t).2 ≠ 0
      · rw [if_pos h3] at h; exact absurd h h3
      · rw [if_neg h3] at h ⊢
        by_cases h4 : closesB C O t = false
        · rw [if_pos h4] at h; cases h
        · rw [if_neg h4] at h ⊢
          by_cases h5 : missF (cameS (mustOf C j) ((valsT C O t).drop t.loop.toNat)) ≠ -1
          · rw [if_pos h5] at h; cases h
          · rw [if_neg h5]
            exact ⟨by omega, by omega, by omega, by simpa using h4, by omega, rfl⟩
theorem just_yes {C : Circ} {O : List Int} {j : Int} {t : Tr} (h1 : (checkR C).2 = 0) (h2 : 0 ≤ j ∧ j < (C.justice.length : Int)) (h3 : walkR C O t = (0, 0)) (h4 : closesB C O t = true) (h5 : missF (cameS (mustOf C j) ((valsT C O t).drop t.loop.toNat)) = -1) : justR C O j t = (t.loop, 0) := by
  unfold justR
  rw [if_neg (by omega), if_neg (by omega), h3, if_neg (by simp), if_neg (by simp [h4]), if_neg (by simp [h5])]
theorem miss_iff (zs : List Int) (Ts : List (List Bool)) : missF (cameS zs Ts) = -1 ↔ ∀ l ∈ zs, ∃ T ∈ Ts, litV T l = true := by
  constructor
  · intro h l hl
    have := firstB_all h _ (List.mem_map.2 ⟨l, hl, rfl⟩)
    simpa using this
  · intro h
    refine firstB_none (fun b hb => ?_)
    obtain ⟨l, hl, rfl⟩ := List.mem_map.1 hb
    obtain ⟨T, hT, h2⟩ := h l hl
    simp only [Bool.not_eq_eq_eq_not, Bool.not_false, List.any_eq_true]
    exact ⟨T, hT, h2⟩
def moreT (t : Tr) (a : Nat) (lp : Int) : Tr := ⟨t.init, t.rows ++ t.rows.drop a, lp⟩
theorem just_again {C : Circ} {O : List Int} {j : Int} {t : Tr} (h : (justR C O j t).2 = 0) (hn : t.rows.length ≤ 200) :
    (0 ≤ t.loop ∧ t.loop < (t.rows.length : Int)) ∧ justR C O j t = (t.loop, 0) ∧ justR C O j (moreT t t.loop.toNat t.loop) = (t.loop, 0) ∧ justR C O j (moreT t t.loop.toNat t.rows.length) = ((t.rows.length : Int), 0) := by
  obtain ⟨hc, hj, hw, hcl, hm, he⟩ := just_ok h
  obtain ⟨hf, hwr, hh⟩ := walk_ok hw
  have hfl := hf.l
  have hn1 := hf.n1
  unfold closesB at hcl
  simp only [Bool.and_eq_true, decide_eq_true_eq] at hcl
  obtain ⟨hl1, hcl⟩ := hcl
  obtain ⟨a, ha⟩ : ∃ a : Nat, t.loop = (a : Int) := ⟨t.loop.toNat, by omega⟩
  have hat : t.loop.toNat = a := by omega
  rw [hat] at hcl hm ⊢
  have han : a < t.rows.length := by omega
  have hv : valsT C O (moreT t a t.loop) = valsT C O t ++ (valsT C O t).drop a := by
    show valsG C O t.init (t.rows ++ t.rows.drop a) = _
    rw [valsG_app, hcl, ← valsG_drop]
    rfl
  have hv2 : valsT C O (moreT t a t.rows.length) = valsT C O t ++ (valsT C O t).drop a := hv
  have hrun : runS C O t.init (t.rows ++ t.rows.drop a) = runS C O t.init (t.rows.take a) := by
    rw [runS_app, hcl, ← runS_app, List.take_append_drop, hcl]
  have hlen : (t.rows ++ t.rows.drop a).length = t.rows.length + (t.rows.length - a) := by simp
  have hvl : (valsT C O t).length = t.rows.length := valsG_len C O _ _
  have hhold : ∀ T ∈ valsT C O t ++ (valsT C O t).drop a, holdsF C T = true := fun T hT => by
    rcases List.mem_append.1 hT with hT | hT
    · exact hh T hT
    · exact hh T (List.mem_of_mem_drop hT)
  have hrows : ∀ r ∈ t.rows ++ t.rows.drop a, r.length = C.inputs.length := fun r hr => by
    rcases List.mem_append.1 hr with hr | hr
    · exact hf.r r hr
    · exact hf.r r (List.mem_of_mem_drop hr)
  have walk : ∀ lp : Int, -1 ≤ lp → lp < ((t.rows ++ t.rows.drop a).length : Int) → walkR C O (moreT t a lp) = (0, 0) := fun lp h1 h2 =>
    walk_yes (fitsB_of ⟨hf.i, by show 1 ≤ (t.rows ++ t.rows.drop a).length; omega, by show (t.rows ++ t.rows.drop a).length ≤ 512; omega, hrows, h1, h2⟩) hwr (fun T hT => by
      have : T ∈ valsT C O (moreT t a t.loop) := hT
      rw [hv] at this
      exact hhold T this)
  rw [miss_iff] at hm
  refine ⟨⟨by omega, by omega⟩, he, ?_, ?_⟩
  · refine just_yes hc hj (walk _ (by omega) (by omega)) ?_ ?_
    · unfold closesB
      simp only [Bool.and_eq_true, decide_eq_true_eq]
      refine ⟨hl1, ?_⟩
      show runS C O t.init (t.rows ++ t.rows.drop a) = runS C O t.init ((t.rows ++ t.rows.drop a).take t.loop.toNat)
      rw [hat, hrun, List.take_append_of_le_length (by omega)]
    · rw [miss_iff, hv]
      intro l hl
      obtain ⟨T, hT, h2⟩ := hm l hl
      refine ⟨T, ?_, h2⟩
      show T ∈ (valsT C O t ++ (valsT C O t).drop a).drop t.loop.toNat
      rw [hat, List.drop_append_of_le_length (by omega)]
      exact List.mem_append_left _ hT
  · refine just_yes hc hj (walk _ (by omega) (by omega)) ?_ ?_
    · unfold closesB
      simp only [Bool.and_eq_true, decide_eq_true_eq]
      refine ⟨by show (t.rows.length : Int) ≠ -1; omega, ?_⟩
      show runS C O t.init (t.rows ++ t.rows.drop a) = runS C O t.init ((t.rows ++ t.rows.drop a).take (t.rows.length : Int).toNat)
      rw [hrun, show ((t.rows.length : Int).toNat) = t.rows.length by omega, List.take_append_of_le_length (Nat.le_refl _), List.take_length, hcl]
    · rw [miss_iff, hv2]
      intro l hl
      obtain ⟨T, hT, h2⟩ := hm l hl
      refine ⟨T, ?_, h2⟩
      show T ∈ (valsT C O t ++ (valsT C O t).drop a).drop (t.rows.length : Int).toNat
      rw [show ((t.rows.length : Int).toNat) = (valsT C O t).length by omega, List.drop_append_of_le_length (Nat.le_refl _), List.drop_length, List.nil_append]
      exact hT
end Go.Proofs.Ytjbglgmbnjdhcaa

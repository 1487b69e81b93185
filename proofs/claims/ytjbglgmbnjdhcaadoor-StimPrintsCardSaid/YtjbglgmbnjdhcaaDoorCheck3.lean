/- The contract of Check: what is wrong with a circuit first, of any circuit. -/
import Derived.Test.YtjbglgmbnjdhcaaDoorTable
import Derived.Test.YtjbglgmbnjdhcaaDoorSizes
import Derived.Test.YtjbglgmbnjdhcaaDoorCont
import Derived.Test.YtjbglgmbnjdhcaaDoorLift
import Derived.Maps.OwnSet
import Derived.DeepKeys4
import Derived.Test.YtjbglgmbnjdhcaaDoorDefd
import Derived.Test.YtjbglgmbnjdhcaaDoorUsed
import Derived.Test.YtjbglgmbnjdhcaaDoorFirst
namespace Go.Proofs.YtjbglgmbnjdhcaaDoor
open Go.RowKit

/-- How many things of a symbol's kind there are. -/
def countF (C : Circ) (k : Int) : Int :=
  if k = 105 then C.inputs.length else if k = 108 then C.latches.length else if k = 111 then C.outputs.length else if k = 98 then C.bads.length else
  if k = 99 then C.constraints.length else if k = 106 then C.justice.length else if k = 102 then C.fairness.length else 0

/-- May a symbol have that name? -/
def nameB (s : ByteArray) : Bool := decide (1 ≤ s.size ∧ s.size ≤ 64) && s.data.toList.all fun b => decide (32 ≤ b.toNat)
end Go.Proofs.YtjbglgmbnjdhcaaDoor

namespace Go.Proofs.YtjbglgmbnjdhcaaDoor
open Go.RowKit Go.Maps

/-- May a symbol stand there, behind those that are listed? -/
def symB (C : Circ) (ps : List (Int × Int)) (s : Sym) : Bool := !(ps.contains (s.kind, s.at_)) && (decide (0 ≤ s.at_) && (decide (s.at_ < countF C s.kind) && nameB s.name))
def symAll (C : Circ) : List Sym → Nat → List (Int × Int) → Int × Int
  | [], _, _ => (0, 0)
  | s :: r, i, ps => if symB C ps s = true then symAll C r (i + 1) ((s.kind, s.at_) :: ps) else ((i : Int), 35)
def symR (C : Circ) : Int × Int := symAll C C.symbols 0 []
end Go.Proofs.YtjbglgmbnjdhcaaDoor

namespace Go.Proofs.YtjbglgmbnjdhcaaDoor
open Go.RowKit

/-- Has a text a byte 10? -/
def hasNl (s : ByteArray) : Bool := decide (0 ≤ Lib.indexByte s.data.toList 10)
def commE (s : ByteArray) : Int := if hasNl s = true then 36 else 0
def commR (C : Circ) : Int × Int := firstE commE C.comments 0
end Go.Proofs.YtjbglgmbnjdhcaaDoor

namespace Go.Proofs.YtjbglgmbnjdhcaaDoor
open Go.RowKit

theorem defE_zero {tb : List Bool} {l : Int} (h : defE tb l = 0) : 2 ≤ l ∧ l / 2 < (tb.length : Int) := by
  by_cases hc : l < 2 ∨ l % 2 = 1 ∨ (tb.length : Int) ≤ l / 2
  · rw [defE_bad hc] at h; cases h
  · omega
theorem defAll_ok {α : Type} {lit bad : α → Int} : ∀ (xs : List α) (k : Nat) (tb : List Bool), (defAll lit bad xs k tb).1.2 = 0 → ∀ x ∈ xs, 2 ≤ lit x ∧ lit x / 2 < (tb.length : Int)
  | [], _, _, _, x, hx => by simp at hx
  | y :: r, k, tb, h, x, hx => by
    unfold defAll at h
    by_cases h0 : defE tb (lit y) = 0
    · rw [if_pos h0] at h
      by_cases h1 : bad y = 0
      · rw [if_pos h1] at h
        rcases List.mem_cons.1 hx with rfl | hx
        · exact defE_zero h0
        · have := defAll_ok r (k + 1) _ h x hx
          rwa [defT_len] at this
      · rw [if_neg h1] at h; exact absurd h h1
    · rw [if_neg h0] at h; exact absurd h h0
theorem firstE_ok {α : Type} {f : α → Int} : ∀ (xs : List α) (k : Nat), (firstE f xs k).2 = 0 → ∀ x ∈ xs, f x = 0
  | [], _, _, x, hx => by simp at hx
  | y :: r, k, h, x, hx => by
    unfold firstE at h
    by_cases h0 : f y = 0
    · rw [if_pos h0] at h
      rcases List.mem_cons.1 hx with rfl | hx
      · exact h0
      · exact firstE_ok r (k + 1) h x hx
    · rw [if_neg h0] at h; exact absurd h h0
theorem useE_zero {tb : List Bool} {l : Int} (h : useE tb l = 0) : 0 ≤ l ∧ l / 2 < (tb.length : Int) := by
  by_cases hc : l < 0 ∨ (tb.length : Int) ≤ l / 2
  · rw [useE_bad hc] at h; cases h
  · omega
theorem thenE_ok {a b : Int × Int} (h : (thenE a b).2 = 0) : a.2 = 0 ∧ b.2 = 0 := by
  unfold thenE at h
  by_cases h0 : a.2 = 0
  · rw [if_pos h0] at h; exact ⟨h0, h⟩
  · rw [if_neg h0] at h; exact absurd h h0
theorem defR_ok {C : Circ} {tb : List Bool} (h : (defR C tb).1.2 = 0) : ∀ z ∈ C.ands, 2 ≤ z.1 ∧ z.1 / 2 < (tb.length : Int) := by
  unfold defR at h
  by_cases h0 : (defI C tb).1.2 = 0
  · rw [if_pos h0] at h
    by_cases h1 : (defL C (defI C tb).2).1.2 = 0
    · rw [if_pos h1] at h
      intro z hz
      have := defAll_ok _ _ _ h z hz
      unfold defL defI at this
      rwa [defAll_len, defAll_len] at this
    · rw [if_neg h1] at h; exact absurd h h1
  · rw [if_neg h0] at h; exact absurd h h0
theorem usedR_ok {C : Circ} {tb : List Bool} (h : (usedR C tb).2 = 0) : ∀ z ∈ C.ands, (0 ≤ z.2.1 ∧ z.2.1 / 2 < (tb.length : Int)) ∧ (0 ≤ z.2.2 ∧ z.2.2 / 2 < (tb.length : Int)) := by
  unfold usedR at h
  have h6 := (thenE_ok (thenE_ok (thenE_ok (thenE_ok (thenE_ok (thenE_ok h).2).2).2).2).2).2
  intro z hz
  have hg := firstE_ok _ _ h6 z hz
  unfold gateE at hg
  by_cases h0 : useE tb z.2.1 = 0
  · rw [if_pos h0] at hg; exact ⟨useE_zero h0, useE_zero hg⟩
  · rw [if_neg h0] at hg; exact absurd hg h0
theorem gateF_ok : ∀ (zs : List Tri) (i n : Nat) (G : List Int), i + zs.length ≤ n → (∀ x ∈ G, UseOk n x) → ∀ x ∈ gateF zs i G, UseOk n x
  | [], _, _, _, _, h => h
  | z :: r, i, n, G, hl, h => by
    unfold gateF
    refine gateF_ok r (i + 1) n _ (by simp at hl; omega) fun x hx => ?_
    rcases List.mem_or_eq_of_mem_set hx with hx | rfl
    · exact h x hx
    · right; simp at hl; omega
theorem fit_of {C : Circ} {tb : List Bool} {t2 : List Bool} (h1 : (defR C tb).1.2 = 0) (h2 : (usedR C t2).2 = 0) (hl : (tb.length : Int) = C.max + 1) (hl2 : t2.length = tb.length) : ∀ z ∈ C.ands, FitT C.max z := by
  intro z hz
  have a := defR_ok h1 z hz
  have b := usedR_ok h2 z hz
  rw [hl2] at b
  refine ⟨⟨by omega, by omega⟩, ⟨b.1.1, by omega⟩, ⟨b.2.1, by omega⟩⟩
theorem usesC_ok {C : Circ} (hm : 0 ≤ C.max) (hf : ∀ z ∈ C.ands, FitT C.max z) : UsesOk (usesC C).length (usesC C) := by
  have hlen : (usesC C).length = C.ands.length := by simp [usesC]
  refine ⟨rfl, fun p hp => ?_⟩
  rw [hlen]
  unfold usesC at hp
  obtain ⟨z, hz, rfl⟩ := List.mem_map.1 hp
  have hG : ∀ x ∈ gateOf C, UseOk C.ands.length x := gateF_ok _ _ _ _ (by simp) (fun x hx => by left; exact (List.mem_replicate.1 hx).2)
  have hGl : (gateOf C).length = C.max.toNat + 1 := by unfold gateOf; rw [gateF_len]; simp
  obtain ⟨_, ⟨a1, a2⟩, ⟨b1, b2⟩⟩ := hf z hz
  have key : ∀ l : Int, 0 ≤ l → l / 2 ≤ C.max → UseOk C.ands.length ((gateOf C).getD (l / 2).toNat 0) := fun l h0 h1 => by
    have hk : (l / 2).toNat < (gateOf C).length := by rw [hGl]; omega
    have e : (gateOf C).getD (l / 2).toNat 0 = (gateOf C)[(l / 2).toNat] := by simp [List.getD, hk]
    rw [e]; exact hG _ (List.getElem_mem hk)
  exact ⟨key _ a1 a2, key _ b1 b2⟩
/-- What Check answers. -/
def checkR (C : Circ) : Int × Int :=
  if sizesE C ≠ 0 then (0, sizesE C) else
  if (defR C (tab0 C.max.toNat)).1.2 ≠ 0 then (defR C (tab0 C.max.toNat)).1 else
  if (usedR C (defR C (tab0 C.max.toNat)).2).2 ≠ 0 then usedR C (defR C (tab0 C.max.toNat)).2 else
  if firstF (usesC C) ≠ -1 then (firstF (usesC C), 34) else
  if (symR C).2 ≠ 0 then symR C else commR C
end Go.Proofs.YtjbglgmbnjdhcaaDoor

namespace Go.Proofs.YtjbglgmbnjdhcaaDoor
open Go.RowKit

section
variable {C : Circ}
end

end Go.Proofs.YtjbglgmbnjdhcaaDoor

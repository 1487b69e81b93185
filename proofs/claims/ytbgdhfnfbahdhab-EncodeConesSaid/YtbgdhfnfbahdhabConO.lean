/- Cone: the contracts of the document's lits, Support and Inputs. -/
import Derived.Test.YtbgdhfnfbahdhabConC
import Derived.Test.YtbgdhfnfbahdhabTrnF
import Derived.Test.YtbgdhfnfbahdhabConE
import Derived.Test.YtbgdhfnfbahdhabRfO
import Derived.BigQuiet
import Derived.Deep.Quiet
namespace Go.Proofs.Ytbgdhfnfbahdhab
open Go.RowKit Go.Maps

/-- How many are not there yet. -/
def cf : List Bool → Nat
  | [] => 0
  | b :: r => (if b = true then 0 else 1) + cf r
theorem setB_get {A : List Bool} {i : Nat} (hi : i < A.length) (v : Nat) : (A.set i true).getD v false = true ↔ A.getD v false = true ∨ v = i := by
  simp only [List.getD_eq_getElem?_getD, List.getElem?_set]
  by_cases e : i = v
  · subst e
    simp [hi]
  · rw [if_neg e]
    constructor
    · exact Or.inl
    · rintro (h | h)
      · exact h
      · exact absurd h.symm e
/-- A table that the document spreads: of what is in it all hangs. -/
structure SpI (u : List (Int × Int)) (L : List Int) (n : Nat) (A : List Bool) : Prop where
  len : A.length = n
  ok : ∀ v, v ≠ 0 → A.getD v false = true → Hang u L v
theorem SpI.set_ {u : List (Int × Int)} {L : List Int} {n : Nat} {A : List Bool} (h : SpI u L n A) {l : Int} (hl : vOf l < n) (h0 : 0 ≤ l) (hh : 2 ≤ l → Hang u L (vOf l)) : SpI u L n (A.set (vOf l) true) := by
  refine ⟨by rw [List.length_set]; exact h.len, fun v hv ha => ?_⟩
  rcases (setB_get (by rw [h.len]; exact hl) v).1 ha with ha | rfl
  · exact h.ok v hv ha
  · refine hh ?_
    unfold vOf at hv
    omega
def uOf (C : Circ) (th : Bool) : List (Int × Int) := if th = true then thruU C else withU C
theorem uOf_len (C : Circ) (th : Bool) : (uOf C th).length = C.max.toNat + 1 := by
  unfold uOf
  split
  · exact thruU_len C
  · exact withU_len C
/-- What is closed under gates (and latches) and has the roots has all that hangs. -/
theorem spread_end {C : Circ} (hf : Fine C) {L : List Int} {th : Bool} {A : List Bool} (h : SpI (uOf C th) L (C.max.toNat + 1) A) (hr : ∀ l ∈ L, A.getD (vOf l) false = true)
    (ha : ∀ z ∈ C.ands, A.getD (vOf z.1) false = true → A.getD (vOf z.2.1) false = true ∧ A.getD (vOf z.2.2) false = true) (ht : th = true → ∀ z ∈ C.latches, A.getD (vOf z.1) false = true → A.getD (vOf z.2.1) false = true) (hfit : CFits (uOf C th) L) : A.set 0 false = supF (uOf C th) L := by
  refine sup_eq (by rw [List.length_set, h.len, uOf_len]) (fun v _ => ?_)
  have hz : (A.set 0 false).getD v false = true ↔ v ≠ 0 ∧ A.getD v false = true := by
    simp only [List.getD_eq_getElem?_getD, List.getElem?_set]
    by_cases e : 0 = v
    · subst e
      simp
      split <;> simp
    · rw [if_neg e]
      exact ⟨fun hh => ⟨fun e2 => e e2.symm, hh⟩, fun hh => hh.2⟩
  rw [hz]
  constructor
  · rintro ⟨h1, h2⟩
    exact h.ok v h1 h2
  · intro hh
    refine ⟨by have := (hh.lt hfit).1; omega, ?_⟩
    refine hh.least (p := fun v => A.getD v false = true) (fun l hl _ => hr l hl) (fun u hu => ?_)
    cases th with
    | true =>
      rcases thruU_cases C u hf with ⟨z, hzm, rfl, e⟩ | ⟨z, hzm, rfl, e⟩ | e
      · rw [show uOf C true = thruU C from rfl, e]
        exact ⟨fun _ => (ha z hzm hu).1, fun _ => (ha z hzm hu).2⟩
      · rw [show uOf C true = thruU C from rfl, e]
        exact ⟨fun _ => ht rfl z hzm hu, fun h2 => by simp at h2⟩
      · rw [show uOf C true = thruU C from rfl, e]
        exact ⟨fun h2 => by simp at h2, fun h2 => by simp at h2⟩
    | false =>
      rcases withU_cases C u hf with ⟨z, hzm, rfl, e⟩ | e
      · rw [show uOf C false = withU C from rfl, e]
        exact ⟨fun _ => (ha z hzm hu).1, fun _ => (ha z hzm hu).2⟩
      · rw [show uOf C false = withU C from rfl, e]
        exact ⟨fun h2 => by simp at h2, fun h2 => by simp at h2⟩
def Rts (L : List Int) (A : List Bool) : Prop := ∀ l ∈ L, A.getD (vOf l) false = true
theorem Rts.set_ {L : List Int} {A : List Bool} (h : Rts L A) {i : Nat} (hi : i < A.length) : Rts L (A.set i true) := fun l hl => (setB_get hi _).2 (Or.inl (h l hl))
end Go.Proofs.Ytbgdhfnfbahdhab

namespace Go.Proofs.Ytbgdhfnfbahdhab
open Go.RowKit Go.Maps

end Go.Proofs.Ytbgdhfnfbahdhab

namespace Go.Proofs.Ytbgdhfnfbahdhab
open Go.RowKit Go.Maps

end Go.Proofs.Ytbgdhfnfbahdhab

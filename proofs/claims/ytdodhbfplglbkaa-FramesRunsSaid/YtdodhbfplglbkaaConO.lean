/- Cone: the contracts of the document's lits, Support and Inputs. -/
import Derived.Test.YtdodhbfplglbkaaConC
import Derived.Test.YtdodhbfplglbkaaTrnF
import Derived.Test.YtdodhbfplglbkaaConE
import Derived.Test.YtdodhbfplglbkaaRfO
import Derived.BigQuiet
import Derived.Deep.Quiet
namespace Go.Proofs.Ytdodhbfplglbkaa
open Go.RowKit Go.Maps

/-- How many are not there yet. -/
def cf : List Bool → Nat
  | [] => 0
  | b :: r => (if b = true then 0 else 1) + cf r
theorem setB_get {A : List Bool} {i : Nat} (hi : i < A.length) (v : Nat) : (A.set i true).getD v false = true ↔ A.getD v false = true ∨ v = i := by
  simp only [List.getD_eq_getElem?_getD, List.getElem?_set]
  by_cases e : i = v
  · subst e
    simp [hi]
  · rw [if_neg e]
    constructor
    · exact Or.inl
    · rintro (h | h)
      · exact h
      · exact absurd h.symm e
/-- A table that the document spreads: of what is in it all hangs. -/
structure SpI (u : List (Int × Int)) (L : List Int) (n : Nat) (A : List Bool) : Prop where
  len : A.length = n
  ok : ∀ v, v ≠ 0 → A.getD v false = true → Hang u L v
theorem SpI.set_ {u : List (Int × Int)} {L : List Int} {n : Nat} {A : List Bool} (h : SpI u L n A) {l : Int} (hl : vOf l < n) (h0 : 0 ≤ l) (hh : 2 ≤ l → Hang u L (vOf l)) : SpI u L n (A.set (vOf l) true) := by
  refine ⟨by rw [List.length_set]; exact h.len, fun v hv ha => ?_⟩
  rcases (setB_get (by rw [h.len]; exact hl) v).1 ha with ha | rfl
  · exact h.ok v hv ha
  · refine hh ?_
    unfold vOf at hv
    omega
def Rts (L : List Int) (A : List Bool) : Prop := ∀ l ∈ L, A.getD (vOf l) false = true
theorem Rts.set_ {L : List Int} {A : List Bool} (h : Rts L A) {i : Nat} (hi : i < A.length) : Rts L (A.set i true) := fun l hl => (setB_get hi _).2 (Or.inl (h l hl))
end Go.Proofs.Ytdodhbfplglbkaa

namespace Go.Proofs.Ytdodhbfplglbkaa
open Go.RowKit Go.Maps

end Go.Proofs.Ytdodhbfplglbkaa

namespace Go.Proofs.Ytdodhbfplglbkaa
open Go.RowKit Go.Maps

end Go.Proofs.Ytdodhbfplglbkaa

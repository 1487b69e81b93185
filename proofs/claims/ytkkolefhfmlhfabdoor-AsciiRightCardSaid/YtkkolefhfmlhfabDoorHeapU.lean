/- The contract of heap's up. -/
import Derived.Test.YtkkolefhfmlhfabDoorTarjC
import Derived.BigRegion
import Derived.OwnWalk
namespace Go.Proofs.YtkkolefhfmlhfabDoor
open Go.RowKit

end Go.Proofs.YtkkolefhfmlhfabDoor

namespace Go.Proofs.YtkkolefhfmlhfabDoor
open Go.RowKit

/-- A gate may come next behind those of L. -/
def Avail (uses : List (Int × Int)) (L : List Int) (y : Int) : Prop := InR uses.length y ∧ y ∉ L ∧ ∀ z, Edge uses y z → z ∈ L
/-- The least one that may come is always the next. -/
inductive Greedy (uses : List (Int × Int)) : List Int → Prop where
  | nil : Greedy uses []
  | snoc {L : List Int} {i : Int} : Greedy uses L → Avail uses L i → (∀ y, Avail uses L y → i ≤ y) → Greedy uses (L ++ [i])
structure OS where
  told : List Bool
  wait : List (List Int)
  hp : List Int
  out : List Int
  next : Nat
section
variable {uses : List (Int × Int)}
/-- Each one stands behind those that it uses. -/
theorem Greedy.before {L : List Int} (h : Greedy uses L) : ∀ (k : Nat) (i : Int), L[k]? = some i → ∀ z, Edge uses i z → z ∈ L.take k := by
  induction h with
  | nil => simp
  | @snoc L j hL ha _ ih =>
    intro k i hk z hz
    by_cases hlt : k < L.length
    · rw [List.getElem?_append_left hlt] at hk
      rw [List.take_append_of_le_length (by omega)]
      exact ih k i hk z hz
    · have hk2 : k = L.length := by
        obtain ⟨hl, _⟩ := List.getElem?_eq_some_iff.1 hk
        simp at hl; omega
      subst hk2
      simp at hk
      subst hk
      simp
      exact ha.2.2 z hz
end
end Go.Proofs.YtkkolefhfmlhfabDoor

namespace Go.Proofs.YtkkolefhfmlhfabDoor
open Go.RowKit

end Go.Proofs.YtkkolefhfmlhfabDoor

namespace Go.Proofs.YtkkolefhfmlhfabDoor
open Go.RowKit

end Go.Proofs.YtkkolefhfmlhfabDoor

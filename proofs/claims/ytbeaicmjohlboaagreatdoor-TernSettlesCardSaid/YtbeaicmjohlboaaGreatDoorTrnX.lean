/- Tern: what the walks of the statements share: each call's answer as a row of the call's own, also where it is refused. -/
import Derived.Test.YtbeaicmjohlboaaGreatDoorTrnW
import Derived.Test.YtbeaicmjohlboaaGreatDoorTrnU
import Derived.Test.YtbeaicmjohlboaaGreatDoorKeptC
import Derived.Test.YtbeaicmjohlboaaGreatDoorArgT
namespace Go.Proofs.YtbeaicmjohlboaaGreatDoor
open Go.RowKit

theorem slT_form {E : Type} {k : Nat} {enc : E → List Value} {w : World} {v : Value} {zs : List E} (h : RowE k enc w v zs) : ∃ A n c, v = .slice A n c := by
  obtain ⟨A, c, e, _⟩ := h
  exact ⟨A, _, c, e⟩
theorem slT_formL {w : World} {v : Value} {zss : List (List Int)} (h : Lists w v zss) : ∃ A n c, v = .slice A n c := by
  obtain ⟨A, c, e, _⟩ := h.at_
  exact ⟨A, _, c, e⟩
theorem nums_ownT {w : World} {B g : Nat} {L : List Int} (h : Nums w g L) (hB : B ≤ g) (hm : L.length ≤ maxLen) : w.ownsRow B 3 1 (.slice (some ⟨g, 0, none⟩) L.length L.length) L.length (L.map (Value.int .i64)) :=
  ⟨by simp, .inr ⟨g, L.length, _, rfl, hB, h, Nat.le_refl _, hm, by simp, by rw [List.take_of_length_le (by simp)]⟩⟩
/-- Two values that lie apart. -/
def ApT (u v : Value) : Prop := ∀ g, u.ownBlock = some g → v.ownBlock ≠ some g
theorem ApT.symm {u v : Value} (h : ApT u v) : ApT v u := fun g a b => h g b a
theorem apT_of {w w' : World} {B n n' k k' : Nat} {t t' : TypeId} {u v : Value} {xs ys : List Value} (h : w.ownsRow B t k u n xs) (h2 : w'.ownsRow w.heap.size t' k' v n' ys) : ApT u v := fun g hu hv => by
  have h3 := (h.lt g hu).2
  have h4 := (h2.lt g hv).1
  omega
theorem own_spoilT {w w' : World} {B n k : Nat} {t : TypeId} {u v : Value} {xs : List Value} (h : w.ownsRow B t k v n xs) (ha : ApT u v) (hg : w.grownBy w' u.ownBlock) : w'.ownsRow B t k v n xs :=
  own_of_block h (fun g hv => hg.block g (h.lt g hv).2 (fun e => ha g e.symm hv))
theorem nil_ownI (w : World) (B : Nat) : w.ownsRow B 3 1 (.slice none 0 0) ([] : List Int).length (([] : List Int).map (Value.int .i64)) := ⟨rfl, .inl ⟨rfl, rfl⟩⟩
theorem own_rowI {w : World} {B : Nat} {v : Value} {L : List Int} (h : w.ownsRow B 3 1 v L.length (L.map (Value.int .i64))) : RowE 1 encI w v L := own_rowe lenI (by rw [flat_ints]; exact h)
section
variable {w : World} {V : CV} {C : Circ} {sv rv lv : Value} {L I O lits : List Int}
end
end Go.Proofs.YtbeaicmjohlboaaGreatDoor

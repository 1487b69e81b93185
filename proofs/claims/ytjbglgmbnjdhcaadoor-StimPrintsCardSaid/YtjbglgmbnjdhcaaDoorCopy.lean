/- The contract of Copy: a circuit of new lists, each in a block of its own. -/
import Derived.Test.YtjbglgmbnjdhcaaDoorCopyR
import Derived.Laws.Tables
import Derived.Deep.RegionWith
namespace Go.Proofs.YtjbglgmbnjdhcaaDoor
open Go.RowKit

theorem flat_ints (zs : List Int) : zs.flatMap encI = zs.map (Value.int .i64) := by
  induction zs with
  | nil => rfl
  | cons z r ih => rw [List.flatMap_cons, ih]; rfl
theorem flat_vals (zs : List Value) : zs.flatMap encV = zs := by
  induction zs with
  | nil => rfl
  | cons z r ih => rw [List.flatMap_cons, ih]; rfl
theorem Fam.snoc {w w' : World} {B : Nat} {R : List (Value × List Int)} {v : Value} {l : List Int} (h : Fam w B R) (hb : Below w.heap.size w w') (hB : B ≤ w.heap.size) (ho : w'.ownsRow w.heap.size 3 1 v l.length (l.map (Value.int .i64))) : Fam w' B (R ++ [(v, l)]) := by
  have hnew : ∀ (i : Nat) (a : Value × List Int), R[i]? = some a → Apart a (v, l) := fun i a hi g hg hg' => by
    have h1 := ((h.own a (List.mem_of_getElem? hi)).lt g hg).2
    have h2 := (ho.lt g hg').1
    omega
  have hget : ∀ (i : Nat) (a : Value × List Int), (R ++ [(v, l)])[i]? = some a → (R[i]? = some a ∧ i < R.length) ∨ (a = (v, l) ∧ i = R.length) := by
    intro i a hi
    by_cases hl : i < R.length
    · rw [List.getElem?_append_left hl] at hi
      exact .inl ⟨hi, hl⟩
    · have := (List.getElem?_eq_some_iff.1 hi).1
      simp at this
      have e : i = R.length := by omega
      subst e
      simp at hi
      exact .inr ⟨hi.symm, rfl⟩
  refine ⟨fun p hp => ?_, fun i j a b hij hi hj => ?_⟩
  · rcases List.mem_append.1 hp with hp | hp
    · exact own_below (h.own p hp) hb
    · simp only [List.mem_singleton] at hp
      subst hp
      exact own_base ho hB
  · rcases hget i a hi with ⟨h1, h2⟩ | ⟨rfl, e1⟩
    · rcases hget j b hj with ⟨h3, h4⟩ | ⟨rfl, e2⟩
      · exact h.apart i j a b hij h1 h3
      · exact hnew i a h1
    · rcases hget j b hj with ⟨h3, h4⟩ | ⟨rfl, e2⟩
      · exact (hnew j b h3).symm
      · exact absurd (e1.trans e2.symm) hij
theorem wpOp_of {P : Program} {ops : Array Oper} {Q : Exit → Act → World → Prop} {i : Nat} {K : Act → World → Prop} {a : Act} {w : World} {o : Oper} (ho : ops[i]? = some o) (hg : o.guard = none) (h : o.wp P a w K Q) : wpOp P ops Q i K a w := by
  unfold wpOp
  simp only [ho]
  rw [if_pos (by simp [Region.wanted, hg])]
  exact .inl h
end Go.Proofs.YtjbglgmbnjdhcaaDoor

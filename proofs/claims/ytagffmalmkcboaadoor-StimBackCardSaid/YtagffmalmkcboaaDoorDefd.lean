/- The contract of checkDefined: what inputs, latches and gates define. -/
import Derived.Test.YtagffmalmkcboaaDoorTable
namespace Go.Proofs.YtagffmalmkcboaaDoor
open Go.RowKit

theorem defAll_len {α : Type} {lit bad : α → Int} : ∀ (xs : List α) (k : Nat) (tb : List Bool), (defAll lit bad xs k tb).2.length = tb.length
  | [], _, _ => rfl
  | x :: r, k, tb => by
    unfold defAll
    split
    · split
      · rw [defAll_len]; exact defT_len _ _
      · exact defT_len _ _
    · rfl

/-- A latch's reset. -/
def resetE (z : Tri) : Int := if z.2.2 ≠ 0 ∧ z.2.2 ≠ 1 ∧ z.2.2 ≠ z.1 then 33 else 0
def defI (C : Circ) (tb : List Bool) := defAll (fun z : Int => z) (fun _ => 0) C.inputs 0 tb
def defL (C : Circ) (tb : List Bool) := defAll (fun z : Tri => z.1) resetE C.latches 0 tb
def defA (C : Circ) (tb : List Bool) := defAll (fun z : Tri => z.1) (fun _ => 0) C.ands 0 tb
/-- What is wrong with what is defined, and the table behind it. -/
def defR (C : Circ) (tb : List Bool) : (Int × Int) × List Bool :=
  if (defI C tb).1.2 = 0 then (if (defL C (defI C tb).2).1.2 = 0 then defA C (defL C (defI C tb).2).2 else defL C (defI C tb).2) else defI C tb
theorem defR_len (C : Circ) (tb : List Bool) : (defR C tb).2.length = tb.length := by
  unfold defR defI defL defA
  split
  · split
    · rw [defAll_len, defAll_len, defAll_len]
    · rw [defAll_len, defAll_len]
  · rw [defAll_len]
/-- What stands in the midst: the box of the circuit, the table, all that was there. -/
structure Mid (w0 w : World) (bx g : Nat) (cs : Array Value) (tb : List Bool) : Prop where
  below : Below w0.heap.size w0 w
  box : Blk w bx 29 cs
  tab : Tab w g tb
theorem Mid.alloc {w0 w : World} {bx g : Nat} {cs : Array Value} {tb : List Bool} (h : Mid w0 w bx g cs tb) (o : Obj) : Mid w0 (w.alloc o) bx g cs tb :=
  ⟨h.below.alloc h.below.size o, h.box.alloc o, Blk.alloc h.tab o⟩
theorem Mid.grown {w0 w w' : World} {bx g : Nat} {cs : Array Value} {tb tb' : List Bool} (h : Mid w0 w bx g cs tb) (hg : w0.heap.size ≤ g) (hne : bx ≠ g) (hw : w.grownBy w' (some g)) (ht : Tab w' g tb') : Mid w0 w' bx g cs tb' :=
  ⟨h.below.grown hw h.below.size (fun k hk => by cases hk; exact hg), h.box.grown hw (by simpa using hne), ht⟩

end Go.Proofs.YtagffmalmkcboaaDoor

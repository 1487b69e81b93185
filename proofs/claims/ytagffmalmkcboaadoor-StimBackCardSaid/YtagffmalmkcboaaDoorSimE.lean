/- Sim: the contracts of the program's calls Values, Next, Holds. -/
import Derived.Test.YtagffmalmkcboaaDoorSimB
import Derived.Test.YtagffmalmkcboaaDoorRfO
namespace Go.Proofs.YtagffmalmkcboaaDoor
open Go.RowKit

/-- What lies in a block that the call has made itself, besides the circuit's box. -/
structure NS (w0 wr : World) (bx g : Nat) (cs : Array Value) (T : List Bool) : Prop where
  below : Below w0.heap.size w0 wr
  box : Blk wr bx 29 cs
  tab : Tab wr g T
theorem NS.alloc {w0 wr : World} {bx g : Nat} {cs : Array Value} {T : List Bool} (h : NS w0 wr bx g cs T) (o : Obj) : NS w0 (wr.alloc o) bx g cs T := ⟨h.below.alloc h.below.size o, h.box.alloc o, Blk.alloc h.tab o⟩
theorem NS.set_ {w0 wr : World} {bx g : Nat} {cs : Array Value} {T : List Bool} (h : NS w0 wr bx g cs T) (hB : w0.heap.size ≤ g) (hx : bx ≠ g) (i : Nat) (b : Bool) : NS w0 (wr.setCell ⟨g, i, none⟩ (.bool b)) bx g cs (T.set i b) :=
  ⟨h.below.setCell hB _, Blk.far h.box (by simpa using hx) _, Tab.set_ h.tab i b⟩

end Go.Proofs.YtagffmalmkcboaaDoor

namespace Go.Proofs.YtagffmalmkcboaaDoor
open Go.RowKit

theorem slO_form {w : World} {v : Value} {t : List Bool} (h : RowE 1 encO w v t) : ∃ A n c, v = .slice A n c := by
  obtain ⟨A, c, e, _⟩ := h
  exact ⟨A, _, c, e⟩
end Go.Proofs.YtagffmalmkcboaaDoor

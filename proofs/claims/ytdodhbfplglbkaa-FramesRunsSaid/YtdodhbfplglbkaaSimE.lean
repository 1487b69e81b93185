/- Sim: the contracts of the program's calls Values, Next, Holds. -/
import Derived.Test.YtdodhbfplglbkaaSimB
import Derived.Test.YtdodhbfplglbkaaRfO
namespace Go.Proofs.Ytdodhbfplglbkaa
open Go.RowKit

/-- The one order of a right circuit's gates. -/
structure IsOrd (C : Circ) (O : List Int) : Prop where
  g : Greedy (usesC C) O
  l : O.length = C.ands.length
theorem IsOrd.same {C : Circ} {O P : List Int} (h : IsOrd C O) (g : Greedy (usesC C) P) (l : P.length = C.ands.length) : P = O := greedy_same _ g h.g l h.l
theorem IsOrd.inR {C : Circ} {O : List Int} (h : IsOrd C O) : ∀ x ∈ O, 0 ≤ x ∧ x < (C.ands.length : Int) := fun x hx => by
  have := h.g.inR x hx
  unfold InR at this
  rw [usesC_len] at this
  exact this
/-- What lies in a block that the call has made itself, besides the circuit's box. -/
structure NS (w0 wr : World) (bx g : Nat) (cs : Array Value) (T : List Bool) : Prop where
  below : Below w0.heap.size w0 wr
  box : Blk wr bx 29 cs
  tab : Tab wr g T
theorem NS.alloc {w0 wr : World} {bx g : Nat} {cs : Array Value} {T : List Bool} (h : NS w0 wr bx g cs T) (o : Obj) : NS w0 (wr.alloc o) bx g cs T := ⟨h.below.alloc h.below.size o, h.box.alloc o, Blk.alloc h.tab o⟩
theorem NS.set_ {w0 wr : World} {bx g : Nat} {cs : Array Value} {T : List Bool} (h : NS w0 wr bx g cs T) (hB : w0.heap.size ≤ g) (hx : bx ≠ g) (i : Nat) (b : Bool) : NS w0 (wr.setCell ⟨g, i, none⟩ (.bool b)) bx g cs (T.set i b) :=
  ⟨h.below.setCell hB _, Blk.far h.box (by simpa using hx) _, Tab.set_ h.tab i b⟩

end Go.Proofs.Ytdodhbfplglbkaa

namespace Go.Proofs.Ytdodhbfplglbkaa
open Go.RowKit

end Go.Proofs.Ytdodhbfplglbkaa

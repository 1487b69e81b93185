/- Sim: the contracts of what goes through the values, gate by gate: the program's and the document's. -/
import Derived.Test.YtdodhbfplglbkaaRight
import Derived.Test.YtdodhbfplglbkaaCopyR
import Derived.Deep.RegionHeld3
import Derived.Deep.RegionWith
import Derived.Laws.EntriesVeiled
import Derived.Deep.LoopGhost
namespace Go.Proofs.Ytdodhbfplglbkaa
open Go.RowKit

abbrev encO (b : Bool) : List Value := [.bool b]
end Go.Proofs.Ytdodhbfplglbkaa

namespace Go.Proofs.Ytdodhbfplglbkaa
open Go.RowKit

/-- What stands while values are gone through: the circuit's box, the values' block, and (where it is another one) the block that holds their slice. -/
structure VS (w0 wr : World) (bx g bq : Nat) (cs : Array Value) (n : Nat) (T : List Bool) : Prop where
  below : Below w0.heap.size w0 wr
  box : Blk wr bx 29 cs
  tab : Tab wr g T
  cl : bq ≠ g → Blk wr bq 55 #[.slice (some ⟨g, 0, none⟩) n n]
section
variable {w0 wr : World} {bx g bq n : Nat} {cs : Array Value} {T : List Bool}
theorem VS.alloc (h : VS w0 wr bx g bq cs n T) (o : Obj) : VS w0 (wr.alloc o) bx g bq cs n T :=
  ⟨h.below.alloc h.below.size o, h.box.alloc o, Blk.alloc h.tab o, fun e => (h.cl e).alloc o⟩
theorem VS.drew (h : VS w0 wr bx g bq cs n T) : VS w0 wr.drew bx g bq cs n T := ⟨h.below.drew, h.box.drew, h.tab, fun e => (h.cl e).drew⟩
theorem VS.set_ (h : VS w0 wr bx g bq cs n T) (hB : w0.heap.size ≤ g) (hx : bx ≠ g) (i : Nat) (b : Bool) : VS w0 (wr.setCell ⟨g, i, none⟩ (.bool b)) bx g bq cs n (T.set i b) :=
  ⟨h.below.setCell hB _, Blk.far h.box (by simpa using hx) _, Tab.set_ h.tab i b, fun e => Blk.far (h.cl e) (by simpa using e) _⟩
end
end Go.Proofs.Ytdodhbfplglbkaa

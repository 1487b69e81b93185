/- The contracts of heap.Push and heap.Pop over the row of numbers. -/
import Derived.Test.YtdodhbfplglbkaaHeapU
import Derived.BigRegion
import Derived.BigQuiet
import Derived.Deep.RegionWith
import Derived.Test.YtdodhbfplglbkaaClone
import Derived.Deep.RegionLaw
namespace Go.Proofs.Ytdodhbfplglbkaa
open Go.RowKit

end Go.Proofs.Ytdodhbfplglbkaa

namespace Go.Proofs.Ytdodhbfplglbkaa
open Go.RowKit

@[go_sem] theorem assert_int (x : Int) (w : World) : (Instr.typeAssert (.iface 3 (.int .i64 x)) 20 3 false).run Try.prog w = .ok (.int .i64 x) w := by kernel_rfl
end Go.Proofs.Ytdodhbfplglbkaa

namespace Go.Proofs.Ytdodhbfplglbkaa
open Go.RowKit

/-- Nothing that was there has turned but one block and one row. -/
structure Keep2 (w w' : World) (b : Nat) (row : Option Nat) : Prop where
  os : w'.os = w.os
  tape : w'.tape = w.tape
  output : w'.output = w.output
  size : w.heap.size ≤ w'.heap.size
  block : ∀ k, k < w.heap.size → k ≠ b → some k ≠ row → w'.heap[k]? = w.heap[k]?
theorem Keep2.grown {w w1 w2 : World} {r r1 : Option Nat} {b : Nat} (h : Keep2 w w1 b r) (h2 : w1.grownBy w2 r1) (hr : r1 = r ∨ ∃ g, r1 = some g ∧ w.heap.size ≤ g) : Keep2 w w2 b r :=
  ⟨h2.os.trans h.os, h2.tape.trans h.tape, h2.output.trans h.output, Nat.le_trans h.size h2.size, fun k hk hb hk2 => (h2.block k (Nat.lt_of_lt_of_le hk h.size) (by
    rcases hr with rfl | ⟨g, rfl, hg⟩
    · exact hk2
    · intro e; injection e with e; omega)).trans (h.block k hk hb hk2)⟩

end Go.Proofs.Ytdodhbfplglbkaa

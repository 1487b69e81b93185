/- The contract of IsBinary. -/
import Derived.Test.YtilbgopdciiadaaSetP
import Derived.Test.YtilbgopdciiadaaRenE
import Derived.Test.YtilbgopdciiadaaRenA
import Derived.Laws.EntriesVeiled
import Derived.Deep.LoopGhost
import Derived.Deep.RegionWith
namespace Go.Proofs.Ytilbgopdciiadaa
open Go.RowKit

structure BinS (w0 wr : World) (bx bl : Nat) (cs : Array Value) (last : Int) : Prop where
  below : Below w0.heap.size w0 wr
  box : Blk wr bx 29 cs
  last : Blk wr bl 3 #[.int .i64 last]
theorem BinS.alloc {w0 wr : World} {bx bl : Nat} {cs : Array Value} {last : Int} (h : BinS w0 wr bx bl cs last) (o : Obj) : BinS w0 (wr.alloc o) bx bl cs last := ⟨h.below.alloc h.below.size o, h.box.alloc o, h.last.alloc o⟩
theorem BinS.drew {w0 wr : World} {bx bl : Nat} {cs : Array Value} {last : Int} (h : BinS w0 wr bx bl cs last) : BinS w0 wr.drew bx bl cs last := ⟨h.below.drew, h.box.drew, h.last.drew⟩
theorem BinS.step {w0 wr : World} {bx bl : Nat} {cs : Array Value} {last : Int} (h : BinS w0 wr bx bl cs last) (hB : w0.heap.size ≤ bl) (hne : bx ≠ bl) : BinS w0 (wr.setCell ⟨bl, 0, none⟩ (.int .i64 (last + 2))) bx bl cs (last + 2) :=
  ⟨h.below.setCell hB _, Blk.far h.box (by simpa using hne) _, by simpa using Blk.set_ h.last 0 (.int .i64 (last + 2))⟩

end Go.Proofs.Ytilbgopdciiadaa

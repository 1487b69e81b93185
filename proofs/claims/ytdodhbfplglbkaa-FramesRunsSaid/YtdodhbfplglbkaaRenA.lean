/- Renumber as plain data, and what memory holds while its lists are written. -/
import Derived.Test.YtdodhbfplglbkaaUses
import Derived.Test.YtdodhbfplglbkaaTable
import Derived.Laws.EntriesVeiled
import Derived.Deep.LoopGhost
import Derived.Deep.RegionWith
import Derived.Test.YtdodhbfplglbkaaRight
import Derived.Test.YtdodhbfplglbkaaCopy
namespace Go.Proofs.Ytdodhbfplglbkaa
open Go.RowKit

/-- The blocks of the last literal and of the map. -/
structure NumB (w : World) (bl bm gm : Nat) (last : Int) (M : List Int) : Prop where
  last : Blk w bl 3 #[.int .i64 last]
  mp : Blk w bm 22 #[.slice (some ⟨gm, 0, none⟩) M.length M.length]
  nums : Nums w gm M
/-- So many variables get the next new literals. -/
def numF (ls : List Int) (st : Int × List Int) : Int × List Int := ls.foldl (fun s l => (s.1 + 2, s.2.set (l / 2).toNat (s.1 + 2))) st
theorem numF_snoc (ls : List Int) (l : Int) (st : Int × List Int) : numF (ls ++ [l]) st = ((numF ls st).1 + 2, (numF ls st).2.set (l / 2).toNat ((numF ls st).1 + 2)) := by simp [numF, List.foldl_append]
/-- The map of a circuit's variables, by the gates' order. -/
def newM (C : Circ) (gs : List Int) : List Int := (numF (C.inputs ++ C.latches.map (·.1) ++ gs.map (fun g => (C.ands.getD g.toNat (0, 0, 0)).1)) (0, List.replicate (C.max.toNat + 1) 0)).2
theorem NumB.step {w : World} {bl bm gm : Nat} {last : Int} {M : List Int} (h : NumB w bl bm gm last M) (h1 : bl ≠ bm) (h2 : bl ≠ gm) (h3 : bm ≠ gm) (i : Nat) : NumB ((w.setCell ⟨bl, 0, none⟩ (.int .i64 (last + 2))).setCell ⟨gm, i, none⟩ (.int .i64 (last + 2))) bl bm gm (last + 2) (M.set i (last + 2)) := by
  refine ⟨Blk.far (by simpa using Blk.set_ h.last 0 (.int .i64 (last + 2))) (by simpa using h2) _, ?_, Nums.set_ (Blk.far h.nums (by simpa using Ne.symm h2) _) i _⟩
  rw [List.length_set]
  exact Blk.far (Blk.far h.mp (by simpa using Ne.symm h1) _) (by simpa using h3) _
end Go.Proofs.Ytdodhbfplglbkaa

namespace Go.Proofs.Ytdodhbfplglbkaa
open Go.RowKit

structure NumS (w0 wr : World) (bx gm bm bl : Nat) (cs : Array Value) (st : Int × List Int) : Prop where
  below : Below w0.heap.size w0 wr
  box : Blk wr bx 29 cs
  st : NumB wr bl bm gm st.1 st.2
theorem NumS.alloc {w0 wr : World} {bx gm bm bl : Nat} {cs : Array Value} {st : Int × List Int} (h : NumS w0 wr bx gm bm bl cs st) (o : Obj) : NumS w0 (wr.alloc o) bx gm bm bl cs st :=
  ⟨h.below.alloc h.below.size o, h.box.alloc o, ⟨h.st.last.alloc o, h.st.mp.alloc o, Blk.alloc h.st.nums o⟩⟩
theorem NumS.step {w0 wr : World} {bx : Nat} {cs : Array Value} {ls : List Int} {l : Int} {s0 : Int × List Int} (h : NumS w0 wr bx (bx + 1) (bx + 1 + 1) (bx + 1 + 1 + 1) cs (numF ls s0)) (hB : w0.heap.size ≤ bx) {last : Int} (hl : (numF ls s0).1 = last) :
    NumS w0 ((wr.setCell ⟨bx + 1 + 1 + 1, 0, none⟩ (.int .i64 (last + 2))).setCell ⟨bx + 1, (l / 2).toNat, none⟩ (.int .i64 (last + 2))) bx (bx + 1) (bx + 1 + 1) (bx + 1 + 1 + 1) cs (numF (ls ++ [l]) s0) := by
  subst hl
  rw [numF_snoc]
  exact ⟨(h.below.setCell (by simp; omega) _).setCell (by simp; omega) _, Blk.far (Blk.far h.box (by simp; omega) _) (by simp) _, h.st.step (by omega) (by omega) (by omega) _⟩

end Go.Proofs.Ytdodhbfplglbkaa

namespace Go.Proofs.Ytdodhbfplglbkaa
open Go.RowKit

end Go.Proofs.Ytdodhbfplglbkaa

namespace Go.Proofs.Ytdodhbfplglbkaa
open Go.RowKit

/-- A literal by the map. -/
def mvF (M : List Int) (l : Int) : Int := M.getD (l / 2).toNat 0 + l % 2
end Go.Proofs.Ytdodhbfplglbkaa

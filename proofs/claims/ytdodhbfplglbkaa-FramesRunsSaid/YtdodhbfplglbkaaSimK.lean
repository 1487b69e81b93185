/- Sim: the contract of a moment: what there is to tell of a step. -/
import Derived.Test.YtdodhbfplglbkaaSimE
import Derived.Test.YtdodhbfplglbkaaClone
import Derived.Test.YtdodhbfplglbkaaOrdW
namespace Go.Proofs.Ytdodhbfplglbkaa
open Go.RowKit

end Go.Proofs.Ytdodhbfplglbkaa

namespace Go.Proofs.Ytdodhbfplglbkaa
open Go.RowKit

abbrev encQ (p : Int × Int) : List Value := [.int .i64 p.1, .int .i64 p.2]
theorem own_cellsF {w : World} {B n k : Nat} {t : TypeId} {v : Value} {xs : List Value} (h : w.ownsRow B t k v n xs) {g : Nat} (hv : v.ownBlock = some g) : ∃ cs, Blk w g t cs := by
  rcases h.2 with ⟨rfl, _⟩ | ⟨g', cap, cur, rfl, _, hh, _⟩
  · simp [Value.ownBlock] at hv
  · have : g' = g := by simpa [Value.ownBlock] using hv
    subst this
    exact ⟨cur, hh⟩
/-- A list of one kind stays when another kind's list grows. -/
theorem own_other {w w' : World} {B B2 n n2 k k2 : Nat} {t t2 : TypeId} {v v2 : Value} {xs xs2 : List Value} (h : w.ownsRow B t k v n xs) (h2 : w.ownsRow B2 t2 k2 v2 n2 xs2) (hne : t2 ≠ t) (hg : w.grownBy w' v2.ownBlock) : w'.ownsRow B t k v n xs :=
  own_of_block h (fun g hv => by
    obtain ⟨cs, hb⟩ := own_cellsF h hv
    exact hg.block g hb.lt (fun e => own_blk_ne h2 hb hne e.symm))
end Go.Proofs.Ytdodhbfplglbkaa

namespace Go.Proofs.Ytdodhbfplglbkaa
open Go.RowKit

structure Mom where
  st : List Bool
  holds : Bool
  bads : List Int
  fair : List (Int × Int)
end Go.Proofs.Ytdodhbfplglbkaa

/- A statement's arguments that are rows of ints, three rows in one struct, words of 64 bits. -/
import Derived.Test.YtbeaicmjohlboaaGreatDoorArgR
namespace Go.Proofs.YtbeaicmjohlboaaGreatDoor
open Go.ChangeShapes Go.WideShapes Go.ChangeAt Go.RowKit

/-- Three rows of ints: as values, as lists. -/
structure KV where
  l : Value
  i : Value
  s : Value
abbrev KV.cells (U : KV) : Array Value := #[U.l, U.i, U.s]
abbrev KV.val (U : KV) : Value := .agg U.cells
structure Kase where
  l : List Int
  i : List Int
  s : List Int
structure Kase.In (w : World) (U : KV) (x : Kase) : Prop where
  l : RowE 1 encI w U.l x.l
  i : RowE 1 encI w U.i x.i
  s : RowE 1 encI w U.s x.s
theorem Kase.In.below {w w' : World} {U : KV} {x : Kase} (h : x.In w U) (hb : Below w.heap.size w w') : x.In w' U := ⟨h.l.below hb, h.i.below hb, h.s.below hb⟩
structure Kase.Reach (x : Kase) : Prop where
  l : x.l.length * 8 ≤ 140737488351232
  i : x.i.length * 8 ≤ 140737488351232
  s : x.s.length * 8 ≤ 140737488351232
  w : ∀ z ∈ x.s, I64 z
section
variable {H : Type} {enc : TypeId × Value → H} {W : World}
end
end Go.Proofs.YtbeaicmjohlboaaGreatDoor

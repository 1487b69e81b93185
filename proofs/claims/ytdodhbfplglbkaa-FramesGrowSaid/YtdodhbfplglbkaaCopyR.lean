/- Copy's drawn region (ten calls whose answers are new lists): by the rule of webs. -/
import Derived.Test.YtdodhbfplglbkaaOrdW
import Derived.Test.YtdodhbfplglbkaaClone
import Derived.Test.YtdodhbfplglbkaaWesM
import Derived.BigRegion
namespace Go.Proofs.Ytdodhbfplglbkaa
open Go.RowKit

theorem own_slice_k {w : World} {B n k : Nat} {t : TypeId} {v : Value} {xs : List Value} (h : w.ownsRow B t k v n xs) : ∃ A c, v = .slice A n c := by
  rcases h.2 with ⟨rfl, rfl⟩ | ⟨g, cap, cur, rfl, _⟩
  · exact ⟨_, _, rfl⟩
  · exact ⟨_, _, rfl⟩
/-- The lists are short enough for memory. -/
structure Circ.Room (C : Circ) : Prop where
  i : C.inputs.length * 8 ≤ 140737488355328
  l : C.latches.length * 24 ≤ 140737488355328
  o : C.outputs.length * 8 ≤ 140737488355328
  b : C.bads.length * 8 ≤ 140737488355328
  c : C.constraints.length * 8 ≤ 140737488355328
  j : C.justice.length * 24 ≤ 140737488355328
  js : ∀ zs ∈ C.justice, zs.length * 8 ≤ 140737488355328
  f : C.fairness.length * 8 ≤ 140737488355328
  a : C.ands.length * 24 ≤ 140737488355328
  s : C.symbols.length * 32 ≤ 140737488355328
  t : C.comments.length * 16 ≤ 140737488355328
/-- New lists of a circuit's members (the justice's own lists as they were). -/
structure CopR (w : World) (B : Nat) (C : Circ) (vs : List Value) (V : CV) : Prop where
  i : w.ownsRow B 3 1 V.i C.inputs.length (C.inputs.flatMap encI)
  l : w.ownsRow B 70 3 V.l C.latches.length (C.latches.flatMap encT)
  o : w.ownsRow B 3 1 V.o C.outputs.length (C.outputs.flatMap encI)
  b : w.ownsRow B 3 1 V.b C.bads.length (C.bads.flatMap encI)
  c : w.ownsRow B 3 1 V.c C.constraints.length (C.constraints.flatMap encI)
  j : w.ownsRow B 22 1 V.j vs.length (vs.flatMap encV)
  f : w.ownsRow B 3 1 V.f C.fairness.length (C.fairness.flatMap encI)
  a : w.ownsRow B 68 3 V.a C.ands.length (C.ands.flatMap encT)
  s : w.ownsRow B 155 3 V.s C.symbols.length (C.symbols.flatMap encS)
  t : w.ownsRow B 9 1 V.t C.comments.length (C.comments.flatMap encB)
  apart : [V.i, V.o, V.b, V.c, V.f].Pairwise (fun x y => ∀ g, x.ownBlock = some g → y.ownBlock ≠ some g)
theorem CopR.below {w w' : World} {B : Nat} {C : Circ} {vs : List Value} {V : CV} (h : CopR w B C vs V) (hb : Below w.heap.size w w') : CopR w' B C vs V :=
  ⟨own_below h.i hb, own_below h.l hb, own_below h.o hb, own_below h.b hb, own_below h.c hb, own_below h.j hb, own_below h.f hb, own_below h.a hb, own_below h.s hb, own_below h.t hb, h.apart⟩
end Go.Proofs.Ytdodhbfplglbkaa

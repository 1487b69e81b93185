/- Sim: moments in memory, and the statements' own word that two lists of them are the same. -/
import Derived.Test.YtdodhbfplglbkaaSpoO
import Derived.Test.YtdodhbfplglbkaaSimN
import Derived.Test.YtdodhbfplglbkaaSame3
namespace Go.Proofs.Ytdodhbfplglbkaa
open Go.RowKit

/-- How one moment of a list reads. -/
structure MomAt (w : World) (b k : Nat) (x : MV) (m : Mom) : Prop where
  c0 : w.cell? ⟨b, k, none⟩ = some x.s
  c1 : w.cell? ⟨b, k + 1, none⟩ = some (.bool x.h)
  c2 : w.cell? ⟨b, k + 2, none⟩ = some x.b
  c3 : w.cell? ⟨b, k + 3, none⟩ = some x.f
  lt : b < w.heap.size
  s : RowE 1 encO w x.s m.st
  h : x.h = m.holds
  b : RowE 1 encI w x.b m.bads
  f : RowE 2 encQ w x.f m.fair
theorem MomAt.below {w w' : World} {b k : Nat} {x : MV} {m : Mom} (h : MomAt w b k x m) (hb : Below w.heap.size w w') : MomAt w' b k x m :=
  ⟨(hb.cell (p := ⟨b, k, none⟩) h.lt).trans h.c0, (hb.cell (p := ⟨b, k + 1, none⟩) h.lt).trans h.c1, (hb.cell (p := ⟨b, k + 2, none⟩) h.lt).trans h.c2, (hb.cell (p := ⟨b, k + 3, none⟩) h.lt).trans h.c3, Nat.lt_of_lt_of_le h.lt hb.size, h.s.below hb, h.h, h.b.below hb, h.f.below hb⟩
/-- A list of moments. -/
def MomRow (w : World) (v : Value) (ms : List Mom) : Prop := ∃ A c, v = .slice A ms.length c ∧ ms.length ≤ c ∧ c ≤ maxLen ∧ ∀ (i : Nat) (m : Mom), ms[i]? = some m → ∃ b off x, A = some ⟨b, off, none⟩ ∧ MomAt w b (off + i * 4) x m
theorem MomRow.below {w w' : World} {v : Value} {ms : List Mom} (h : MomRow w v ms) (hb : Below w.heap.size w w') : MomRow w' v ms := by
  obtain ⟨A, c, e, h1, h2, h3⟩ := h
  refine ⟨A, c, e, h1, h2, fun i m hm => ?_⟩
  obtain ⟨b, off, x, e2, h4⟩ := h3 i m hm
  exact ⟨b, off, x, e2, h4.below hb⟩
theorem MomRow.nil (w : World) (A : Option Addr) : MomRow w (.slice A 0 0) [] := ⟨A, 0, rfl, Nat.le_refl _, by simp [maxLen], fun i m hm => by simp at hm⟩
theorem sl_form {E : Type} {k : Nat} {enc : E → List Value} {w : World} {v : Value} {zs : List E} (h : RowE k enc w v zs) : ∃ A n c, v = .slice A n c := by
  obtain ⟨A, c, e, _⟩ := h
  exact ⟨A, _, c, e⟩
theorem sl_formL {w : World} {v : Value} {zss : List (List Int)} (h : Lists w v zss) : ∃ A n c, v = .slice A n c := by
  obtain ⟨A, c, e, _⟩ := h.at_
  exact ⟨A, _, c, e⟩
end Go.Proofs.Ytdodhbfplglbkaa

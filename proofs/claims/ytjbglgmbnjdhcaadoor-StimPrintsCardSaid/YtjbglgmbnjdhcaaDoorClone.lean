/- Copies of lists: slices.Clone at each type of member, the statements' own copy of numbers. -/
import Derived.Test.YtjbglgmbnjdhcaaDoorCirc
import Derived.OwnWalk
import Derived.Laws.Cover3
namespace Go.Proofs.YtjbglgmbnjdhcaaDoor
open Go.RowKit

theorem info_of2 {t : TypeId} {z : Value} {s b : Nat} (h : (Tryd.prog.info? t).map (fun i => (i.zero, i.size, i.bytes)) = some (some z, s, b)) : ∃ i, Tryd.prog.info? t = some i ∧ i.zero = some z ∧ i.size = s ∧ i.bytes = b := by
  cases hi : Tryd.prog.info? t with
  | none => rw [hi] at h; cases h
  | some i => rw [hi] at h; simp at h; exact ⟨i, rfl, h.1, h.2.1, h.2.2⟩
@[go_sem] theorem eql_nilB (a : Option Addr) (l c : Nat) (w : World) : (binOp .eql 64 (.slice a l c) (.slice none 0 0)).run Tryd.prog w = .ok (.bool a.isNone) w := by
  simp only [binOp]
  simp [run_equal_slice_nil w _ _ a l c Tryd.underlying64]
end Go.Proofs.YtjbglgmbnjdhcaaDoor

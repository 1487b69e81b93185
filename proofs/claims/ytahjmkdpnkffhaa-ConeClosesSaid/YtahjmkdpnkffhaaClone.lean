/- Copies of lists: slices.Clone at each type of member, the statements' own copy of numbers. -/
import Derived.Test.YtahjmkdpnkffhaaCirc
import Derived.OwnWalk
import Derived.Laws.Cover3
namespace Go.Proofs.Ytahjmkdpnkffhaa
open Go.RowKit

theorem info_of2 {t : TypeId} {z : Value} {s b : Nat} (h : (Try.prog.info? t).map (fun i => (i.zero, i.size, i.bytes)) = some (some z, s, b)) : ∃ i, Try.prog.info? t = some i ∧ i.zero = some z ∧ i.size = s ∧ i.bytes = b := by
  cases hi : Try.prog.info? t with
  | none => rw [hi] at h; cases h
  | some i => rw [hi] at h; simp at h; exact ⟨i, rfl, h.1, h.2.1, h.2.2⟩
@[go_sem] theorem eql_nilI (a : Option Addr) (l c : Nat) (w : World) : (binOp .eql 45 (.slice a l c) (.slice none 0 0)).run Try.prog w = .ok (.bool a.isNone) w := by
  simp only [binOp]
  simp [run_equal_slice_nil w _ _ a l c Try.underlying45]
@[go_sem] theorem eql_nilL (a : Option Addr) (l c : Nat) (w : World) : (binOp .eql 46 (.slice a l c) (.slice none 0 0)).run Try.prog w = .ok (.bool a.isNone) w := by
  simp only [binOp]
  simp [run_equal_slice_nil w _ _ a l c Try.underlying46]
@[go_sem] theorem eql_nilA (a : Option Addr) (l c : Nat) (w : World) : (binOp .eql 37 (.slice a l c) (.slice none 0 0)).run Try.prog w = .ok (.bool a.isNone) w := by
  simp only [binOp]
  simp [run_equal_slice_nil w _ _ a l c Try.underlying37]
@[go_sem] theorem eql_nilS (a : Option Addr) (l c : Nat) (w : World) : (binOp .eql 48 (.slice a l c) (.slice none 0 0)).run Try.prog w = .ok (.bool a.isNone) w := by
  simp only [binOp]
  simp [run_equal_slice_nil w _ _ a l c Try.underlying48]
@[go_sem] theorem eql_nilB (a : Option Addr) (l c : Nat) (w : World) : (binOp .eql 49 (.slice a l c) (.slice none 0 0)).run Try.prog w = .ok (.bool a.isNone) w := by
  simp only [binOp]
  simp [run_equal_slice_nil w _ _ a l c Try.underlying49]
@[go_sem] theorem eql_nilV (a : Option Addr) (l c : Nat) (w : World) : (binOp .eql 47 (.slice a l c) (.slice none 0 0)).run Try.prog w = .ok (.bool a.isNone) w := by
  simp only [binOp]
  simp [run_equal_slice_nil w _ _ a l c Try.underlying47]

end Go.Proofs.Ytahjmkdpnkffhaa

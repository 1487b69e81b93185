/- Sim: the contract of the program's Run. -/
import Derived.Test.YtbgdhfnfbahdhabSimK
import Derived.Test.YtbgdhfnfbahdhabSimE
namespace Go.Proofs.Ytbgdhfnfbahdhab
open Go.RowKit

structure Tr where
  init : List Bool
  rows : List (List Bool)
  loop : Int
structure TV where
  i : Value
  r : Value
abbrev TV.cells (U : TV) (k : Int) : Array Value := #[U.i, U.r, .int .i64 k]
abbrev TV.val (U : TV) (k : Int) : Value := .agg (U.cells k)
/-- A list of rows of truths. -/
def ListsO (w : World) (v : Value) (zss : List (List Bool)) : Prop :=
  ∃ vs : List Value, RowE 1 encV w v vs ∧ vs.length = zss.length ∧ ∀ (i : Nat) (u : Value) (zs : List Bool), vs[i]? = some u → zss[i]? = some zs → RowE 1 encO w u zs
theorem ListsO.below {w w' : World} {v : Value} {zss : List (List Bool)} (h : ListsO w v zss) (hb : Below w.heap.size w w') : ListsO w' v zss := by
  obtain ⟨vs, h1, h2, h3⟩ := h
  exact ⟨vs, h1.below hb, h2, fun i u zs hu hz => (h3 i u zs hu hz).below hb⟩
theorem ListsO.at_ {w : World} {v : Value} {zss : List (List Bool)} (h : ListsO w v zss) : ∃ A c, v = .slice A zss.length c ∧ zss.length ≤ maxLen ∧ ∀ (i : Nat) (zs : List Bool), zss[i]? = some zs → ∃ b off u, A = some ⟨b, off, none⟩ ∧ b < w.heap.size ∧ w.cell? ⟨b, off + i, none⟩ = some u ∧ RowE 1 encO w u zs := by
  obtain ⟨vs, h1, h2, h3⟩ := h
  have hl := h1.len
  obtain ⟨A, c, rfl, _, _, h6⟩ := h1
  refine ⟨A, c, by rw [h2], by rw [← h2]; exact hl, fun i zs hz => ?_⟩
  have hi : i < vs.length := by rw [h2]; exact (List.getElem?_eq_some_iff.1 hz).1
  obtain ⟨b, off, e, hb, hc⟩ := h6 i _ (List.getElem?_eq_getElem hi)
  have := hc 0 _ rfl
  simp only [Nat.add_zero, Nat.mul_one] at this
  exact ⟨b, off, _, e, hb, this, h3 i _ zs (List.getElem?_eq_getElem hi) hz⟩
structure Tr.In (w : World) (U : TV) (t : Tr) : Prop where
  i : RowE 1 encO w U.i t.init
  r : ListsO w U.r t.rows
theorem Tr.In.below {w w' : World} {U : TV} {t : Tr} (h : t.In w U) (hb : Below w.heap.size w w') : t.In w' U := ⟨h.i.below hb, h.r.below hb⟩
@[go_sem] theorem eql_nilO (a : Option Addr) (l c : Nat) (w : World) : (binOp .eql 30 (.slice a l c) (.slice none 0 0)).run Try.prog w = .ok (.bool a.isNone) w := by
  simp only [binOp]
  simp [run_equal_slice_nil w _ _ a l c Try.underlying30]
end Go.Proofs.Ytbgdhfnfbahdhab

namespace Go.Proofs.Ytbgdhfnfbahdhab
open Go.RowKit

/-- The values of a moment. -/
structure MV where
  s : Value
  h : Bool
  b : Value
  f : Value
def ApV (u v : Value) : Prop := ∀ g, u.ownBlock = some g → v.ownBlock ≠ some g
end Go.Proofs.Ytbgdhfnfbahdhab

namespace Go.Proofs.Ytbgdhfnfbahdhab
open Go.RowKit

theorem tab_ownO {w : World} {B g : Nat} {L : List Bool} (h : Tab w g L) (hB : B ≤ g) (hm : L.length ≤ maxLen) : w.ownsRow B 4 1 (.slice (some ⟨g, 0, none⟩) L.length L.length) L.length (L.map Value.bool) :=
  ⟨by simp, .inr ⟨g, L.length, _, rfl, hB, h, Nat.le_refl _, hm, by simp, by rw [List.take_of_length_le (by simp)]⟩⟩
section
variable {w : World} {gm n : Nat} {xs : List MV}
end
end Go.Proofs.Ytbgdhfnfbahdhab

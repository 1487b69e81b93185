/- Renumber as plain data, and what memory holds while its lists are written. -/
import Derived.Test.YtfcjdfjobneeeaaMove
namespace Go.Proofs.Ytfcjdfjobneeeaa
open Go.RowKit

/-- A literal by the map. -/
def mvF (M : List Int) (l : Int) : Int := M.getD (l / 2).toNat 0 + l % 2
def renAnd (M : List Int) (z : Tri) : Tri := (mvF M z.1, max (mvF M z.2.1) (mvF M z.2.2), min (mvF M z.2.1) (mvF M z.2.2))
def renC (C : Circ) (out : List Int) : Circ :=
  { max := (C.inputs.length : Int) + C.latches.length + C.ands.length, inputs := C.inputs.map (mvF (newM C out)), latches := C.latches.map (fun z => (mvF (newM C out) z.1, mvF (newM C out) z.2.1, mvF (newM C out) z.2.2)),
    outputs := C.outputs.map (mvF (newM C out)), bads := C.bads.map (mvF (newM C out)), constraints := C.constraints.map (mvF (newM C out)), justice := C.justice.map (fun zs => zs.map (mvF (newM C out))), fairness := C.fairness.map (mvF (newM C out)),
    ands := out.map (fun g => renAnd (newM C out) (C.ands.getD g.toNat (0, 0, 0))), symbols := C.symbols, comments := C.comments }
theorem numF_even : ∀ (ls : List Int) (st : Int × List Int), 0 ≤ st.1 → st.1 % 2 = 0 → (∀ x ∈ st.2, 0 ≤ x ∧ x % 2 = 0 ∧ x ≤ st.1) → ∀ x ∈ (numF ls st).2, 0 ≤ x ∧ x % 2 = 0 ∧ x ≤ (numF ls st).1
  | [], st, _, _, h => h
  | l :: r, st, h0, h1, h => by
    refine numF_even r (st.1 + 2, st.2.set (l / 2).toNat (st.1 + 2)) (by simp only; omega) (by simp only; omega) (fun x hx => ?_)
    rcases List.mem_or_eq_of_mem_set hx with hx | rfl
    · obtain ⟨a, b, c⟩ := h x hx
      exact ⟨a, b, by simp only; omega⟩
    · exact ⟨by omega, by omega, Int.le_refl _⟩
theorem newM_even (C : Circ) (out : List Int) : ∀ x ∈ newM C out, 0 ≤ x ∧ x % 2 = 0 ∧ x ≤ 2 * ((C.inputs.length : Int) + C.latches.length + out.length) := by
  intro x hx
  unfold newM at hx
  have h1 := numF_even _ (0, List.replicate (C.max.toNat + 1) 0) (Int.le_refl 0) rfl (fun y hy => by rw [(List.mem_replicate.1 hy).2]; exact ⟨Int.le_refl _, rfl, Int.le_refl _⟩) x hx
  have h2 := (numF_len (C.inputs ++ C.latches.map (·.1) ++ out.map (fun g => (C.ands.getD g.toNat (0, 0, 0)).1)) (0, List.replicate (C.max.toNat + 1) 0)).2
  rw [h2] at h1
  obtain ⟨a, b, c⟩ := h1
  refine ⟨a, b, ?_⟩
  simp at c
  omega
theorem newM_len (C : Circ) (out : List Int) : (newM C out).length = C.max.toNat + 1 := by
  unfold newM
  rw [(numF_len _ _).1]
  simp
theorem fam_comm {w : World} {B : Nat} {R S : List (Value × List Int)} (h : Fam w B (R ++ S)) : Fam w B (S ++ R) := by
  refine ⟨fun p hp => h.own p (by simp only [List.mem_append] at hp ⊢; exact hp.symm), fun i j a b hij hi hj => ?_⟩
  have key : ∀ (i : Nat) (a : Value × List Int), (S ++ R)[i]? = some a → (R ++ S)[if i < S.length then i + R.length else i - S.length]? = some a ∧ i < S.length + R.length := by
    intro i a hi
    have hl := (List.getElem?_eq_some_iff.1 hi).1
    rw [List.length_append] at hl
    refine ⟨?_, hl⟩
    by_cases e : i < S.length
    · rw [if_pos e, List.getElem?_append_right (by omega), Nat.add_sub_cancel]
      rwa [List.getElem?_append_left e] at hi
    · rw [if_neg e, List.getElem?_append_left (by omega)]
      rwa [List.getElem?_append_right (by omega)] at hi
  obtain ⟨h1, h2⟩ := key i a hi
  obtain ⟨h3, h4⟩ := key j b hj
  refine h.apart _ _ a b ?_ h1 h3
  split <;> split <;> omega
end Go.Proofs.Ytfcjdfjobneeeaa

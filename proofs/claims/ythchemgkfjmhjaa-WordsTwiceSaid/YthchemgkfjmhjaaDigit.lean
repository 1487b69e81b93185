/- Decimal digits in a text, in plain words: what number begins there. -/
import Derived.Test.YthchemgkfjmhjaaGroup
namespace Go.Proofs.Ythchemgkfjmhjaa
open Go.RowKit

def isDig (b : UInt8) : Bool := decide (48 ≤ b.toNat) && decide (b.toNat ≤ 57)
theorem isDig_iff {b : UInt8} : isDig b = true ↔ 48 ≤ b.toNat ∧ b.toNat ≤ 57 := by unfold isDig; simp
def dval (l : List UInt8) : Nat := l.foldl (fun n b => n * 10 + (b.toNat - 48)) 0
theorem dval_snoc (l : List UInt8) (b : UInt8) : dval (l ++ [b]) = dval l * 10 + (b.toNat - 48) := by unfold dval; rw [List.foldl_append]; rfl
theorem dval_mono (l r : List UInt8) : dval l ≤ dval (l ++ r) := by
  have : ∀ (r l : List UInt8), dval l ≤ dval (l ++ r) := by
    intro r
    induction r with
    | nil => intro l; simp
    | cons b r ih =>
      intro l
      have := ih (l ++ [b])
      rw [dval_snoc] at this
      rw [List.append_assoc] at this
      simp only [List.singleton_append] at this
      omega
  exact this r l

/-- The digits that stand at a text's beginning. -/
def digs (l : List UInt8) : List UInt8 := l.takeWhile isDig
/-- The number that they say, and how many they are; none: there are none, or they may not stand so. -/
def numO (l : List UInt8) : Option (Nat × Nat) :=
  if digs l = [] then none else if (digs l).head? = some 48 ∧ 1 < (digs l).length then none else if 2147483647 < dval (digs l) then none else some (dval (digs l), (digs l).length)

theorem take_digs {l : List UInt8} {j : Nat} (hj : j ≤ l.length) (h : ∀ i, i < j → ∀ b, l[i]? = some b → isDig b = true) : ∃ r, digs l = l.take j ++ r := by
  have e : l.takeWhile isDig = l.take j ++ (l.drop j).takeWhile isDig := by
    have : ∀ b ∈ l.take j, isDig b = true := by
      intro b hb
      obtain ⟨i, hi, e⟩ := List.getElem_of_mem hb
      rw [List.length_take] at hi
      rw [List.getElem_take] at e
      exact h i (by omega) b (by rw [← e]; exact List.getElem?_eq_getElem (by omega))
    have h2 := List.takeWhile_append_of_pos (p := isDig) (l₁ := l.take j) (l₂ := l.drop j) this
    rwa [List.take_append_drop] at h2
  exact ⟨_, e⟩
theorem digs_end {l : List UInt8} {j : Nat} (hj : j ≤ l.length) (h : ∀ i, i < j → ∀ b, l[i]? = some b → isDig b = true) (he : ∀ b, l[j]? = some b → isDig b = false) : digs l = l.take j := by
  have : ∀ b ∈ l.take j, isDig b = true := by
    intro b hb
    obtain ⟨i, hi, e⟩ := List.getElem_of_mem hb
    rw [List.length_take] at hi
    rw [List.getElem_take] at e
    exact h i (by omega) b (by rw [← e]; exact List.getElem?_eq_getElem (by omega))
  have h2 := List.takeWhile_append_of_pos (p := isDig) (l₁ := l.take j) (l₂ := l.drop j) this
  rw [List.take_append_drop] at h2
  unfold digs
  rw [h2]
  have : (l.drop j).takeWhile isDig = [] := by
    cases hd : l.drop j with
    | nil => rfl
    | cons b r =>
      have hb : l[j]? = some b := by
        have := List.getElem?_drop (xs := l) (i := j) (j := 0)
        rw [hd] at this; simpa using this.symm
      simp [he b hb]
  rw [this, List.append_nil]
end Go.Proofs.Ythchemgkfjmhjaa

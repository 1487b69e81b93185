/- Ascii, plain: a text that is read ends with a line's end. -/
import Derived.Test.YtkkolefhfmlhfabDoorAscW
namespace Go.Proofs.YtkkolefhfmlhfabDoor
open Go.RowKit

/-- A text whose last byte, if it has one, is a line's end. -/
def EndL (r : Bs) : Prop := ∀ x, r.getLast? = some x → x = 10
theorem end_line {r l r1 : Bs} (h : lineA r = some (l, r1)) (h1 : EndL r1) : EndL r := by
  have e := (lineA_some h).1
  subst e
  intro x hx
  cases r1 with
  | nil => simp at hx; exact hx.symm
  | cons y t =>
    have h2 : (l ++ 10 :: y :: t).getLast? = (y :: t).getLast? := by simp [List.getLast?_append, List.getLast?_cons]
    rw [h2] at hx
    exact h1 x hx
theorem end_row {a b : Nat} {r r1 : Bs} {ns : List Nat} (h : rowA a b r = .ok (ns, r1)) (h1 : EndL r1) : EndL r := by
  unfold rowA at h
  cases hl : lineA r with
  | none => rw [hl] at h; cases h
  | some y =>
    obtain ⟨l, r'⟩ := y
    rw [hl] at h
    simp only at h
    cases hn : numbersA a b l with
    | none => rw [hn] at h; cases h
    | some ns' =>
      rw [hn] at h
      injection h with h
      injection h with _ h2
      subst h2
      exact end_line hl h1
theorem end_list : ∀ {n m : Nat} {r r1 : Bs} {xs : List Nat}, listA m n r = .ok (xs, r1) → EndL r1 → EndL r
  | 0, m, r, r1, xs, h, h1 => by
    unfold listA at h
    injection h with h
    injection h with _ h2
    subst h2
    exact h1
  | n + 1, m, r, r1, xs, h, h1 => by
    unfold listA at h
    cases hr : rowA 1 1 r with
    | error k => rw [hr] at h; cases h
    | ok y =>
      obtain ⟨ns, r'⟩ := y
      rw [hr] at h
      simp only at h
      split at h
      · cases h
      · cases hq : listA m n r' with
        | error k => rw [hq] at h; cases h
        | ok y =>
          obtain ⟨ys, r2⟩ := y
          rw [hq] at h
          injection h with h
          injection h with _ h2
          subst h2
          exact end_row hr (end_list hq h1)
theorem end_latch : ∀ {n : Nat} {r r1 : Bs} {xs : List (Nat × Nat × Nat)}, latchA n r = .ok (xs, r1) → EndL r1 → EndL r
  | 0, r, r1, xs, h, h1 => by
    unfold latchA at h
    injection h with h
    injection h with _ h2
    subst h2
    exact h1
  | n + 1, r, r1, xs, h, h1 => by
    unfold latchA at h
    cases hr : rowA 2 3 r with
    | error k => rw [hr] at h; cases h
    | ok y =>
      obtain ⟨ns, r'⟩ := y
      rw [hr] at h
      simp only at h
      cases hq : latchA n r' with
      | error k => rw [hq] at h; cases h
      | ok y =>
        obtain ⟨ys, r2⟩ := y
        rw [hq] at h
        injection h with h
        injection h with _ h2
        subst h2
        exact end_row hr (end_latch hq h1)
theorem end_gate : ∀ {n : Nat} {r r1 : Bs} {xs : List (Nat × Nat × Nat)}, gateA n r = .ok (xs, r1) → EndL r1 → EndL r
  | 0, r, r1, xs, h, h1 => by
    unfold gateA at h
    injection h with h
    injection h with _ h2
    subst h2
    exact h1
  | n + 1, r, r1, xs, h, h1 => by
    unfold gateA at h
    cases hr : rowA 3 3 r with
    | error k => rw [hr] at h; cases h
    | ok y =>
      obtain ⟨ns, r'⟩ := y
      rw [hr] at h
      simp only at h
      cases hq : gateA n r' with
      | error k => rw [hq] at h; cases h
      | ok y =>
        obtain ⟨ys, r2⟩ := y
        rw [hq] at h
        injection h with h
        injection h with _ h2
        subst h2
        exact end_row hr (end_gate hq h1)
theorem end_lists : ∀ {ns : List Nat} {r r1 : Bs} {xs : List (List Nat)}, listsA ns r = .ok (xs, r1) → EndL r1 → EndL r
  | [], r, r1, xs, h, h1 => by
    unfold listsA at h
    injection h with h
    injection h with _ h2
    subst h2
    exact h1
  | n :: ns, r, r1, xs, h, h1 => by
    unfold listsA at h
    cases hr : listA 2147483647 n r with
    | error k => rw [hr] at h; cases h
    | ok y =>
      obtain ⟨ms, r'⟩ := y
      rw [hr] at h
      simp only at h
      cases hq : listsA ns r' with
      | error k => rw [hq] at h; cases h
      | ok y =>
        obtain ⟨ys, r2⟩ := y
        rw [hq] at h
        injection h with h
        injection h with _ h2
        subst h2
        exact end_list hr (end_lists hq h1)
theorem end_just {n : Nat} {r r1 : Bs} {xs : List (List Nat)} (h : justA n r = .ok (xs, r1)) (h1 : EndL r1) : EndL r := by
  unfold justA at h
  cases hr : listA 16384 n r with
  | error k => rw [hr] at h; cases h
  | ok y =>
    obtain ⟨ms, r'⟩ := y
    rw [hr] at h
    simp only at h
    exact end_list hr (end_lists h h1)
theorem end_body {c : List Nat} {r r1 : Bs} {C : Circ} (h : bodyA c r = .ok (C, r1)) (h1 : EndL r1) : EndL r := by
  unfold bodyA at h
  cases q1 : listA 2147483647 (c.getD 1 0) r with
  | error k => rw [q1] at h; cases h
  | ok y1 =>
  obtain ⟨x1, r1⟩ := y1
  rw [q1] at h; simp only at h
  cases q2 : latchA (c.getD 2 0) r1 with
  | error k => rw [q2] at h; cases h
  | ok y2 =>
  obtain ⟨x2, r2⟩ := y2
  rw [q2] at h; simp only at h
  cases q3 : listA 2147483647 (c.getD 3 0) r2 with
  | error k => rw [q3] at h; cases h
  | ok y3 =>
  obtain ⟨x3, r3⟩ := y3
  rw [q3] at h; simp only at h
  cases q4 : listA 2147483647 (c.getD 5 0) r3 with
  | error k => rw [q4] at h; cases h
  | ok y4 =>
  obtain ⟨x4, r4⟩ := y4
  rw [q4] at h; simp only at h
  cases q5 : listA 2147483647 (c.getD 6 0) r4 with
  | error k => rw [q5] at h; cases h
  | ok y5 =>
  obtain ⟨x5, r5⟩ := y5
  rw [q5] at h; simp only at h
  cases q6 : justA (c.getD 7 0) r5 with
  | error k => rw [q6] at h; cases h
  | ok y6 =>
  obtain ⟨x6, r6⟩ := y6
  rw [q6] at h; simp only at h
  cases q7 : listA 2147483647 (c.getD 8 0) r6 with
  | error k => rw [q7] at h; cases h
  | ok y7 =>
  obtain ⟨x7, r7⟩ := y7
  rw [q7] at h; simp only at h
  cases q8 : gateA (c.getD 4 0) r7 with
  | error k => rw [q8] at h; cases h
  | ok y8 =>
  obtain ⟨x8, r8⟩ := y8
  rw [q8] at h; simp only at h
  injection h with h
  injection h with _ h2
  subst h2
  exact end_list q1 (end_latch q2 (end_list q3 (end_list q4 (end_list q5 (end_just q6 (end_list q7 (end_gate q8 h1)))))))
theorem end_notes : ∀ {n : Nat} {r : Bs} {ls : List Bs}, r.length ≤ n → notesA n r = .ok ls → EndL r
  | 0, r, ls, hn, _ => by
    have : r = [] := List.length_eq_zero_iff.1 (by omega)
    subst this
    intro x hx
    simp at hx
  | n + 1, r, ls, hn, h => by
    unfold notesA at h
    by_cases hr : r = []
    · subst hr; intro x hx; simp at hx
    · rw [if_neg hr] at h
      cases hl : lineA r with
      | none => rw [hl] at h; cases h
      | some y =>
        obtain ⟨l, r'⟩ := y
        rw [hl] at h
        simp only at h
        cases hq : notesA n r' with
        | error k => rw [hq] at h; cases h
        | ok ys => exact end_line hl (end_notes (by have := (lineA_len hl).1; omega) hq)
theorem end_tail : ∀ {n : Nat} {r : Bs} {ss : List SyA} {ls : List Bs}, r.length ≤ n → tailA n r = .ok (ss, ls) → EndL r
  | 0, r, ss, ls, hn, _ => by
    have : r = [] := List.length_eq_zero_iff.1 (by omega)
    subst this
    intro x hx
    simp at hx
  | n + 1, r, ss, ls, hn, h => by
    unfold tailA at h
    by_cases hr : r = []
    · subst hr; intro x hx; simp at hx
    · rw [if_neg hr] at h
      cases hl : lineA r with
      | none => rw [hl] at h; cases h
      | some y =>
        obtain ⟨l, r'⟩ := y
        rw [hl] at h
        simp only at h
        have hk := (lineA_len hl).1
        split at h
        · cases hq : notesA n r' with
          | error k => rw [hq] at h; cases h
          | ok ys => exact end_line hl (end_notes (by omega) hq)
        · cases hs : symA l with
          | none => rw [hs] at h; cases h
          | some z =>
            rw [hs] at h
            simp only at h
            cases hq : tailA n r' with
            | error k => rw [hq] at h; cases h
            | ok ys =>
              obtain ⟨y1, y2⟩ := ys
              exact end_line hl (end_tail (by omega) hq)
theorem headA_line {s wd r : Bs} {c : List Nat} (h : headA s = .ok (wd, c, r)) : ∃ l, lineA s = some (l, r) := (head_inv h).1
theorem circA_end {s : Bs} {C : Circ} (h : circA s = .ok C) : EndL s ∧ s ≠ [] ∧ s.length ≤ 262144 := by
  unfold circA at h
  by_cases hs : 262144 < s.length
  · rw [if_pos hs] at h; cases h
  · rw [if_neg hs] at h
    cases hq : headA s with
    | error e => rw [hq] at h; cases h
    | ok y =>
      obtain ⟨wd, c, r⟩ := y
      rw [hq] at h
      simp only at h
      split at h
      · cases h
      · cases hb : bodyA c r with
        | error k => rw [hb] at h; cases h
        | ok y =>
          obtain ⟨C', r1⟩ := y
          rw [hb] at h
          simp only at h
          cases ht : tailA r1.length r1 with
          | error k => rw [ht] at h; cases h
          | ok y =>
            obtain ⟨ss, ls⟩ := y
            obtain ⟨l, hl⟩ := headA_line hq
            refine ⟨end_line hl (end_body hb (end_tail (Nat.le_refl _) ht)), ?_, by omega⟩
            rintro rfl
            cases hl
/-- A text that is a circuit. -/
def ReadsA (s : Bs) : Prop := ∃ C, circA s = .ok C ∧ (checkR C).2 = 0
theorem ReadsA.end_ {s : Bs} (h : ReadsA s) : EndL s ∧ s ≠ [] ∧ s.length ≤ 262144 := by
  obtain ⟨C, h1, _⟩ := h
  exact circA_end h1
theorem reads_more {s : Bs} {b : UInt8} (hb : b ≠ 10) : ¬ ReadsA (s ++ [b]) := fun h => hb (h.end_.1 b (by simp))
theorem reads_less {s : Bs} (h : ReadsA s) : s[s.length - 1]? = some 10 := by
  obtain ⟨h1, h2, _⟩ := h.end_
  have h3 := h1 (s.getLast h2) (by rw [List.getLast?_eq_some_getLast h2])
  rw [← h3, List.getLast_eq_getElem]
  exact List.getElem?_eq_getElem (by have := List.length_pos_iff.2 h2; omega)
end Go.Proofs.YtkkolefhfmlhfabDoor

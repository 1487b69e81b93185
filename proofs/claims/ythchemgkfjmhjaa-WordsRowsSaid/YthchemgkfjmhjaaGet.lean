/- Groups of seven bits in a text, in plain words: the number whose groups begin there. -/
import Derived.Test.YthchemgkfjmhjaaGroup
namespace Go.Proofs.Ythchemgkfjmhjaa
open Go.RowKit

/-- The number that groups say. -/
def gval (l : List UInt8) : Nat := l.foldr (fun b n => b.toNat % 128 + 128 * n) 0
theorem gval_snoc (l : List UInt8) (b : UInt8) : gval (l ++ [b]) = gval l + b.toNat % 128 * 128 ^ l.length := by
  induction l with
  | nil => simp [gval]
  | cons a l ih =>
    have e : gval (a :: l ++ [b]) = a.toNat % 128 + 128 * gval (l ++ [b]) := rfl
    have e2 : gval (a :: l) = a.toNat % 128 + 128 * gval l := rfl
    rw [e, e2, ih, List.length_cons, Nat.pow_succ, Nat.mul_add, ← Nat.mul_assoc 128]
    have : 128 * (b.toNat % 128) * 128 ^ l.length = b.toNat % 128 * (128 ^ l.length * 128) := by
      rw [Nat.mul_comm 128, Nat.mul_assoc, Nat.mul_comm 128]
    omega
theorem gval_groups : ∀ n, gval (groups n) = n := by
  intro n
  induction n using Nat.strongRecOn with
  | _ n ih =>
    by_cases h : n < 128
    · rw [groups_one h]
      show (byteOf n).toNat % 128 + 128 * 0 = n
      rw [byteOf_toNat (by omega)]; omega
    · rw [groups_more h]
      show (byteOf (n % 128 + 128)).toNat % 128 + 128 * gval (groups (n / 128)) = n
      rw [byteOf_toNat (by omega), ih (n / 128) (by omega)]; omega
theorem gval_bound (l : List UInt8) : gval l < 128 ^ l.length := by
  induction l with
  | nil => simp [gval]
  | cons a l ih =>
    have e2 : gval (a :: l) = a.toNat % 128 + 128 * gval l := rfl
    rw [e2, List.length_cons, Nat.pow_succ]; omega

/-- All but the last group have 128 more; the last one has not. -/
def Ends (l : List UInt8) : Prop := ∃ p b, l = p ++ [b] ∧ b.toNat < 128 ∧ ∀ a ∈ p, 128 ≤ a.toNat
theorem groups_ends : ∀ n, Ends (groups n) := by
  intro n
  induction n using Nat.strongRecOn with
  | _ n ih =>
    by_cases h : n < 128
    · exact ⟨[], byteOf n, by rw [groups_one h]; rfl, by rw [byteOf_toNat (by omega)]; exact h, by simp⟩
    · obtain ⟨p, b, h1, h2, h3⟩ := ih (n / 128) (by omega)
      refine ⟨byteOf (n % 128 + 128) :: p, b, by rw [groups_more h, h1]; rfl, h2, fun a ha => ?_⟩
      rcases List.mem_cons.1 ha with e | e
      · rw [e, byteOf_toNat (by omega)]; omega
      · exact h3 a e
/-- Where groups end is settled by the bytes. -/
theorem ends_unique : ∀ {p q : List UInt8} {r r' : List UInt8} {a b : UInt8}, p ++ [a] ++ r = q ++ [b] ++ r' → a.toNat < 128 → b.toNat < 128 → (∀ x ∈ p, 128 ≤ x.toNat) → (∀ x ∈ q, 128 ≤ x.toNat) → p ++ [a] = q ++ [b] := by
  intro p
  induction p with
  | nil =>
    intro q r r' a b h ha hb hp hq
    cases q with
    | nil => simp at h; simp [h.1]
    | cons x q =>
      simp at h
      have := hq x (by simp)
      rw [← h.1] at this; omega
  | cons y p ih =>
    intro q r r' a b h ha hb hp hq
    cases q with
    | nil =>
      simp at h
      have := hp y (by simp)
      rw [h.1] at this; omega
    | cons x q =>
      simp only [List.cons_append, List.cons.injEq] at h
      have := ih (q := q) (r := r) (r' := r') (a := a) (b := b) h.2 ha hb (fun x hx => hp x (by simp [hx])) (fun x hx => hq x (by simp [hx]))
      rw [List.cons_append, List.cons_append, this, h.1]

/-- The number whose groups begin a text, and how many bytes they are. -/
noncomputable def getO (l : List UInt8) : Option (Nat × Nat) := by
  classical exact if h : ∃ n, n ≤ 2147483647 ∧ ∃ r, l = groups n ++ r then some (h.choose, (groups h.choose).length) else none
theorem getO_some {l r : List UInt8} {n : Nat} (hn : n ≤ 2147483647) (h : l = groups n ++ r) : getO l = some (n, (groups n).length) := by
  have hex : ∃ n, n ≤ 2147483647 ∧ ∃ r, l = groups n ++ r := ⟨n, hn, r, h⟩
  unfold getO
  rw [dif_pos hex]
  obtain ⟨_, r', h'⟩ := hex.choose_spec
  have := (groups_prefix _ _ _ _ (h'.symm.trans h)).1
  rw [this]
theorem getO_none {l : List UInt8} (h : ∀ n r, n ≤ 2147483647 → l ≠ groups n ++ r) : getO l = none := by
  unfold getO
  rw [dif_neg]
  rintro ⟨n, hn, r, e⟩
  exact h n r hn e
/-- No end within five bytes: no number. -/
theorem getO_long {l : List UInt8} {j : Nat} (hj : j = 5 ∨ j = l.length) (_hl : j ≤ l.length) (h : ∀ a ∈ l.take j, 128 ≤ a.toNat) : getO l = none := by
  refine getO_none fun n r hn e => ?_
  obtain ⟨p, b, h1, h2, h3⟩ := groups_ends n
  have h5 : (groups n).length ≤ 5 := (groups_len n).2 (by omega)
  have hlen : (groups n).length ≤ j := by
    rcases hj with e1 | e1
    · omega
    · rw [e1, e, List.length_append]; omega
  have hb : b ∈ l.take j := by
    have e2 : l.take (groups n).length = groups n := by rw [e]; simp
    have e3 : (l.take j).take (groups n).length = groups n := by rw [List.take_take, Nat.min_eq_left hlen, e2]
    have : b ∈ (l.take j).take (groups n).length := by rw [e3, h1]; simp
    exact List.mem_of_mem_take this
  have := h b hb
  omega
/-- An end: the number is what the bytes say, if these are its groups. -/
theorem getO_end {l : List UInt8} {p : List UInt8} {b : UInt8} {r : List UInt8} (hl : l = p ++ [b] ++ r) (hb : b.toNat < 128) (hp : ∀ a ∈ p, 128 ≤ a.toNat) :
    getO l = if gval (p ++ [b]) ≤ 2147483647 ∧ groups (gval (p ++ [b])) = p ++ [b] then some (gval (p ++ [b]), (p ++ [b]).length) else none := by
  by_cases h : gval (p ++ [b]) ≤ 2147483647 ∧ groups (gval (p ++ [b])) = p ++ [b]
  · rw [if_pos h]
    have := getO_some (l := l) (r := r) h.1 (h.2.symm ▸ hl)
    rw [this, h.2]
  · rw [if_neg h]
    refine getO_none fun n r' hn e => h ?_
    obtain ⟨q, c, h1, h2, h3⟩ := groups_ends n
    have := ends_unique (hl.symm.trans (by rw [e, h1])) hb h2 hp h3
    rw [← h1] at this
    rw [this, gval_groups]
    exact ⟨hn, rfl⟩
end Go.Proofs.Ythchemgkfjmhjaa

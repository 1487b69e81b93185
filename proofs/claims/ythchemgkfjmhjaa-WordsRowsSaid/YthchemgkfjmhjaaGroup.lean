/- Numbers as groups of seven bits and as decimal digits, in plain words; nothing here speaks of the program. -/
import Derived.Test.YthchemgkfjmhjaaWords
import Derived.LoopTactic
import Derived.Below
import Derived.Lib.Hide
import Derived.BigQuiet
import Derived.Deep.QuietTactic
import Derived.ProofKit
import Derived.OpenShut
namespace Go.Proofs.Ythchemgkfjmhjaa
open Go.RowKit

def byteOf (n : Nat) : UInt8 := UInt8.ofNat n
theorem byteOf_toNat {n : Nat} (h : n < 256) : (byteOf n).toNat = n := by
  unfold byteOf; rw [UInt8.toNat_ofNat']; omega

/-- A number's groups: seven bits each, the lowest first; each but the last one with 128 more. -/
def groups (n : Nat) : List UInt8 := if n < 128 then [byteOf n] else byteOf (n % 128 + 128) :: groups (n / 128)
termination_by n
decreasing_by omega
theorem groups_one {n : Nat} (h : n < 128) : groups n = [byteOf n] := by rw [groups, if_pos h]
theorem groups_more {n : Nat} (h : ¬ n < 128) : groups n = byteOf (n % 128 + 128) :: groups (n / 128) := by rw [groups, if_neg h]

theorem groups_len (n : Nat) : 0 < (groups n).length ∧ (n < 128 ^ 5 → (groups n).length ≤ 5) := by
  have h : ∀ k n, n < 128 ^ (k + 1) → (groups n).length ≤ k + 1 := by
    intro k
    induction k with
    | zero => intro n hn; rw [groups_one (by simpa using hn)]; simp
    | succ k ih =>
      intro n hn
      by_cases h1 : n < 128
      · rw [groups_one h1]; simp
      · rw [groups_more h1, List.length_cons]
        have := ih (n / 128) (by rw [Nat.pow_succ] at hn; exact Nat.div_lt_of_lt_mul (by omega))
        omega
  refine ⟨?_, h 4 n⟩
  by_cases h1 : n < 128
  · rw [groups_one h1]; simp
  · rw [groups_more h1]; simp

/-- No number's groups begin another one's. -/
theorem groups_prefix : ∀ (n m : Nat) (r r' : List UInt8), groups n ++ r = groups m ++ r' → n = m ∧ r = r' := by
  intro n
  induction n using Nat.strongRecOn with
  | _ n ih =>
    intro m r r' h
    by_cases h1 : n < 128
    · by_cases h2 : m < 128
      · rw [groups_one h1, groups_one h2] at h
        simp only [List.cons_append, List.nil_append, List.cons.injEq] at h
        have := congrArg UInt8.toNat h.1
        rw [byteOf_toNat (by omega), byteOf_toNat (by omega)] at this
        exact ⟨this, h.2⟩
      · rw [groups_one h1, groups_more h2] at h
        simp only [List.cons_append, List.nil_append, List.cons.injEq] at h
        have := congrArg UInt8.toNat h.1
        rw [byteOf_toNat (by omega), byteOf_toNat (by omega)] at this; omega
    · by_cases h2 : m < 128
      · rw [groups_more h1, groups_one h2] at h
        simp only [List.cons_append, List.nil_append, List.cons.injEq] at h
        have := congrArg UInt8.toNat h.1
        rw [byteOf_toNat (by omega), byteOf_toNat (by omega)] at this; omega
      · rw [groups_more h1, groups_more h2] at h
        simp only [List.cons_append, List.cons.injEq] at h
        have h3 := congrArg UInt8.toNat h.1
        rw [byteOf_toNat (by omega), byteOf_toNat (by omega)] at h3
        obtain ⟨h4, h5⟩ := ih (n / 128) (by omega) (m / 128) r r' h.2
        exact ⟨by omega, h5⟩

/-- A greater number has no fewer groups. -/
theorem groups_mono : ∀ (m n : Nat), n ≤ m → (groups n).length ≤ (groups m).length := by
  intro m
  induction m using Nat.strongRecOn with
  | _ m ih =>
    intro n h
    by_cases h1 : n < 128
    · rw [groups_one h1]; have := (groups_len m).1; simp; omega
    · rw [groups_more h1, groups_more (n := m) (by omega)]
      simp only [List.length_cons]
      have := ih (m / 128) (by omega) (n / 128) (by omega)
      omega

/-- A number's decimal digits. -/
def decs (n : Nat) : List UInt8 := if n < 10 then [byteOf (48 + n)] else decs (n / 10) ++ [byteOf (48 + n % 10)]
termination_by n
decreasing_by omega
theorem decs_one {n : Nat} (h : n < 10) : decs n = [byteOf (48 + n)] := by rw [decs, if_pos h]
theorem decs_more {n : Nat} (h : ¬ n < 10) : decs n = decs (n / 10) ++ [byteOf (48 + n % 10)] := by rw [decs, if_neg h]
theorem decs_len : ∀ (k n : Nat), n < 10 ^ (k + 1) → (decs n).length ≤ k + 1 := by
  intro k
  induction k with
  | zero => intro n hn; rw [decs_one (by simpa using hn)]; simp
  | succ k ih =>
    intro n hn
    by_cases h1 : n < 10
    · rw [decs_one h1]; simp
    · rw [decs_more h1, List.length_append]
      have := ih (n / 10) (by rw [Nat.pow_succ] at hn; exact Nat.div_lt_of_lt_mul (by omega))
      simp; omega
end Go.Proofs.Ythchemgkfjmhjaa

/- Words of 64 bits as sums of powers of two: which bits they have, how a row of bits is laid in words, how many bits are 1. Nothing here speaks of the program. -/
namespace Go.Proofs.Ythchemgkfjmhjaa

/-- The number whose bit i is f i, for the first k bits. -/
def nb (f : Nat → Bool) : Nat → Nat
  | 0 => 0
  | k + 1 => nb f k + (f k).toNat * 2 ^ k
theorem nb_lt (f : Nat → Bool) (k : Nat) : nb f k < 2 ^ k := by
  induction k with
  | zero => simp [nb]
  | succ k ih =>
    rw [nb, Nat.pow_succ]
    cases f k <;> simp <;> omega
theorem nb_bit (f : Nat → Bool) (k j : Nat) : (nb f k).testBit j = (decide (j < k) && f j) := by
  induction k with
  | zero => simp [nb]
  | succ k ih =>
    rw [nb, Nat.add_comm, Nat.mul_comm, Nat.testBit_two_pow_mul_add _ (nb_lt f k)]
    by_cases h : j < k
    · rw [if_pos h, ih]; simp [h, show j < k + 1 by omega]
    · rw [if_neg h]
      by_cases h2 : j = k
      · subst h2; cases f j <;> simp
      · have : ¬ j < k + 1 := by omega
        have h3 : j - k ≠ 0 := by omega
        simp only [this, decide_false, Bool.false_and]
        obtain ⟨m, hm⟩ : ∃ m, j - k = m + 1 := ⟨j - k - 1, by omega⟩
        rw [hm]
        cases f k <;> simp [Nat.testBit_succ]
theorem nb_or (f : Nat → Bool) (k : Nat) (h : f k = true) : nb f k ||| 2 ^ k = nb f (k + 1) := by
  apply Nat.eq_of_testBit_eq
  intro j
  rw [Nat.testBit_or, nb_bit, nb_bit, Nat.testBit_two_pow]
  by_cases h1 : j < k
  · simp [h1, show j < k + 1 by omega, show ¬ k = j by omega]
  · by_cases h2 : j = k
    · subst h2; simp [h]
    · simp [h1, show ¬ j < k + 1 by omega, show ¬ k = j by omega]
theorem nb_skip (f : Nat → Bool) (k : Nat) (h : f k = false) : nb f (k + 1) = nb f k := by simp [nb, h]
theorem nb_set (f : Nat → Bool) (k : Nat) (h : f k = true) : nb f (k + 1) = nb f k + 2 ^ k := by simp [nb, h]
theorem nb_congr {f g : Nat → Bool} {k : Nat} (h : ∀ j, j < k → f j = g j) : nb f k = nb g k := by
  induction k with
  | zero => rfl
  | succ k ih => rw [nb, nb, ih (fun j hj => h j (by omega)), h k (by omega)]
theorem eq_of_bits {x y k : Nat} (hx : x < 2 ^ k) (hy : y < 2 ^ k) (h : ∀ j, j < k → x.testBit j = y.testBit j) : x = y := by
  apply Nat.eq_of_testBit_eq
  intro j
  by_cases hj : j < k
  · exact h j hj
  · rw [Nat.testBit_lt_two_pow (Nat.lt_of_lt_of_le hx (Nat.pow_le_pow_right (by omega) (by omega))), Nat.testBit_lt_two_pow (Nat.lt_of_lt_of_le hy (Nat.pow_le_pow_right (by omega) (by omega)))]
theorem nb_of (x k : Nat) (hx : x < 2 ^ k) : nb (fun j => x.testBit j) k = x := by
  refine eq_of_bits (nb_lt _ _) hx fun j hj => ?_
  rw [nb_bit]; simp [hj]
/-- Bits behind some place on are none: the number is short. -/
theorem nb_cut {f : Nat → Bool} {m k : Nat} (hmk : m ≤ k) (h : ∀ j, m ≤ j → j < k → f j = false) : nb f k = nb f m := by
  induction k with
  | zero => have : m = 0 := by omega
            subst this; rfl
  | succ k ih =>
    by_cases e : m = k + 1
    · subst e; rfl
    · rw [nb_skip _ _ (h k (by omega) (by omega)), ih (by omega) (fun j h1 h2 => h j h1 (by omega))]

/-- A row's bit, false behind its end. -/
abbrev bit (bs : List Bool) (i : Nat) : Bool := bs.getD i false

/-- A row's words. -/
def packL (bs : List Bool) : List Nat := (List.range ((bs.length + 63) / 64)).map fun i => nb (fun j => bit bs (64 * i + j)) 64
theorem packL_len (bs : List Bool) : (packL bs).length = (bs.length + 63) / 64 := by simp [packL]
theorem packL_get (bs : List Bool) (i : Nat) (h : i < (bs.length + 63) / 64) : (packL bs).getD i 0 = nb (fun j => bit bs (64 * i + j)) 64 := by
  have e : (packL bs)[i]? = some (nb (fun j => bit bs (64 * i + j)) 64) := by
    rw [packL, List.getElem?_map, List.getElem?_range h, Option.map_some]
  rw [List.getD, e, Option.getD_some]
theorem packL_get' (bs : List Bool) (i : Nat) : (packL bs).getD i 0 = nb (fun j => bit bs (64 * i + j)) 64 := by
  by_cases h : i < (bs.length + 63) / 64
  · exact packL_get bs i h
  · have e : (packL bs).getD i 0 = 0 := by simp [packL, List.getD, h]
    have e2 : nb (fun j => bit bs (64 * i + j)) 64 = nb (fun j => bit bs (64 * i + j)) 0 :=
      nb_cut (m := 0) (by omega) (fun j _ hj => by
        have hl : bs.length ≤ 64 * i + j := by omega
        show bs.getD (64 * i + j) false = false
        rw [List.getD, List.getElem?_eq_none hl]; rfl)
    rw [e, e2, nb]
theorem packL_lt (bs : List Bool) : ∀ x ∈ packL bs, x < 2 ^ 64 := by
  intro x hx
  obtain ⟨i, _, rfl⟩ := List.mem_map.1 hx
  exact nb_lt _ _

/-- The bit i of words. -/
def wbit (ws : List Nat) (i : Nat) : Bool := (ws.getD (i / 64) 0).testBit (i % 64)
theorem packL_bit (bs : List Bool) (i : Nat) : wbit (packL bs) i = bit bs i := by
  unfold wbit
  rw [packL_get', nb_bit, show 64 * (i / 64) + i % 64 = i by omega]
  simp [show i % 64 < 64 by omega]

/-- The row of n bits of words. -/
def rowL (ws : List Nat) (n : Nat) : List Bool := (List.range n).map (wbit ws)
theorem rowL_len (ws : List Nat) (n : Nat) : (rowL ws n).length = n := by simp [rowL]
theorem rowL_bit (ws : List Nat) (n i : Nat) : bit (rowL ws n) i = (decide (i < n) && wbit ws i) := by
  by_cases h : i < n
  · simp [rowL, bit, List.getD, h]
  · simp [rowL, bit, List.getD, h]
theorem ext_bits {as bs : List Bool} (hl : as.length = bs.length) (h : ∀ i, i < bs.length → bit as i = bit bs i) : as = bs := by
  apply List.ext_getElem hl
  intro i h1 h2
  have := h i h2
  simpa [bit, List.getD, h1, h2] using this
theorem rowL_packL (bs : List Bool) : rowL (packL bs) bs.length = bs := by
  refine ext_bits (rowL_len _ _) fun i hi => ?_
  rw [rowL_bit, packL_bit]; simp [hi]

/-- Words are a row's words just if there are as many, and no bit stands behind the row. -/
def IsRow (ws : List Nat) (n : Nat) : Prop := ws.length = (n + 63) / 64 ∧ ∀ j, n ≤ 64 * (n / 64) + j → j < 64 → wbit ws (64 * (n / 64) + j) = false
theorem packL_rowL {ws : List Nat} {n : Nat} (hw : ∀ x ∈ ws, x < 2 ^ 64) : packL (rowL ws n) = ws ↔ IsRow ws n := by
  constructor
  · intro e
    refine ⟨by rw [← e, packL_len, rowL_len], fun j h1 h2 => ?_⟩
    rw [← e, packL_bit, rowL_bit]
    simp; omega
  · rintro ⟨h1, h2⟩
    apply List.ext_getElem (by rw [packL_len, rowL_len, h1])
    intro i ha hb
    have e1 : (packL (rowL ws n)).getD i 0 = (packL (rowL ws n))[i] := by simp [List.getD, ha]
    have e2 : ws.getD i 0 = ws[i] := by simp [List.getD, hb]
    rw [← e1, ← e2, packL_get']
    have hlt : ws.getD i 0 < 2 ^ 64 := by rw [e2]; exact hw _ (List.getElem_mem hb)
    refine eq_of_bits (nb_lt _ _) hlt fun j hj => ?_
    rw [nb_bit, rowL_bit]
    have e3 : wbit ws (64 * i + j) = (ws.getD i 0).testBit j := by
      unfold wbit; rw [show (64 * i + j) / 64 = i by omega, show (64 * i + j) % 64 = j by omega]
    rw [e3]
    simp only [hj, decide_true, Bool.true_and]
    by_cases hn : 64 * i + j < n
    · simp [hn]
    · have hi : i = n / 64 := by omega
      have := h2 j (by omega) hj
      rw [← hi, e3] at this
      rw [this]; simp [hn]

/-- How many bits of a word are 1. -/
def pop (x : Nat) : Nat := if h : x = 0 then 0 else x % 2 + pop (x / 2)
theorem pop_zero : pop 0 = 0 := by rw [pop]; simp
theorem pop_step (x : Nat) : pop x = x % 2 + pop (x / 2) := by
  by_cases h : x = 0
  · subst h; rw [pop]; simp
  · conv => lhs; rw [pop]
    simp [h]
theorem pop_le (k : Nat) : ∀ x, x < 2 ^ k → pop x ≤ k := by
  induction k with
  | zero => intro x hx; have : x = 0 := by simpa using hx
            subst this; rw [pop_zero]; omega
  | succ k ih => intro x hx; rw [pop_step]; have := ih (x / 2) (by rw [Nat.pow_succ] at hx; omega); omega
def pops (ws : List Nat) : Nat := (ws.map pop).sum
theorem pop_nb (f : Nat → Bool) : ∀ k, pop (nb f k) = ((List.range k).map (fun j => (f j).toNat)).sum := by
  intro k
  induction k generalizing f with
  | zero => simp [nb, pop_zero]
  | succ k ih =>
    have e : nb f (k + 1) = 2 * nb (fun j => f (j + 1)) k + (f 0).toNat := by
      refine eq_of_bits (k := k + 1) (nb_lt _ _) ?_ fun j hj => ?_
      · have := nb_lt (fun j => f (j + 1)) k
        rw [Nat.pow_succ]; cases f 0 <;> simp <;> omega
      · rw [nb_bit]
        cases j with
        | zero => cases h : f 0 <;> simp
        | succ j =>
          rw [Nat.testBit_succ, show (2 * nb (fun j => f (j + 1)) k + (f 0).toNat) / 2 = nb (fun j => f (j + 1)) k by cases f 0 <;> simp <;> omega, nb_bit]
          simp
    rw [e, pop_step, show (2 * nb (fun j => f (j + 1)) k + (f 0).toNat) / 2 = nb (fun j => f (j + 1)) k by cases f 0 <;> simp <;> omega, show (2 * nb (fun j => f (j + 1)) k + (f 0).toNat) % 2 = (f 0).toNat by cases f 0 <;> simp <;> omega, ih, List.range_succ_eq_map]
    simp [List.sum_cons, Function.comp_def]
end Go.Proofs.Ythchemgkfjmhjaa

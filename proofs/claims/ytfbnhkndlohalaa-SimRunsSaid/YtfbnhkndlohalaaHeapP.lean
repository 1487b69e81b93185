/- A heap of numbers as plain data: push, pop; the least one comes first. -/
import Derived.Test.YtfbnhkndlohalaaTarjC
namespace Go.Proofs.Ytfbnhkndlohalaa
open Go.RowKit

/-- Two members change places. -/
def swapL (xs : List Int) (i j : Nat) : List Int := (xs.set i (xs.getD j 0)).set j (xs.getD i 0)
def upF : Nat → List Int → Nat → List Int
  | 0, xs, _ => xs
  | f + 1, xs, j => if j = 0 then xs else if xs.getD j 0 < xs.getD ((j - 1) / 2) 0 then upF f (swapL xs ((j - 1) / 2) j) ((j - 1) / 2) else xs
/-- The lesser child. -/
def kid (xs : List Int) (i n : Nat) : Nat := if 2 * i + 2 < n ∧ xs.getD (2 * i + 2) 0 < xs.getD (2 * i + 1) 0 then 2 * i + 2 else 2 * i + 1
def downF : Nat → List Int → Nat → Nat → List Int
  | 0, xs, _, _ => xs
  | f + 1, xs, i, n => if n ≤ 2 * i + 1 then xs else if xs.getD (kid xs i n) 0 < xs.getD i 0 then downF f (swapL xs i (kid xs i n)) (kid xs i n) n else xs
def pushF (xs : List Int) (x : Int) : List Int := upF (xs.length + 1) (xs ++ [x]) xs.length
/-- What is left when the first one is taken, with it behind the rest. -/
def sunk (xs : List Int) : List Int := downF xs.length (swapL xs 0 (xs.length - 1)) 0 (xs.length - 1)
def popF (xs : List Int) : Int × List Int := ((sunk xs).getD (xs.length - 1) 0, (sunk xs).take (xs.length - 1))

theorem swap_len (xs : List Int) (i j : Nat) : (swapL xs i j).length = xs.length := by simp [swapL]
theorem swap_get {xs : List Int} {i j : Nat} (hi : i < xs.length) (hj : j < xs.length) (k : Nat) : (swapL xs i j).getD k 0 = if k = j then xs.getD i 0 else if k = i then xs.getD j 0 else xs.getD k 0 := by
  unfold swapL
  rw [getD_set (by simpa using hj), getD_set hi]
  by_cases h : k = j
  · rw [if_pos h.symm, if_pos h]
  · rw [if_neg (fun e => h e.symm), if_neg h]
    by_cases h2 : k = i
    · rw [if_pos h2.symm, if_pos h2]
    · rw [if_neg (fun e => h2 e.symm), if_neg h2]
theorem perm_set_head : ∀ (xs : List Int) (j : Nat) (x b : Int), xs[j]? = some b → (b :: xs.set j x).Perm (x :: xs)
  | [], _, _, _, h => by simp at h
  | y :: ys, 0, x, b, h => by
    simp at h; subst h
    exact List.Perm.swap _ _ _
  | y :: ys, j + 1, x, b, h => by
    simp only [List.set_cons_succ]
    exact ((List.Perm.swap _ _ _).trans ((perm_set_head ys j x b (by simpa using h)).cons y)).trans (List.Perm.swap _ _ _)
theorem perm_set_swap : ∀ (xs : List Int) (i j : Nat) (a b : Int), i ≠ j → xs[i]? = some a → xs[j]? = some b → ((xs.set i b).set j a).Perm xs
  | [], _, _, _, _, _, h, _ => by simp at h
  | x :: xs, 0, 0, _, _, h, _, _ => absurd rfl h
  | x :: xs, 0, j + 1, a, b, _, h1, h2 => by
    simp at h1 h2
    subst h1
    simp only [List.set_cons_zero, List.set_cons_succ]
    exact perm_set_head xs j x b h2
  | x :: xs, i + 1, 0, a, b, _, h1, h2 => by
    simp at h1 h2
    subst h2
    simp only [List.set_cons_zero, List.set_cons_succ]
    exact perm_set_head xs i x a h1
  | x :: xs, i + 1, j + 1, a, b, h, h1, h2 => by
    simp only [List.set_cons_succ]
    exact (perm_set_swap xs i j a b (fun e => h (by omega)) (by simpa using h1) (by simpa using h2)).cons x
theorem set_same {xs : List Int} {i : Nat} {a : Int} (h : xs[i]? = some a) : xs.set i a = xs := by
  apply List.ext_getElem?
  intro k
  rw [List.getElem?_set]
  split
  · rename_i e; subst e
    obtain ⟨hl, _⟩ := List.getElem?_eq_some_iff.1 h
    rw [if_pos hl, h]
  · rfl
theorem swap_perm {xs : List Int} {i j : Nat} (hi : i < xs.length) (hj : j < xs.length) : (swapL xs i j).Perm xs := by
  have h1 := getD_some hi (d := 0)
  have h2 := getD_some hj (d := 0)
  unfold swapL
  by_cases e : i = j
  · subst e
    rw [set_same h1, set_same h1]
  · exact perm_set_swap xs i j _ _ e h1 h2
theorem up_perm : ∀ (f : Nat) (xs : List Int) (j : Nat), j < xs.length → (upF f xs j).Perm xs
  | 0, xs, _, _ => .refl _
  | f + 1, xs, j, h => by
    unfold upF
    split
    · exact .refl _
    · split
      · exact (up_perm f _ _ (by rw [swap_len]; omega)).trans (swap_perm (by omega) h)
      · exact .refl _
theorem kid_lt {xs : List Int} {i n : Nat} (h : ¬ n ≤ 2 * i + 1) : kid xs i n < n ∧ i < kid xs i n ∧ (kid xs i n - 1) / 2 = i := by
  unfold kid
  split
  · rename_i h2
    omega
  · omega
theorem down_perm : ∀ (f : Nat) (xs : List Int) (i n : Nat), n ≤ xs.length → (downF f xs i n).Perm xs
  | 0, xs, _, _, _ => .refl _
  | f + 1, xs, i, n, h => by
    unfold downF
    split
    · exact .refl _
    · rename_i h1
      obtain ⟨h2, h3, _⟩ := kid_lt (xs := xs) h1
      split
      · exact (down_perm f _ _ _ (by rw [swap_len]; exact h)).trans (swap_perm (by omega) (by omega))
      · exact .refl _
theorem down_above : ∀ (f : Nat) (xs : List Int) (i n : Nat), n ≤ xs.length → ∀ k, n ≤ k → (downF f xs i n).getD k 0 = xs.getD k 0
  | 0, xs, _, _, _, _, _ => rfl
  | f + 1, xs, i, n, h, k, hk => by
    unfold downF
    split
    · rfl
    · rename_i h1
      obtain ⟨h2, h3, _⟩ := kid_lt (xs := xs) h1
      split
      · rw [down_above f _ _ _ (by rw [swap_len]; exact h) k hk, swap_get (by omega) (by omega), if_neg (by omega), if_neg (by omega)]
      · rfl
theorem push_perm (xs : List Int) (x : Int) : (pushF xs x).Perm (xs ++ [x]) := up_perm _ _ _ (by simp)
theorem push_len (xs : List Int) (x : Int) : (pushF xs x).length = xs.length + 1 := by rw [(push_perm xs x).length_eq]; simp
theorem sunk_perm {xs : List Int} (h : xs ≠ []) : (sunk xs).Perm xs := by
  have hl : 0 < xs.length := List.length_pos_iff.2 h
  exact (down_perm _ _ _ _ (by rw [swap_len]; omega)).trans (swap_perm hl (by omega))
theorem sunk_len {xs : List Int} (h : xs ≠ []) : (sunk xs).length = xs.length := (sunk_perm h).length_eq
theorem pop_first {xs : List Int} (h : xs ≠ []) : (popF xs).1 = xs.getD 0 0 := by
  have hl : 0 < xs.length := List.length_pos_iff.2 h
  unfold popF sunk
  simp only
  rw [down_above _ _ _ _ (by rw [swap_len]; omega) _ (Nat.le_refl _), swap_get hl (by omega), if_pos rfl]
theorem snoc_of {xs : List Int} {n : Nat} (h : xs.length = n + 1) : xs = xs.take n ++ [xs.getD n 0] := by
  have h1 : xs[n]? = some (xs.getD n 0) := getD_some (by omega)
  have h2 : xs.take (n + 1) = xs := List.take_of_length_le (by omega)
  rw [List.take_add_one, h1] at h2
  simpa using h2.symm
theorem pop_perm {xs : List Int} (h : xs ≠ []) : ((popF xs).1 :: (popF xs).2).Perm xs := by
  have hl : 0 < xs.length := List.length_pos_iff.2 h
  have h1 := snoc_of (xs := sunk xs) (n := xs.length - 1) (by rw [sunk_len h]; omega)
  have h2 := sunk_perm h
  rw [h1] at h2
  refine List.Perm.trans ?_ h2
  show (_ :: _).Perm _
  exact (List.perm_append_comm (l₁ := [_]))
theorem pop_len {xs : List Int} (h : xs ≠ []) : (popF xs).2.length = xs.length - 1 := by
  have hl : 0 < xs.length := List.length_pos_iff.2 h
  show ((sunk xs).take _).length = _
  rw [List.length_take, sunk_len h]; omega

/-- No member is less than the one above it. -/
def Heap (xs : List Int) (n : Nat) : Prop := ∀ k, 0 < k → k < n → xs.getD ((k - 1) / 2) 0 ≤ xs.getD k 0
theorem heap_min {xs : List Int} {n : Nat} (h : Heap xs n) : ∀ k, k < n → xs.getD 0 0 ≤ xs.getD k 0 := by
  intro k
  induction k using Nat.strongRecOn with
  | ind k ih =>
    intro hk
    by_cases h0 : k = 0
    · subst h0; exact Int.le_refl _
    · exact Int.le_trans (ih ((k - 1) / 2) (by omega) (by omega)) (h k (by omega) hk)
theorem up_heap : ∀ (f : Nat) (xs : List Int) (j : Nat), j < f → j < xs.length → (∀ k, 0 < k → k < xs.length → k ≠ j → xs.getD ((k - 1) / 2) 0 ≤ xs.getD k 0) →
    (∀ k, 0 < k → k < xs.length → (k - 1) / 2 = j → 0 < j → xs.getD ((j - 1) / 2) 0 ≤ xs.getD k 0) → Heap (upF f xs j) xs.length
  | 0, _, _, h, _, _, _ => absurd h (by omega)
  | f + 1, xs, j, hf, hj, h1, h2 => by
    unfold upF
    by_cases h0 : j = 0
    · rw [if_pos h0]
      intro k hk hkn
      exact h1 k hk hkn (by omega)
    · rw [if_neg h0]
      by_cases hlt : xs.getD j 0 < xs.getD ((j - 1) / 2) 0
      · rw [if_pos hlt]
        have hp : (j - 1) / 2 < xs.length := by omega
        have := up_heap f (swapL xs ((j - 1) / 2) j) ((j - 1) / 2) (by omega) (by rw [swap_len]; exact hp) ?_ ?_
        · rw [swap_len] at this; exact this
        · intro k hk hkn hne
          rw [swap_len] at hkn
          rw [swap_get hp hj, swap_get hp hj]
          by_cases e1 : k = j
          · subst e1
            rw [if_pos rfl, if_neg (by omega), if_pos rfl]
            omega
          · rw [if_neg e1, if_neg (by omega : ¬ k = (j - 1) / 2)]
            by_cases e2 : (k - 1) / 2 = j
            · rw [if_pos e2]
              exact h2 k hk hkn e2 (by omega)
            · rw [if_neg e2]
              by_cases e3 : (k - 1) / 2 = (j - 1) / 2
              · rw [if_pos e3]
                have := h1 k hk hkn e1
                rw [e3] at this
                omega
              · rw [if_neg e3]
                exact h1 k hk hkn e1
        · intro k hk hkn e hj0
          rw [swap_len] at hkn
          rw [swap_get hp hj, swap_get hp hj]
          rw [if_neg (by omega), if_neg (by omega)]
          have h3 := h1 ((j - 1) / 2) hj0 hp (by omega)
          by_cases e1 : k = j
          · subst e1
            rw [if_pos rfl]
            exact h3
          · rw [if_neg e1, if_neg (by omega)]
            have h4 := h1 k hk hkn e1
            rw [e] at h4
            omega
      · rw [if_neg hlt]
        intro k hk hkn
        by_cases e : k = j
        · subst e; omega
        · exact h1 k hk hkn e
theorem push_heap {xs : List Int} {x : Int} (h : Heap xs xs.length) : Heap (pushF xs x) (pushF xs x).length := by
  have hg : ∀ k, k < xs.length → (xs ++ [x]).getD k 0 = xs.getD k 0 := fun k hk => by simp [List.getD, List.getElem?_append_left hk]
  have := up_heap (xs.length + 1) (xs ++ [x]) xs.length (by omega) (by simp) (by
    intro k hk hkn hne
    simp at hkn
    rw [hg _ (by omega), hg _ (by omega)]
    exact h k hk (by omega)) (by
    intro k hk hkn e _
    simp at hkn
    omega)
  rw [push_len]
  simp only [List.length_append, List.length_singleton] at this
  exact this
theorem down_heap : ∀ (f : Nat) (xs : List Int) (i n : Nat), n ≤ xs.length → n ≤ f + i → (∀ k, 0 < k → k < n → (k - 1) / 2 ≠ i → xs.getD ((k - 1) / 2) 0 ≤ xs.getD k 0) →
    (∀ k, 0 < k → k < n → (k - 1) / 2 = i → 0 < i → xs.getD ((i - 1) / 2) 0 ≤ xs.getD k 0) → Heap (downF f xs i n) n
  | 0, xs, i, n, _, hf, h1, h2 => by
    intro k hk hkn
    exact h1 k hk hkn (by omega)
  | f + 1, xs, i, n, hn, hf, h1, h2 => by
    unfold downF
    by_cases h0 : n ≤ 2 * i + 1
    · rw [if_pos h0]
      intro k hk hkn
      exact h1 k hk hkn (by omega)
    · rw [if_neg h0]
      obtain ⟨k1, k2, k3⟩ := kid_lt (xs := xs) h0
      have hmin : ∀ k, 0 < k → k < n → (k - 1) / 2 = i → xs.getD (kid xs i n) 0 ≤ xs.getD k 0 := by
        intro k hk hkn e
        unfold kid
        have : k = 2 * i + 1 ∨ k = 2 * i + 2 := by omega
        split
        · rename_i hc
          rcases this with rfl | rfl
          · omega
          · exact Int.le_refl _
        · rename_i hc
          rcases this with rfl | rfl
          · exact Int.le_refl _
          · omega
      obtain ⟨c, hc⟩ : ∃ c, kid xs i n = c := ⟨_, rfl⟩
      rw [hc] at k1 k2 k3 hmin ⊢
      by_cases hlt : xs.getD c 0 < xs.getD i 0
      · rw [if_pos hlt]
        have hi : i < xs.length := by omega
        have hcl : c < xs.length := by omega
        refine down_heap f _ c n (by rw [swap_len]; exact hn) (by omega) ?_ ?_
        · intro k hk hkn hne
          rw [swap_get hi hcl, swap_get hi hcl]
          rw [if_neg hne]
          by_cases e1 : k = c
          · subst e1
            rw [if_pos rfl, if_pos k3]
            omega
          · rw [if_neg e1]
            by_cases e2 : (k - 1) / 2 = i
            · rw [if_pos e2, if_neg (by omega)]
              exact hmin k hk hkn e2
            · rw [if_neg e2]
              by_cases e3 : k = i
              · subst e3
                rw [if_pos rfl]
                exact h2 c (by omega) k1 k3 (by omega)
              · rw [if_neg e3]
                exact h1 k hk hkn e2
        · intro k hk hkn e _
          rw [swap_get hi hcl, swap_get hi hcl, k3, if_neg (by omega), if_pos rfl, if_neg (by omega), if_neg (by omega)]
          have := h1 k hk hkn (by omega)
          rw [e] at this
          exact this
      · rw [if_neg hlt]
        intro k hk hkn
        by_cases e : (k - 1) / 2 = i
        · have := hmin k hk hkn e
          rw [e]; omega
        · exact h1 k hk hkn e
theorem pop_heap {xs : List Int} (hx : xs ≠ []) (h : Heap xs xs.length) : Heap (popF xs).2 (popF xs).2.length := by
  have hl : 0 < xs.length := List.length_pos_iff.2 hx
  have := down_heap xs.length (swapL xs 0 (xs.length - 1)) 0 (xs.length - 1) (by rw [swap_len]; omega) (by omega) (by
    intro k hk hkn hne
    rw [swap_get hl (by omega), swap_get hl (by omega), if_neg (by omega), if_neg (by omega), if_neg (by omega), if_neg (by omega)]
    exact h k hk (by omega)) (by intro k _ _ _ h0; omega)
  rw [pop_len hx]
  intro k hk hkn
  have h2 := this k hk hkn
  show ((sunk xs).take _).getD _ 0 ≤ ((sunk xs).take _).getD _ 0
  have hg : ∀ j, j < xs.length - 1 → ((sunk xs).take (xs.length - 1)).getD j 0 = (sunk xs).getD j 0 := fun j hj => by simp [List.getD, hj]
  rw [hg _ (by omega), hg _ hkn]
  exact h2
theorem pop_least {xs : List Int} (hx : xs ≠ []) (h : Heap xs xs.length) : ∀ y ∈ xs, (popF xs).1 ≤ y := by
  intro y hy
  obtain ⟨k, hk, rfl⟩ := List.mem_iff_getElem.1 hy
  rw [pop_first hx]
  have := heap_min h k hk
  simpa [List.getD, hk] using this
end Go.Proofs.Ytfbnhkndlohalaa

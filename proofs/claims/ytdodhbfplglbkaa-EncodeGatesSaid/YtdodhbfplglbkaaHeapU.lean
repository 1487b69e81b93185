/- The contract of heap's up. -/
import Derived.Test.YtdodhbfplglbkaaTarjC
import Derived.BigRegion
import Derived.OwnWalk
namespace Go.Proofs.Ytdodhbfplglbkaa
open Go.RowKit

/-- Two members change places. -/
def swapL (xs : List Int) (i j : Nat) : List Int := (xs.set i (xs.getD j 0)).set j (xs.getD i 0)
def upF : Nat → List Int → Nat → List Int
  | 0, xs, _ => xs
  | f + 1, xs, j => if j = 0 then xs else if xs.getD j 0 < xs.getD ((j - 1) / 2) 0 then upF f (swapL xs ((j - 1) / 2) j) ((j - 1) / 2) else xs
/-- The lesser child. -/
def kid (xs : List Int) (i n : Nat) : Nat := if 2 * i + 2 < n ∧ xs.getD (2 * i + 2) 0 < xs.getD (2 * i + 1) 0 then 2 * i + 2 else 2 * i + 1
def downF : Nat → List Int → Nat → Nat → List Int
  | 0, xs, _, _ => xs
  | f + 1, xs, i, n => if n ≤ 2 * i + 1 then xs else if xs.getD (kid xs i n) 0 < xs.getD i 0 then downF f (swapL xs i (kid xs i n)) (kid xs i n) n else xs
def pushF (xs : List Int) (x : Int) : List Int := upF (xs.length + 1) (xs ++ [x]) xs.length
/-- What is left when the first one is taken, with it behind the rest. -/
def sunk (xs : List Int) : List Int := downF xs.length (swapL xs 0 (xs.length - 1)) 0 (xs.length - 1)
def popF (xs : List Int) : Int × List Int := ((sunk xs).getD (xs.length - 1) 0, (sunk xs).take (xs.length - 1))

theorem swap_len (xs : List Int) (i j : Nat) : (swapL xs i j).length = xs.length := by simp [swapL]
theorem swap_get {xs : List Int} {i j : Nat} (hi : i < xs.length) (hj : j < xs.length) (k : Nat) : (swapL xs i j).getD k 0 = if k = j then xs.getD i 0 else if k = i then xs.getD j 0 else xs.getD k 0 := by
  unfold swapL
  rw [getD_set (by simpa using hj), getD_set hi]
  by_cases h : k = j
  · rw [if_pos h.symm, if_pos h]
  · rw [if_neg (fun e => h e.symm), if_neg h]
    by_cases h2 : k = i
    · rw [if_pos h2.symm, if_pos h2]
    · rw [if_neg (fun e => h2 e.symm), if_neg h2]
theorem perm_set_head : ∀ (xs : List Int) (j : Nat) (x b : Int), xs[j]? = some b → (b :: xs.set j x).Perm (x :: xs)
  | [], _, _, _, h => by simp at h
  | y :: ys, 0, x, b, h => by
    simp at h; subst h
    exact List.Perm.swap _ _ _
  | y :: ys, j + 1, x, b, h => by
    simp only [List.set_cons_succ]
    exact ((List.Perm.swap _ _ _).trans ((perm_set_head ys j x b (by simpa using h)).cons y)).trans (List.Perm.swap _ _ _)
theorem perm_set_swap : ∀ (xs : List Int) (i j : Nat) (a b : Int), i ≠ j → xs[i]? = some a → xs[j]? = some b → ((xs.set i b).set j a).Perm xs
  | [], _, _, _, _, _, h, _ => by simp at h
  | x :: xs, 0, 0, _, _, h, _, _ => absurd rfl h
  | x :: xs, 0, j + 1, a, b, _, h1, h2 => by
    simp at h1 h2
    subst h1
    simp only [List.set_cons_zero, List.set_cons_succ]
    exact perm_set_head xs j x b h2
  | x :: xs, i + 1, 0, a, b, _, h1, h2 => by
    simp at h1 h2
    subst h2
    simp only [List.set_cons_zero, List.set_cons_succ]
    exact perm_set_head xs i x a h1
  | x :: xs, i + 1, j + 1, a, b, h, h1, h2 => by
    simp only [List.set_cons_succ]
    exact (perm_set_swap xs i j a b (fun e => h (by omega)) (by simpa using h1) (by simpa using h2)).cons x
theorem set_same {xs : List Int} {i : Nat} {a : Int} (h : xs[i]? = some a) : xs.set i a = xs := by
  apply List.ext_getElem?
  intro k
  rw [List.getElem?_set]
  split
  · rename_i e; subst e
    obtain ⟨hl, _⟩ := List.getElem?_eq_some_iff.1 h
    rw [if_pos hl, h]
  · rfl
theorem swap_perm {xs : List Int} {i j : Nat} (hi : i < xs.length) (hj : j < xs.length) : (swapL xs i j).Perm xs := by
  have h1 := getD_some hi (d := 0)
  have h2 := getD_some hj (d := 0)
  unfold swapL
  by_cases e : i = j
  · subst e
    rw [set_same h1, set_same h1]
  · exact perm_set_swap xs i j _ _ e h1 h2
theorem up_perm : ∀ (f : Nat) (xs : List Int) (j : Nat), j < xs.length → (upF f xs j).Perm xs
  | 0, xs, _, _ => .refl _
  | f + 1, xs, j, h => by
    unfold upF
    split
    · exact .refl _
    · split
      · exact (up_perm f _ _ (by rw [swap_len]; omega)).trans (swap_perm (by omega) h)
      · exact .refl _
theorem kid_lt {xs : List Int} {i n : Nat} (h : ¬ n ≤ 2 * i + 1) : kid xs i n < n ∧ i < kid xs i n ∧ (kid xs i n - 1) / 2 = i := by
  unfold kid
  split
  · rename_i h2
    omega
  · omega
theorem down_perm : ∀ (f : Nat) (xs : List Int) (i n : Nat), n ≤ xs.length → (downF f xs i n).Perm xs
  | 0, xs, _, _, _ => .refl _
  | f + 1, xs, i, n, h => by
    unfold downF
    split
    · exact .refl _
    · rename_i h1
      obtain ⟨h2, h3, _⟩ := kid_lt (xs := xs) h1
      split
      · exact (down_perm f _ _ _ (by rw [swap_len]; exact h)).trans (swap_perm (by omega) (by omega))
      · exact .refl _
theorem down_above : ∀ (f : Nat) (xs : List Int) (i n : Nat), n ≤ xs.length → ∀ k, n ≤ k → (downF f xs i n).getD k 0 = xs.getD k 0
  | 0, xs, _, _, _, _, _ => rfl
  | f + 1, xs, i, n, h, k, hk => by
    unfold downF
    split
    · rfl
    · rename_i h1
      obtain ⟨h2, h3, _⟩ := kid_lt (xs := xs) h1
      split
      · rw [down_above f _ _ _ (by rw [swap_len]; exact h) k hk, swap_get (by omega) (by omega), if_neg (by omega), if_neg (by omega)]
      · rfl
theorem push_perm (xs : List Int) (x : Int) : (pushF xs x).Perm (xs ++ [x]) := up_perm _ _ _ (by simp)
theorem push_len (xs : List Int) (x : Int) : (pushF xs x).length = xs.length + 1 := by rw [(push_perm xs x).length_eq]; simp
theorem sunk_perm {xs : List Int} (h : xs ≠ []) : (sunk xs).Perm xs := by
  have hl : 0 < xs.length := List.length_pos_iff.2 h
  exact (down_perm _ _ _ _ (by rw [swap_len]; omega)).trans (swap_perm hl (by omega))
theorem sunk_len {xs : List Int} (h : xs ≠ []) : (sunk xs).length = xs.length := (sunk_perm h).length_eq
theorem pop_first {xs : List Int} (h : xs ≠ []) : (popF xs).1 = xs.getD 0 0 := by
  have hl : 0 < xs.length := List.length_pos_iff.2 h
  unfold popF sunk
  simp only
  rw [down_above _ _ _ _ (by rw [swap_len]; omega) _ (Nat.le_refl _), swap_get hl (by omega), if_pos rfl]
theorem snoc_of {xs : List Int} {n : Nat} (h : xs.length = n + 1) : xs = xs.take n ++ [xs.getD n 0] := by
  have h1 : xs[n]? = some (xs.getD n 0) := getD_some (by omega)
  have h2 : xs.take (n + 1) = xs := List.take_of_length_le (by omega)
  rw [List.take_add_one, h1] at h2
  simpa using h2.symm
theorem pop_perm {xs : List Int} (h : xs ≠ []) : ((popF xs).1 :: (popF xs).2).Perm xs := by
  have hl : 0 < xs.length := List.length_pos_iff.2 h
  have h1 := snoc_of (xs := sunk xs) (n := xs.length - 1) (by rw [sunk_len h]; omega)
  have h2 := sunk_perm h
  rw [h1] at h2
  refine List.Perm.trans ?_ h2
  show (_ :: _).Perm _
  exact (List.perm_append_comm (l₁ := [_]))
theorem pop_len {xs : List Int} (h : xs ≠ []) : (popF xs).2.length = xs.length - 1 := by
  have hl : 0 < xs.length := List.length_pos_iff.2 h
  show ((sunk xs).take _).length = _
  rw [List.length_take, sunk_len h]; omega

/-- No member is less than the one above it. -/
def Heap (xs : List Int) (n : Nat) : Prop := ∀ k, 0 < k → k < n → xs.getD ((k - 1) / 2) 0 ≤ xs.getD k 0
theorem heap_min {xs : List Int} {n : Nat} (h : Heap xs n) : ∀ k, k < n → xs.getD 0 0 ≤ xs.getD k 0 := by
  intro k
  induction k using Nat.strongRecOn with
  | ind k ih =>
    intro hk
    by_cases h0 : k = 0
    · subst h0; exact Int.le_refl _
    · exact Int.le_trans (ih ((k - 1) / 2) (by omega) (by omega)) (h k (by omega) hk)
theorem up_heap : ∀ (f : Nat) (xs : List Int) (j : Nat), j < f → j < xs.length → (∀ k, 0 < k → k < xs.length → k ≠ j → xs.getD ((k - 1) / 2) 0 ≤ xs.getD k 0) →
    (∀ k, 0 < k → k < xs.length → (k - 1) / 2 = j → 0 < j → xs.getD ((j - 1) / 2) 0 ≤ xs.getD k 0) → Heap (upF f xs j) xs.length
  | 0, _, _, h, _, _, _ => absurd h (by omega)
  | f + 1, xs, j, hf, hj, h1, h2 => by
    unfold upF
    by_cases h0 : j = 0
    · rw [if_pos h0]
      intro k hk hkn
      exact h1 k hk hkn (by omega)
    · rw [if_neg h0]
      by_cases hlt : xs.getD j 0 < xs.getD ((j - 1) / 2) 0
      · rw [if_pos hlt]
        have hp : (j - 1) / 2 < xs.length := by omega
        have := up_heap f (swapL xs ((j - 1) / 2) j) ((j - 1) / 2) (by omega) (by rw [swap_len]; exact hp) ?_ ?_
        · rw [swap_len] at this; exact this
        · intro k hk hkn hne
          rw [swap_len] at hkn
          rw [swap_get hp hj, swap_get hp hj]
          by_cases e1 : k = j
          · subst e1
            rw [if_pos rfl, if_neg (by omega), if_pos rfl]
            omega
          · rw [if_neg e1, if_neg (by omega : ¬ k = (j - 1) / 2)]
            by_cases e2 : (k - 1) / 2 = j
            · rw [if_pos e2]
              exact h2 k hk hkn e2 (by omega)
            · rw [if_neg e2]
              by_cases e3 : (k - 1) / 2 = (j - 1) / 2
              · rw [if_pos e3]
                have := h1 k hk hkn e1
                rw [e3] at this
                omega
              · rw [if_neg e3]
                exact h1 k hk hkn e1
        · intro k hk hkn e hj0
          rw [swap_len] at hkn
          rw [swap_get hp hj, swap_get hp hj]
          rw [if_neg (by omega), if_neg (by omega)]
          have h3 := h1 ((j - 1) / 2) hj0 hp (by omega)
          by_cases e1 : k = j
          · subst e1
            rw [if_pos rfl]
            exact h3
          · rw [if_neg e1, if_neg (by omega)]
            have h4 := h1 k hk hkn e1
            rw [e] at h4
            omega
      · rw [if_neg hlt]
        intro k hk hkn
        by_cases e : k = j
        · subst e; omega
        · exact h1 k hk hkn e
theorem push_heap {xs : List Int} {x : Int} (h : Heap xs xs.length) : Heap (pushF xs x) (pushF xs x).length := by
  have hg : ∀ k, k < xs.length → (xs ++ [x]).getD k 0 = xs.getD k 0 := fun k hk => by simp [List.getD, List.getElem?_append_left hk]
  have := up_heap (xs.length + 1) (xs ++ [x]) xs.length (by omega) (by simp) (by
    intro k hk hkn hne
    simp at hkn
    rw [hg _ (by omega), hg _ (by omega)]
    exact h k hk (by omega)) (by
    intro k hk hkn e _
    simp at hkn
    omega)
  rw [push_len]
  simp only [List.length_append, List.length_singleton] at this
  exact this
theorem down_heap : ∀ (f : Nat) (xs : List Int) (i n : Nat), n ≤ xs.length → n ≤ f + i → (∀ k, 0 < k → k < n → (k - 1) / 2 ≠ i → xs.getD ((k - 1) / 2) 0 ≤ xs.getD k 0) →
    (∀ k, 0 < k → k < n → (k - 1) / 2 = i → 0 < i → xs.getD ((i - 1) / 2) 0 ≤ xs.getD k 0) → Heap (downF f xs i n) n
  | 0, xs, i, n, _, hf, h1, h2 => by
    intro k hk hkn
    exact h1 k hk hkn (by omega)
  | f + 1, xs, i, n, hn, hf, h1, h2 => by
    unfold downF
    by_cases h0 : n ≤ 2 * i + 1
    · rw [if_pos h0]
      intro k hk hkn
      exact h1 k hk hkn (by omega)
    · rw [if_neg h0]
      obtain ⟨k1, k2, k3⟩ := kid_lt (xs := xs) h0
      have hmin : ∀ k, 0 < k → k < n → (k - 1) / 2 = i → xs.getD (kid xs i n) 0 ≤ xs.getD k 0 := by
        intro k hk hkn e
        unfold kid
        have : k = 2 * i + 1 ∨ k = 2 * i + 2 := by omega
        split
        · rename_i hc
          rcases this with rfl | rfl
          · omega
          · exact Int.le_refl _
        · rename_i hc
          rcases this with rfl | rfl
          · exact Int.le_refl _
          · omega
      obtain ⟨c, hc⟩ : ∃ c, kid xs i n = c := ⟨_, rfl⟩
      rw [hc] at k1 k2 k3 hmin ⊢
      by_cases hlt : xs.getD c 0 < xs.getD i 0
      · rw [if_pos hlt]
        have hi : i < xs.length := by omega
        have hcl : c < xs.length := by omega
        refine down_heap f _ c n (by rw [swap_len]; exact hn) (by omega) ?_ ?_
        · intro k hk hkn hne
          rw [swap_get hi hcl, swap_get hi hcl]
          rw [if_neg hne]
          by_cases e1 : k = c
          · subst e1
            rw [if_pos rfl, if_pos k3]
            omega
          · rw [if_neg e1]
            by_cases e2 : (k - 1) / 2 = i
            · rw [if_pos e2, if_neg (by omega)]
              exact hmin k hk hkn e2
            · rw [if_neg e2]
              by_cases e3 : k = i
              · subst e3
                rw [if_pos rfl]
                exact h2 c (by omega) k1 k3 (by omega)
              · rw [if_neg e3]
                exact h1 k hk hkn e2
        · intro k hk hkn e _
          rw [swap_get hi hcl, swap_get hi hcl, k3, if_neg (by omega), if_pos rfl, if_neg (by omega), if_neg (by omega)]
          have := h1 k hk hkn (by omega)
          rw [e] at this
          exact this
      · rw [if_neg hlt]
        intro k hk hkn
        by_cases e : (k - 1) / 2 = i
        · have := hmin k hk hkn e
          rw [e]; omega
        · exact h1 k hk hkn e
theorem pop_heap {xs : List Int} (hx : xs ≠ []) (h : Heap xs xs.length) : Heap (popF xs).2 (popF xs).2.length := by
  have hl : 0 < xs.length := List.length_pos_iff.2 hx
  have := down_heap xs.length (swapL xs 0 (xs.length - 1)) 0 (xs.length - 1) (by rw [swap_len]; omega) (by omega) (by
    intro k hk hkn hne
    rw [swap_get hl (by omega), swap_get hl (by omega), if_neg (by omega), if_neg (by omega), if_neg (by omega), if_neg (by omega)]
    exact h k hk (by omega)) (by intro k _ _ _ h0; omega)
  rw [pop_len hx]
  intro k hk hkn
  have h2 := this k hk hkn
  show ((sunk xs).take _).getD _ 0 ≤ ((sunk xs).take _).getD _ 0
  have hg : ∀ j, j < xs.length - 1 → ((sunk xs).take (xs.length - 1)).getD j 0 = (sunk xs).getD j 0 := fun j hj => by simp [List.getD, hj]
  rw [hg _ (by omega), hg _ hkn]
  exact h2
theorem pop_least {xs : List Int} (hx : xs ≠ []) (h : Heap xs xs.length) : ∀ y ∈ xs, (popF xs).1 ≤ y := by
  intro y hy
  obtain ⟨k, hk, rfl⟩ := List.mem_iff_getElem.1 hy
  rw [pop_first hx]
  have := heap_min h k hk
  simpa [List.getD, hk] using this
end Go.Proofs.Ytdodhbfplglbkaa

namespace Go.Proofs.Ytdodhbfplglbkaa
open Go.RowKit

/-- A gate may come next behind those of L. -/
def Avail (uses : List (Int × Int)) (L : List Int) (y : Int) : Prop := InR uses.length y ∧ y ∉ L ∧ ∀ z, Edge uses y z → z ∈ L
/-- The least one that may come is always the next. -/
inductive Greedy (uses : List (Int × Int)) : List Int → Prop where
  | nil : Greedy uses []
  | snoc {L : List Int} {i : Int} : Greedy uses L → Avail uses L i → (∀ y, Avail uses L y → i ≤ y) → Greedy uses (L ++ [i])
structure OS where
  told : List Bool
  wait : List (List Int)
  hp : List Int
  out : List Int
  next : Nat
def wt (W : List (List Int)) (u : Int) : List Int := W.getD u.toNat []
def tdF (T : List Bool) (u : Int) : Bool := T.getD u.toNat false
def waitF (S : OS) (i u : Int) : OS := { S with wait := S.wait.set u.toNat (wt S.wait u ++ [i]) }
def tellF (S : OS) (i : Int) : OS := { S with told := S.told.set i.toNat true, out := S.out ++ [i], hp := (wt S.wait i).foldl pushF S.hp }
structure OInv (uses : List (Int × Int)) (S : OS) : Prop where
  tl : S.told.length = uses.length
  wl : S.wait.length = uses.length
  nx : S.next ≤ uses.length
  td : ∀ y, InR uses.length y → (tdF S.told y = true ↔ y ∈ S.out)
  gr : Greedy uses S.out
  ho : Heap S.hp S.hp.length
  hn : S.hp.Nodup
  hr : ∀ y ∈ S.hp, y ∉ S.out ∧ 0 ≤ y ∧ y < (S.next : Int)
  or : ∀ y ∈ S.out, 0 ≤ y ∧ y < (S.next : Int)
  wr : ∀ u, InR uses.length u → u ∉ S.out → ∀ y ∈ wt S.wait u, Edge uses y u ∧ 0 ≤ y ∧ y < (S.next : Int) ∧ y ∉ S.out ∧ y ∉ S.hp
  wn : ∀ u, InR uses.length u → u ∉ S.out → (wt S.wait u).Nodup
  wu : ∀ u v y, InR uses.length u → u ∉ S.out → InR uses.length v → v ∉ S.out → y ∈ wt S.wait u → y ∈ wt S.wait v → u = v
/-- The gate i was taken: it stands nowhere; it is the least that may come, if it may. -/
structure OTaken (uses : List (Int × Int)) (S : OS) (i : Int) : Prop where
  inv : OInv uses S
  ir : 0 ≤ i ∧ i < (S.next : Int)
  io : i ∉ S.out
  ih : i ∉ S.hp
  iw : ∀ u, InR uses.length u → u ∉ S.out → i ∉ wt S.wait u
  cov : ∀ y, 0 ≤ y → y < (S.next : Int) → y = i ∨ y ∈ S.out ∨ y ∈ S.hp ∨ ∃ u, InR uses.length u ∧ u ∉ S.out ∧ y ∈ wt S.wait u
  least : ∀ y, Avail uses S.out y → i ≤ y
structure OGood (uses : List (Int × Int)) (S : OS) : Prop where
  inv : OInv uses S
  cov : ∀ y, 0 ≤ y → y < (S.next : Int) → y ∈ S.out ∨ y ∈ S.hp ∨ ∃ u, InR uses.length u ∧ u ∉ S.out ∧ y ∈ wt S.wait u
section
variable {uses : List (Int × Int)}
theorem nodup_sub {α : Type} [DecidableEq α] : ∀ {l m : List α}, l.Nodup → (∀ x ∈ l, x ∈ m) → l.length ≤ m.length
  | [], _, _, _ => by simp
  | a :: l, m, h, hs => by
    obtain ⟨h1, h2⟩ := List.nodup_cons.1 h
    have ha : a ∈ m := hs a (by simp)
    have := nodup_sub (l := l) (m := m.erase a) h2 (fun x hx => by
      have hne : x ≠ a := fun e => h1 (e ▸ hx)
      exact (List.mem_erase_of_ne hne).2 (hs x (by simp [hx])))
    rw [List.length_erase_of_mem ha] at this
    have hp : 0 < m.length := List.length_pos_iff.2 (fun e => by rw [e] at ha; simp at ha)
    simp only [List.length_cons]
    omega
theorem Greedy.nodup {L : List Int} (h : Greedy uses L) : L.Nodup := by
  induction h with
  | nil => exact List.nodup_nil
  | snoc _ ha _ ih =>
    rw [List.nodup_append]
    refine ⟨ih, by simp, ?_⟩
    intro x hx y hy
    simp only [List.mem_singleton] at hy
    subst hy
    rintro rfl
    exact ha.2.1 hx
theorem Greedy.inR {L : List Int} (h : Greedy uses L) : ∀ x ∈ L, InR uses.length x := by
  induction h with
  | nil => simp
  | snoc _ ha _ ih =>
    intro x hx
    rcases List.mem_append.1 hx with hx | hx
    · exact ih x hx
    · simp only [List.mem_singleton] at hx
      subst hx
      exact ha.1
def intRange (n : Nat) : List Int := (List.range n).map (fun k : Nat => (k : Int))
theorem mem_intRange {n : Nat} {x : Int} : x ∈ intRange n ↔ InR n x := by
  unfold intRange InR
  simp only [List.mem_map, List.mem_range]
  constructor
  · rintro ⟨k, hk, rfl⟩; omega
  · intro h
    exact ⟨x.toNat, by omega, by omega⟩
theorem nodup_map_inj {α β : Type} {f : α → β} (hf : ∀ a b, f a = f b → a = b) {l : List α} (h : l.Nodup) : (l.map f).Nodup := by
  induction h with
  | nil => simp
  | cons ha _ ih =>
    simp only [List.map_cons, List.nodup_cons]
    refine ⟨fun hm => ?_, ih⟩
    obtain ⟨b, hb, e⟩ := List.mem_map.1 hm
    exact ha b hb (hf _ _ e).symm
theorem nodup_intRange (n : Nat) : (intRange n).Nodup := nodup_map_inj (fun a b h => by omega) List.nodup_range
theorem len_intRange (n : Nat) : (intRange n).length = n := by simp [intRange]
theorem in_le {L : List Int} {n : Nat} (h : L.Nodup) (hr : ∀ x ∈ L, InR n x) : L.length ≤ n := by
  have := nodup_sub h (fun x hx => mem_intRange.2 (hr x hx))
  rwa [len_intRange] at this
theorem some_left {L : List Int} {n : Nat} (h : L.length < n) : ∃ y, InR n y ∧ y ∉ L := by
  apply Classical.byContradiction
  intro hc
  have := nodup_sub (nodup_intRange n) (m := L) (fun x hx => Classical.byContradiction fun hx' => hc ⟨x, mem_intRange.1 hx, hx'⟩)
  rw [len_intRange] at this
  omega
theorem Greedy.len_le {L : List Int} (h : Greedy uses L) : L.length ≤ uses.length := in_le h.nodup h.inR
/-- The least rank of what is left. -/
theorem least_rank (r : Int → Nat) {P : Int → Prop} : ∀ (k : Nat) (y : Int), r y ≤ k → P y → ∃ y, P y ∧ ∀ z, P z → r y ≤ r z
  | 0, y, hk, hy => ⟨y, hy, fun z _ => by omega⟩
  | k + 1, y, hk, hy => by
    by_cases h : ∃ z, P z ∧ r z < r y
    · obtain ⟨z, hz, hlt⟩ := h
      exact least_rank r k z (by omega) hz
    · refine ⟨y, hy, fun z hz => ?_⟩
      apply Classical.byContradiction
      intro hc
      exact h ⟨z, hz, by omega⟩
/-- Where none comes round there is always one that may come. -/
theorem OGood.not_stuck {S : OS} (hu : UsesOk uses.length uses) (hn16 : uses.length ≤ 16384) (hf : firstF uses = -1) (h : OGood uses S) (hh : S.hp = []) (hl : S.out.length < uses.length) : S.next < uses.length := by
  apply Classical.byContradiction
  intro hc
  have hnx : S.next = uses.length := by have := h.inv.nx; omega
  obtain ⟨y, hy, hyo⟩ := some_left hl
  obtain ⟨z, ⟨hz, hzo⟩, hzm⟩ := least_rank (rank uses) (P := fun y => InR uses.length y ∧ y ∉ S.out) (rank uses y) y (Nat.le_refl _) ⟨hy, hyo⟩
  rcases h.cov z hz.1 (by rw [hnx]; exact hz.2) with h1 | h1 | ⟨u, hur, huo, hzu⟩
  · exact hzo h1
  · rw [hh] at h1; simp at h1
  · have h2 := (h.inv.wr u hur huo z hzu).1
    have := rank_lt hu hn16 hf hz h2
    have := hzm u ⟨hur, huo⟩
    omega
theorem take_heap {S : OS} (h : OGood uses S) (hh : S.hp ≠ []) : OTaken uses { S with hp := (popF S.hp).2 } (popF S.hp).1 := by
  have hp := pop_perm hh
  have hmem : ∀ y, y ∈ S.hp ↔ y = (popF S.hp).1 ∨ y ∈ (popF S.hp).2 := fun y => by rw [← hp.mem_iff]; simp
  have hnd : ((popF S.hp).1 :: (popF S.hp).2).Nodup := hp.nodup_iff.2 h.inv.hn
  obtain ⟨hn1, hn2⟩ := List.nodup_cons.1 hnd
  obtain ⟨i1, i2⟩ := h.inv.hr _ ((hmem _).2 (.inl rfl))
  refine ⟨⟨h.inv.tl, h.inv.wl, h.inv.nx, h.inv.td, h.inv.gr, pop_heap hh h.inv.ho, hn2, fun y hy => h.inv.hr y ((hmem y).2 (.inr hy)), h.inv.or, ?_, h.inv.wn, h.inv.wu⟩, i2, i1, hn1, ?_, ?_, ?_⟩
  · intro u hu huo y hy
    obtain ⟨a, b, c, d, e⟩ := h.inv.wr u hu huo y hy
    exact ⟨a, b, c, d, fun hy2 => e ((hmem y).2 (.inr hy2))⟩
  · intro u hu huo hi
    exact (h.inv.wr u hu huo _ hi).2.2.2.2 ((hmem _).2 (.inl rfl))
  · intro y h0 h1
    rcases h.cov y h0 h1 with hy | hy | hy
    · exact .inr (.inl hy)
    · rcases (hmem y).1 hy with hy | hy
      · exact .inl hy
      · exact .inr (.inr (.inl hy))
    · exact .inr (.inr (.inr hy))
  · intro y hy
    by_cases hlt : y < (S.next : Int)
    · rcases h.cov y hy.1.1 hlt with h1 | h1 | ⟨u, hur, huo, hyu⟩
      · exact absurd h1 hy.2.1
      · exact pop_least hh h.inv.ho y h1
      · exact absurd (hy.2.2 u (h.inv.wr u hur huo y hyu).1) huo
    · omega
theorem take_next {S : OS} (h : OGood uses S) (hh : S.hp = []) (hlt : S.next < uses.length) : OTaken uses { S with next := S.next + 1 } (S.next : Int) := by
  have hno : (S.next : Int) ∉ S.out := fun hi => by have := (h.inv.or _ hi).2; omega
  refine ⟨⟨h.inv.tl, h.inv.wl, hlt, h.inv.td, h.inv.gr, h.inv.ho, h.inv.hn, ?_, ?_, ?_, h.inv.wn, h.inv.wu⟩, ⟨by omega, by show _ < ((S.next + 1 : Nat) : Int); omega⟩, hno, by rw [show ({ S with next := S.next + 1 } : OS).hp = S.hp from rfl, hh]; simp, ?_, ?_, ?_⟩
  · intro y hy
    obtain ⟨a, b, c⟩ := h.inv.hr y hy
    exact ⟨a, b, by show _ < ((S.next + 1 : Nat) : Int); omega⟩
  · intro y hy
    obtain ⟨b, c⟩ := h.inv.or y hy
    exact ⟨b, by show _ < ((S.next + 1 : Nat) : Int); omega⟩
  · intro u hu huo y hy
    obtain ⟨a, b, c, d⟩ := h.inv.wr u hu huo y hy
    exact ⟨a, b, by show _ < ((S.next + 1 : Nat) : Int); omega, d⟩
  · intro u hu huo hi
    have := (h.inv.wr u hu huo _ hi).2.2.1
    omega
  · intro y h0 h1
    have h1' : y < ((S.next + 1 : Nat) : Int) := h1
    by_cases e : y = (S.next : Int)
    · exact .inl e
    · exact .inr (h.cov y h0 (by omega))
  · intro y hy
    apply Classical.byContradiction
    intro hc
    rcases h.cov y hy.1.1 (by omega) with h1 | h1 | ⟨u, hur, huo, hyu⟩
    · exact hy.2.1 h1
    · rw [hh] at h1; simp at h1
    · exact huo (hy.2.2 u (h.inv.wr u hur huo y hyu).1)
theorem wt_set {W : List (List Int)} {u v : Int} {n : Nat} {l : List Int} (hl : W.length = n) (hu : InR n u) (hv : InR n v) : wt (W.set u.toNat l) v = if v = u then l else wt W v := by
  unfold wt InR at *
  simp only [List.getD, List.getElem?_set]
  by_cases h : v = u
  · subst h
    rw [if_pos rfl, if_pos rfl, if_pos (by omega)]; rfl
  · rw [if_neg (by omega), if_neg h]
theorem wait_good {S : OS} {i u : Int} (h : OTaken uses S i) (hE : Edge uses i u) (hur : InR uses.length u) (huo : u ∉ S.out) : OGood uses (waitF S i u) := by
  have hw : ∀ v, InR uses.length v → wt (waitF S i u).wait v = if v = u then wt S.wait u ++ [i] else wt S.wait v := fun v hv => wt_set h.inv.wl hur hv
  have hin : ∀ v, InR uses.length v → ∀ y, y ∈ wt (waitF S i u).wait v ↔ (y ∈ wt S.wait v ∨ (v = u ∧ y = i)) := by
    intro v hv y
    rw [hw v hv]
    by_cases e : v = u
    · subst e; simp
    · simp [e]
  refine ⟨⟨h.inv.tl, by show (S.wait.set _ _).length = _; rw [List.length_set]; exact h.inv.wl, h.inv.nx, h.inv.td, h.inv.gr, h.inv.ho, h.inv.hn, h.inv.hr, h.inv.or, ?_, ?_, ?_⟩, ?_⟩
  · intro v hv hvo y hy
    rcases (hin v hv y).1 hy with h1 | ⟨rfl, rfl⟩
    · exact h.inv.wr v hv hvo y h1
    · exact ⟨hE, h.ir.1, h.ir.2, h.io, h.ih⟩
  · intro v hv hvo
    rw [hw v hv]
    split
    · rename_i e
      rw [List.nodup_append]
      refine ⟨h.inv.wn u hur huo, by simp, ?_⟩
      intro x hx y hy
      simp only [List.mem_singleton] at hy
      subst hy
      rintro rfl
      exact h.iw u hur huo hx
    · exact h.inv.wn v hv hvo
  · intro a b y ha hao hb hbo h1 h2
    rcases (hin a ha y).1 h1 with h3 | ⟨e1, e2⟩
    · rcases (hin b hb y).1 h2 with h4 | ⟨e3, e4⟩
      · exact h.inv.wu a b y ha hao hb hbo h3 h4
      · exact absurd (e4 ▸ h3) (h.iw a ha hao)
    · rcases (hin b hb y).1 h2 with h4 | ⟨e3, _⟩
      · exact absurd (e2 ▸ h4) (h.iw b hb hbo)
      · exact e1.trans e3.symm
  · intro y h0 h1
    rcases h.cov y h0 h1 with e | h2 | h2 | ⟨v, hv, hvo, hy⟩
    · exact .inr (.inr ⟨u, hur, huo, (hin u hur y).2 (.inr ⟨rfl, e⟩)⟩)
    · exact .inl h2
    · exact .inr (.inl h2)
    · exact .inr (.inr ⟨v, hv, hvo, (hin v hv y).2 (.inl hy)⟩)
theorem fold_perm : ∀ (l xs : List Int), (l.foldl pushF xs).Perm (xs ++ l)
  | [], xs => by simp
  | a :: l, xs => by
    refine (fold_perm l (pushF xs a)).trans ?_
    rw [List.append_cons]
    exact (push_perm xs a).append_right l
theorem fold_heap : ∀ (l xs : List Int), Heap xs xs.length → Heap (l.foldl pushF xs) (l.foldl pushF xs).length
  | [], _, h => h
  | a :: l, xs, h => fold_heap l (pushF xs a) (push_heap h)
theorem tell_good {S : OS} {i : Int} (h : OTaken uses S i) (ha : ∀ z, Edge uses i z → z ∈ S.out) : OGood uses (tellF S i) := by
  have hir : InR uses.length i := ⟨h.ir.1, by have := h.ir.2; have := h.inv.nx; omega⟩
  have hav : Avail uses S.out i := ⟨hir, h.io, ha⟩
  have hpm := fold_perm (wt S.wait i) S.hp
  have hmem : ∀ y, y ∈ (tellF S i).hp ↔ y ∈ S.hp ∨ y ∈ wt S.wait i := fun y => hpm.mem_iff.trans List.mem_append
  have hout : ∀ y, y ∈ (tellF S i).out ↔ y ∈ S.out ∨ y = i := fun y => List.mem_append.trans (by rw [List.mem_singleton])
  refine ⟨⟨by show (S.told.set _ _).length = _; rw [List.length_set]; exact h.inv.tl, h.inv.wl, h.inv.nx, ?_, .snoc h.inv.gr hav h.least, fold_heap _ _ h.inv.ho, ?_, ?_, ?_, ?_, ?_, ?_⟩, ?_⟩
  · intro y hy
    rw [hout y, ← h.inv.td y hy]
    show tdF (S.told.set i.toNat true) y = true ↔ _
    unfold tdF
    simp only [List.getD, List.getElem?_set]
    unfold InR at hy hir
    by_cases e : y = i
    · subst e
      have : y.toNat < S.told.length := by rw [h.inv.tl]; omega
      simp [this]
    · rw [if_neg (by omega)]
      simp [e]
  · refine hpm.nodup_iff.2 ?_
    rw [List.nodup_append]
    refine ⟨h.inv.hn, h.inv.wn i hir h.io, ?_⟩
    intro x hx y hy
    rintro rfl
    exact (h.inv.wr i hir h.io x hy).2.2.2.2 hx
  · intro y hy
    rw [hout y]
    rcases (hmem y).1 hy with h1 | h1
    · obtain ⟨a, b⟩ := h.inv.hr y h1
      exact ⟨fun h2 => h2.elim a (fun e => h.ih (e ▸ h1)), b⟩
    · obtain ⟨_, a, b, c, d⟩ := h.inv.wr i hir h.io y h1
      exact ⟨fun h2 => h2.elim c (fun e => h.iw i hir h.io (e ▸ h1)), a, b⟩
  · intro y hy
    rcases (hout y).1 hy with h1 | rfl
    · exact h.inv.or y h1
    · exact h.ir
  · intro u hu huo y hy
    rw [hout u] at huo
    obtain ⟨a, b, c, d, e⟩ := h.inv.wr u hu (fun h1 => huo (.inl h1)) y hy
    refine ⟨a, b, c, ?_, ?_⟩
    · rw [hout y]
      exact fun h2 => h2.elim d (fun e2 => h.iw u hu (fun h1 => huo (.inl h1)) (e2 ▸ hy))
    · rw [hmem y]
      exact fun h2 => h2.elim e (fun h3 => huo (.inr (h.inv.wu u i y hu (fun h1 => huo (.inl h1)) hir h.io hy h3)))
  · intro u hu huo
    rw [hout u] at huo
    exact h.inv.wn u hu (fun h1 => huo (.inl h1))
  · intro a b y ha' hao hb hbo h1 h2
    rw [hout] at hao hbo
    exact h.inv.wu a b y ha' (fun h1 => hao (.inl h1)) hb (fun h1 => hbo (.inl h1)) h1 h2
  · intro y h0 h1
    rw [hout y, hmem y]
    rcases h.cov y h0 h1 with e | h2 | h2 | ⟨v, hv, hvo, hy⟩
    · exact .inl (.inr e)
    · exact .inl (.inl h2)
    · exact .inr (.inl (.inl h2))
    · by_cases e : v = i
      · subst e; exact .inr (.inl (.inr hy))
      · refine .inr (.inr ⟨v, hv, ?_, hy⟩)
        rw [hout v]
        exact fun h3 => h3.elim hvo e
def os0 (n : Nat) : OS := { told := List.replicate n false, wait := List.replicate n [], hp := [], out := [], next := 0 }
theorem os0_good : OGood uses (os0 uses.length) := by
  have hw : ∀ u, wt (os0 uses.length).wait u = [] := by
    intro u
    unfold wt os0
    simp only [List.getD, List.getElem?_replicate]
    split <;> rfl
  refine ⟨⟨by simp [os0], by simp [os0], by simp [os0], ?_, .nil, ?_, by simp [os0], by simp [os0], by simp [os0], ?_, ?_, ?_⟩, ?_⟩
  · intro y _
    simp only [tdF, os0, List.getD, List.getElem?_replicate]
    split <;> simp
  · intro k _ hk
    simp [os0] at hk
  · intro u _ _ y hy
    rw [hw] at hy; simp at hy
  · intro u _ _
    rw [hw]; simp
  · intro a b y _ _ _ _ h1
    rw [hw] at h1; simp at h1
  · intro y h0 h1
    have h1' : y < ((0 : Nat) : Int) := h1
    omega
/-- What is still to be done. -/
def oM (n : Nat) (S : OS) : Nat := (n - S.out.length) * (n + 1) + S.hp.length + (n - S.next)
theorem hp_le {S : OS} (h : OInv uses S) : S.hp.length ≤ uses.length := in_le h.hn (fun x hx => ⟨(h.hr x hx).2.1, by have := (h.hr x hx).2.2; have := h.nx; omega⟩)
/-- Each one stands behind those that it uses. -/
theorem Greedy.before {L : List Int} (h : Greedy uses L) : ∀ (k : Nat) (i : Int), L[k]? = some i → ∀ z, Edge uses i z → z ∈ L.take k := by
  induction h with
  | nil => simp
  | @snoc L j hL ha _ ih =>
    intro k i hk z hz
    by_cases hlt : k < L.length
    · rw [List.getElem?_append_left hlt] at hk
      rw [List.take_append_of_le_length (by omega)]
      exact ih k i hk z hz
    · have hk2 : k = L.length := by
        obtain ⟨hl, _⟩ := List.getElem?_eq_some_iff.1 hk
        simp at hl; omega
      subst hk2
      simp at hk
      subst hk
      simp
      exact ha.2.2 z hz
end
end Go.Proofs.Ytdodhbfplglbkaa

namespace Go.Proofs.Ytdodhbfplglbkaa
open Go.RowKit

/-- A block that holds a row of numbers: the row's own reading, for stores and loads. -/
theorem own_cells {w : World} {B : Nat} {v : Value} {xs : List Int} (h : w.ownsRow B 3 1 v xs.length (xs.map (Value.int .i64))) (hn : 0 < xs.length) :
    ∃ g cap, v = .slice (some ⟨g, 0, none⟩) xs.length cap ∧ B ≤ g ∧ xs.length ≤ cap ∧ cap ≤ maxLen ∧ g < w.heap.size ∧ (∀ k, k < xs.length → w.cell? ⟨g, k, none⟩ = some (.int .i64 (xs.getD k 0))) ∧ (∀ k, w.frozen? ⟨g, k, none⟩ = false) ∧
      (∀ k, k < xs.length → ∀ x : Int, (w.setCell ⟨g, k, none⟩ (.int .i64 x)).ownsRow B 3 1 v xs.length ((xs.set k x).map (Value.int .i64))) := by
  obtain ⟨g, cap, cur, rfl, hB, hb, h1, h2, h3, h4⟩ := own_some h hn
  refine ⟨g, cap, rfl, hB, h1, h2, hb.lt, fun k hk => ?_, fun k => hb.frozen k, fun k hk x => ?_⟩
  · rw [hb.cell]
    have : (cur.toList.take xs.length)[k]? = (xs.map (Value.int .i64))[k]? := by rw [h4]
    rw [List.getElem?_take, if_pos hk, Array.getElem?_toList, List.getElem?_map, getD_some hk (d := 0)] at this
    simpa using this
  · refine ⟨by simp, .inr ⟨g, cap, cur.setIfInBounds k (.int .i64 x), rfl, hB, Blk.set_ hb k _, h1, h2, by simpa using h3, ?_⟩⟩
    rw [Array.toList_setIfInBounds, List.map_set, ← h4]
    simp [List.take_set]

set_option maxHeartbeats 1000000 in
set_option maxRecDepth 100000 in
theorem Len_any (w : World) (A : Option Addr) (n c : Nat) :
    Calls Try.prog 135 #[.slice A n c] w fun e w' => e = .returned (.int .i64 n) ∧ w' = w := by
  go_enter Try.func135, Try.ntmps135
  go_wp2
  go_ret
  exact ⟨rfl, rfl⟩

set_option maxHeartbeats 1000000 in
set_option maxRecDepth 100000 in
theorem Less_any (w : World) (g n c i j : Nat) (x y : Int) (hi : (i : Int) < (n : Int)) (hj : (j : Int) < (n : Int)) (_hn : n ≤ 100000) (hx : w.cell? ⟨g, i, none⟩ = some (.int .i64 x)) (hy : w.cell? ⟨g, j, none⟩ = some (.int .i64 y)) :
    Calls Try.prog 178 #[.slice (some ⟨g, 0, none⟩) n c, .int .i64 i, .int .i64 j] w fun e w' => e = .returned (.bool (decide (x < y))) ∧ ∃ k, w' = w.drewN k := by
  go_enter Try.func178, Try.ntmps178
  go_wp2
  go_quiet (fail)
  go_wp2
  go_ret
  exact ⟨rfl, _, rfl⟩

set_option maxHeartbeats 1000000 in
set_option maxRecDepth 100000 in
theorem Swap_any (w : World) (g n c i j : Nat) (x y : Int) (hi : (i : Int) < (n : Int)) (hj : (j : Int) < (n : Int)) (_hn : n ≤ 100000) (hx : w.cell? ⟨g, i, none⟩ = some (.int .i64 x)) (hy : w.cell? ⟨g, j, none⟩ = some (.int .i64 y)) (fi : w.frozen? ⟨g, i, none⟩ = false) (fj : w.frozen? ⟨g, j, none⟩ = false) :
    Calls Try.prog 182 #[.slice (some ⟨g, 0, none⟩) n c, .int .i64 i, .int .i64 j] w fun e w' => e = .returned (.tuple #[]) ∧ ∃ k, w' = ((w.setCell ⟨g, i, none⟩ (.int .i64 y)).setCell ⟨g, j, none⟩ (.int .i64 x)).drewN k := by
  obtain ⟨z, hz⟩ : ∃ z, (w.setCell ⟨g, i, none⟩ (.int .i64 y)).cell? ⟨g, j, none⟩ = some z := by
    by_cases e : i = j
    · subst e
      exact ⟨_, World.cell?_setCell_same w ⟨g, i, none⟩ (.int .i64 y) hx⟩
    · exact ⟨_, (World.cell?_setCell_other w _ _ _ (by intro h; injection h; omega)).trans hy⟩
  have fz : (w.setCell ⟨g, i, none⟩ (.int .i64 y)).frozen? ⟨g, j, none⟩ = false := by rw [World.frozen?_setCell]; exact fj
  go_enter Try.func182, Try.ntmps182
  go_wp2
  go_region
  go_wp2
  go_end0
  exact ⟨rfl, _, rfl⟩
end Go.Proofs.Ytdodhbfplglbkaa

namespace Go.Proofs.Ytdodhbfplglbkaa
open Go.RowKit

/-- A heap in memory: its block holds the row that reads so. -/
structure HpB (w : World) (B b : Nat) (v : Value) (xs : List Int) : Prop where
  box : Blk w b 169 #[v]
  row : w.ownsRow B 3 1 v xs.length (xs.map (Value.int .i64))
  lt : b < B
theorem HpB.drewN {w : World} {B b : Nat} {v : Value} {xs : List Int} (h : HpB w B b v xs) (k : Nat) : HpB (w.drewN k) B b v xs := ⟨h.box, own_below h.row (below_drewN (Below.refl _ _) k), h.lt⟩
theorem grown_trans {w w1 w2 : World} {r : Option Nat} (h : w.grownBy w1 r) (h2 : w1.grownBy w2 r) : w.grownBy w2 r :=
  ⟨h2.os.trans h.os, h2.tape.trans h.tape, h2.output.trans h.output, Nat.le_trans h.size h2.size, fun k hk hr => (h2.block k (Nat.lt_of_lt_of_le hk h.size) hr).trans (h.block k hk hr)⟩
theorem grown_drewN {w w1 : World} {r : Option Nat} (h : w.grownBy w1 r) (k : Nat) : w.grownBy (w1.drewN k) r := ⟨h.os, h.tape, h.output, h.size, h.block⟩
theorem grown_set {w w1 : World} {g : Nat} (h : w.grownBy w1 (some g)) (i : Nat) (u : Value) : w.grownBy (w1.setCell ⟨g, i, none⟩ u) (some g) :=
  grown_trans h ⟨rfl, rfl, rfl, by simp [World.setCell], fun k _ hr => Below.heap_setCell _ _ _ _ (by intro e; exact hr (by rw [e]))⟩
@[go_sem] theorem nil_ahead_Less (a : Addr) (w : World) (f : Nat) : (nilAhead (f + 1) 166 (.pointer (some a)) "Less").run Try.prog w = .ok (some false) w := by kernel_rfl
@[go_sem] theorem nil_ahead_Swap (a : Addr) (w : World) (f : Nat) : (nilAhead (f + 1) 166 (.pointer (some a)) "Swap").run Try.prog w = .ok (some false) w := by kernel_rfl
@[go_sem] theorem nil_ahead_Len (a : Addr) (w : World) (f : Nat) : (nilAhead (f + 1) 166 (.pointer (some a)) "Len").run Try.prog w = .ok (some false) w := by kernel_rfl
@[go_sem] theorem nil_ahead_Push (a : Addr) (w : World) (f : Nat) : (nilAhead (f + 1) 166 (.pointer (some a)) "Push").run Try.prog w = .ok (some false) w := by kernel_rfl
@[go_sem] theorem nil_ahead_Pop (a : Addr) (w : World) (f : Nat) : (nilAhead (f + 1) 166 (.pointer (some a)) "Pop").run Try.prog w = .ok (some false) w := by kernel_rfl
theorem method_Less (w : World) (b f : Nat) (A : Option Addr) (n c : Nat) (h : w.cell? ⟨b, 0, none⟩ = some (.slice A n c)) : (method (f + 1) 166 (.pointer (some ⟨b, 0, none⟩)) "Less").run Try.prog w = .ok (178, .slice A n c) w := by
  have e : (method (f + 1) 166 (.pointer (some ⟨b, 0, none⟩)) "Less").run Try.prog w = (load ⟨b, 0, none⟩ >>= fun v => pure (178, v)).run Try.prog w := by kernel_rfl
  rw [e, Sem.run_bind, run_load, h]; rfl
theorem method_Swap (w : World) (b f : Nat) (A : Option Addr) (n c : Nat) (h : w.cell? ⟨b, 0, none⟩ = some (.slice A n c)) : (method (f + 1) 166 (.pointer (some ⟨b, 0, none⟩)) "Swap").run Try.prog w = .ok (182, .slice A n c) w := by
  have e : (method (f + 1) 166 (.pointer (some ⟨b, 0, none⟩)) "Swap").run Try.prog w = (load ⟨b, 0, none⟩ >>= fun v => pure (182, v)).run Try.prog w := by kernel_rfl
  rw [e, Sem.run_bind, run_load, h]; rfl
theorem method_Len (w : World) (b f : Nat) (A : Option Addr) (n c : Nat) (h : w.cell? ⟨b, 0, none⟩ = some (.slice A n c)) : (method (f + 1) 166 (.pointer (some ⟨b, 0, none⟩)) "Len").run Try.prog w = .ok (135, .slice A n c) w := by
  have e : (method (f + 1) 166 (.pointer (some ⟨b, 0, none⟩)) "Len").run Try.prog w = (load ⟨b, 0, none⟩ >>= fun v => pure (135, v)).run Try.prog w := by kernel_rfl
  rw [e, Sem.run_bind, run_load, h]; rfl
theorem method_Push (w : World) (a : Addr) (f : Nat) : (method (f + 1) 166 (.pointer (some a)) "Push").run Try.prog w = .ok (180, .pointer (some a)) w := by kernel_rfl
theorem method_Pop (w : World) (a : Addr) (f : Nat) : (method (f + 1) 166 (.pointer (some a)) "Pop").run Try.prog w = .ok (179, .pointer (some a)) w := by kernel_rfl
theorem HpB.set_ {w : World} {B b g m cap : Nat} {xs : List Int} (h : HpB w B b (.slice (some ⟨g, 0, none⟩) m cap) xs) {i : Nat} (hi : i < xs.length) (x : Int) : HpB (w.setCell ⟨g, i, none⟩ (.int .i64 x)) B b (.slice (some ⟨g, 0, none⟩) m cap) (xs.set i x) := by
  obtain ⟨g', cap', hv, hBg, _, _, _, _, _, hs⟩ := own_cells h.row (by omega)
  injection hv with h1 h2 h3
  injection h1 with h1
  injection h1 with h1
  subst h1 h3
  have := hs i hi x
  exact ⟨h.box.far (by have := h.lt; simp; omega) _, by rw [List.length_set]; exact this, h.lt⟩
theorem HpB.swap {w : World} {B b g m cap : Nat} {xs : List Int} (h : HpB w B b (.slice (some ⟨g, 0, none⟩) m cap) xs) {i j : Nat} (hi : i < xs.length) (hj : j < xs.length) : HpB ((w.setCell ⟨g, i, none⟩ (.int .i64 (xs.getD j 0))).setCell ⟨g, j, none⟩ (.int .i64 (xs.getD i 0))) B b (.slice (some ⟨g, 0, none⟩) m cap) (swapL xs i j) :=
  (h.set_ hi _).set_ (by rw [List.length_set]; exact hj) _
set_option maxHeartbeats 400000 in
set_option maxRecDepth 100000 in
theorem up_any (w : World) (B b : Nat) (v : Value) (xs : List Int) (j : Nat) (h : HpB w B b v xs) (hj : j < xs.length) (hn : xs.length ≤ 100000) :
    Calls Try.prog 151 #[.iface 166 (.pointer (some ⟨b, 0, none⟩)), .int .i64 j] w fun e w' => e = .returned (.tuple #[]) ∧ HpB w' B b v (upF (j + 1) xs j) ∧ w.grownBy w' v.ownBlock := by
  have H := Lib.hid h
  generalize hm : xs.length = m at *
  have HM := Lib.hid hm
  clear h hm
  go_enter Try.func151, Try.ntmps151
  go_wp2
  go_loopw [1] (fun i wr => ∃ (k f : Nat) (ys : List Int), i = .int .i64 k ∧ k < m ∧ k < f ∧ ys.length = m ∧ upF f ys k = upF (j + 1) xs j ∧ HpB wr B b v ys ∧ w.grownBy wr v.ownBlock) (fun i _ => (intOf i).toNat)
  case atStart => exact ⟨j, j + 1, xs, rfl, hj, by omega, HM.out, rfl, H.out, World.grownBy.refl _ _⟩
  case round =>
    obtain ⟨k, f, ys, rfl, hk, hkf, hl, he, hb, hg⟩ := hrel
    have HB := Lib.hid hb
    have HG := Lib.hid hg
    have HE := Lib.hid he
    have c0 := hb.box.cell 0
    simp only [List.getElem?_toArray, List.getElem?_cons_zero] at c0
    obtain ⟨g, cap, hv, hBg, h1, h2, h3, hc, hf, hs⟩ := own_cells hb.row (by omega)
    rw [hl] at hv h1 hc
    have HLN := Lib.hid hl
    by_cases hk0 : k = 0
    · subst hk0
      clear hb hg he hc hs hl
      go_wp2
      go_end0
      have he := HE.out
      rw [show upF f ys 0 = ys by cases f <;> simp [upF]] at he
      exact ⟨rfl, by rw [← he]; exact HB.out, HG.out⟩
    · obtain ⟨i, hi, hik⟩ : ∃ i : Nat, ((k : Int) - 1) / 2 = (i : Int) ∧ i = (k - 1) / 2 := ⟨(k - 1) / 2, by omega, rfl⟩
      have hil : i < m := by omega
      have hne : i ≠ k := by omega
      have hq : (((k : Int) - 1) / 2 == (k : Int)) = false := by simp; omega
      subst hv
      have m0 : (method 311 166 (.pointer (some ⟨b, 0, none⟩)) "Less").run Try.prog wr = .ok (178, .slice (some ⟨g, 0, none⟩) m cap) wr := method_Less wr b 310 _ _ _ c0
      have ck := hc k (by omega)
      have ci := hc i (by omega)
      have hsk := hs k (by omega)
      have hup : upF f ys k = if ys.getD k 0 < ys.getD i 0 then upF (f - 1) (swapL ys i k) i else ys := by
        cases f with
        | zero => omega
        | succ f => rw [upF, if_neg hk0, ← hik]; rfl
      have hsw : swapL ys i k = (ys.set i (ys.getD k 0)).set k (ys.getD i 0) := rfl
      obtain ⟨x, hx⟩ : ∃ x, ys.getD k 0 = x := ⟨_, rfl⟩
      obtain ⟨y, hy⟩ : ∃ y, ys.getD i 0 = y := ⟨_, rfl⟩
      rw [hx] at ck hup hsw
      rw [hy] at ci hup hsw
      have hless := Less_any wr g m cap k i x y (by omega) (by omega) (by omega) ck ci
      rw [← hi] at hless
      have HUP := Lib.hid hup
      have HSW := Lib.hid hsw
      have HI := Lib.hid hi
      have HIK := Lib.hid hik
      have HX := Lib.hid hx
      have HY := Lib.hid hy
      by_cases hlt : x < y
      · have hs1 := hs i (by omega) x
        have m1 : ∀ kd, (method 311 166 (.pointer (some ⟨b, 0, none⟩)) "Swap").run Try.prog (wr.drewN kd) = .ok (182, .slice (some ⟨g, 0, none⟩) m cap) (wr.drewN kd) := fun kd => method_Swap (wr.drewN kd) b 310 _ _ _ c0
        have hswap : ∀ kd, Calls Try.prog 182 #[.slice (some ⟨g, 0, none⟩) m cap, .int .i64 (((k : Int) - 1) / 2), .int .i64 k] (wr.drewN kd) fun e w' => e = .returned (.tuple #[]) ∧ ∃ k', w' = (((wr.drewN kd).setCell ⟨g, i, none⟩ (.int .i64 x)).setCell ⟨g, k, none⟩ (.int .i64 y)).drewN k' := fun kd => by
          rw [hi]
          exact Swap_any (wr.drewN kd) g m cap i k y x (by omega) (by omega) (by omega) ci ck (hf i) (hf k)
        rw [decide_eq_true hlt] at hless
        have HL := Lib.hid hless
        have HS := Lib.hid hswap
        have HLT := Lib.hid hlt
        clear hb hg he hc hs hless hl hik hi hswap hup hsw hx hy hlt hs1 hsk ck ci hf
        go_wp2_with (first
          | (go_at_call 178; refine HL.out.mono ?_; rintro e w5 ⟨rfl, kd, rfl⟩)
          | (go_at_call 182; refine (HS.out _).mono ?_; rintro e w6 ⟨rfl, ke, rfl⟩))
        have hik := HIK.out
        refine ⟨⟨i, f - 1, swapL ys i k, by rw [HI.out], hil, by omega, by rw [swap_len]; exact HLN.out, by rw [← HE.out, HUP.out, if_pos HLT.out], ?_, ?_⟩, by rw [HI.out]; simp [intOf]; omega⟩
        · have := (HB.out.drewN kd).swap (i := i) (j := k) (by rw [HLN.out]; exact hil) (by rw [HLN.out]; exact hk)
          rw [HX.out, HY.out] at this
          exact this.drewN ke
        · exact grown_drewN (grown_set (grown_set (grown_drewN HG.out kd) i _) k _) ke
      · rw [decide_eq_false hlt] at hless
        have HL := Lib.hid hless
        have HLT := Lib.hid hlt
        clear hb hg he hc hs hless hl hik hi hup hsw hx hy hlt hsk ck ci hf
        go_wp2_with (go_at_call 178; refine HL.out.mono ?_; rintro e w5 ⟨rfl, kd, rfl⟩)
        go_end0
        refine ⟨rfl, ?_, grown_drewN HG.out kd⟩
        have he := HE.out
        rw [HUP.out, if_neg (Int.not_lt.2 HLT.out)] at he
        rw [← he]
        exact HB.out.drewN kd
end Go.Proofs.Ytdodhbfplglbkaa

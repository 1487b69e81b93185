/- Stim: the text of a witness, and what is read of a text: plain. -/
import Derived.Test.YtjbglgmbnjdhcaaDoorSimN
import Derived.Lib.SplitLaws
import Derived.Lib.AtoiAll
import Derived.Lib.ItoaNum
import Derived.Lib.Join
namespace Go.Proofs.YtjbglgmbnjdhcaaDoor
open Go

abbrev Bs := List UInt8

/-! ### numerals -/
abbrev dec (n : Nat) : Bs := Lib.decDigits n
theorem dec_small {n : Nat} (h : n < 10) : dec n = [UInt8.ofNat (48 + n)] := by unfold dec; rw [Lib.decDigits, dif_pos h]
theorem dec_big {n : Nat} (h : ¬ n < 10) : dec n = dec (n / 10) ++ [UInt8.ofNat (48 + n % 10)] := by unfold dec; rw [Lib.decDigits, dif_neg h]
theorem dig_nat {n : Nat} (h : n < 10) : (UInt8.ofNat (48 + n)).toNat = 48 + n := by simp; omega
theorem dec_digits : ∀ (n : Nat), ∀ c ∈ dec n, 48 ≤ c.toNat ∧ c.toNat ≤ 57 := by
  intro n
  induction n using Nat.strongRecOn with
  | _ n ih =>
    intro c hc
    by_cases h : n < 10
    · rw [dec_small h] at hc
      simp only [List.mem_singleton] at hc
      subst hc
      rw [dig_nat h]
      omega
    · rw [dec_big h] at hc
      rcases List.mem_append.1 hc with hc | hc
      · exact ih (n / 10) (by omega) c hc
      · simp only [List.mem_singleton] at hc
        subst hc
        rw [dig_nat (by omega)]
        omega
theorem dec_ne (n : Nat) : dec n ≠ [] := by
  by_cases h : n < 10
  · rw [dec_small h]; simp
  · rw [dec_big h]; simp
theorem parse_app : ∀ (l r : Bs) (a : Nat), (∀ c ∈ l, 48 ≤ c.toNat ∧ c.toNat ≤ 57) → Lib.parseUint10 a (l ++ r) = match Lib.parseUint10 a l with | .ok v => Lib.parseUint10 v r | x => x
  | [], r, a, _ => rfl
  | c :: l, r, a, h => by
    simp only [List.cons_append, Lib.parseUint10]
    rw [if_pos (h c (by simp)), if_pos (h c (by simp))]
    split
    · rfl
    · split
      · rfl
      · exact parse_app l r _ (fun x hx => h x (by simp [hx]))
theorem parse_dec : ∀ (n : Nat), n < 1000000000000000000 → Lib.parseUint10 0 (dec n) = .ok n := by
  intro n
  induction n using Nat.strongRecOn with
  | _ n ih =>
    intro hn
    by_cases h : n < 10
    · rw [dec_small h]
      simp only [Lib.parseUint10]
      rw [dig_nat h, if_pos (by omega), if_neg (by omega), if_neg (by omega)]
      congr 1
      omega
    · rw [dec_big h, parse_app _ _ _ (dec_digits _), ih (n / 10) (by omega) (by omega)]
      simp only [Lib.parseUint10]
      rw [dig_nat (by omega), if_pos (by omega), if_neg (by omega), if_neg (by omega)]
      congr 1
      omega
theorem atoi_dec (n : Nat) (h : n < 1000000000000000000) : Lib.atoiAll (dec n) = .ok (n : Int) := by
  have hp := parse_dec n h
  have hd := dec_digits n
  cases hl : dec n with
  | nil => exact absurd hl (dec_ne n)
  | cons c r =>
    rw [hl] at hp hd
    have hc := hd c (by simp)
    unfold Lib.atoiAll
    simp only
    rw [if_neg (by omega)]
    unfold Lib.parseMag
    rw [if_neg (by simp), hp]
    simp only
    rw [if_neg (by omega), if_neg (by omega), if_neg (by omega)]
theorem itoa_dec (n : Nat) : Lib.itoa (n : Int) = dec n := by unfold Lib.itoa; rw [if_neg (by omega)]; rfl
/-- What a word is as a number: what is written of it, below 16384. -/
def numB (s : Bs) : Option Nat := match Lib.atoiAll s with
  | .ok v => if 0 ≤ v ∧ v < 16384 ∧ Lib.itoa v = s then some v.toNat else none
  | _ => none
theorem numB_dec {n : Nat} (h : n < 16384) : numB (dec n) = some n := by
  unfold numB
  rw [atoi_dec n (by omega)]
  simp only
  rw [if_pos ⟨by omega, by omega, itoa_dec n⟩]
  simp
theorem numB_some {s : Bs} {n : Nat} (h : numB s = some n) : n < 16384 ∧ s = dec n := by
  unfold numB at h
  split at h
  · split at h
    · rename_i v hv hc
      injection h with h
      subst h
      refine ⟨by omega, ?_⟩
      rw [← itoa_dec, ← hc.2.2, Int.toNat_of_nonneg hc.1]
    · cases h
  · cases h
theorem notin_dec {c : UInt8} (n : Nat) (h : c.toNat < 48 ∨ 57 < c.toNat) : c ∉ dec n := fun hc => by
  have := dec_digits n c hc
  omega

/-! ### cut at a byte -/
def cutC (c : UInt8) : Bs → Option (Bs × Bs)
  | [] => none
  | x :: r => if x = c then some ([], r) else (cutC c r).map fun y => (x :: y.1, y.2)
theorem cutC_some {c : UInt8} : ∀ {s a r : Bs}, cutC c s = some (a, r) → s = a ++ c :: r ∧ c ∉ a
  | [], _, _, h => by cases h
  | x :: l, a, r, h => by
    unfold cutC at h
    split at h
    · rename_i hx
      injection h with h
      injection h with h1 h2
      subst h1 h2 hx
      simp
    · rename_i hx
      obtain ⟨⟨a', r'⟩, h1, h2⟩ := Option.map_eq_some_iff.1 h
      injection h2 with h2 h3
      obtain ⟨e1, e2⟩ := cutC_some h1
      subst h2 h3
      refine ⟨by rw [e1]; rfl, ?_⟩
      simp only [List.mem_cons, not_or]
      exact ⟨fun e => hx e.symm, e2⟩
theorem cutC_none {c : UInt8} : ∀ {s : Bs}, cutC c s = none → c ∉ s
  | [], _ => by simp
  | x :: l, h => by
    unfold cutC at h
    split at h
    · cases h
    · rename_i hx
      have := cutC_none (Option.map_eq_none_iff.1 h)
      simp only [List.mem_cons, not_or]
      exact ⟨fun e => hx e.symm, this⟩
theorem cutC_app {c : UInt8} : ∀ {a : Bs} (r : Bs), c ∉ a → cutC c (a ++ c :: r) = some (a, r)
  | [], r, _ => by simp [cutC]
  | x :: l, r, h => by
    simp only [List.mem_cons, not_or] at h
    simp only [List.cons_append, cutC]
    rw [if_neg (fun e => h.1 e.symm), cutC_app r h.2]
    rfl
theorem cutC_notin {c : UInt8} {s : Bs} (h : c ∉ s) : cutC c s = none := by
  cases e : cutC c s with
  | none => rfl
  | some x =>
    obtain ⟨a, r⟩ := x
    have := (cutC_some e).1
    rw [this] at h
    simp at h
theorem cutC_more {c : UInt8} {s a r : Bs} (t : Bs) (h : cutC c s = some (a, r)) : cutC c (s ++ t) = some (a, r ++ t) := by
  obtain ⟨e, h2⟩ := cutC_some h
  rw [e, List.append_assoc]
  exact cutC_app _ h2
theorem index_cutC (c : UInt8) : ∀ s : Bs, Lib.index s [c] = match cutC c s with | some (a, _) => (a.length : Int) | none => -1
  | [] => by simp [Lib.index, cutC]
  | x :: r => by
    have ih := index_cutC c r
    by_cases hx : x = c
    · subst hx
      simp [Lib.index, cutC]
    · have h1 : ([c].isPrefixOf (x :: r)) = false := by
        rw [Bool.eq_false_iff]
        intro h
        obtain ⟨t, ht⟩ := List.isPrefixOf_iff_prefix.1 h
        injection ht with h1
        exact hx h1.symm
      unfold Lib.index cutC
      rw [h1, ih, if_neg hx]
      cases e : cutC c r with
      | none => simp
      | some y =>
        obtain ⟨a, b⟩ := y
        have : ((a.length : Int) == -1) = false := by rw [beq_eq_false_iff_ne]; omega
        simp [this]
theorem cut_cutC (c : UInt8) (s : Bs) : Lib.cut s [c] = match cutC c s with | some (a, r) => (a, r, true) | none => (s, [], false) := by
  unfold Lib.cut
  rw [index_cutC]
  cases e : cutC c s with
  | none => simp
  | some y =>
    obtain ⟨a, r⟩ := y
    obtain ⟨h, _⟩ := cutC_some e
    simp only
    rw [if_pos (by omega), h]
    simp
theorem splitK_hit {c : UInt8} {s a r : Bs} (k : Nat) (h : cutC c s = some (a, r)) : Lib.splitK [c] 0 (k + 1) s = a :: Lib.splitK [c] 0 k r := by
  have hi := index_cutC c s
  rw [h] at hi
  simp only at hi
  have hm : ((a.length : Int) == -1) = false := by rw [beq_eq_false_iff_ne]; omega
  obtain ⟨e, _⟩ := cutC_some h
  rw [Lib.splitK, hi, hm, if_neg (by decide)]
  subst e
  simp
theorem splitK_miss {c : UInt8} {s : Bs} (k : Nat) (h : cutC c s = none) : Lib.splitK [c] 0 k s = [s] := by
  have hi := index_cutC c s
  rw [h] at hi
  simp only at hi
  cases k with
  | zero => rfl
  | succ k => rw [Lib.splitK, hi]; rfl
theorem join_two (x y : Bs) (r : List Bs) (sep : Bs) : Lib.join (x :: y :: r) sep = x ++ sep ++ Lib.join (y :: r) sep := by
  rw [Lib.join_cons, Lib.join_cons]
  simp [Lib.joinTail]
theorem splitK_ne (c : UInt8) (k : Nat) (s : Bs) : ∃ x r, Lib.splitK [c] 0 k s = x :: r := by
  cases k with
  | zero => exact ⟨s, [], rfl⟩
  | succ k =>
    cases e : cutC c s with
    | none => rw [splitK_miss _ e]; exact ⟨_, _, rfl⟩
    | some y => obtain ⟨a, r⟩ := y; rw [splitK_hit k e]; exact ⟨_, _, rfl⟩
theorem join_splitK (c : UInt8) : ∀ (k : Nat) (s : Bs), Lib.join (Lib.splitK [c] 0 k s) [c] = s
  | 0, s => by show Lib.join [s] [c] = s; exact Lib.join_one _ _
  | k + 1, s => by
    cases e : cutC c s with
    | none => rw [splitK_miss _ e]; exact Lib.join_one _ _
    | some y =>
      obtain ⟨a, r⟩ := y
      have ih := join_splitK c k r
      rw [splitK_hit k e]
      obtain ⟨x, t, hx⟩ := splitK_ne c k r
      rw [hx] at ih ⊢
      rw [join_two, ih, (cutC_some e).1]
      simp
theorem splitK_join {c : UInt8} : ∀ {ws : List Bs} (k : Nat), ws ≠ [] → (∀ x ∈ ws, c ∉ x) → ws.length ≤ k + 1 → Lib.splitK [c] 0 k (Lib.join ws [c]) = ws
  | [], _, h, _, _ => absurd rfl h
  | [x], k, _, h, _ => by rw [Lib.join_one]; exact splitK_miss _ (cutC_notin (h x (by simp)))
  | x :: y :: r, k, _, h, hl => by
    obtain ⟨k, rfl⟩ : ∃ j, k = j + 1 := ⟨k - 1, by simp at hl; omega⟩
    have e : cutC c (Lib.join (x :: y :: r) [c]) = some (x, Lib.join (y :: r) [c]) := by
      rw [join_two, List.append_assoc]
      exact cutC_app _ (h x (by simp))
    rw [splitK_hit k e, splitK_join k (by simp) (fun z hz => h z (by simp [hz])) (by simp at hl ⊢; omega)]
theorem join_len (c : UInt8) : ∀ {ws : List Bs}, ws.length ≤ (Lib.join ws [c]).length + 1
  | [] => by simp
  | [x] => by simp
  | x :: y :: r => by
    have := join_len c (ws := y :: r)
    rw [join_two]
    simp only [List.length_cons, List.length_append] at this ⊢
    omega

/-! ### properties -/
def okP (p : Int × Int) : Prop := (p.1 = 98 ∨ p.1 = 106) ∧ 0 ≤ p.2 ∧ p.2 < 16384
instance (p : Int × Int) : Decidable (okP p) := by unfold okP; infer_instance
def okPs (l : List (Int × Int)) : Bool := decide (l ≠ [] ∧ (∀ p ∈ l, okP p) ∧ l.Nodup)
def propW (p : Int × Int) : Bs := UInt8.ofNat p.1.toNat :: dec p.2.toNat
def propB : Bs → Option (Int × Int)
  | [] => none
  | k :: r => (numB r).map fun (n : Nat) => ((k.toNat : Int), (n : Int))
def wordsB : List Bs → Option (List (Int × Int))
  | [] => some []
  | x :: r => match propB x with
    | none => none
    | some p => (wordsB r).map (p :: ·)
def piecesB (l : Bs) : List Bs := Lib.splitK [32] 0 (min 16385 (l.length + 1) - 1) l
def propsB (l : Bs) : Option (List (Int × Int)) :=
  if 16384 < (piecesB l).length then none else
  match wordsB (piecesB l) with
  | none => none
  | some ps => if okPs ps = true then some ps else none
theorem propB_W {p : Int × Int} (h : okP p) : propB (propW p) = some p := by
  obtain ⟨k, a⟩ := p
  obtain ⟨h1, h2, h3⟩ := h
  simp only at h1 h2 h3
  unfold propW propB
  simp only
  rw [numB_dec (by omega)]
  have e1 : ((UInt8.ofNat k.toNat).toNat : Int) = k := by rcases h1 with rfl | rfl <;> decide
  simp only [Option.map_some, e1, Int.toNat_of_nonneg h2]
theorem wordsB_W : ∀ {ps : List (Int × Int)}, (∀ p ∈ ps, okP p) → wordsB (ps.map propW) = some ps
  | [], _ => rfl
  | p :: r, h => by
    simp only [List.map_cons, wordsB]
    rw [propB_W (h p (by simp)), wordsB_W (fun q hq => h q (by simp [hq]))]
    rfl
def propsL (ps : List (Int × Int)) : Bs := Lib.join (ps.map propW) [32]
theorem propW_notin {c : UInt8} {p : Int × Int} (h : okP p) (hc : c.toNat < 48) : c ∉ propW p := by
  unfold propW
  simp only [List.mem_cons, not_or]
  refine ⟨fun e => ?_, notin_dec _ (.inl hc)⟩
  subst e
  rcases h.1 with e | e <;> rw [e] at hc <;> exact absurd hc (by decide)
theorem propsB_L {ps : List (Int × Int)} (h : okPs ps = true) (hl : ps.length ≤ 16384) : propsB (propsL ps) = some ps := by
  have h' := of_decide_eq_true h
  have hne : ps.map propW ≠ [] := by simpa using h'.1
  have hj := join_len 32 (ws := ps.map propW)
  have e : piecesB (propsL ps) = ps.map propW := by
    unfold piecesB propsL
    refine splitK_join _ hne (fun x hx => ?_) ?_
    · obtain ⟨p, hp, rfl⟩ := List.mem_map.1 hx
      exact propW_notin (h'.2.1 p hp) (by decide)
    · simp only [List.length_map] at hj ⊢
      omega
  unfold propsB
  rw [e, if_neg (by simpa using hl), wordsB_W h'.2.1]
  simp only
  rw [if_pos h]
theorem propsL_notin {ps : List (Int × Int)} (h : ∀ p ∈ ps, okP p) : (10 : UInt8) ∉ propsL ps := by
  unfold propsL
  induction ps with
  | nil => simp [Lib.join]
  | cons p r ih =>
    cases r with
    | nil => simp only [List.map_cons, List.map_nil, Lib.join_one]; exact propW_notin (h p (by simp)) (by decide)
    | cons q r =>
      have h1 := ih (fun x hx => h x (by simp [hx]))
      simp only [List.map_cons] at h1 ⊢
      rw [join_two]
      simp only [List.mem_append, not_or]
      exact ⟨⟨propW_notin (h p (by simp)) (by decide), by decide⟩, h1⟩

/-! ### rows -/
def bitsB (r : List Bool) : Bs := r.map fun b => if b then 49 else 48
def rowB (n : Nat) (l : Bs) : Option (List Bool) := if l.length = n ∧ ∀ c ∈ l, c = 48 ∨ c = 49 ∨ c = 120 then some (l.map (· == 49)) else none
theorem bits_mem {r : List Bool} {c : UInt8} (h : c ∈ bitsB r) : c = 48 ∨ c = 49 := by
  obtain ⟨b, _, rfl⟩ := List.mem_map.1 h
  cases b <;> simp
theorem bits_len (r : List Bool) : (bitsB r).length = r.length := by unfold bitsB; simp
theorem rowB_bits (r : List Bool) : rowB r.length (bitsB r) = some r := by
  unfold rowB
  rw [if_pos ⟨bits_len r, fun c hc => by rcases bits_mem hc with h | h <;> simp [h]⟩]
  congr 1
  unfold bitsB
  rw [List.map_map]
  conv => rhs; rw [← List.map_id r]
  refine List.map_congr_left fun b _ => ?_
  cases b <;> rfl
theorem rowB_some {n : Nat} {l : Bs} {r : List Bool} (h : rowB n l = some r) : r.length = n ∧ l.length = n ∧ (∀ c ∈ l, c = 48 ∨ c = 49 ∨ c = 120) ∧ ((120 : UInt8) ∉ l → l = bitsB r) := by
  unfold rowB at h
  split at h
  · rename_i hc
    injection h with h
    subst h
    refine ⟨by simpa using hc.1, hc.1, hc.2, fun hx => ?_⟩
    unfold bitsB
    rw [List.map_map]
    conv => lhs; rw [← List.map_id l]
    refine List.map_congr_left fun c hcl => ?_
    rcases hc.2 c hcl with rfl | rfl | rfl
    · rfl
    · rfl
    · exact absurd hcl hx
  · cases h
theorem bits_notin (r : List Bool) : (10 : UInt8) ∉ bitsB r := fun h => by rcases bits_mem h with h | h <;> cases h

/-! ### the lines -/
/-- The next line, and what stands behind it; a line that does not end is a byte 10, behind which stands what stood. -/
def lnB (s : Bs) : Bs × Bs := match cutC 10 s with | some x => x | none => ([10], s)
theorem lnB_app {a : Bs} (r : Bs) (h : (10 : UInt8) ∉ a) : lnB (a ++ 10 :: r) = (a, r) := by unfold lnB; rw [cutC_app r h]
theorem lnB_cases (s : Bs) : (lnB s = ([10], s) ∧ (10 : UInt8) ∉ s) ∨ (∃ a r, lnB s = (a, r) ∧ s = a ++ 10 :: r ∧ (10 : UInt8) ∉ a ∧ ∀ t, lnB (s ++ t) = (a, r ++ t)) := by
  unfold lnB
  cases e : cutC 10 s with
  | none => exact .inl ⟨rfl, cutC_none e⟩
  | some x =>
    obtain ⟨a, r⟩ := x
    obtain ⟨h1, h2⟩ := cutC_some e
    exact .inr ⟨a, r, rfl, h1, h2, fun t => by rw [cutC_more t e]⟩
/-- A line that is not a byte 10 ended. -/
theorem lnB_of {s a r : Bs} (h : lnB s = (a, r)) (hne : a ≠ [10]) : s = a ++ 10 :: r ∧ (10 : UInt8) ∉ a ∧ ∀ t, lnB (s ++ t) = (a, r ++ t) := by
  rcases lnB_cases s with ⟨h1, _⟩ | ⟨a', r', h1, h2, h3, h4⟩
  · rw [h] at h1
    injection h1 with h1
    exact absurd h1 hne
  · rw [h] at h1
    injection h1 with h5 h6
    subst h5 h6
    exact ⟨h2, h3, h4⟩
def loopW : Bs := [99, 32, 108, 111, 111, 112, 32]
/-- The number of a loop's line. -/
def loopB (l : Bs) : Option Nat := if loopW.isPrefixOf l = true then numB (l.drop 7) else none
theorem loopB_W {n : Nat} (h : n < 16384) : loopB (loopW ++ dec n) = some n := by
  unfold loopB
  rw [if_pos (by rw [List.isPrefixOf_iff_prefix]; exact ⟨_, rfl⟩)]
  exact numB_dec h
theorem loopB_some {l : Bs} {n : Nat} (h : loopB l = some n) : n < 16384 ∧ l = loopW ++ dec n := by
  unfold loopB at h
  split at h
  · rename_i hp
    obtain ⟨t, rfl⟩ := List.isPrefixOf_iff_prefix.1 hp
    obtain ⟨h1, h2⟩ := numB_some h
    refine ⟨h1, ?_⟩
    rw [← h2]
    rfl
  · cases h
theorem loopB_bits (r : List Bool) : loopB (bitsB r) = none := by
  unfold loopB
  rw [if_neg]
  intro h
  obtain ⟨t, ht⟩ := List.isPrefixOf_iff_prefix.1 h
  have : (99 : UInt8) ∈ bitsB r := by rw [← ht]; simp [loopW]
  rcases bits_mem this with h | h <;> cases h
/-- The lines of a trace behind its first one: the rows, the loop, what stands behind. -/
def traceF (n : Nat) : Nat → List (List Bool) → Bs → Option (List (List Bool) × Int × Bs)
  | 0, _, _ => none
  | k + 1, rows, s =>
    if (lnB s).1 = [46] then (if 0 < rows.length then some (rows, -1, (lnB s).2) else none) else
    match loopB (lnB s).1 with
    | some tq => if tq < rows.length ∧ (lnB (lnB s).2).1 = [46] then some (rows, (tq : Int), (lnB (lnB s).2).2) else none
    | none => match rowB n (lnB s).1 with
      | none => none
      | some row => if rows.length = 512 then none else traceF n k (rows ++ [row]) (lnB s).2
structure Wit where
  st : Int
  ps : List (Int × Int)
  tr : Tr
def bodyB (L n : Nat) (s : Bs) : Option (Tr × Bs) :=
  match rowB L (lnB s).1 with
  | none => none
  | some ini => (traceF n (s.length + 1) [] (lnB s).2).map fun x => (⟨ini, x.1, x.2.1⟩, x.2.2)
def parseW (L n : Nat) (s : Bs) : Option (Wit × Bs) :=
  match numB (lnB s).1 with
  | none => none
  | some st => if 2 < st then none else
    match propsB (lnB (lnB s).2).1 with
    | none => none
    | some ps =>
      if st = 1 then (bodyB L n (lnB (lnB s).2).2).map fun x => (⟨1, ps, x.1⟩, x.2)
      else if (lnB (lnB (lnB s).2).2).1 = [46] then some (⟨st, ps, ⟨[], [], 0⟩⟩, (lnB (lnB (lnB s).2).2).2) else none
def okT (t : Tr) (L n : Nat) : Bool := decide (t.init.length = L ∧ 1 ≤ t.rows.length ∧ t.rows.length ≤ 512 ∧ (∀ r ∈ t.rows, r.length = n) ∧ -1 ≤ t.loop ∧ t.loop < t.rows.length)
def noT (t : Tr) : Bool := decide (t.init.length = 0 ∧ t.rows.length = 0 ∧ t.loop = 0)
def fitW (w : Wit) (L n : Nat) : Bool := if w.st = 1 then okT w.tr L n else noT w.tr
/-- What a witness is refused for. -/
def witE (w : Wit) (L n : Int) : Int :=
  if ¬ (0 ≤ L ∧ L ≤ 16384 ∧ 0 ≤ n ∧ n ≤ 16384) then 1 else
  if w.st < 0 ∨ 2 < w.st then 120 else
  if 16384 < w.ps.length then 2 else
  if okPs w.ps = false then 121 else
  if fitW w L.toNat n.toNat = false then 4 else 0
def lineL (l : Bs) : Bs := l ++ [10]
def loopL (k : Int) : Bs := if k = -1 then [] else lineL (loopW ++ dec k.toNat)
def rowsL (rs : List (List Bool)) : Bs := (rs.map fun r => lineL (bitsB r)).flatten
def textW (w : Wit) : Bs := lineL (dec w.st.toNat) ++ lineL (propsL w.ps) ++ (if w.st = 1 then lineL (bitsB w.tr.init) ++ rowsL w.tr.rows ++ loopL w.tr.loop else []) ++ lineL [46]

theorem lnB_line {a : Bs} (r : Bs) (h : (10 : UInt8) ∉ a) : lnB (lineL a ++ r) = (a, r) := by
  unfold lineL
  rw [List.append_assoc]
  exact lnB_app r h
theorem dot_notin : (10 : UInt8) ∉ ([46] : Bs) := by decide
theorem bits_dot (r : List Bool) : bitsB r ≠ [46] := fun h => by
  have : (46 : UInt8) ∈ bitsB r := by rw [h]; simp
  rcases bits_mem this with h | h <;> cases h
theorem traceF_end {n : Nat} (k : Nat) (rows : List (List Bool)) (loop : Int) (rest : Bs) (h0 : 0 < rows.length) (h1 : rows.length ≤ 512) (hl : -1 ≤ loop) (hl2 : loop < rows.length) : traceF n (k + 1) rows (loopL loop ++ lineL [46] ++ rest) = some (rows, loop, rest) := by
  unfold traceF loopL
  by_cases e : loop = -1
  · rw [if_pos e, List.nil_append, lnB_line rest dot_notin]
    simp only
    rw [if_pos (by first | rfl | trivial), if_pos h0, e]
  · rw [if_neg e, List.append_assoc, lnB_line _ (by simp only [List.mem_append, not_or]; exact ⟨by decide, notin_dec _ (.inl (by decide))⟩)]
    simp only
    rw [if_neg (by simp [loopW]), loopB_W (by omega)]
    simp only
    rw [lnB_line rest dot_notin]
    simp only
    rw [if_pos ⟨by omega, trivial⟩, Int.toNat_of_nonneg (by omega)]
theorem traceF_rows {n : Nat} (loop : Int) (rest : Bs) : ∀ (rs : List (List Bool)) (k : Nat) (rows : List (List Bool)), rs.length < k → (∀ r ∈ rs, r.length = n) → 0 < rows.length + rs.length → rows.length + rs.length ≤ 512 → -1 ≤ loop → loop < rows.length + rs.length → traceF n k rows (rowsL rs ++ (loopL loop ++ lineL [46] ++ rest)) = some (rows ++ rs, loop, rest)
  | [], k, rows, hk, _, h0, h1, hl, hl2 => by
    obtain ⟨k, rfl⟩ : ∃ j, k = j + 1 := ⟨k - 1, by simp at hk; omega⟩
    have := traceF_end (n := n) k rows loop rest (by simpa using h0) (by simpa using h1) hl (by simpa using hl2)
    simpa [rowsL] using this
  | r :: rs, k, rows, hk, hr, h0, h1, hl, hl2 => by
    obtain ⟨k, rfl⟩ : ∃ j, k = j + 1 := ⟨k - 1, by simp at hk; omega⟩
    have ih := traceF_rows loop rest rs k (rows ++ [r]) (by simp at hk ⊢; omega) (fun x hx => hr x (by simp [hx])) (by simp; omega) (by simp at h1 ⊢; omega) hl (by simp at hl2 ⊢; omega)
    have e : rowsL (r :: rs) = lineL (bitsB r) ++ rowsL rs := by simp [rowsL]
    unfold traceF
    rw [e, List.append_assoc, lnB_line _ (bits_notin r)]
    simp only
    have hrr := rowB_bits r
    rw [hr r (by simp)] at hrr
    rw [if_neg (bits_dot r), loopB_bits r, hrr]
    simp only
    rw [if_neg (by simp at h1; omega), ih]
    simp
theorem rows_le : ∀ rows : List (List Bool), rows.length ≤ (rowsL rows).length
  | [] => by simp
  | r :: rs => by
    have ih := rows_le rs
    have e : rowsL (r :: rs) = lineL (bitsB r) ++ rowsL rs := by simp [rowsL]
    rw [e]
    simp only [List.length_cons, List.length_append, lineL, List.length_nil]
    omega
/-- What is written is read as it. -/
theorem parse_text {w : Wit} {L n : Int} (h : witE w L n = 0) (rest : Bs) : parseW L.toNat n.toNat (textW w ++ rest) = some (w, rest) := by
  obtain ⟨st, ps, tr⟩ := w
  unfold witE at h
  simp only at h
  split at h
  · cases h
  rename_i hc
  split at h
  · cases h
  rename_i hs
  split at h
  · cases h
  rename_i hpl
  split at h
  · cases h
  rename_i hps
  have hps' : okPs ps = true := by simpa using hps
  have hpp := (of_decide_eq_true hps').2.1
  split at h
  · cases h
  rename_i ht
  clear h
  have hd10 : (10 : UInt8) ∉ dec st.toNat := notin_dec _ (.inl (by decide))
  unfold parseW textW
  simp only
  rw [List.append_assoc, List.append_assoc, List.append_assoc, lnB_line _ hd10]
  simp only
  rw [numB_dec (by omega)]
  simp only
  rw [if_neg (by omega), lnB_line _ (propsL_notin hpp)]
  simp only
  rw [propsB_L hps' (by omega)]
  simp only
  by_cases e : st = 1
  · subst e
    have ht' : okT tr L.toNat n.toNat = true := by unfold fitW at ht; simpa using ht
    rw [if_pos (by rfl), if_pos (by first | rfl | trivial)]
    have hT := of_decide_eq_true ht'
    obtain ⟨ini, rows, lp⟩ := tr
    simp only at hT ⊢
    obtain ⟨t1, t2, t3, t4, t5, t6⟩ := hT
    have hb := rowB_bits ini
    rw [t1] at hb
    unfold bodyB
    rw [List.append_assoc, List.append_assoc, lnB_line _ (bits_notin ini)]
    simp only
    rw [hb]
    simp only
    have := traceF_rows (n := n.toNat) lp rest rows ((lineL (bitsB ini) ++ (rowsL rows ++ (loopL lp ++ (lineL [46] ++ rest)))).length + 1) [] (by
      simp only [List.length_append]
      have := rows_le rows
      omega) t4 (by simp; omega) (by simpa using t3) t5 (by simpa using t6)
    rw [List.append_assoc (loopL lp)] at this
    rw [this]
    rfl
  · have ht' : noT tr = true := by unfold fitW at ht; simpa [e] using ht
    rw [if_neg e]
    have hT := of_decide_eq_true ht'
    obtain ⟨ini, rows, lp⟩ := tr
    simp only [List.length_eq_zero_iff] at hT
    obtain ⟨rfl, rfl, rfl⟩ := hT
    rw [if_neg (by omega), List.nil_append, lnB_line _ dot_notin]
    simp only
    rw [if_pos trivial]
    simp only [Int.toNat_of_nonneg (show 0 ≤ st by omega)]

end Go.Proofs.YtjbglgmbnjdhcaaDoor

/- Ascii: a circuit's text, read: plain. -/
import Derived.Test.YtkkolefhfmlhfabDoorCirc
import Derived.Lib.SplitLaws
import Derived.Lib.ParseIntBMem
import Derived.Lib.SmallJoins
namespace Go.Proofs.YtkkolefhfmlhfabDoor
open Go
abbrev Bs := List UInt8
def isDigB (c : UInt8) : Bool := decide (48 ≤ c.toNat) && decide (c.toNat ≤ 57)
def magF : Nat → Bs → Nat
  | a, [] => a
  | a, c :: r => magF (a * 10 + (c.toNat - 48)) r
def digsB (d : Bs) : Bool := !d.isEmpty && d.all isDigB
def strB (l : Bs) : ByteArray := ⟨l.toArray⟩
/-! ### numbers and lines -/
/-- The number that a word is. -/
def numA (w : Bs) : Option Nat := if digsB w && !(decide (1 < w.length) && w.head? == some 48) && decide (magF 0 w ≤ 2147483647) then some (magF 0 w) else none
/-- The words of a line: with one blank between. -/
def piecesA : Bs → List Bs
  | [] => [[]]
  | c :: r => if c = 32 then [] :: piecesA r else match piecesA r with
    | [] => [[c]]
    | p :: ps => (c :: p) :: ps
def numsA : List Bs → Option (List Nat)
  | [] => some []
  | w :: r => match numA w, numsA r with
    | some n, some ns => some (n :: ns)
    | _, _ => none
def numbersA (least most : Nat) (s : Bs) : Option (List Nat) :=
  if (piecesA s).length < least ∨ most < (piecesA s).length then none else numsA (piecesA s)
/-- The line that begins here, and what stands behind it; none: it has no end. -/
def lineA : Bs → Option (Bs × Bs)
  | [] => none
  | c :: r => if c = 10 then some ([], r) else (lineA r).map fun y => (c :: y.1, y.2)
theorem lineA_some : ∀ {s l r : Bs}, lineA s = some (l, r) → s = l ++ 10 :: r ∧ (10 : UInt8) ∉ l
  | [], _, _, h => by cases h
  | c :: s, l, r, h => by
    unfold lineA at h
    split at h
    · rename_i hc
      injection h with h
      injection h with h1 h2
      subst h1 h2 hc
      simp
    · rename_i hc
      obtain ⟨⟨l', r'⟩, h1, h2⟩ := Option.map_eq_some_iff.1 h
      injection h2 with h2 h3
      obtain ⟨e1, e2⟩ := lineA_some h1
      subst h2 h3
      refine ⟨by rw [e1]; rfl, ?_⟩
      simp only [List.mem_cons, not_or]
      exact ⟨fun e => hc e.symm, e2⟩
theorem lineA_len {s l r : Bs} (h : lineA s = some (l, r)) : r.length < s.length ∧ s.length = l.length + 1 + r.length := by
  have := (lineA_some h).1
  rw [this]
  simp
  omega

/-! ### reading: what fails tells how much of the text is left where the line begins -/
abbrev Rs (α : Type) := Except Nat (α × Bs)
def rowA (least most : Nat) (r : Bs) : Rs (List Nat) := match lineA r with
  | none => .error r.length
  | some (l, r') => match numbersA least most l with
    | none => .error r.length
    | some ns => .ok (ns, r')
def listA (most : Nat) : Nat → Bs → Rs (List Nat)
  | 0, r => .ok ([], r)
  | n + 1, r => match rowA 1 1 r with
    | .error k => .error k
    | .ok (ns, r') => if most < ns.headD 0 then .error r.length else match listA most n r' with
      | .error k => .error k
      | .ok (xs, r'') => .ok (ns.headD 0 :: xs, r'')
def latchA : Nat → Bs → Rs (List (Nat × Nat × Nat))
  | 0, r => .ok ([], r)
  | n + 1, r => match rowA 2 3 r with
    | .error k => .error k
    | .ok (ns, r') => match latchA n r' with
      | .error k => .error k
      | .ok (xs, r'') => .ok ((ns.getD 0 0, ns.getD 1 0, ns.getD 2 0) :: xs, r'')
def gateA : Nat → Bs → Rs (List (Nat × Nat × Nat))
  | 0, r => .ok ([], r)
  | n + 1, r => match rowA 3 3 r with
    | .error k => .error k
    | .ok (ns, r') => match gateA n r' with
      | .error k => .error k
      | .ok (xs, r'') => .ok ((ns.getD 0 0, ns.getD 1 0, ns.getD 2 0) :: xs, r'')
def listsA : List Nat → Bs → Rs (List (List Nat))
  | [], r => .ok ([], r)
  | n :: ns, r => match listA 2147483647 n r with
    | .error k => .error k
    | .ok (xs, r') => match listsA ns r' with
      | .error k => .error k
      | .ok (xss, r'') => .ok (xs :: xss, r'')
def justA (n : Nat) (r : Bs) : Rs (List (List Nat)) := match listA 16384 n r with
  | .error k => .error k
  | .ok (ns, r') => listsA ns r'
def intsA (l : List Nat) : List Int := l.map Int.ofNat
def triA (z : Nat × Nat × Nat) : Tri := ((z.1 : Int), (z.2.1 : Int), (z.2.2 : Int))
/-- The lines between header and end; counts: M I L O A B C J F. -/
def bodyA (c : List Nat) (r : Bs) : Rs Circ := match listA 2147483647 (c.getD 1 0) r with
  | .error k => .error k
  | .ok (i, r) => match latchA (c.getD 2 0) r with
    | .error k => .error k
    | .ok (l, r) => match listA 2147483647 (c.getD 3 0) r with
      | .error k => .error k
      | .ok (o, r) => match listA 2147483647 (c.getD 5 0) r with
        | .error k => .error k
        | .ok (b, r) => match listA 2147483647 (c.getD 6 0) r with
          | .error k => .error k
          | .ok (cc, r) => match justA (c.getD 7 0) r with
            | .error k => .error k
            | .ok (j, r) => match listA 2147483647 (c.getD 8 0) r with
              | .error k => .error k
              | .ok (f, r) => match gateA (c.getD 4 0) r with
                | .error k => .error k
                | .ok (a, r) => .ok (⟨(c.getD 0 0 : Nat), intsA i, l.map triA, intsA o, intsA b, intsA cc, j.map intsA, intsA f, a.map triA, [], []⟩, r)
def cutS : Bs → Bs × Bs
  | [] => ([], [])
  | c :: r => if c = 32 then ([], r) else (c :: (cutS r).1, (cutS r).2)
def kindsA : Bs := [105, 108, 111, 98, 99, 106, 102]
/-- The symbol that a line is: letter, number, name. -/
def symA (l : Bs) : Option (UInt8 × Nat × Bs) := match (cutS l).1 with
  | [] => none
  | k :: d => if (cutS l).2 = [] ∨ k ∉ kindsA then none else match numA d with
    | none => none
    | some n => some (k, n, (cutS l).2)
def notesA : Nat → Bs → Except Nat (List Bs)
  | 0, _ => .ok []
  | n + 1, r => if r = [] then .ok [] else match lineA r with
    | none => .error r.length
    | some (l, r') => match notesA n r' with
      | .error k => .error k
      | .ok ls => .ok (l :: ls)
def tailA : Nat → Bs → Except Nat (List (UInt8 × Nat × Bs) × List Bs)
  | 0, _ => .ok ([], [])
  | n + 1, r => if r = [] then .ok ([], []) else match lineA r with
    | none => .error r.length
    | some (l, r') => if l = [99] then (match notesA n r' with
        | .error k => .error k
        | .ok ls => .ok ([], ls))
      else match symA l with
      | none => .error r.length
      | some s => match tailA n r' with
        | .error k => .error k
        | .ok (ss, ls) => .ok (s :: ss, ls)
def aagW : Bs := [97, 97, 103]
def aigW : Bs := [97, 105, 103]
/-- The header: word, nine counts, what stands behind it; or what is wrong. -/
def headA (s : Bs) : Except Int (Bs × List Nat × Bs) := match lineA s with
  | none => .error 40
  | some (l, r) => match numbersA 5 9 (cutS l).2 with
    | none => .error 40
    | some ns =>
      if (cutS l).1 = aagW ∨ (cutS l).1 = aigW then
        let c := ns ++ List.replicate (9 - ns.length) 0
        if 16384 < c.getD 0 0 ∨ (c.drop 1).any (fun n => decide (16384 < n)) = true ∨ c.getD 0 0 < c.getD 1 0 + c.getD 2 0 + c.getD 4 0 then .error 41 else .ok ((cutS l).1, c, r)
      else .error 40
def symS (x : UInt8 × Nat × Bs) : Sym := ⟨(x.1.toNat : Int), (x.2.1 : Int), strB x.2.2⟩
/-- The circuit of a text, ahead of layer 3's look at it: place and what is wrong. -/
def circA (s : Bs) : Except (Nat × Int) Circ :=
  if 262144 < s.length then .error (0, 2) else match headA s with
  | .error e => .error (0, e)
  | .ok (w, c, r) => if w ≠ aagW then .error (0, 40) else match bodyA c r with
    | .error k => .error (s.length - k, 42)
    | .ok (C, r) => match tailA r.length r with
      | .error k => .error (s.length - k, 42)
      | .ok (ss, ls) => .ok { C with symbols := ss.map symS, comments := ls.map strB }
def ex1 : Bs := [97, 97, 103, 32, 49, 32, 48, 32, 49, 32, 48, 32, 48, 32, 49, 10, 50, 32, 51, 10, 50, 10]
def ex2 : Bs := [97, 97, 103, 32, 48, 32, 48, 32, 48, 32, 48, 10]
theorem ex2_circ : (match circA ex2 with | .ok _ => false | .error e => decide (e = (0, 40))) = true := by decide +kernel
/-! ### SplitN -/
theorem piecesA_ne : ∀ (l : Bs), piecesA l ≠ []
  | [] => by simp [piecesA]
  | c :: r => by
    unfold piecesA
    split
    · simp
    · split <;> simp
theorem idx_cons (c : UInt8) (r : Bs) : Lib.index (c :: r) [32] = if c = 32 then 0 else if Lib.index r [32] = -1 then -1 else Lib.index r [32] + 1 := by
  have e : Lib.index (c :: r) [32] = if ([32] : Bs).isPrefixOf (c :: r) then 0 else if Lib.index r [32] == -1 then -1 else Lib.index r [32] + 1 := rfl
  rw [e]
  by_cases h : c = 32
  · subst h; simp [List.isPrefixOf]
  · have h2 : ¬ ((32 : UInt8) = c) := fun e => h e.symm
    have h3 : ([32] : Bs).isPrefixOf (c :: r) = false := by simp [List.isPrefixOf, h2]
    rw [h3, if_neg h, if_neg (by decide)]
    simp
/-- The first piece and the rest. -/
theorem pieces_idx : ∀ (l : Bs), (Lib.index l [32] = -1 ∧ piecesA l = [l]) ∨ ∃ i : Nat, Lib.index l [32] = (i : Int) ∧ i < l.length ∧ piecesA l = l.take i :: piecesA (l.drop (i + 1))
  | [] => .inl ⟨rfl, rfl⟩
  | c :: r => by
    rw [idx_cons]
    by_cases h : c = 32
    · subst h
      refine .inr ⟨0, by simp, by simp, by simp [piecesA]⟩
    · rw [if_neg h]
      rcases pieces_idx r with ⟨h1, h2⟩ | ⟨i, h1, hi, h2⟩
      · rw [if_pos h1]
        refine .inl ⟨rfl, ?_⟩
        unfold piecesA
        rw [if_neg h, h2]
      · rw [if_neg (by omega)]
        refine .inr ⟨i + 1, by omega, by simp; omega, ?_⟩
        conv => lhs; unfold piecesA
        rw [if_neg h, h2]
        simp
theorem splitK_pieces : ∀ (k : Nat) (l : Bs), (piecesA l).length ≤ k + 1 → Lib.splitK [32] 0 k l = piecesA l
  | 0, l, h => by
    unfold Lib.splitK
    rcases pieces_idx l with ⟨h1, h2⟩ | ⟨i, h1, hi, h2⟩
    · exact h2.symm
    · rw [h2] at h
      simp only [List.length_cons] at h
      have := piecesA_ne (l.drop (i + 1))
      have := List.length_pos_iff.2 this
      omega
  | k + 1, l, h => by
    unfold Lib.splitK
    rcases pieces_idx l with ⟨h1, h2⟩ | ⟨i, h1, hi, h2⟩
    · rw [h1]
      simp [h2]
    · rw [h2] at h ⊢
      have e : (Lib.index l [32] == -1) = false := by rw [h1]; simp
      rw [e, h1]
      simp only [List.length_cons] at h
      have ih := splitK_pieces k (l.drop (i + 1)) (by omega)
      simp only [Bool.false_eq_true, if_false, Int.toNat_natCast, Nat.add_zero, List.length_cons, List.length_nil, Nat.zero_add]
      rw [ih]
theorem splitK_len : ∀ (k : Nat) (l : Bs), k + 1 ≤ (piecesA l).length → (Lib.splitK [32] 0 k l).length = k + 1
  | 0, l, _ => by unfold Lib.splitK; rfl
  | k + 1, l, h => by
    unfold Lib.splitK
    rcases pieces_idx l with ⟨h1, h2⟩ | ⟨i, h1, hi, h2⟩
    · rw [h2] at h; simp at h
    · rw [h2] at h
      have e : (Lib.index l [32] == -1) = false := by rw [h1]; simp
      rw [e, h1]
      simp only [List.length_cons] at h
      simp only [Bool.false_eq_true, if_false, List.length_cons, Int.toNat_natCast, Nat.add_zero]
      rw [splitK_len k _ (by simpa using h)]
theorem pieces_len : ∀ (l : Bs), (piecesA l).length ≤ l.length + 1
  | [] => by simp [piecesA]
  | c :: r => by
    have := pieces_len r
    unfold piecesA
    split
    · simp; omega
    · split
      · simp
      · rename_i p ps hp
        rw [hp] at this
        simp at this ⊢
        omega
/-- What SplitN gives, at most so many. -/
def splitA (n : Nat) (l : Bs) : List Bs := Lib.splitK [32] 0 (min n (l.length + 1) - 1) l
theorem splitA_few {n : Nat} {l : Bs} (h : (piecesA l).length ≤ n) : splitA n l = piecesA l := by
  unfold splitA
  apply splitK_pieces
  have := pieces_len l
  omega
theorem splitA_many {n : Nat} {l : Bs} (hn : 1 ≤ n) (h : n ≤ (piecesA l).length) : (splitA n l).length = n := by
  unfold splitA
  have := pieces_len l
  rw [splitK_len _ _ (by omega)]
  omega
theorem piece_le : ∀ (l : Bs), ∀ p ∈ piecesA l, p.length ≤ l.length
  | [], p, h => by simp [piecesA] at h; simp [h]
  | c :: r, p, h => by
    have ih := piece_le r
    unfold piecesA at h
    split at h
    · rcases List.mem_cons.1 h with rfl | h
      · simp
      · have := ih p h
        simp; omega
    · split at h
      · simp at h; simp [h]
      · rename_i q qs hq
        rcases List.mem_cons.1 h with rfl | h
        · have := ih q (by rw [hq]; simp)
          simp; omega
        · have := ih p (by rw [hq]; simp [h])
          simp; omega
theorem numsA_some : ∀ {ws : List Bs} {ns : List Nat}, numsA ws = some ns → ns.length = ws.length ∧ ∀ (i : Nat) (w : Bs) (n : Nat), ws[i]? = some w → ns[i]? = some n → numA w = some n
  | [], ns, h => by
    injection h with h
    subst h
    simp
  | w :: ws, ns, h => by
    unfold numsA at h
    split at h
    · rename_i n ns' h1 h2
      injection h with h
      subst h
      obtain ⟨e1, e2⟩ := numsA_some h2
      refine ⟨by simp [e1], fun i w' n' hw hn => ?_⟩
      cases i with
      | zero =>
        simp at hw hn
        subst hw hn
        exact h1
      | succ i =>
        simp at hw hn
        exact e2 i w' n' hw hn
    · cases h
theorem numsA_none : ∀ {ws : List Bs} {i : Nat} {w : Bs}, ws[i]? = some w → numA w = none → numsA ws = none
  | [], i, w, h, _ => by simp at h
  | v :: ws, i, w, h, hn => by
    unfold numsA
    cases i with
    | zero =>
      simp at h
      subst h
      rw [hn]
    | succ i =>
      simp at h
      rw [numsA_none h hn]
      cases numA v <;> rfl
theorem numA_le {w : Bs} {n : Nat} (h : numA w = some n) : n ≤ 2147483647 := by
  unfold numA at h
  split at h
  · rename_i hc
    injection h with h
    simp only [Bool.and_eq_true, decide_eq_true_eq] at hc
    omega
  · cases h
theorem magF_ge : ∀ (l : Bs) (a : Nat), a ≤ magF a l
  | [], a => Nat.le_refl _
  | c :: l, a => by
    unfold magF
    exact Nat.le_trans (by omega) (magF_ge l _)
theorem pum_cases (l : Bs) : ∀ a, a ≤ 2147483647 → (∃ v, Lib.parseUintM 2147483647 a l = .ok v ∧ l.all isDigB = true ∧ v = magF a l ∧ v ≤ 2147483647) ∨ ((Lib.parseUintM 2147483647 a l = .syntax ∨ Lib.parseUintM 2147483647 a l = .range) ∧ (l.all isDigB = true → 2147483647 < magF a l)) := by
  induction l with
  | nil =>
    intro a ha
    exact .inl ⟨a, rfl, rfl, rfl, ha⟩
  | cons c l ih =>
    intro a ha
    have hb : a * 10 ≤ a * 10 + (c.toNat - 48) := Nat.le_add_right _ _
    by_cases hc : 48 ≤ c.toNat ∧ c.toNat ≤ 57
    · have h1 : ¬ 1844674407370955162 ≤ a := by omega
      have e1 : Lib.parseUintM 2147483647 a (c :: l) = if 2147483647 < a * 10 + (c.toNat - 48) then .range else Lib.parseUintM 2147483647 (a * 10 + (c.toNat - 48)) l := by
        simp only [Lib.parseUintM, if_pos hc, if_neg h1]
      rw [e1]
      have hd : isDigB c = true := by simp [isDigB, hc]
      have e2 : magF a (c :: l) = magF (a * 10 + (c.toNat - 48)) l := rfl
      rw [e2, List.all_cons, hd, Bool.true_and]
      generalize a * 10 + (c.toNat - 48) = b at *
      by_cases h2 : 2147483647 < b
      · rw [if_pos h2]
        have := magF_ge l b
        exact .inr ⟨.inr rfl, fun _ => by omega⟩
      · rw [if_neg h2]
        exact ih _ (by omega)
    · have hd : isDigB c = false := by
        unfold isDigB
        by_cases h1 : 48 ≤ c.toNat
        · have h2 : ¬ c.toNat ≤ 57 := fun h => hc ⟨h1, h⟩
          simp [h2]
        · simp [h1]
      have e1 : Lib.parseUintM 2147483647 a (c :: l) = .syntax := by simp only [Lib.parseUintM, if_neg hc]
      exact .inr ⟨.inl e1, fun h => by rw [List.all_cons, hd] at h; cases h⟩
theorem numA_zero {l : Bs} (h : 1 < l.length) (h0 : l.head? = some 48) : numA l = none := by
  unfold numA
  have : (decide (1 < l.length) && l.head? == some 48) = true := by simp [h, h0]
  rw [this]
  simp
theorem numA_ok {l : Bs} (hl : l ≠ []) (h : l.length ≤ 1 ∨ l.head? ≠ some 48) {v : Nat} (hp : Lib.parseUintM 2147483647 0 l = .ok v) : numA l = some v := by
  rcases pum_cases l 0 (by omega) with ⟨v', h1, h2, h3, h4⟩ | ⟨h1, _⟩
  · rw [h1] at hp
    injection hp with hp
    subst hp
    have hd : digsB l = true := by
      unfold digsB
      rw [h2]
      cases l with
      | nil => exact absurd rfl hl
      | cons c r => rfl
    have hq : (decide (1 < l.length) && l.head? == some 48) = false := by
      rcases h with h | h
      · have : ¬ 1 < l.length := by omega
        simp [this]
      · simp [h]
    unfold numA
    rw [hd, hq, ← h3]
    simp [h4]
  · rw [hp] at h1
    rcases h1 with h1 | h1 <;> cases h1
theorem numA_no {l : Bs} (hp : ∀ v, Lib.parseUintM 2147483647 0 l ≠ .ok v) : numA l = none := by
  rcases pum_cases l 0 (by omega) with ⟨v', h1, _⟩ | ⟨_, h2⟩
  · exact absurd h1 (hp v')
  · unfold numA
    by_cases hd : digsB l = true
    · have : l.all isDigB = true := by
        unfold digsB at hd
        simp only [Bool.and_eq_true] at hd
        exact hd.2
      have := h2 this
      have hn : ¬ magF 0 l ≤ 2147483647 := by omega
      simp [hn]
    · have hd : digsB l = false := by simpa using hd
      rw [hd]
      simp
theorem numA_nil : numA [] = none := by decide
end Go.Proofs.YtkkolefhfmlhfabDoor

/- What the way along gates keeps (plain data): numbers that fit, what is open stays open below. -/
import Derived.Test.YtfcjdfjobneeeaaTarj
namespace Go.Proofs.Ytfcjdfjobneeeaa
open Go.RowKit

structure TInv (n : Nat) (S : TS) : Prop where
  len : S.met.length = n
  opn : ∀ x ∈ S.opn, 0 ≤ x ∧ x < (n : Int)
  cnt : S.count + unmet S ≤ n
  olen : S.opn.length ≤ S.count
def UseOk (n : Nat) (u : Int) : Prop := u = -1 ∨ (0 ≤ u ∧ u < (n : Int))
def UsesOk (n : Nat) (uses : List (Int × Int)) : Prop := uses.length = n ∧ ∀ p ∈ uses, UseOk n p.1 ∧ UseOk n p.2

theorem countP_set_zero : ∀ (L : List Int) (k : Nat), L[k]? = some 0 → ∀ x : Int, x ≠ 0 → (L.set k x).countP (· == 0) + 1 = L.countP (· == 0)
  | [], k, h, _, _ => by simp at h
  | a :: L, 0, h, x, hx => by
    simp at h; subst h
    simp [hx]
  | a :: L, k + 1, h, x, hx => by
    have := countP_set_zero L k (by simpa using h) x hx
    simp only [List.set_cons_succ, List.countP_cons]
    omega
theorem countP_set_le : ∀ (L : List Int) (k : Nat) (x : Int), x ≠ 0 → (L.set k x).countP (· == 0) ≤ L.countP (· == 0)
  | [], _, _, _ => by simp
  | a :: L, 0, x, hx => by simp [List.countP_cons, hx]
  | a :: L, k + 1, x, hx => by
    have := countP_set_le L k x hx
    simp only [List.set_cons_succ, List.countP_cons]
    omega
theorem getD_some {L : List Int} {k : Nat} {d : Int} (h : k < L.length) : L[k]? = some (L.getD k d) := by simp [List.getD, h]

theorem meet_good {n : Nat} {S : TS} {i : Int} (h : TInv n S) (h0 : 0 ≤ i) (h1 : i < (n : Int)) (h2 : S.met.getD i.toNat 0 = 0) : TInv n (meetF S i) ∧ unmet (meetF S i) + 1 = unmet S := by
  have hk : i.toNat < S.met.length := by rw [h.len]; omega
  have hu : unmet (meetF S i) + 1 = unmet S := countP_set_zero S.met i.toNat (by rw [getD_some hk (d := 0), h2]) _ (by omega)
  refine ⟨⟨by simp [meetF, h.len], fun x hx => ?_, ?_, by have := h.olen; simp [meetF]; omega⟩, hu⟩
  · simp only [meetF, List.mem_append, List.mem_singleton] at hx
    rcases hx with hx | rfl
    · exact h.opn x hx
    · exact ⟨h0, h1⟩
  · have := h.cnt
    show S.count + 1 + _ ≤ n
    omega
theorem shutOne_good {n : Nat} {S : TS} {g : Int} {bad : Bool} (h : TInv n S) : TInv n (shutOne bad S g) ∧ unmet (shutOne bad S g) ≤ unmet S := by
  have hu : unmet (shutOne bad S g) ≤ unmet S := countP_set_le S.met g.toNat maxI (by decide)
  exact ⟨⟨by simp [shutOne, h.len], h.opn, by have := h.cnt; show S.count + _ ≤ n; omega, h.olen⟩, hu⟩
theorem shutAll_good {n : Nat} {bad : Bool} : ∀ (gs : List Int) {S : TS}, TInv n S → TInv n (shutAll bad S gs) ∧ unmet (shutAll bad S gs) ≤ unmet S ∧ (shutAll bad S gs).opn = S.opn
  | [], S, h => ⟨h, Nat.le_refl _, rfl⟩
  | g :: r, S, h => by
    obtain ⟨h1, h2⟩ := shutOne_good (g := g) (bad := bad) h
    obtain ⟨h3, h4, h5⟩ := shutAll_good r h1
    exact ⟨h3, Nat.le_trans h4 h2, h5⟩
/-- From a state to a later one. -/
structure TGo (n : Nat) (S S' : TS) : Prop where
  inv : TInv n S'
  le : unmet S' ≤ unmet S
  opn : ∃ T, S'.opn = S.opn ++ T
theorem TGo.refl {n : Nat} {S : TS} (h : TInv n S) : TGo n S S := ⟨h, Nat.le_refl _, [], by simp⟩
theorem TGo.trans {n : Nat} {A B C : TS} (h1 : TGo n A B) (h2 : TGo n B C) : TGo n A C := by
  obtain ⟨T1, e1⟩ := h1.opn
  obtain ⟨T2, e2⟩ := h2.opn
  exact ⟨h2.inv, Nat.le_trans h2.le h1.le, T1 ++ T2, by rw [e2, e1, List.append_assoc]⟩
theorem visit_good {n f : Nat} {uses : List (Int × Int)} (ih : ∀ (S : TS) (i : Int), unmet S ≤ f → TInv n S → 0 ≤ i → i < (n : Int) → S.met.getD i.toNat 0 = 0 → TGo n S (followF uses f S i).1)
    {i u : Int} {st : TS × Int × Bool} (hf : unmet st.1 ≤ f) (h : TInv n st.1) (hu : UseOk n u) : TGo n st.1 (visitF (followF uses f) i st u).1 := by
  unfold visitF
  by_cases h1 : u = -1
  · rw [if_pos h1]; exact .refl h
  · rw [if_neg h1]
    by_cases h2 : st.1.met.getD u.toNat 0 = 0
    · rw [if_pos h2]
      rcases hu with hu | hu
      · exact absurd hu h1
      · exact ih _ _ hf h hu.1 hu.2 h2
    · rw [if_neg h2]; exact .refl h
theorem take_pre {α : Type} {A T : List α} : (A ++ T).take A.length = A := by simp
theorem leave_good {n : Nat} {S : TS} {own : Int} {i : Int} {st : TS × Int × Bool} (h : TInv n st.1) (ho : ∃ T, st.1.opn = S.opn ++ [i] ++ T) : TInv n (leaveF S.opn.length own st).1 ∧ unmet (leaveF S.opn.length own st).1 ≤ unmet st.1 ∧ ∃ T, (leaveF S.opn.length own st).1.opn = S.opn ++ T := by
  obtain ⟨T, hT⟩ := ho
  unfold leaveF
  by_cases hl : st.2.1 < own
  · rw [if_pos hl]; exact ⟨h, Nat.le_refl _, [i] ++ T, by rw [hT, List.append_assoc]⟩
  · rw [if_neg hl]
    have h' : TInv n { st.1 with opn := st.1.opn.take S.opn.length } := ⟨h.len, fun x hx => h.opn x (List.mem_of_mem_take hx), h.cnt, by have := h.olen; simp; omega⟩
    obtain ⟨h1, h2, h3⟩ := shutAll_good (bad := st.2.2 || decide (1 < (st.1.opn.drop S.opn.length).length)) (st.1.opn.drop S.opn.length) h'
    exact ⟨h1, h2, [], by rw [h3]; show st.1.opn.take _ = _; rw [hT, List.append_assoc, take_pre]; simp⟩
theorem use_at {n : Nat} {uses : List (Int × Int)} (hu : UsesOk n uses) {i : Nat} (hi : i < n) : ∃ p, uses[i]? = some p ∧ uses.getD i (-1, -1) = p ∧ UseOk n p.1 ∧ UseOk n p.2 := by
  have hl : i < uses.length := by rw [hu.1]; exact hi
  exact ⟨uses[i], List.getElem?_eq_getElem hl, by simp [List.getD, hl], hu.2 _ (List.getElem_mem hl)⟩
theorem follow_good {n : Nat} {uses : List (Int × Int)} (huse : UsesOk n uses) : ∀ (f : Nat) (S : TS) (i : Int), unmet S ≤ f → TInv n S → 0 ≤ i → i < (n : Int) → S.met.getD i.toNat 0 = 0 → TGo n S (followF uses f S i).1
  | 0, S, i, _, h, _, _, _ => .refl h
  | f + 1, S, i, hf, h, h0, h1, h2 => by
    obtain ⟨hm, hum⟩ := meet_good h h0 h1 h2
    obtain ⟨p, _, hp, hp1, hp2⟩ := use_at huse (i := i.toNat) (by omega)
    unfold followF
    rw [hp]
    have ih := follow_good huse f
    have g1 := visit_good ih (i := i) (u := p.1) (st := (meetF S i, (S.count : Int) + 1, false)) (by show unmet (meetF S i) ≤ f; omega) hm hp1
    have g2 := visit_good ih (i := i) (u := p.2) (st := visitF (followF uses f) i (meetF S i, (S.count : Int) + 1, false) p.1) (Nat.le_trans g1.le (by show unmet (meetF S i) ≤ f; omega)) g1.inv hp2
    have g3 := g1.trans g2
    obtain ⟨T, hT⟩ := g3.opn
    obtain ⟨l1, l2, l3⟩ := leave_good (S := S) (own := (S.count : Int) + 1) (i := i) g3.inv ⟨T, hT⟩
    exact ⟨l1, Nat.le_trans l2 (Nat.le_trans g3.le (by show unmet (meetF S i) ≤ unmet S; omega)), l3⟩
end Go.Proofs.Ytfcjdfjobneeeaa

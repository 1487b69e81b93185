/- Ascii: what is read may be looked at. -/
import Derived.Test.YtkkolefhfmlhfabDoorAscT
import Derived.Test.YtkkolefhfmlhfabDoorCheck3
namespace Go.Proofs.YtkkolefhfmlhfabDoor
open Go.RowKit

def M31 : Nat := 2147483647
theorem getD_le {ns : List Nat} (h : ∀ x ∈ ns, x ≤ 2147483647) (i : Nat) : ns.getD i 0 ≤ M31 := by
  rw [List.getD_eq_getElem?_getD]
  cases hx : ns[i]? with
  | none => simp [M31]
  | some x => simpa [M31] using h x (List.mem_of_getElem? hx)
def T31 (z : Nat × Nat × Nat) : Prop := z.1 ≤ M31 ∧ z.2.1 ≤ M31 ∧ z.2.2 ≤ M31
theorem latchA_le : ∀ {n : Nat} {r r' : Bs} {zs : List (Nat × Nat × Nat)}, latchA n r = .ok (zs, r') → ∀ z ∈ zs, T31 z
  | 0, r, r', zs, h => by
    unfold latchA at h
    injection h with h
    injection h with h1 h2
    subst h1 h2
    intro z hz
    simp at hz
  | n + 1, r, r', zs, h => by
    cases hr : rowA 2 3 r with
    | error k => rw [latch_err hr] at h; cases h
    | ok y =>
      obtain ⟨xs, r1⟩ := y
      have hr0 : rowA 2 3 (r.drop 0) = .ok (xs, r1) := hr
      obtain ⟨_, _, _, _, _, hle⟩ := rowA_ok (s := r) (p := 0) hr0
      rw [latch_ok hr] at h
      cases hq : latchA n r1 with
      | error k => rw [hq] at h; cases h
      | ok y =>
        obtain ⟨ys, r2⟩ := y
        rw [hq] at h
        have h4 : (Except.ok ([(xs.getD 0 0, xs.getD 1 0, xs.getD 2 0)] ++ ys, r2) : Rs (List (Nat × Nat × Nat))) = .ok (zs, r') := h
        injection h4 with h3
        injection h3 with h4 h5
        subst h4 h5
        intro z hz
        rcases List.mem_append.1 hz with hz | hz
        · rw [List.mem_singleton.1 hz]
          exact ⟨getD_le hle 0, getD_le hle 1, getD_le hle 2⟩
        · exact latchA_le hq z hz
theorem gateA_le : ∀ {n : Nat} {r r' : Bs} {zs : List (Nat × Nat × Nat)}, gateA n r = .ok (zs, r') → ∀ z ∈ zs, T31 z
  | 0, r, r', zs, h => by
    unfold gateA at h
    injection h with h
    injection h with h1 h2
    subst h1 h2
    intro z hz
    simp at hz
  | n + 1, r, r', zs, h => by
    cases hr : rowA 3 3 r with
    | error k => rw [gate_err hr] at h; cases h
    | ok y =>
      obtain ⟨xs, r1⟩ := y
      have hr0 : rowA 3 3 (r.drop 0) = .ok (xs, r1) := hr
      obtain ⟨_, _, _, _, _, hle⟩ := rowA_ok (s := r) (p := 0) hr0
      rw [gate_okn hr] at h
      cases hq : gateA n r1 with
      | error k => rw [hq] at h; cases h
      | ok y =>
        obtain ⟨ys, r2⟩ := y
        rw [hq] at h
        have h4 : (Except.ok ([(xs.getD 0 0, xs.getD 1 0, xs.getD 2 0)] ++ ys, r2) : Rs (List (Nat × Nat × Nat))) = .ok (zs, r') := h
        injection h4 with h3
        injection h3 with h4 h5
        subst h4 h5
        intro z hz
        rcases List.mem_append.1 hz with hz | hz
        · rw [List.mem_singleton.1 hz]
          exact ⟨getD_le hle 0, getD_le hle 1, getD_le hle 2⟩
        · exact gateA_le hq z hz
theorem listsA_le : ∀ {ns : List Nat} {r r' : Bs} {xss : List (List Nat)}, listsA ns r = .ok (xss, r') → ∀ (i : Nat) (n : Nat) (xs : List Nat), ns[i]? = some n → xss[i]? = some xs → xs.length = n ∧ ∀ x ∈ xs, x ≤ M31
  | [], r, r', xss, h => by
    intro i n xs hn
    simp at hn
  | n :: ns, r, r', xss, h => by
    cases hr : listA 2147483647 n r with
    | error k => rw [lists_err hr] at h; cases h
    | ok y =>
      obtain ⟨xs, r1⟩ := y
      rw [lists_ok hr] at h
      cases hq : listsA ns r1 with
      | error k => rw [hq] at h; cases h
      | ok y =>
        obtain ⟨ys, r2⟩ := y
        rw [hq] at h
        have h4 : (Except.ok ([xs] ++ ys, r2) : Rs (List (List Nat))) = .ok (xss, r') := h
        injection h4 with h3
        injection h3 with h4 h5
        subst h4 h5
        intro i m zs hm hz
        cases i with
        | zero =>
          simp at hm hz
          subst hm hz
          exact ⟨(listA_ok hr).1, (listA_ok hr).2.1⟩
        | succ i =>
          simp at hm hz
          exact listsA_le hq i m zs hm hz
theorem justA_le {n : Nat} {r r' : Bs} {xss : List (List Nat)} (h : justA n r = .ok (xss, r')) : ∀ xs ∈ xss, xs.length ≤ 16384 ∧ ∀ x ∈ xs, x ≤ M31 := by
  unfold justA at h
  cases hr : listA 16384 n r with
  | error k => rw [hr] at h; cases h
  | ok y =>
    obtain ⟨ns, r1⟩ := y
    rw [hr] at h
    simp only at h
    intro xs hx
    obtain ⟨i, hi, rfl⟩ := List.getElem_of_mem hx
    have hl := (listsA_ok h).1
    obtain ⟨m, hm⟩ : ∃ m, ns[i]? = some m := ⟨_, List.getElem?_eq_getElem (by omega)⟩
    obtain ⟨h1, h2⟩ := listsA_le h i m _ hm (List.getElem?_eq_getElem hi)
    exact ⟨by rw [h1]; exact (listA_ok hr).2.1 m (List.mem_of_getElem? hm), h2⟩
/-- What is read fits. -/
structure FitA (i : List Nat) (l : List (Nat × Nat × Nat)) (o b c : List Nat) (j : List (List Nat)) (f : List Nat) (a : List (Nat × Nat × Nat)) : Prop where
  i : i.length ≤ 16384 ∧ ∀ x ∈ i, x ≤ M31
  l : l.length ≤ 16384 ∧ ∀ z ∈ l, T31 z
  o : o.length ≤ 16384 ∧ ∀ x ∈ o, x ≤ M31
  b : b.length ≤ 16384 ∧ ∀ x ∈ b, x ≤ M31
  c : c.length ≤ 16384 ∧ ∀ x ∈ c, x ≤ M31
  j : j.length ≤ 16384 ∧ ∀ xs ∈ j, xs.length ≤ 16384 ∧ ∀ x ∈ xs, x ≤ M31
  f : f.length ≤ 16384 ∧ ∀ x ∈ f, x ≤ M31
  a : a.length ≤ 16384 ∧ ∀ z ∈ a, T31 z
theorem bodyA_ok {m n1 n2 n3 n4 n5 n6 n7 n8 : Nat} {r r' : Bs} {C : Circ} (h : bodyA [m, n1, n2, n3, n4, n5, n6, n7, n8] r = .ok (C, r')) (h1 : n1 ≤ 16384) (h2 : n2 ≤ 16384) (h3 : n3 ≤ 16384) (h4 : n4 ≤ 16384) (h5 : n5 ≤ 16384) (h6 : n6 ≤ 16384) (h7 : n7 ≤ 16384) (h8 : n8 ≤ 16384) :
    ∃ i l o b c j f a, C = ⟨(m : Int), intsA i, l.map triA, intsA o, intsA b, intsA c, j.map intsA, intsA f, a.map triA, [], []⟩ ∧ FitA i l o b c j f a ∧ (i.length = n1 ∧ l.length = n2 ∧ o.length = n3 ∧ a.length = n4 ∧ b.length = n5 ∧ c.length = n6 ∧ j.length = n7 ∧ f.length = n8) ∧ ∃ t, r = t ++ r' := by
  cases q1 : listA 2147483647 n1 r with
  | error k => simp [bodyA, q1] at h
  | ok y =>
    obtain ⟨x1, r1⟩ := y
    cases q2 : latchA n2 r1 with
    | error k => simp [bodyA, q1, q2] at h
    | ok y =>
      obtain ⟨x2, r2⟩ := y
      cases q3 : listA 2147483647 n3 r2 with
      | error k => simp [bodyA, q1, q2, q3] at h
      | ok y =>
        obtain ⟨x3, r3⟩ := y
        cases q4 : listA 2147483647 n5 r3 with
        | error k => simp [bodyA, q1, q2, q3, q4] at h
        | ok y =>
          obtain ⟨x4, r4⟩ := y
          cases q5 : listA 2147483647 n6 r4 with
          | error k => simp [bodyA, q1, q2, q3, q4, q5] at h
          | ok y =>
            obtain ⟨x5, r5⟩ := y
            cases q6 : justA n7 r5 with
            | error k => simp [bodyA, q1, q2, q3, q4, q5, q6] at h
            | ok y =>
              obtain ⟨x6, r6⟩ := y
              cases q7 : listA 2147483647 n8 r6 with
              | error k => simp [bodyA, q1, q2, q3, q4, q5, q6, q7] at h
              | ok y =>
                obtain ⟨x7, r7⟩ := y
                cases q8 : gateA n4 r7 with
                | error k => simp [bodyA, q1, q2, q3, q4, q5, q6, q7, q8] at h
                | ok y =>
                  obtain ⟨x8, r8⟩ := y
                  simp [bodyA, q1, q2, q3, q4, q5, q6, q7, q8] at h
                  obtain ⟨rfl, rfl⟩ := h
                  exact ⟨x1, x2, x3, x4, x5, x6, x7, x8, by simp, ⟨⟨by rw [(listA_ok q1).1]; exact h1, (listA_ok q1).2.1⟩, ⟨by rw [(latchA_ok q2).1]; exact h2, latchA_le q2⟩, ⟨by rw [(listA_ok q3).1]; exact h3, (listA_ok q3).2.1⟩, ⟨by rw [(listA_ok q4).1]; exact h5, (listA_ok q4).2.1⟩, ⟨by rw [(listA_ok q5).1]; exact h6, (listA_ok q5).2.1⟩, ⟨by rw [(justA_ok q6).1]; exact h7, justA_le q6⟩, ⟨by rw [(listA_ok q7).1]; exact h8, (listA_ok q7).2.1⟩, ⟨by rw [(gateA_ok q8).1]; exact h4, gateA_le q8⟩⟩, ⟨(listA_ok q1).1, (latchA_ok q2).1, (listA_ok q3).1, (gateA_ok q8).1, (listA_ok q4).1, (listA_ok q5).1, (justA_ok q6).1, (listA_ok q7).1⟩, suf_trans (suf_trans (suf_trans (suf_trans (suf_trans (suf_trans (suf_trans ((listA_ok q1).2.2) ((latchA_ok q2).2)) ((listA_ok q3).2.2)) ((listA_ok q4).2.2)) ((listA_ok q5).2.2)) ((justA_ok q6).2)) ((listA_ok q7).2.2)) ((gateA_ok q8).2)⟩
theorem notesA_le : ∀ {n : Nat} {r : Bs} {ls : List Bs}, notesA n r = .ok ls → ls.length ≤ r.length ∧ ∀ l ∈ ls, l.length ≤ r.length
  | 0, r, ls, h => by
    simp [notesA] at h
    subst h
    simp
  | n + 1, r, ls, h => by
    unfold notesA at h
    by_cases hr : r = []
    · rw [if_pos hr] at h
      injection h with h
      subst h
      simp
    · rw [if_neg hr] at h
      cases hl : lineA r with
      | none => rw [hl] at h; cases h
      | some y =>
        obtain ⟨l, r'⟩ := y
        rw [hl] at h
        simp only at h
        have h2 := (lineA_len hl).2
        cases hq : notesA n r' with
        | error k => rw [hq] at h; cases h
        | ok ms =>
          rw [hq] at h
          simp only at h
          injection h with h
          subst h
          obtain ⟨e1, e2⟩ := notesA_le hq
          refine ⟨by simp; omega, fun z hz => ?_⟩
          rcases List.mem_cons.1 hz with rfl | hz
          · omega
          · have := e2 z hz; omega
theorem symA_le {l : Bs} {y : SyA} (h : symA l = some y) : y.2.1 ≤ M31 ∧ y.2.2.length ≤ l.length := by
  unfold symA at h
  split at h
  · cases h
  · split at h
    · cases h
    · split at h
      · cases h
      · rename_i n hn
        injection h with h
        subst h
        exact ⟨numA_le hn, (cutS_len l).2⟩
theorem tailA_le : ∀ {n : Nat} {r : Bs} {ss : List SyA} {ls : List Bs}, tailA n r = .ok (ss, ls) → ss.length + ls.length ≤ r.length ∧ (∀ y ∈ ss, y.2.1 ≤ M31 ∧ y.2.2.length ≤ r.length) ∧ ∀ l ∈ ls, l.length ≤ r.length
  | 0, r, ss, ls, h => by
    simp [tailA] at h
    obtain ⟨rfl, rfl⟩ := h
    simp
  | n + 1, r, ss, ls, h => by
    unfold tailA at h
    by_cases hr : r = []
    · rw [if_pos hr] at h
      injection h with h
      injection h with h1 h2
      subst h1 h2
      simp
    · rw [if_neg hr] at h
      cases hl : lineA r with
      | none => rw [hl] at h; cases h
      | some y =>
        obtain ⟨l, r'⟩ := y
        rw [hl] at h
        simp only at h
        have h2 := (lineA_len hl).2
        by_cases hc : l = [99]
        · rw [if_pos hc] at h
          cases hq : notesA n r' with
          | error k => rw [hq] at h; cases h
          | ok ms =>
            rw [hq] at h
            simp only at h
            injection h with h
            injection h with h1 h3
            subst h1 h3
            obtain ⟨e1, e2⟩ := notesA_le hq
            exact ⟨by simp; omega, fun y hy => by simp at hy, fun z hz => by have := e2 z hz; omega⟩
        · rw [if_neg hc] at h
          cases hs : symA l with
          | none => rw [hs] at h; cases h
          | some y =>
            rw [hs] at h
            simp only at h
            cases hq : tailA n r' with
            | error k => rw [hq] at h; cases h
            | ok q =>
              obtain ⟨ts, ms⟩ := q
              rw [hq] at h
              simp only at h
              injection h with h
              injection h with h1 h3
              subst h1 h3
              obtain ⟨e1, e2, e3⟩ := tailA_le hq
              obtain ⟨s1, s2⟩ := symA_le hs
              refine ⟨by simp; omega, fun z hz => ?_, fun z hz => by have := e3 z hz; omega⟩
              rcases List.mem_cons.1 hz with rfl | hz
              · exact ⟨s1, by omega⟩
              · obtain ⟨a1, a2⟩ := e2 z hz
                exact ⟨a1, by omega⟩
theorem flat_I (L : List Int) : L.flatMap encI = L.map (Value.int .i64) := by
  induction L with
  | nil => rfl
  | cons a r ih => rw [List.flatMap_cons, ih]; rfl
theorem numsA_own {w : World} {B g : Nat} {L : List Int} (h : Nums w g L) (hB : B ≤ g) (hm : L.length ≤ 262144) : w.ownsRow B 3 1 (.slice (some ⟨g, 0, none⟩) L.length L.length) L.length (L.map (Value.int .i64)) :=
  ⟨by simp, .inr ⟨g, L.length, _, rfl, hB, h, Nat.le_refl _, by simp only [maxLen]; omega, by simp, by rw [List.take_of_length_le (by simp)]⟩⟩
theorem nums_rowA {w : World} {g : Nat} {L : List Nat} (h : Nums w g (intsA L)) (hm : L.length ≤ 262144) : RowE 1 encI w (.slice (some ⟨g, 0, none⟩) L.length L.length) (intsA L) := by
  have hl : (intsA L).length = L.length := by simp [intsA]
  have h9 := own_rowe (enc := encI) (k := 1) lenI (zs := intsA L) (by rw [flat_I]; exact numsA_own (B := 0) h (Nat.zero_le _) (by rw [hl]; exact hm))
  rw [hl] at h9
  exact h9
theorem tri_rowA {t : TypeId} {w : World} {g : Nat} {L : List (Nat × Nat × Nat)} (h : TrP t w g (L.map triA)) (hm : L.length ≤ 262144) : RowE 3 encT w (.slice (some ⟨g, 0, none⟩) L.length L.length) (L.map triA) := by
  have h9 := own_rowe (enc := encT) (k := 3) lenT (zs := L.map triA) (TrP.own (B := 0) h (Nat.zero_le _) (by simp only [maxLen, List.length_map]; omega))
  rw [List.length_map] at h9
  exact h9
theorem flat_V (L : List Value) : L.flatMap encV = L := by
  induction L with
  | nil => rfl
  | cons a r ih => rw [List.flatMap_cons, ih]; rfl
theorem jus_lists {w : World} {g : Nat} {gs : List Nat} {j : List (List Nat)} (hb : Blk w g 22 (cellsJ gs j).toArray) (hi : InnJ w g gs j) (hm : j.length ≤ 262144) (hx : ∀ xs ∈ j, xs.length ≤ 16384) : Lists w (.slice (some ⟨g, 0, none⟩) j.length j.length) (j.map intsA) := by
  have hl : (cellsJ gs j).length = j.length := by rw [cellsJ_len hi.len, hi.len]
  have hown : w.ownsRow 0 22 1 (.slice (some ⟨g, 0, none⟩) j.length j.length) j.length (cellsJ gs j) :=
    ⟨by rw [hl]; omega, .inr ⟨g, j.length, _, rfl, Nat.zero_le _, hb, Nat.le_refl _, by simp only [maxLen]; omega, by simp [hl], by rw [List.take_of_length_le (by simp [hl])]⟩⟩
  refine ⟨cellsJ gs j, ?_, by simp [hl], fun i u zs hu hz => ?_⟩
  · have h9 := own_rowe (enc := encV) (k := 1) lenV (zs := cellsJ gs j) (B := 0) (t := 22) (v := .slice (some ⟨g, 0, none⟩) j.length j.length) (w := w) (by rw [flat_V, hl]; exact hown)
    exact h9
  · rw [List.getElem?_map] at hz
    obtain ⟨xs, hxs, rfl⟩ := Option.map_eq_some_iff.1 hz
    have hij := (List.getElem?_eq_some_iff.1 hxs).1
    obtain ⟨g', hg'⟩ : ∃ g', gs[i]? = some g' := ⟨_, List.getElem?_eq_getElem (by rw [hi.len]; exact hij)⟩
    unfold cellsJ at hu
    rw [List.getElem?_zipWith, hg', hxs] at hu
    injection hu with hu
    subst hu
    exact nums_rowA (hi.nums i g' xs hg' hxs) (by have := hx xs (List.mem_of_getElem? hxs); omega)
/-- A circuit as it is read. -/
def circR (m : Nat) (i : List Nat) (l : List (Nat × Nat × Nat)) (o b c : List Nat) (j : List (List Nat)) (f : List Nat) (a : List (Nat × Nat × Nat)) (ss : List SyA) (ls : List Bs) : Circ :=
  ⟨(m : Int), intsA i, l.map triA, intsA o, intsA b, intsA c, j.map intsA, intsA f, a.map triA, ss.map symS, ls.map strB⟩
theorem flat_B (ls : List Bs) : (ls.map strB).flatMap encB = ls.map svA := by
  induction ls with
  | nil => rfl
  | cons a r ih => rw [List.map_cons, List.flatMap_cons, ih]; rfl
theorem circ_in {w : World} {B m : Nat} {V : CV} {i o b c f : List Nat} {l a : List (Nat × Nat × Nat)} {j : List (List Nat)} {ss : List SyA} {ls : List Bs} {v u : Value} {B1 B2 : Nat}
    (h : CircM B w V i l o b c j f a) (fit : FitA i l o b c j f a) (hs : w.ownsRow B1 38 3 v ss.length (cellsY ss)) (hu : w.ownsRow B2 9 1 u ls.length (ls.map svA)) :
    (circR m i l o b c j f a ss ls).In w ⟨V.i, V.l, V.o, V.b, V.c, V.j, V.f, V.a, v, u⟩ := by
  refine ⟨?_, ?_, ?_, ?_, ?_, ?_, ?_, ?_, ?_, ?_⟩
  · obtain ⟨g, e, _, hn⟩ := h.i
    show RowE 1 encI w V.i _
    rw [e]; exact nums_rowA hn (by have := fit.i.1; omega)
  · obtain ⟨g, e, _, hn⟩ := h.l
    show RowE 3 encT w V.l _
    rw [e]; exact tri_rowA hn (by have := fit.l.1; omega)
  · obtain ⟨g, e, _, hn⟩ := h.o
    show RowE 1 encI w V.o _
    rw [e]; exact nums_rowA hn (by have := fit.o.1; omega)
  · obtain ⟨g, e, _, hn⟩ := h.b
    show RowE 1 encI w V.b _
    rw [e]; exact nums_rowA hn (by have := fit.b.1; omega)
  · obtain ⟨g, e, _, hn⟩ := h.c
    show RowE 1 encI w V.c _
    rw [e]; exact nums_rowA hn (by have := fit.c.1; omega)
  · obtain ⟨g, gs, e, _, hb, hi⟩ := h.j
    show Lists w V.j _
    rw [e]; exact jus_lists hb hi (by have := fit.j.1; omega) (fun xs hx => (fit.j.2 xs hx).1)
  · obtain ⟨g, e, _, hn⟩ := h.f
    show RowE 1 encI w V.f _
    rw [e]; exact nums_rowA hn (by have := fit.f.1; omega)
  · obtain ⟨g, e, _, hn⟩ := h.a
    show RowE 3 encT w V.a _
    rw [e]; exact tri_rowA hn (by have := fit.a.1; omega)
  · show RowE 3 encS w v (ss.map symS)
    exact own_rowe (enc := encS) (k := 3) lenS (zs := ss.map symS) (by rw [List.length_map]; exact hs)
  · show RowE 1 encB w u (ls.map strB)
    exact own_rowe (enc := encB) (k := 1) lenB (zs := ls.map strB) (by rw [List.length_map, flat_B]; exact hu)
theorem i64_of {x : Nat} (h : x ≤ M31) : I64 (x : Int) := by unfold M31 at h; exact ⟨by omega, by omega⟩
theorem i64_ints {L : List Nat} (h : ∀ x ∈ L, x ≤ M31) : ∀ z ∈ intsA L, I64 z := fun z hz => by
  obtain ⟨x, hx, rfl⟩ := List.mem_map.1 hz
  exact i64_of (h x hx)
theorem i64_tris {L : List (Nat × Nat × Nat)} (h : ∀ z ∈ L, T31 z) : ∀ z ∈ L.map triA, I64T z := fun z hz => by
  obtain ⟨x, hx, rfl⟩ := List.mem_map.1 hz
  obtain ⟨h1, h2, h3⟩ := h x hx
  exact ⟨i64_of h1, i64_of h2, i64_of h3⟩
theorem circ_ok {m : Nat} {i o b c f : List Nat} {l a : List (Nat × Nat × Nat)} {j : List (List Nat)} {ss : List SyA} {ls : List Bs} (hm : m ≤ 16384) (fit : FitA i l o b c j f a) (hs : ∀ y ∈ ss, y.2.1 ≤ M31 ∧ y.2.2.length ≤ 262144) : (circR m i l o b c j f a ss ls).Ok := by
  refine ⟨i64_of (by unfold M31; omega), i64_ints fit.i.2, i64_tris fit.l.2, i64_ints fit.o.2, i64_ints fit.b.2, i64_ints fit.c.2, fun zs hz => ?_, i64_ints fit.f.2, i64_tris fit.a.2, fun z hz => ?_, fun z hz => ?_⟩
  · obtain ⟨xs, hx, rfl⟩ := List.mem_map.1 hz
    exact i64_ints (fit.j.2 xs hx).2
  · obtain ⟨y, hy, rfl⟩ := List.mem_map.1 hz
    have h9 := y.1.toNat_lt
    exact ⟨by show (0 : Int) ≤ (y.1.toNat : Int); omega, by show (y.1.toNat : Int) ≤ 255; omega, i64_of (hs y hy).1⟩
  · obtain ⟨y, hy, rfl⟩ := List.mem_map.1 hz
    show (strB y.2.2).size ≤ maxLen
    rw [strB_size]
    have := (hs y hy).2
    simp only [maxLen]; omega
end Go.Proofs.YtkkolefhfmlhfabDoor

/- What the way along gates keeps (plain data): numbers that fit, what is open stays open below. -/
import Derived.Test.YtfbnhkndlohalaaUses
namespace Go.Proofs.Ytfbnhkndlohalaa
open Go.RowKit

/-- The numbers of gates that the way keeps: the first gate that comes round, how many were met, when each was met, those that are open. -/
structure TS where
  first : Int
  count : Nat
  met : List Int
  opn : List Int
abbrev maxI : Int := 9223372036854775807
/-- A gate of a group that is closed. -/
def shutOne (bad : Bool) (S : TS) (g : Int) : TS :=
  { S with met := S.met.set g.toNat maxI, first := if (bad && (decide (S.first = -1) || decide (g < S.first))) = true then g else S.first }
def shutAll (bad : Bool) (S : TS) (gs : List Int) : TS := gs.foldl (shutOne bad) S
/-- A gate that is used is looked at: the state, the least count, whether it is the gate itself. -/
def visitF (rec_ : TS → Int → TS × Int) (i : Int) (st : TS × Int × Bool) (u : Int) : TS × Int × Bool :=
  if u = -1 then st else
  if st.1.met.getD u.toNat 0 = 0 then ((rec_ st.1 u).1, min st.2.1 (rec_ st.1 u).2, st.2.2) else (st.1, min st.2.1 (st.1.met.getD u.toNat 0), st.2.2 || decide (u = i))
def meetF (S : TS) (i : Int) : TS := { S with count := S.count + 1, met := S.met.set i.toNat (S.count + 1), opn := S.opn ++ [i] }
def leaveF (place : Nat) (own : Int) (st : TS × Int × Bool) : TS × Int :=
  if st.2.1 < own then (st.1, st.2.1) else
  (shutAll (st.2.2 || decide (1 < (st.1.opn.drop place).length)) { st.1 with opn := st.1.opn.take place } (st.1.opn.drop place), maxI)
def followF (uses : List (Int × Int)) : Nat → TS → Int → TS × Int
  | 0, S, _ => (S, 0)
  | f + 1, S, i =>
    let p := uses.getD i.toNat (-1, -1)
    leaveF S.opn.length (S.count + 1) (visitF (followF uses f) i (visitF (followF uses f) i (meetF S i, (S.count : Int) + 1, false) p.1) p.2)
/-- How many gates were not met yet. -/
def unmet (S : TS) : Nat := S.met.countP (· == 0)

/-- The blocks of the variables. -/
structure TK where
  u : Nat
  f : Nat
  c : Nat
  gm : Nat
  m : Nat
  o : Nat
  w : Nat
  gu : Nat
  n : Nat
def TK.caps (K : TK) : Array Value := #[.pointer (some ⟨K.c, 0, none⟩), .pointer (some ⟨K.o, 0, none⟩), .pointer (some ⟨K.m, 0, none⟩), .pointer (some ⟨K.u, 0, none⟩), .pointer (some ⟨K.w, 0, none⟩), .pointer (some ⟨K.f, 0, none⟩)]
structure TK.Ok (K : TK) (B : Nat) : Prop where
  gu : K.gu < B
  u : B ≤ K.u
  f : K.u < K.f
  c : K.f < K.c
  gm : K.c < K.gm
  m : K.gm < K.m
  o : K.m < K.o
  w : K.o < K.w
/-- What memory holds in the midst. -/
structure TSt (w0 : World) (K : TK) (uses : List (Int × Int)) (w : World) (S : TS) : Prop where
  below : Below w0.heap.size w0 w
  uses_ : Prs w0 K.gu uses
  bu : Blk w K.u 73 #[.slice (some ⟨K.gu, 0, none⟩) K.n K.n]
  bf : Blk w K.f 3 #[.int .i64 S.first]
  bc : Blk w K.c 3 #[.int .i64 S.count]
  nums : Nums w K.gm S.met
  bm : Blk w K.m 22 #[.slice (some ⟨K.gm, 0, none⟩) K.n K.n]
  bo : ∃ v, Blk w K.o 22 #[v] ∧ w.ownsRow (K.w + 1) 3 1 v S.opn.length (S.opn.map (Value.int .i64))
  bw : Blk w K.w 112 #[.func (.func 72) #[] K.caps]
theorem TSt.size {w0 w : World} {K : TK} {uses : List (Int × Int)} {S : TS} (h : TSt w0 K uses w S) : K.w < w.heap.size := Blk.lt h.bw
theorem TSt.drewN {w0 w : World} {K : TK} {uses : List (Int × Int)} {S : TS} (h : TSt w0 K uses w S) (n : Nat) : TSt w0 K uses (w.drewN n) S := by
  obtain ⟨h1, h2, h3, h4, h5, h6, h7, ⟨v, h8, h9⟩, h10⟩ := h
  exact ⟨below_drewN h1 n, h2, h3, h4, h5, h6, h7, ⟨v, h8, own_below h9 (below_drewN (Below.refl _ _) n)⟩, h10⟩
theorem own_set {w : World} {B g n : Nat} {t : TypeId} {v : Value} {xs : List Value} (h : w.ownsRow B t 1 v n xs) (hg : g < B) (i : Nat) (u : Value) : (w.setCell ⟨g, i, none⟩ u).ownsRow B t 1 v n xs := by
  refine ⟨h.1, ?_⟩
  rcases h.2 with h2 | ⟨g', cap, cur, hv, hB, hh, h3⟩
  · exact .inl h2
  · exact .inr ⟨g', cap, cur, hv, hB, (Below.heap_setCell _ _ _ _ (by simp; omega)).trans hh, h3⟩
theorem TSt.setCount {w0 w : World} {K : TK} {uses : List (Int × Int)} {S : TS} (hK : K.Ok w0.heap.size) (h : TSt w0 K uses w S) (c : Nat) : TSt w0 K uses (w.setCell ⟨K.c, 0, none⟩ (.int .i64 (c : Int))) { S with count := c } := by
  obtain ⟨h1, h2, h3, h4, h5, h6, h7, ⟨v, h8, h9⟩, h10⟩ := h
  obtain ⟨k1, k2, k3, k4, k5, k6, k7, k8⟩ := hK
  exact ⟨h1.setCell (by simp; omega) _, h2, Blk.far h3 (by simp; omega) _, Blk.far h4 (by simp; omega) _, by simpa using Blk.set_ h5 0 (.int .i64 (c : Int)), Blk.far h6 (by simp; omega) _, Blk.far h7 (by simp; omega) _, ⟨v, Blk.far h8 (by simp; omega) _, own_set h9 (by omega) _ _⟩, Blk.far h10 (by simp; omega) _⟩
theorem TSt.setFirst {w0 w : World} {K : TK} {uses : List (Int × Int)} {S : TS} (hK : K.Ok w0.heap.size) (h : TSt w0 K uses w S) (x : Int) : TSt w0 K uses (w.setCell ⟨K.f, 0, none⟩ (.int .i64 x)) { S with first := x } := by
  obtain ⟨h1, h2, h3, h4, h5, h6, h7, ⟨v, h8, h9⟩, h10⟩ := h
  obtain ⟨k1, k2, k3, k4, k5, k6, k7, k8⟩ := hK
  exact ⟨h1.setCell (by simp; omega) _, h2, Blk.far h3 (by simp; omega) _, by simpa using Blk.set_ h4 0 (.int .i64 x), Blk.far h5 (by simp; omega) _, Blk.far h6 (by simp; omega) _, Blk.far h7 (by simp; omega) _, ⟨v, Blk.far h8 (by simp; omega) _, own_set h9 (by omega) _ _⟩, Blk.far h10 (by simp; omega) _⟩
theorem TSt.setMet {w0 w : World} {K : TK} {uses : List (Int × Int)} {S : TS} (hK : K.Ok w0.heap.size) (h : TSt w0 K uses w S) (i : Nat) (x : Int) : TSt w0 K uses (w.setCell ⟨K.gm, i, none⟩ (.int .i64 x)) { S with met := S.met.set i x } := by
  obtain ⟨h1, h2, h3, h4, h5, h6, h7, ⟨v, h8, h9⟩, h10⟩ := h
  obtain ⟨k1, k2, k3, k4, k5, k6, k7, k8⟩ := hK
  exact ⟨h1.setCell (by simp; omega) _, h2, Blk.far h3 (by simp; omega) _, Blk.far h4 (by simp; omega) _, Blk.far h5 (by simp; omega) _, Nums.set_ h6 i x, Blk.far h7 (by simp; omega) _, ⟨v, Blk.far h8 (by simp; omega) _, own_set h9 (by omega) _ _⟩, Blk.far h10 (by simp; omega) _⟩
/-- The open ones are put anew, in a world in which nothing but their row has turned. -/
theorem TSt.setOpen {w0 w w' : World} {K : TK} {uses : List (Int × Int)} {S : TS} (hK : K.Ok w0.heap.size) (h : TSt w0 K uses w S) {row : Option Nat} (hg : w.grownBy w' row) (hr : ∀ g, row = some g → K.w < g) {v : Value} {L : List Int} (hv : w'.ownsRow (K.w + 1) 3 1 v L.length (L.map (Value.int .i64))) :
    TSt w0 K uses (w'.setCell ⟨K.o, 0, none⟩ v) { S with opn := L } := by
  have hsz := h.size
  obtain ⟨h1, h2, h3, h4, h5, h6, h7, ⟨v0, h8, h9⟩, h10⟩ := h
  obtain ⟨k1, k2, k3, k4, k5, k6, k7, k8⟩ := hK
  have hn : ∀ b, b ≤ K.w → some b ≠ row := fun b hb e => by have := hr b e.symm; omega
  have hB : Below w0.heap.size w0 w' := h1.grown hg h1.size (fun g e => by have := hr g e; omega)
  exact ⟨hB.setCell (by simp; omega) _, h2, Blk.far (h3.grown hg (hn _ (by omega))) (by simp; omega) _, Blk.far (h4.grown hg (hn _ (by omega))) (by simp; omega) _, Blk.far (h5.grown hg (hn _ (by omega))) (by simp; omega) _,
    Blk.far (Blk.grown h6 hg (hn _ (by omega))) (by simp; omega) _, Blk.far (h7.grown hg (hn _ (by omega))) (by simp; omega) _, ⟨v, by simpa using Blk.set_ (h8.grown hg (hn _ (by omega))) 0 v, own_set hv (by omega) _ _⟩, Blk.far (h10.grown hg (hn _ (by omega))) (by simp; omega) _⟩
end Go.Proofs.Ytfbnhkndlohalaa

namespace Go.Proofs.Ytfbnhkndlohalaa
open Go.RowKit

structure TInv (n : Nat) (S : TS) : Prop where
  len : S.met.length = n
  opn : ∀ x ∈ S.opn, 0 ≤ x ∧ x < (n : Int)
  cnt : S.count + unmet S ≤ n
  olen : S.opn.length ≤ S.count
def UseOk (n : Nat) (u : Int) : Prop := u = -1 ∨ (0 ≤ u ∧ u < (n : Int))
def UsesOk (n : Nat) (uses : List (Int × Int)) : Prop := uses.length = n ∧ ∀ p ∈ uses, UseOk n p.1 ∧ UseOk n p.2

theorem countP_set_zero : ∀ (L : List Int) (k : Nat), L[k]? = some 0 → ∀ x : Int, x ≠ 0 → (L.set k x).countP (· == 0) + 1 = L.countP (· == 0)
  | [], k, h, _, _ => by simp at h
  | a :: L, 0, h, x, hx => by
    simp at h; subst h
    simp [hx]
  | a :: L, k + 1, h, x, hx => by
    have := countP_set_zero L k (by simpa using h) x hx
    simp only [List.set_cons_succ, List.countP_cons]
    omega
theorem countP_set_le : ∀ (L : List Int) (k : Nat) (x : Int), x ≠ 0 → (L.set k x).countP (· == 0) ≤ L.countP (· == 0)
  | [], _, _, _ => by simp
  | a :: L, 0, x, hx => by simp [List.countP_cons, hx]
  | a :: L, k + 1, x, hx => by
    have := countP_set_le L k x hx
    simp only [List.set_cons_succ, List.countP_cons]
    omega
theorem getD_some {L : List Int} {k : Nat} {d : Int} (h : k < L.length) : L[k]? = some (L.getD k d) := by simp [List.getD, h]

theorem meet_good {n : Nat} {S : TS} {i : Int} (h : TInv n S) (h0 : 0 ≤ i) (h1 : i < (n : Int)) (h2 : S.met.getD i.toNat 0 = 0) : TInv n (meetF S i) ∧ unmet (meetF S i) + 1 = unmet S := by
  have hk : i.toNat < S.met.length := by rw [h.len]; omega
  have hu : unmet (meetF S i) + 1 = unmet S := countP_set_zero S.met i.toNat (by rw [getD_some hk (d := 0), h2]) _ (by omega)
  refine ⟨⟨by simp [meetF, h.len], fun x hx => ?_, ?_, by have := h.olen; simp [meetF]; omega⟩, hu⟩
  · simp only [meetF, List.mem_append, List.mem_singleton] at hx
    rcases hx with hx | rfl
    · exact h.opn x hx
    · exact ⟨h0, h1⟩
  · have := h.cnt
    show S.count + 1 + _ ≤ n
    omega
theorem shutOne_good {n : Nat} {S : TS} {g : Int} {bad : Bool} (h : TInv n S) : TInv n (shutOne bad S g) ∧ unmet (shutOne bad S g) ≤ unmet S := by
  have hu : unmet (shutOne bad S g) ≤ unmet S := countP_set_le S.met g.toNat maxI (by decide)
  exact ⟨⟨by simp [shutOne, h.len], h.opn, by have := h.cnt; show S.count + _ ≤ n; omega, h.olen⟩, hu⟩
theorem shutAll_good {n : Nat} {bad : Bool} : ∀ (gs : List Int) {S : TS}, TInv n S → TInv n (shutAll bad S gs) ∧ unmet (shutAll bad S gs) ≤ unmet S ∧ (shutAll bad S gs).opn = S.opn
  | [], S, h => ⟨h, Nat.le_refl _, rfl⟩
  | g :: r, S, h => by
    obtain ⟨h1, h2⟩ := shutOne_good (g := g) (bad := bad) h
    obtain ⟨h3, h4, h5⟩ := shutAll_good r h1
    exact ⟨h3, Nat.le_trans h4 h2, h5⟩
/-- From a state to a later one. -/
structure TGo (n : Nat) (S S' : TS) : Prop where
  inv : TInv n S'
  le : unmet S' ≤ unmet S
  opn : ∃ T, S'.opn = S.opn ++ T
theorem TGo.refl {n : Nat} {S : TS} (h : TInv n S) : TGo n S S := ⟨h, Nat.le_refl _, [], by simp⟩
theorem TGo.trans {n : Nat} {A B C : TS} (h1 : TGo n A B) (h2 : TGo n B C) : TGo n A C := by
  obtain ⟨T1, e1⟩ := h1.opn
  obtain ⟨T2, e2⟩ := h2.opn
  exact ⟨h2.inv, Nat.le_trans h2.le h1.le, T1 ++ T2, by rw [e2, e1, List.append_assoc]⟩
theorem visit_good {n f : Nat} {uses : List (Int × Int)} (ih : ∀ (S : TS) (i : Int), unmet S ≤ f → TInv n S → 0 ≤ i → i < (n : Int) → S.met.getD i.toNat 0 = 0 → TGo n S (followF uses f S i).1)
    {i u : Int} {st : TS × Int × Bool} (hf : unmet st.1 ≤ f) (h : TInv n st.1) (hu : UseOk n u) : TGo n st.1 (visitF (followF uses f) i st u).1 := by
  unfold visitF
  by_cases h1 : u = -1
  · rw [if_pos h1]; exact .refl h
  · rw [if_neg h1]
    by_cases h2 : st.1.met.getD u.toNat 0 = 0
    · rw [if_pos h2]
      rcases hu with hu | hu
      · exact absurd hu h1
      · exact ih _ _ hf h hu.1 hu.2 h2
    · rw [if_neg h2]; exact .refl h
theorem take_pre {α : Type} {A T : List α} : (A ++ T).take A.length = A := by simp
theorem leave_good {n : Nat} {S : TS} {own : Int} {i : Int} {st : TS × Int × Bool} (h : TInv n st.1) (ho : ∃ T, st.1.opn = S.opn ++ [i] ++ T) : TInv n (leaveF S.opn.length own st).1 ∧ unmet (leaveF S.opn.length own st).1 ≤ unmet st.1 ∧ ∃ T, (leaveF S.opn.length own st).1.opn = S.opn ++ T := by
  obtain ⟨T, hT⟩ := ho
  unfold leaveF
  by_cases hl : st.2.1 < own
  · rw [if_pos hl]; exact ⟨h, Nat.le_refl _, [i] ++ T, by rw [hT, List.append_assoc]⟩
  · rw [if_neg hl]
    have h' : TInv n { st.1 with opn := st.1.opn.take S.opn.length } := ⟨h.len, fun x hx => h.opn x (List.mem_of_mem_take hx), h.cnt, by have := h.olen; simp; omega⟩
    obtain ⟨h1, h2, h3⟩ := shutAll_good (bad := st.2.2 || decide (1 < (st.1.opn.drop S.opn.length).length)) (st.1.opn.drop S.opn.length) h'
    exact ⟨h1, h2, [], by rw [h3]; show st.1.opn.take _ = _; rw [hT, List.append_assoc, take_pre]; simp⟩
theorem use_at {n : Nat} {uses : List (Int × Int)} (hu : UsesOk n uses) {i : Nat} (hi : i < n) : ∃ p, uses[i]? = some p ∧ uses.getD i (-1, -1) = p ∧ UseOk n p.1 ∧ UseOk n p.2 := by
  have hl : i < uses.length := by rw [hu.1]; exact hi
  exact ⟨uses[i], List.getElem?_eq_getElem hl, by simp [List.getD, hl], hu.2 _ (List.getElem_mem hl)⟩
theorem follow_good {n : Nat} {uses : List (Int × Int)} (huse : UsesOk n uses) : ∀ (f : Nat) (S : TS) (i : Int), unmet S ≤ f → TInv n S → 0 ≤ i → i < (n : Int) → S.met.getD i.toNat 0 = 0 → TGo n S (followF uses f S i).1
  | 0, S, i, _, h, _, _, _ => .refl h
  | f + 1, S, i, hf, h, h0, h1, h2 => by
    obtain ⟨hm, hum⟩ := meet_good h h0 h1 h2
    obtain ⟨p, _, hp, hp1, hp2⟩ := use_at huse (i := i.toNat) (by omega)
    unfold followF
    rw [hp]
    have ih := follow_good huse f
    have g1 := visit_good ih (i := i) (u := p.1) (st := (meetF S i, (S.count : Int) + 1, false)) (by show unmet (meetF S i) ≤ f; omega) hm hp1
    have g2 := visit_good ih (i := i) (u := p.2) (st := visitF (followF uses f) i (meetF S i, (S.count : Int) + 1, false) p.1) (Nat.le_trans g1.le (by show unmet (meetF S i) ≤ f; omega)) g1.inv hp2
    have g3 := g1.trans g2
    obtain ⟨T, hT⟩ := g3.opn
    obtain ⟨l1, l2, l3⟩ := leave_good (S := S) (own := (S.count : Int) + 1) (i := i) g3.inv ⟨T, hT⟩
    exact ⟨l1, Nat.le_trans l2 (Nat.le_trans g3.le (by show unmet (meetF S i) ≤ unmet S; omega)), l3⟩
end Go.Proofs.Ytfbnhkndlohalaa

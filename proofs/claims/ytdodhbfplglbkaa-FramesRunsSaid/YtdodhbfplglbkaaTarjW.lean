/- The contract of the function that follows a gate (it calls itself): by induction on how many gates were not met yet. -/
import Derived.Test.YtdodhbfplglbkaaUses
import Derived.BigRegion
import Derived.OwnWalk
import Derived.Deep.DeepCutAuto
namespace Go.Proofs.Ytdodhbfplglbkaa
open Go.RowKit

/-- The numbers of gates that the way keeps: the first gate that comes round, how many were met, when each was met, those that are open. -/
structure TS where
  first : Int
  count : Nat
  met : List Int
  opn : List Int
abbrev maxI : Int := 9223372036854775807
/-- A gate of a group that is closed. -/
def shutOne (bad : Bool) (S : TS) (g : Int) : TS :=
  { S with met := S.met.set g.toNat maxI, first := if (bad && (decide (S.first = -1) || decide (g < S.first))) = true then g else S.first }
def shutAll (bad : Bool) (S : TS) (gs : List Int) : TS := gs.foldl (shutOne bad) S
/-- A gate that is used is looked at: the state, the least count, whether it is the gate itself. -/
def visitF (rec_ : TS → Int → TS × Int) (i : Int) (st : TS × Int × Bool) (u : Int) : TS × Int × Bool :=
  if u = -1 then st else
  if st.1.met.getD u.toNat 0 = 0 then ((rec_ st.1 u).1, min st.2.1 (rec_ st.1 u).2, st.2.2) else (st.1, min st.2.1 (st.1.met.getD u.toNat 0), st.2.2 || decide (u = i))
def meetF (S : TS) (i : Int) : TS := { S with count := S.count + 1, met := S.met.set i.toNat (S.count + 1), opn := S.opn ++ [i] }
def leaveF (place : Nat) (own : Int) (st : TS × Int × Bool) : TS × Int :=
  if st.2.1 < own then (st.1, st.2.1) else
  (shutAll (st.2.2 || decide (1 < (st.1.opn.drop place).length)) { st.1 with opn := st.1.opn.take place } (st.1.opn.drop place), maxI)
def followF (uses : List (Int × Int)) : Nat → TS → Int → TS × Int
  | 0, S, _ => (S, 0)
  | f + 1, S, i =>
    let p := uses.getD i.toNat (-1, -1)
    leaveF S.opn.length (S.count + 1) (visitF (followF uses f) i (visitF (followF uses f) i (meetF S i, (S.count : Int) + 1, false) p.1) p.2)
/-- How many gates were not met yet. -/
def unmet (S : TS) : Nat := S.met.countP (· == 0)

/-- The blocks of the variables. -/
structure TK where
  u : Nat
  f : Nat
  c : Nat
  gm : Nat
  m : Nat
  o : Nat
  w : Nat
  gu : Nat
  n : Nat
def TK.caps (K : TK) : Array Value := #[.pointer (some ⟨K.c, 0, none⟩), .pointer (some ⟨K.o, 0, none⟩), .pointer (some ⟨K.m, 0, none⟩), .pointer (some ⟨K.u, 0, none⟩), .pointer (some ⟨K.w, 0, none⟩), .pointer (some ⟨K.f, 0, none⟩)]
structure TK.Ok (K : TK) (B : Nat) : Prop where
  gu : K.gu < B
  u : B ≤ K.u
  f : K.u < K.f
  c : K.f < K.c
  gm : K.c < K.gm
  m : K.gm < K.m
  o : K.m < K.o
  w : K.o < K.w
/-- What memory holds in the midst. -/
structure TSt (w0 : World) (K : TK) (uses : List (Int × Int)) (w : World) (S : TS) : Prop where
  below : Below w0.heap.size w0 w
  uses_ : Prs w0 K.gu uses
  bu : Blk w K.u 115 #[.slice (some ⟨K.gu, 0, none⟩) K.n K.n]
  bf : Blk w K.f 3 #[.int .i64 S.first]
  bc : Blk w K.c 3 #[.int .i64 S.count]
  nums : Nums w K.gm S.met
  bm : Blk w K.m 22 #[.slice (some ⟨K.gm, 0, none⟩) K.n K.n]
  bo : ∃ v, Blk w K.o 22 #[v] ∧ w.ownsRow (K.w + 1) 3 1 v S.opn.length (S.opn.map (Value.int .i64))
  bw : Blk w K.w 75 #[.func (.func 127) #[] K.caps]
theorem TSt.size {w0 w : World} {K : TK} {uses : List (Int × Int)} {S : TS} (h : TSt w0 K uses w S) : K.w < w.heap.size := Blk.lt h.bw
theorem TSt.drewN {w0 w : World} {K : TK} {uses : List (Int × Int)} {S : TS} (h : TSt w0 K uses w S) (n : Nat) : TSt w0 K uses (w.drewN n) S := by
  obtain ⟨h1, h2, h3, h4, h5, h6, h7, ⟨v, h8, h9⟩, h10⟩ := h
  exact ⟨below_drewN h1 n, h2, h3, h4, h5, h6, h7, ⟨v, h8, own_below h9 (below_drewN (Below.refl _ _) n)⟩, h10⟩
theorem own_set {w : World} {B g n : Nat} {t : TypeId} {v : Value} {xs : List Value} (h : w.ownsRow B t 1 v n xs) (hg : g < B) (i : Nat) (u : Value) : (w.setCell ⟨g, i, none⟩ u).ownsRow B t 1 v n xs := by
  refine ⟨h.1, ?_⟩
  rcases h.2 with h2 | ⟨g', cap, cur, hv, hB, hh, h3⟩
  · exact .inl h2
  · exact .inr ⟨g', cap, cur, hv, hB, (Below.heap_setCell _ _ _ _ (by simp; omega)).trans hh, h3⟩
theorem TSt.setCount {w0 w : World} {K : TK} {uses : List (Int × Int)} {S : TS} (hK : K.Ok w0.heap.size) (h : TSt w0 K uses w S) (c : Nat) : TSt w0 K uses (w.setCell ⟨K.c, 0, none⟩ (.int .i64 (c : Int))) { S with count := c } := by
  obtain ⟨h1, h2, h3, h4, h5, h6, h7, ⟨v, h8, h9⟩, h10⟩ := h
  obtain ⟨k1, k2, k3, k4, k5, k6, k7, k8⟩ := hK
  exact ⟨h1.setCell (by simp; omega) _, h2, Blk.far h3 (by simp; omega) _, Blk.far h4 (by simp; omega) _, by simpa using Blk.set_ h5 0 (.int .i64 (c : Int)), Blk.far h6 (by simp; omega) _, Blk.far h7 (by simp; omega) _, ⟨v, Blk.far h8 (by simp; omega) _, own_set h9 (by omega) _ _⟩, Blk.far h10 (by simp; omega) _⟩
theorem TSt.setFirst {w0 w : World} {K : TK} {uses : List (Int × Int)} {S : TS} (hK : K.Ok w0.heap.size) (h : TSt w0 K uses w S) (x : Int) : TSt w0 K uses (w.setCell ⟨K.f, 0, none⟩ (.int .i64 x)) { S with first := x } := by
  obtain ⟨h1, h2, h3, h4, h5, h6, h7, ⟨v, h8, h9⟩, h10⟩ := h
  obtain ⟨k1, k2, k3, k4, k5, k6, k7, k8⟩ := hK
  exact ⟨h1.setCell (by simp; omega) _, h2, Blk.far h3 (by simp; omega) _, by simpa using Blk.set_ h4 0 (.int .i64 x), Blk.far h5 (by simp; omega) _, Blk.far h6 (by simp; omega) _, Blk.far h7 (by simp; omega) _, ⟨v, Blk.far h8 (by simp; omega) _, own_set h9 (by omega) _ _⟩, Blk.far h10 (by simp; omega) _⟩
theorem TSt.setMet {w0 w : World} {K : TK} {uses : List (Int × Int)} {S : TS} (hK : K.Ok w0.heap.size) (h : TSt w0 K uses w S) (i : Nat) (x : Int) : TSt w0 K uses (w.setCell ⟨K.gm, i, none⟩ (.int .i64 x)) { S with met := S.met.set i x } := by
  obtain ⟨h1, h2, h3, h4, h5, h6, h7, ⟨v, h8, h9⟩, h10⟩ := h
  obtain ⟨k1, k2, k3, k4, k5, k6, k7, k8⟩ := hK
  exact ⟨h1.setCell (by simp; omega) _, h2, Blk.far h3 (by simp; omega) _, Blk.far h4 (by simp; omega) _, Blk.far h5 (by simp; omega) _, Nums.set_ h6 i x, Blk.far h7 (by simp; omega) _, ⟨v, Blk.far h8 (by simp; omega) _, own_set h9 (by omega) _ _⟩, Blk.far h10 (by simp; omega) _⟩
/-- The open ones are put anew, in a world in which nothing but their row has turned. -/
theorem TSt.setOpen {w0 w w' : World} {K : TK} {uses : List (Int × Int)} {S : TS} (hK : K.Ok w0.heap.size) (h : TSt w0 K uses w S) {row : Option Nat} (hg : w.grownBy w' row) (hr : ∀ g, row = some g → K.w < g) {v : Value} {L : List Int} (hv : w'.ownsRow (K.w + 1) 3 1 v L.length (L.map (Value.int .i64))) :
    TSt w0 K uses (w'.setCell ⟨K.o, 0, none⟩ v) { S with opn := L } := by
  have hsz := h.size
  obtain ⟨h1, h2, h3, h4, h5, h6, h7, ⟨v0, h8, h9⟩, h10⟩ := h
  obtain ⟨k1, k2, k3, k4, k5, k6, k7, k8⟩ := hK
  have hn : ∀ b, b ≤ K.w → some b ≠ row := fun b hb e => by have := hr b e.symm; omega
  have hB : Below w0.heap.size w0 w' := h1.grown hg h1.size (fun g e => by have := hr g e; omega)
  exact ⟨hB.setCell (by simp; omega) _, h2, Blk.far (h3.grown hg (hn _ (by omega))) (by simp; omega) _, Blk.far (h4.grown hg (hn _ (by omega))) (by simp; omega) _, Blk.far (h5.grown hg (hn _ (by omega))) (by simp; omega) _,
    Blk.far (Blk.grown h6 hg (hn _ (by omega))) (by simp; omega) _, Blk.far (h7.grown hg (hn _ (by omega))) (by simp; omega) _, ⟨v, by simpa using Blk.set_ (h8.grown hg (hn _ (by omega))) 0 v, own_set hv (by omega) _ _⟩, Blk.far (h10.grown hg (hn _ (by omega))) (by simp; omega) _⟩
end Go.Proofs.Ytdodhbfplglbkaa

namespace Go.Proofs.Ytdodhbfplglbkaa
open Go.RowKit

structure TInv (n : Nat) (S : TS) : Prop where
  len : S.met.length = n
  opn : ∀ x ∈ S.opn, 0 ≤ x ∧ x < (n : Int)
  cnt : S.count + unmet S ≤ n
  olen : S.opn.length ≤ S.count
def UseOk (n : Nat) (u : Int) : Prop := u = -1 ∨ (0 ≤ u ∧ u < (n : Int))
def UsesOk (n : Nat) (uses : List (Int × Int)) : Prop := uses.length = n ∧ ∀ p ∈ uses, UseOk n p.1 ∧ UseOk n p.2

theorem countP_set_zero : ∀ (L : List Int) (k : Nat), L[k]? = some 0 → ∀ x : Int, x ≠ 0 → (L.set k x).countP (· == 0) + 1 = L.countP (· == 0)
  | [], k, h, _, _ => by simp at h
  | a :: L, 0, h, x, hx => by
    simp at h; subst h
    simp [hx]
  | a :: L, k + 1, h, x, hx => by
    have := countP_set_zero L k (by simpa using h) x hx
    simp only [List.set_cons_succ, List.countP_cons]
    omega
theorem countP_set_le : ∀ (L : List Int) (k : Nat) (x : Int), x ≠ 0 → (L.set k x).countP (· == 0) ≤ L.countP (· == 0)
  | [], _, _, _ => by simp
  | a :: L, 0, x, hx => by simp [List.countP_cons, hx]
  | a :: L, k + 1, x, hx => by
    have := countP_set_le L k x hx
    simp only [List.set_cons_succ, List.countP_cons]
    omega
theorem getD_some {L : List Int} {k : Nat} {d : Int} (h : k < L.length) : L[k]? = some (L.getD k d) := by simp [List.getD, h]

theorem meet_good {n : Nat} {S : TS} {i : Int} (h : TInv n S) (h0 : 0 ≤ i) (h1 : i < (n : Int)) (h2 : S.met.getD i.toNat 0 = 0) : TInv n (meetF S i) ∧ unmet (meetF S i) + 1 = unmet S := by
  have hk : i.toNat < S.met.length := by rw [h.len]; omega
  have hu : unmet (meetF S i) + 1 = unmet S := countP_set_zero S.met i.toNat (by rw [getD_some hk (d := 0), h2]) _ (by omega)
  refine ⟨⟨by simp [meetF, h.len], fun x hx => ?_, ?_, by have := h.olen; simp [meetF]; omega⟩, hu⟩
  · simp only [meetF, List.mem_append, List.mem_singleton] at hx
    rcases hx with hx | rfl
    · exact h.opn x hx
    · exact ⟨h0, h1⟩
  · have := h.cnt
    show S.count + 1 + _ ≤ n
    omega
theorem shutOne_good {n : Nat} {S : TS} {g : Int} {bad : Bool} (h : TInv n S) : TInv n (shutOne bad S g) ∧ unmet (shutOne bad S g) ≤ unmet S := by
  have hu : unmet (shutOne bad S g) ≤ unmet S := countP_set_le S.met g.toNat maxI (by decide)
  exact ⟨⟨by simp [shutOne, h.len], h.opn, by have := h.cnt; show S.count + _ ≤ n; omega, h.olen⟩, hu⟩
theorem shutAll_good {n : Nat} {bad : Bool} : ∀ (gs : List Int) {S : TS}, TInv n S → TInv n (shutAll bad S gs) ∧ unmet (shutAll bad S gs) ≤ unmet S ∧ (shutAll bad S gs).opn = S.opn
  | [], S, h => ⟨h, Nat.le_refl _, rfl⟩
  | g :: r, S, h => by
    obtain ⟨h1, h2⟩ := shutOne_good (g := g) (bad := bad) h
    obtain ⟨h3, h4, h5⟩ := shutAll_good r h1
    exact ⟨h3, Nat.le_trans h4 h2, h5⟩
/-- From a state to a later one. -/
structure TGo (n : Nat) (S S' : TS) : Prop where
  inv : TInv n S'
  le : unmet S' ≤ unmet S
  opn : ∃ T, S'.opn = S.opn ++ T
theorem TGo.refl {n : Nat} {S : TS} (h : TInv n S) : TGo n S S := ⟨h, Nat.le_refl _, [], by simp⟩
theorem TGo.trans {n : Nat} {A B C : TS} (h1 : TGo n A B) (h2 : TGo n B C) : TGo n A C := by
  obtain ⟨T1, e1⟩ := h1.opn
  obtain ⟨T2, e2⟩ := h2.opn
  exact ⟨h2.inv, Nat.le_trans h2.le h1.le, T1 ++ T2, by rw [e2, e1, List.append_assoc]⟩
theorem visit_good {n f : Nat} {uses : List (Int × Int)} (ih : ∀ (S : TS) (i : Int), unmet S ≤ f → TInv n S → 0 ≤ i → i < (n : Int) → S.met.getD i.toNat 0 = 0 → TGo n S (followF uses f S i).1)
    {i u : Int} {st : TS × Int × Bool} (hf : unmet st.1 ≤ f) (h : TInv n st.1) (hu : UseOk n u) : TGo n st.1 (visitF (followF uses f) i st u).1 := by
  unfold visitF
  by_cases h1 : u = -1
  · rw [if_pos h1]; exact .refl h
  · rw [if_neg h1]
    by_cases h2 : st.1.met.getD u.toNat 0 = 0
    · rw [if_pos h2]
      rcases hu with hu | hu
      · exact absurd hu h1
      · exact ih _ _ hf h hu.1 hu.2 h2
    · rw [if_neg h2]; exact .refl h
theorem take_pre {α : Type} {A T : List α} : (A ++ T).take A.length = A := by simp
theorem leave_good {n : Nat} {S : TS} {own : Int} {i : Int} {st : TS × Int × Bool} (h : TInv n st.1) (ho : ∃ T, st.1.opn = S.opn ++ [i] ++ T) : TInv n (leaveF S.opn.length own st).1 ∧ unmet (leaveF S.opn.length own st).1 ≤ unmet st.1 ∧ ∃ T, (leaveF S.opn.length own st).1.opn = S.opn ++ T := by
  obtain ⟨T, hT⟩ := ho
  unfold leaveF
  by_cases hl : st.2.1 < own
  · rw [if_pos hl]; exact ⟨h, Nat.le_refl _, [i] ++ T, by rw [hT, List.append_assoc]⟩
  · rw [if_neg hl]
    have h' : TInv n { st.1 with opn := st.1.opn.take S.opn.length } := ⟨h.len, fun x hx => h.opn x (List.mem_of_mem_take hx), h.cnt, by have := h.olen; simp; omega⟩
    obtain ⟨h1, h2, h3⟩ := shutAll_good (bad := st.2.2 || decide (1 < (st.1.opn.drop S.opn.length).length)) (st.1.opn.drop S.opn.length) h'
    exact ⟨h1, h2, [], by rw [h3]; show st.1.opn.take _ = _; rw [hT, List.append_assoc, take_pre]; simp⟩
theorem use_at {n : Nat} {uses : List (Int × Int)} (hu : UsesOk n uses) {i : Nat} (hi : i < n) : ∃ p, uses[i]? = some p ∧ uses.getD i (-1, -1) = p ∧ UseOk n p.1 ∧ UseOk n p.2 := by
  have hl : i < uses.length := by rw [hu.1]; exact hi
  exact ⟨uses[i], List.getElem?_eq_getElem hl, by simp [List.getD, hl], hu.2 _ (List.getElem_mem hl)⟩
theorem follow_good {n : Nat} {uses : List (Int × Int)} (huse : UsesOk n uses) : ∀ (f : Nat) (S : TS) (i : Int), unmet S ≤ f → TInv n S → 0 ≤ i → i < (n : Int) → S.met.getD i.toNat 0 = 0 → TGo n S (followF uses f S i).1
  | 0, S, i, _, h, _, _, _ => .refl h
  | f + 1, S, i, hf, h, h0, h1, h2 => by
    obtain ⟨hm, hum⟩ := meet_good h h0 h1 h2
    obtain ⟨p, _, hp, hp1, hp2⟩ := use_at huse (i := i.toNat) (by omega)
    unfold followF
    rw [hp]
    have ih := follow_good huse f
    have g1 := visit_good ih (i := i) (u := p.1) (st := (meetF S i, (S.count : Int) + 1, false)) (by show unmet (meetF S i) ≤ f; omega) hm hp1
    have g2 := visit_good ih (i := i) (u := p.2) (st := visitF (followF uses f) i (meetF S i, (S.count : Int) + 1, false) p.1) (Nat.le_trans g1.le (by show unmet (meetF S i) ≤ f; omega)) g1.inv hp2
    have g3 := g1.trans g2
    obtain ⟨T, hT⟩ := g3.opn
    obtain ⟨l1, l2, l3⟩ := leave_good (S := S) (own := (S.count : Int) + 1) (i := i) g3.inv ⟨T, hT⟩
    exact ⟨l1, Nat.le_trans l2 (Nat.le_trans g3.le (by show unmet (meetF S i) ≤ unmet S; omega)), l3⟩
end Go.Proofs.Ytdodhbfplglbkaa

namespace Go.Proofs.Ytdodhbfplglbkaa
open Go.RowKit

theorem TSt.alloc {w0 w : World} {K : TK} {uses : List (Int × Int)} {S : TS} (h : TSt w0 K uses w S) (o : Obj) : TSt w0 K uses (w.alloc o) S := by
  obtain ⟨h1, h2, h3, h4, h5, h6, h7, ⟨v, h8, h9⟩, h10⟩ := h
  exact ⟨h1.alloc h1.size o, h2, h3.alloc o, h4.alloc o, h5.alloc o, Blk.alloc h6 o, h7.alloc o, ⟨v, h8.alloc o, h9.alloc o⟩, h10.alloc o⟩
theorem reads_one (w : World) (x : Value) (t : TypeId) : Reads (w.alloc (.cells #[x] t)) (w.heap.size + 1) 1 (some ⟨w.heap.size, 0, none⟩) 1 [x] := by
  refine ⟨rfl, fun _ => ⟨_, rfl, by simp, fun j u hu => ?_⟩⟩
  cases j with
  | zero =>
    cases hu
    rw [add_none, cell_of_row _ _ _ #[x] t (0, 0) (heap_alloc_new w _)]; rfl
  | succ j => simp at hu
@[go_sem] theorem index_two_0 (x y : Value) (w : World) : (Instr.index 152 (.agg #[x, y]) (.int .i64 0)).run Try.prog w = .ok x w := by kernel_rfl
@[go_sem] theorem index_two_1 (x y : Value) (w : World) : (Instr.index 152 (.agg #[x, y]) (.int .i64 1)).run Try.prog w = .ok y w := by kernel_rfl

theorem own_slice {w : World} {B n : Nat} {t : TypeId} {v : Value} {xs : List Value} (h : w.ownsRow B t 1 v n xs) : ∃ A c, v = .slice A n c := by
  rcases h.2 with ⟨rfl, rfl⟩ | ⟨g, cap, cur, rfl, _⟩
  · exact ⟨_, _, rfl⟩
  · exact ⟨_, _, rfl⟩
/-- The state behind j of the two gates that are used. -/
def chainF (rec_ : TS → Int → TS × Int) (i : Int) (p : Int × Int) (st : TS × Int × Bool) : Nat → TS × Int × Bool
  | 0 => st
  | j + 1 => visitF rec_ i (chainF rec_ i p st j) (if j = 0 then p.1 else p.2)
theorem chain_good {n f : Nat} {uses : List (Int × Int)} (ih : ∀ (S : TS) (i : Int), unmet S ≤ f → TInv n S → 0 ≤ i → i < (n : Int) → S.met.getD i.toNat 0 = 0 → TGo n S (followF uses f S i).1)
    {i : Int} {p : Int × Int} {st : TS × Int × Bool} (hf : unmet st.1 ≤ f) (h : TInv n st.1) (h1 : UseOk n p.1) (h2 : UseOk n p.2) : ∀ j, TGo n st.1 (chainF (followF uses f) i p st j).1
  | 0 => .refl h
  | j + 1 => by
    have g := chain_good ih (i := i) (p := p) hf h h1 h2 j
    refine g.trans (visit_good ih (Nat.le_trans g.le hf) g.inv ?_)
    split
    · exact h1
    · exact h2
theorem chain_step {rec_ : TS → Int → TS × Int} {i : Int} {p : Int × Int} {s0 st : TS × Int × Bool} {j : Nat} (h : st = chainF rec_ i p s0 j) : chainF rec_ i p s0 (j + 1) = visitF rec_ i st (if j = 0 then p.1 else p.2) := by rw [chainF, ← h]
theorem min_if (a b : Int) : (if b < a then b else a) = min a b := by
  split <;> omega
theorem visit_none {rec_ : TS → Int → TS × Int} {i : Int} {st : TS × Int × Bool} : visitF rec_ i st (-1) = st := if_pos rfl
theorem visit_new {rec_ : TS → Int → TS × Int} {i u : Int} {st : TS × Int × Bool} (h : ¬ u = -1) (h0 : st.1.met.getD u.toNat 0 = 0) : visitF rec_ i st u = ((rec_ st.1 u).1, min st.2.1 (rec_ st.1 u).2, st.2.2) := by unfold visitF; rw [if_neg h, if_pos h0]
theorem visit_old {rec_ : TS → Int → TS × Int} {i u : Int} {st : TS × Int × Bool} (h : ¬ u = -1) (h0 : st.1.met.getD u.toNat 0 ≠ 0) : visitF rec_ i st u = (st.1, min st.2.1 (st.1.met.getD u.toNat 0), st.2.2 || decide (u = i)) := by unfold visitF; rw [if_neg h, if_neg h0]
theorem own_some {w : World} {B n : Nat} {v : Value} {xs : List Value} (h : w.ownsRow B 3 1 v n xs) (hn : 0 < n) :
    ∃ g cap cur, v = .slice (some ⟨g, 0, none⟩) n cap ∧ B ≤ g ∧ Blk w g 3 cur ∧ n ≤ cap ∧ cap ≤ maxLen ∧ cur.size = cap ∧ cur.toList.take n = xs := by
  rcases h.2 with ⟨_, h0⟩ | ⟨g, cap, cur, hv, hb, hg, h1, h2, h3, h4⟩
  · omega
  · exact ⟨g, cap, cur, hv, hb, hg, h1, h2, by simpa using h3, by simpa using h4⟩
theorem own_cut {w : World} {B g n cap : Nat} {cur : Array Value} {xs : List Value} (h : Blk w g 3 cur) (hB : B ≤ g) (hn : n ≤ cap) (hm : cap ≤ maxLen) (hs : cur.size = cap) (hx : cur.toList.take n = xs) : w.ownsRow B 3 1 (.slice (some ⟨g, 0, none⟩) n cap) n xs := by
  refine ⟨?_, .inr ⟨g, cap, cur, rfl, hB, h, hn, hm, by simpa using hs, by simpa using hx⟩⟩
  rw [← hx]; simp [hs]; omega
theorem leave_open {place : Nat} {own : Int} {st : TS × Int × Bool} (h : st.2.1 < own) : leaveF place own st = (st.1, st.2.1) := if_pos h
theorem leave_shut {place : Nat} {own : Int} {st : TS × Int × Bool} (h : ¬ st.2.1 < own) : leaveF place own st = (shutAll (st.2.2 || decide (1 < (st.1.opn.drop place).length)) { st.1 with opn := st.1.opn.take place } (st.1.opn.drop place), maxI) := if_neg h
theorem shut_yes {S : TS} {x : Int} {bad : Bool} (h : (bad && (decide (S.first = -1) || decide (x < S.first))) = true) : shutOne bad S x = { S with met := S.met.set x.toNat maxI, first := x } := by unfold shutOne; rw [if_pos h]
theorem shut_no {S : TS} {x : Int} {bad : Bool} (h : (bad && (decide (S.first = -1) || decide (x < S.first))) = false) : shutOne bad S x = { S with met := S.met.set x.toNat maxI } := by unfold shutOne; rw [if_neg (by rw [h]; decide)]
theorem shut_snoc {bad : Bool} {S : TS} {gs : List Int} {k : Nat} {x : Int} (h : gs[k]? = some x) : shutAll bad S (gs.take (k + 1)) = shutOne bad (shutAll bad S (gs.take k)) x := by
  rw [List.take_add_one, h]; simp [shutAll, List.foldl_append]
theorem shutAll_len {bad : Bool} : ∀ (gs : List Int) {S : TS}, (shutAll bad S gs).met.length = S.met.length
  | [], _ => rfl
  | g :: r, S => by
    show (shutAll bad (shutOne bad S g) r).met.length = _
    rw [shutAll_len r]; simp [shutOne]
/-- What the induction says at fuel f. -/
def Follows (w0 : World) (K : TK) (uses : List (Int × Int)) (f : Nat) : Prop :=
  ∀ (S : TS) (i : Int) (w : World), unmet S ≤ f → TInv K.n S → 0 ≤ i → i < (K.n : Int) → S.met.getD i.toNat 0 = 0 → TSt w0 K uses w S →
    Calls Try.prog 127 #[.int .i64 i, .pointer (some ⟨K.c, 0, none⟩), .pointer (some ⟨K.o, 0, none⟩), .pointer (some ⟨K.m, 0, none⟩), .pointer (some ⟨K.u, 0, none⟩), .pointer (some ⟨K.w, 0, none⟩), .pointer (some ⟨K.f, 0, none⟩)] w
      fun e w' => e = .returned (.int .i64 (followF uses f S i).2) ∧ TSt w0 K uses w' (followF uses f S i).1

set_option maxHeartbeats 4000000 in
set_option maxRecDepth 100000 in
theorem follow_step (w0 : World) (K : TK) (hK : K.Ok w0.heap.size) (uses : List (Int × Int)) (huse : UsesOk K.n uses) (hn : K.n ≤ 16384) (f : Nat) (ih : Follows w0 K uses f) : Follows w0 K uses (f + 1) := by
  intro S i w hf hinv h0 h1 h2 hst
  obtain ⟨i', rfl⟩ : ∃ k : Nat, i = (k : Int) := ⟨i.toNat, by omega⟩
  have hi : i' < K.n := by omega
  obtain ⟨hm, hum⟩ := meet_good hinv h0 h1 h2
  obtain ⟨⟨p1, p2⟩, hpg, hpd, hp1, hp2⟩ := use_at huse (i := i') hi
  have HST := Lib.hid hst
  have HIH := Lib.hid ih
  have HU := Lib.hid huse
  have HINV := Lib.hid hinv
  have HM := Lib.hid hm
  have hcnt := hinv.cnt
  have hop : S.opn.length ≤ 100000 := by have := hinv.olen; omega
  obtain ⟨vo, hbo, hown⟩ := hst.bo
  obtain ⟨A, c, rfl⟩ := own_slice hown
  have cc := hst.bc.cell 0
  have fc := Blk.frozen hst.bc 0
  have co := (Blk.far hbo (p := ⟨K.c, 0, none⟩) (by simp; have := hK.gm; have := hK.m; have := hK.o; omega) (.int .i64 ((S.count : Int) + 1))).cell 0
  have HS1 := Lib.hid (hst.setCount hK (S.count + 1))
  simp only [List.getElem?_toArray, List.getElem?_cons_zero] at cc co
  clear hst ih huse hinv hm hbo hown
  go_enter Try.func127, Try.ntmps127
  go_wp2
  go_quiet (fail)
  have hs2 := HS1.out.drewN nq
  push_cast at hs2
  generalize (w.setCell ⟨K.c, 0, none⟩ (.int .i64 ((S.count : Int) + 1))).drewN nq = w2 at hs2
  clear cc fc co HS1 HST
  have hi3 : i' < S.met.length := by rw [HINV.out.len]; exact hi
  have HS3 := Lib.hid (hs2.setMet hK i' ((S.count : Int) + 1))
  obtain ⟨vo, hbo, hown⟩ := hs2.bo
  obtain ⟨A2, c2, rfl⟩ := own_slice hown
  have cm := hs2.bm.cell 0
  have c1 := hs2.nums.cell (getD_some hi3 (d := 0))
  have f1 := Blk.frozen hs2.nums i'
  simp only [List.getElem?_toArray, List.getElem?_cons_zero] at cm
  have hb3 := Blk.far hbo (p := ⟨K.gm, i', none⟩) (by simp; have := hK.m; have := hK.o; omega) (.int .i64 ((S.count : Int) + 1))
  have co := hb3.cell 0
  simp only [List.getElem?_toArray, List.getElem?_cons_zero] at co
  have HB3 := Lib.hid hb3
  have HO3 := Lib.hid (own_set hown (g := K.gm) (by have := hK.m; have := hK.o; have := hK.w; omega) i' (.int .i64 ((S.count : Int) + 1)))
  have hsz2 := hs2.size
  obtain ⟨i0, hi0, hz0, hz1, hz2⟩ := info_of' int_info'
  have HI0 := Lib.hid (And.intro hi0 (And.intro hz0 (And.intro hz1 hz2)))
  have hl32 : (w2.setCell ⟨K.gm, i', none⟩ (.int .i64 ((S.count : Int) + 1))).heap.size = w2.heap.size := by simp [World.setCell]
  have HL32 := Lib.hid hl32
  have hr1 := reads_one (w2.setCell ⟨K.gm, i', none⟩ (.int .i64 ((S.count : Int) + 1))) (.int .i64 (i' : Int)) 3
  rw [hl32] at hr1
  have HR1 := Lib.hid hr1
  have hno : some K.o ≠ (Value.slice A2 S.opn.length c2).ownBlock := fun e => by have := (HO3.out.lt _ e.symm).1; have := hK.w; omega
  have HNO := Lib.hid hno
  clear hs2 hbo hown hb3 hr1 hno hi0 hz0 hz1 hz2 hl32
  go_upto_region 5 with (at_builtin; refine wpList_append_any _ rfl (.tmp 27) (.tmp 29) _ rfl (K.w + 1) 3 i0 _ 1 8 Try.underlying22 HI0.out.1 HI0.out.2.1 HI0.out.2.2.1 HI0.out.2.2.2 rfl (by omega) (.slice A2 S.opn.length c2) S.opn.length (S.opn.map (Value.int .i64)) rfl (HO3.out.alloc _) (w2.heap.size + 1) (some ⟨w2.heap.size, 0, none⟩) 1 1 [.int .i64 (i' : Int)] rfl HR1.out (by simp [Value.oneCell']) (by simp only [maxLen]; omega) (by omega) (by simp [HL32.out]; omega) ?_; intro v3 w3 hown3 hg3 hat3; obtain ⟨A3, c3, rfl⟩ := own_slice hown3; have hb4 := (HB3.out.alloc _).grown hg3 (HNO.out); have co4 := hb4.cell 0; have fo4 := Blk.frozen hb4 0; simp only [List.getElem?_toArray, List.getElem?_cons_zero] at co4; clear hb4)
  have hs4 := TSt.setOpen (L := S.opn ++ [(i' : Int)]) hK (HS3.out.alloc (.cells #[.int .i64 (i' : Int)] 3)) hg3 (fun g e => (HO3.out.lt g e).1) (by simpa using hown3)
  have hs5 : TSt w0 K uses (w3.setCell ⟨K.o, 0, none⟩ (.slice A3 (S.opn.length + 1) c3)) (meetF S (i' : Int)) := hs4
  clear hs4 hown3 hg3 hat3 co4 fo4 HS3 HB3 HO3 HL32 HR1 cm c1 f1 co hsz2
  generalize w3.setCell ⟨K.o, 0, none⟩ (.slice A3 (S.opn.length + 1) c3) = w4 at hs5
  have hmi := hpg
  have cu := hs5.bu.cell 0
  simp only [List.getElem?_toArray, List.getElem?_cons_zero] at cu
  obtain ⟨d1, d2⟩ := hs5.uses_.cell hpg
  have hgu : K.gu < w0.heap.size := Blk.lt hs5.uses_
  have e1 := (hs5.below.cell (p := ⟨K.gu, i' * 2, none⟩) hgu).trans d1
  have e2 := (hs5.below.cell (p := ⟨K.gu, i' * 2 + 1, none⟩) hgu).trans d2
  simp only at e1 e2
  have HS5 := Lib.hid hs5
  clear hs5 d1 d2 hpg hmi
  have hg0 : TGo K.n (meetF S (i' : Int)) (chainF (followF uses f) (i' : Int) (p1, p2) (meetF S (i' : Int), (S.count : Int) + 1, false) 0).1 := .refl HM.out
  have HG0 := Lib.hid hg0
  clear hg0
  go_wp2
  go_loopw [11, 12, 36] (fun l b k wr => ∃ (j : Nat) (st : TS × Int × Bool), j ≤ 2 ∧ k = .int .i64 j ∧ l = .int .i64 st.2.1 ∧ b = .bool st.2.2 ∧ st = chainF (followF uses f) (i' : Int) (p1, p2) (meetF S (i' : Int), (S.count : Int) + 1, false) j ∧ TSt w0 K uses wr st.1) (fun _ _ k _ => 2 - (intOf k).toNat)
  case atStart => exact ⟨0, _, by omega, rfl, rfl, rfl, rfl, HS5.out⟩
  case round =>
    obtain ⟨j, ⟨T, ll, bb⟩, hj, rfl, rfl, rfl, hch, hst⟩ := hrel
    simp only at hst
    have HCH := Lib.hid hch
    have HT := Lib.hid hst
    have hgo : TGo K.n (meetF S (i' : Int)) T := by
      have := chain_good (follow_good HU.out f) (i := (i' : Int)) (p := (p1, p2)) (st := (meetF S (i' : Int), (S.count : Int) + 1, false)) (by show unmet (meetF S (i' : Int)) ≤ f; omega) HM.out hp1 hp2 j
      rw [← hch] at this; exact this
    have HGO := Lib.hid hgo
    have cm := hst.bm.cell 0
    have cw := hst.bw.cell 0
    simp only [List.getElem?_toArray, List.getElem?_cons_zero, TK.caps] at cm cw
    clear hch hst hgo cu
    have hj3 : j = 0 ∨ j = 1 ∨ j = 2 := by omega
    rcases hj3 with rfl | rfl | rfl
    · have HS := Lib.hid (chain_step HCH.out)
      simp only [if_true] at HS
      by_cases hu0 : p1 = -1
      · have HV := Lib.hid (HS.out.trans (by rw [hu0, visit_none]))
        clear HIH
        subst hu0
        go_wp2
        go_roundw
        case rel => exact ⟨1, (T, ll, bb), by omega, by go_num, rfl, rfl, HV.out.symm, HT.out⟩
        case measure => simp [intOf]
      · have hub : 0 ≤ p1 ∧ p1 < (K.n : Int) := hp1.resolve_left hu0
        obtain ⟨u', hu'⟩ : ∃ u' : Nat, p1 = (u' : Int) := ⟨p1.toNat, by omega⟩
        have hun : u' < K.n := by omega
        clear hub
        subst hu'
        have hml : u' < T.met.length := by rw [HGO.out.inv.len]; exact hun
        have c1 := HT.out.nums.cell (getD_some hml (d := 0))
        have hq : ((u' : Int) == -1) = false := beq_false_of_ne (by omega)
        have HU0 := Lib.hid hu0
        obtain ⟨m, hm⟩ : ∃ m, T.met.getD u' 0 = m := ⟨_, rfl⟩
        rw [hm] at c1
        have HMM := Lib.hid hm
        clear hu0 hm hml
        by_cases hm0 : m = 0
        · have HV := Lib.hid (HS.out.trans (visit_new HU0.out (by show T.met.getD (u' : Int).toNat 0 = 0; rw [Int.toNat_natCast, HMM.out, hm0])))
          have hun2 : unmet T ≤ f := Nat.le_trans HGO.out.le (by show unmet (meetF S (i' : Int)) ≤ f; omega)
          have hcall := HIH.out T (u' : Int) wr hun2 HGO.out.inv (by omega) (by omega) (by rw [Int.toNat_natCast, HMM.out, hm0]) HT.out
          obtain ⟨R, hR⟩ : ∃ R, followF uses f T (u' : Int) = R := ⟨_, rfl⟩
          rw [hR] at hcall
          have HR := Lib.hid hR
          have HC := Lib.hid hcall
          clear hcall hR HIH
          subst hm0
          go_wp2_with (go_at_call 127; refine HC.out.mono ?_; rintro e w5 ⟨rfl, hst5⟩)
          go_roundw
          case rel => exact ⟨1, (R.1, min ll R.2, bb), by omega, by go_num, by rw [min_if], rfl, by rw [HV.out, HR.out], hst5⟩
          case measure => simp [intOf]
        · have HV := Lib.hid (HS.out.trans (visit_old HU0.out (by show T.met.getD (u' : Int).toNat 0 ≠ 0; rw [Int.toNat_natCast, HMM.out]; exact hm0)))
          have hq2 : (m == 0) = false := by simpa using hm0
          clear hm0 HIH
          have hvm : T.met.getD (u' : Int).toNat 0 = m := by rw [Int.toNat_natCast]; exact HMM.out
          have HVM := Lib.hid hvm
          clear hvm
          cases bb
          · by_cases hui : u' = i'
            · have hq3 : ((u' : Int) == (i' : Int)) = true := by simp; omega
              have HUI := Lib.hid hui
              clear hui
              go_wp2
              go_roundw
              case rel => exact ⟨1, (T, min ll m, true), by omega, by go_num, by rw [min_if], rfl, by rw [HV.out, HVM.out]; rw [decide_eq_true (by have := HUI.out; omega)]; rfl, HT.out⟩
              case measure => simp [intOf]
            · have hq3 : ((u' : Int) == (i' : Int)) = false := by simp; omega
              have HUI := Lib.hid hui
              clear hui
              go_wp2
              go_roundw
              case rel => exact ⟨1, (T, min ll m, false), by omega, by go_num, by rw [min_if], rfl, by rw [HV.out, HVM.out]; rw [decide_eq_false (by have := HUI.out; omega)]; rfl, HT.out⟩
              case measure => simp [intOf]
          · go_wp2
            go_roundw
            case rel => exact ⟨1, (T, min ll m, true), by omega, by go_num, by rw [min_if], rfl, by rw [HV.out, HVM.out]; simp, HT.out⟩
            case measure => simp [intOf]
    · have HS := Lib.hid (chain_step HCH.out)
      simp only [Nat.one_ne_zero, if_false] at HS
      by_cases hu0 : p2 = -1
      · have HV := Lib.hid (HS.out.trans (by rw [hu0, visit_none]))
        clear HIH
        subst hu0
        go_wp2
        go_roundw
        case rel => exact ⟨2, (T, ll, bb), by omega, by go_num, rfl, rfl, HV.out.symm, HT.out⟩
        case measure => simp [intOf]
      · have hub : 0 ≤ p2 ∧ p2 < (K.n : Int) := hp2.resolve_left hu0
        obtain ⟨u', hu'⟩ : ∃ u' : Nat, p2 = (u' : Int) := ⟨p2.toNat, by omega⟩
        have hun : u' < K.n := by omega
        clear hub
        subst hu'
        have hml : u' < T.met.length := by rw [HGO.out.inv.len]; exact hun
        have c1 := HT.out.nums.cell (getD_some hml (d := 0))
        have hq : ((u' : Int) == -1) = false := beq_false_of_ne (by omega)
        have HU0 := Lib.hid hu0
        obtain ⟨m, hm⟩ : ∃ m, T.met.getD u' 0 = m := ⟨_, rfl⟩
        rw [hm] at c1
        have HMM := Lib.hid hm
        clear hu0 hm hml
        by_cases hm0 : m = 0
        · have HV := Lib.hid (HS.out.trans (visit_new HU0.out (by show T.met.getD (u' : Int).toNat 0 = 0; rw [Int.toNat_natCast, HMM.out, hm0])))
          have hun2 : unmet T ≤ f := Nat.le_trans HGO.out.le (by show unmet (meetF S (i' : Int)) ≤ f; omega)
          have hcall := HIH.out T (u' : Int) wr hun2 HGO.out.inv (by omega) (by omega) (by rw [Int.toNat_natCast, HMM.out, hm0]) HT.out
          obtain ⟨R, hR⟩ : ∃ R, followF uses f T (u' : Int) = R := ⟨_, rfl⟩
          rw [hR] at hcall
          have HR := Lib.hid hR
          have HC := Lib.hid hcall
          clear hcall hR HIH
          subst hm0
          go_wp2_with (go_at_call 127; refine HC.out.mono ?_; rintro e w5 ⟨rfl, hst5⟩)
          go_roundw
          case rel => exact ⟨2, (R.1, min ll R.2, bb), by omega, by go_num, by rw [min_if], rfl, by rw [HV.out, HR.out], hst5⟩
          case measure => simp [intOf]
        · have HV := Lib.hid (HS.out.trans (visit_old HU0.out (by show T.met.getD (u' : Int).toNat 0 ≠ 0; rw [Int.toNat_natCast, HMM.out]; exact hm0)))
          have hq2 : (m == 0) = false := by simpa using hm0
          clear hm0 HIH
          have hvm : T.met.getD (u' : Int).toNat 0 = m := by rw [Int.toNat_natCast]; exact HMM.out
          have HVM := Lib.hid hvm
          clear hvm
          cases bb
          · by_cases hui : u' = i'
            · have hq3 : ((u' : Int) == (i' : Int)) = true := by simp; omega
              have HUI := Lib.hid hui
              clear hui
              go_wp2
              go_roundw
              case rel => exact ⟨2, (T, min ll m, true), by omega, by go_num, by rw [min_if], rfl, by rw [HV.out, HVM.out]; rw [decide_eq_true (by have := HUI.out; omega)]; rfl, HT.out⟩
              case measure => simp [intOf]
            · have hq3 : ((u' : Int) == (i' : Int)) = false := by simp; omega
              have HUI := Lib.hid hui
              clear hui
              go_wp2
              go_roundw
              case rel => exact ⟨2, (T, min ll m, false), by omega, by go_num, by rw [min_if], rfl, by rw [HV.out, HVM.out]; rw [decide_eq_false (by have := HUI.out; omega)]; rfl, HT.out⟩
              case measure => simp [intOf]
          · go_wp2
            go_roundw
            case rel => exact ⟨2, (T, min ll m, true), by omega, by go_num, by rw [min_if], rfl, by rw [HV.out, HVM.out]; simp, HT.out⟩
            case measure => simp [intOf]
    · obtain ⟨TT, hTT⟩ := HGO.out.opn
      have hTT' : T.opn = S.opn ++ [(i' : Int)] ++ TT := hTT
      have hfol : followF uses (f + 1) S (i' : Int) = leaveF S.opn.length ((S.count : Int) + 1) (T, ll, bb) := by
        show leaveF _ _ (visitF _ _ (visitF _ _ _ (uses.getD (i' : Int).toNat (-1, -1)).1) (uses.getD (i' : Int).toNat (-1, -1)).2) = _
        rw [Int.toNat_natCast, hpd, HCH.out]; rfl
      have HFOL := Lib.hid hfol
      have HTT := Lib.hid hTT'
      clear hTT hTT' hfol hpd
      by_cases hl : ll < (S.count : Int) + 1
      · have HL := Lib.hid (leave_open (place := S.opn.length) (own := (S.count : Int) + 1) (st := (T, ll, bb)) hl)
        clear HIH
        go_wp2
        go_ret
        exact ⟨ret_int (by rw [HFOL.out, HL.out]), by rw [HFOL.out, HL.out]; exact HT.out⟩
      · have HL := Lib.hid (leave_shut (place := S.opn.length) (own := (S.count : Int) + 1) (st := (T, ll, bb)) hl)
        obtain ⟨gl, hgl⟩ : ∃ gl, gl = TT.length + 1 := ⟨_, rfl⟩
        have hlen : T.opn.length = S.opn.length + gl := by rw [HTT.out]; simp; omega
        have hdrop : T.opn.drop S.opn.length = (i' : Int) :: TT := by rw [HTT.out, List.append_assoc, List.drop_left]; rfl
        have htake : T.opn.take S.opn.length = S.opn := by rw [HTT.out, List.append_assoc, take_pre]
        obtain ⟨v, hbo, hown⟩ := HT.out.bo
        obtain ⟨g, cap, cur, rfl, hB, hcur, hncap, hcm, hcs, htk⟩ := own_some hown (by omega)
        rw [hlen] at hncap hbo htk
        have co := hbo.cell 0
        have fo := Blk.frozen hbo 0
        simp only [List.getElem?_toArray, List.getElem?_cons_zero] at co
        have hne : ¬ cap = S.opn.length := by omega
        unfold maxLen at hcm
        have hown6 : wr.ownsRow (K.w + 1) 3 1 (.slice (some ⟨g, 0, none⟩) S.opn.length cap) S.opn.length (S.opn.map (Value.int .i64)) := by
          refine own_cut hcur hB (by omega) (by unfold maxLen; omega) hcs ?_
          have := congrArg (List.take S.opn.length) htk
          rw [List.take_take, Nat.min_eq_left (by omega), ← List.map_take, htake] at this
          exact this
        have HS6 := Lib.hid (HT.out.setOpen hK (World.grownBy.refl wr none) (by simp) hown6)
        have hcur6 : Blk (wr.setCell ⟨K.o, 0, none⟩ (.slice (some ⟨g, 0, none⟩) S.opn.length cap)) g 3 cur := Blk.far hcur (by simp; have := hK.w; omega) _
        have HC6 := Lib.hid hcur6
        have hcell : ∀ (k : Nat) (x : Int), ((i' : Int) :: TT)[k]? = some x → cur[S.opn.length + k]? = some (.int .i64 x) := by
          intro k x hx
          rw [← hdrop, List.getElem?_drop] at hx
          have hk := (List.getElem?_eq_some_iff.1 hx).1
          have h1 : (cur.toList.take (S.opn.length + gl))[S.opn.length + k]? = some (.int .i64 x) := by rw [htk]; simp [hx]
          rw [List.getElem?_take, if_pos (by omega)] at h1
          simpa using h1
        have hval : ∀ x ∈ ((i' : Int) :: TT), 0 ≤ x ∧ x < (K.n : Int) := fun x hx => HGO.out.inv.opn x (by rw [← hdrop] at hx; exact List.mem_of_mem_drop hx)
        obtain ⟨GG, hGG⟩ : ∃ GG, ((i' : Int) :: TT) = GG := ⟨_, rfl⟩
        have hGl : GG.length = gl := by rw [← hGG, hgl]; simp
        rw [hGG] at hcell hval hdrop
        have HCELL := Lib.hid hcell
        have HVAL := Lib.hid hval
        have HGL := Lib.hid hGl
        have hgl1 : 1 ≤ gl := by omega
        obtain ⟨bad, hbad⟩ : ∃ bad, (bb || decide (1 < gl)) = bad := ⟨_, rfl⟩
        have HBAD := Lib.hid hbad
        have HLV : Hid (leaveF S.opn.length ((S.count : Int) + 1) (T, ll, bb) = (shutAll bad { T with opn := S.opn } GG, maxI)) := Lib.hid (by
          rw [HL.out]
          show (shutAll (bb || decide (1 < (T.opn.drop S.opn.length).length)) { T with opn := T.opn.take S.opn.length } (T.opn.drop S.opn.length), maxI) = _
          rw [hdrop, hGl, hbad, htake])
        have hgw : K.w < g := hB
        have HTI := Lib.hid HGO.out.inv.len
        clear HL hgl hlen hdrop htake hbo hown hB hcur htk hown6 hcur6 hcell hval hGG hGl hbad HIH HTT HCH HGO HG0 HS5 HM HINV HU hcs
        go_wp2
        go_loopw [78] (fun k wr => ∃ (j : Nat) (R : TS), j ≤ gl ∧ k = .int .i64 j ∧ R = shutAll bad { T with opn := S.opn } (GG.take j) ∧ TSt w0 K uses wr R ∧ Blk wr g 3 cur) (fun k _ => gl - (intOf k).toNat)
        case atStart => exact ⟨0, _, Nat.zero_le _, rfl, rfl, HS6.out, HC6.out⟩
        case round =>
          obtain ⟨k, R, hk, rfl, hR, hsr, hcr⟩ := hrel
          have HSK := Lib.hid hR
          have HSR := Lib.hid hsr
          clear hR HS6 HC6
          by_cases hlt : k < gl
          · have hx := List.getElem?_eq_getElem (l := GG) (i := k) (by rw [HGL.out]; exact hlt)
            generalize GG[k]'(by rw [HGL.out]; exact hlt) = x at hx
            have hx1 := HCELL.out k x hx
            have hxv := HVAL.out x (List.mem_of_getElem? hx)
            have HX := Lib.hid hx
            clear hx
            obtain ⟨x', rfl⟩ : ∃ x' : Nat, x = (x' : Int) := ⟨x.toNat, by omega⟩
            have cx : wr.cell? ⟨g, S.opn.length + k, none⟩ = some (.int .i64 (x' : Int)) := (hcr.cell _).trans hx1
            have hxn : x' < K.n := by omega
            have hml : R.met.length = K.n := by
              rw [HSK.out, shutAll_len]; exact HTI.out
            have cm2 := hsr.bm.cell 0
            have cx2 := hsr.nums.cell (getD_some (k := x') (d := 0) (by rw [hml]; exact hxn))
            have fx2 := Blk.frozen hsr.nums x'
            have k1 := hK.f
            have k2 := hK.c
            have k3 := hK.gm
            have k4 := hK.m
            have k5 := hK.o
            have k6 := hK.w
            have hsm := hsr.setMet hK x' maxI
            have HSM := Lib.hid hsm
            have cf := hsm.bf.cell 0
            have ff := Blk.frozen hsm.bf 0
            have hcm := Blk.far hcr (p := ⟨K.gm, x', none⟩) (by simp; omega) (.int .i64 maxI)
            have HCM := Lib.hid hcm
            simp only [List.getElem?_toArray, List.getElem?_cons_zero] at cm2 cf
            clear hx1 hcr hsr hsm hcm hml hxv
            have hbw : (bb = true ∧ bad = true) ∨ (bb = false ∧ 1 < gl ∧ bad = true) ∨ (bb = false ∧ ¬ 1 < gl ∧ bad = false) := by
              have := HBAD.out
              cases bb
              · by_cases h : 1 < gl
                · right; left; exact ⟨rfl, h, by rw [← this]; simp [h]⟩
                · right; right; exact ⟨rfl, h, by rw [← this]; simp [h]⟩
              · left; exact ⟨rfl, by rw [← this]; rfl⟩
            rcases hbw with ⟨hb1, hb3⟩ | ⟨hb1, hb2, hb3⟩ | ⟨hb1, hb2, hb3⟩
            · subst hb1 hb3
              by_cases hf : R.first = -1
              · have hq : (R.first == -1) = true := by simpa using hf
                have HSH := Lib.hid (shut_yes (S := R) (x := (x' : Int)) (bad := true) (by simp [hf]))
                clear hf
                go_wp2
                go_roundw
                case rel => first
                  | exact ⟨k + 1, _, by omega, by go_num, by rw [shut_snoc HX.out, ← HSK.out]; exact HSH.out.symm, (HSM.out.setFirst hK (x' : Int)), Blk.far HCM.out (by simp; omega) _⟩
                  | ((repeat apply Exists.intro); exact ⟨⟨k + 1, _, by omega, by go_num, by rw [shut_snoc HX.out, ← HSK.out]; exact HSH.out.symm, (HSM.out.setFirst hK (x' : Int)), Blk.far HCM.out (by simp; omega) _⟩, rfl⟩)
                case measure => first | (simp [intOf]; omega) | omega
              · have hq : (R.first == -1) = false := by simpa using hf
                by_cases hlt2 : (x' : Int) < R.first
                · have HSH := Lib.hid (shut_yes (S := R) (x := (x' : Int)) (bad := true) (by simp [hlt2]))
                  clear hf
                  go_wp2
                  go_roundw
                  case rel => first
                    | exact ⟨k + 1, _, by omega, by go_num, by rw [shut_snoc HX.out, ← HSK.out]; exact HSH.out.symm, (HSM.out.setFirst hK (x' : Int)), Blk.far HCM.out (by simp; omega) _⟩
                    | ((repeat apply Exists.intro); exact ⟨⟨k + 1, _, by omega, by go_num, by rw [shut_snoc HX.out, ← HSK.out]; exact HSH.out.symm, (HSM.out.setFirst hK (x' : Int)), Blk.far HCM.out (by simp; omega) _⟩, rfl⟩)
                  case measure => first | (simp [intOf]; omega) | omega
                · have HSH := Lib.hid (shut_no (S := R) (x := (x' : Int)) (bad := true) (by simp [hf, hlt2]))
                  clear hf
                  go_wp2
                  go_roundw
                  case rel => first
                    | exact ⟨k + 1, _, by omega, by go_num, by rw [shut_snoc HX.out, ← HSK.out]; exact HSH.out.symm, HSM.out, HCM.out⟩
                    | ((repeat apply Exists.intro); exact ⟨⟨k + 1, _, by omega, by go_num, by rw [shut_snoc HX.out, ← HSK.out]; exact HSH.out.symm, HSM.out, HCM.out⟩, rfl⟩)
                  case measure => first | (simp [intOf]; omega) | omega
            · subst hb1 hb3
              have hb2i : (1 : Int) < (gl : Int) := by omega
              by_cases hf : R.first = -1
              · have hq : (R.first == -1) = true := by simpa using hf
                have HSH := Lib.hid (shut_yes (S := R) (x := (x' : Int)) (bad := true) (by simp [hf]))
                clear hf
                go_wp2
                go_roundw
                case rel => first
                  | exact ⟨k + 1, _, by omega, by go_num, by rw [shut_snoc HX.out, ← HSK.out]; exact HSH.out.symm, (HSM.out.setFirst hK (x' : Int)), Blk.far HCM.out (by simp; omega) _⟩
                  | ((repeat apply Exists.intro); exact ⟨⟨k + 1, _, by omega, by go_num, by rw [shut_snoc HX.out, ← HSK.out]; exact HSH.out.symm, (HSM.out.setFirst hK (x' : Int)), Blk.far HCM.out (by simp; omega) _⟩, rfl⟩)
                case measure => first | (simp [intOf]; omega) | omega
              · have hq : (R.first == -1) = false := by simpa using hf
                by_cases hlt2 : (x' : Int) < R.first
                · have HSH := Lib.hid (shut_yes (S := R) (x := (x' : Int)) (bad := true) (by simp [hlt2]))
                  clear hf
                  go_wp2
                  go_roundw
                  case rel => first
                    | exact ⟨k + 1, _, by omega, by go_num, by rw [shut_snoc HX.out, ← HSK.out]; exact HSH.out.symm, (HSM.out.setFirst hK (x' : Int)), Blk.far HCM.out (by simp; omega) _⟩
                    | ((repeat apply Exists.intro); exact ⟨⟨k + 1, _, by omega, by go_num, by rw [shut_snoc HX.out, ← HSK.out]; exact HSH.out.symm, (HSM.out.setFirst hK (x' : Int)), Blk.far HCM.out (by simp; omega) _⟩, rfl⟩)
                  case measure => first | (simp [intOf]; omega) | omega
                · have HSH := Lib.hid (shut_no (S := R) (x := (x' : Int)) (bad := true) (by simp [hf, hlt2]))
                  clear hf
                  go_wp2
                  go_roundw
                  case rel => first
                    | exact ⟨k + 1, _, by omega, by go_num, by rw [shut_snoc HX.out, ← HSK.out]; exact HSH.out.symm, HSM.out, HCM.out⟩
                    | ((repeat apply Exists.intro); exact ⟨⟨k + 1, _, by omega, by go_num, by rw [shut_snoc HX.out, ← HSK.out]; exact HSH.out.symm, HSM.out, HCM.out⟩, rfl⟩)
                  case measure => first | (simp [intOf]; omega) | omega
            · subst hb1 hb3
              have hb2i : ¬ (1 : Int) < (gl : Int) := by omega
              have HSH := Lib.hid (shut_no (S := R) (x := (x' : Int)) (bad := false) (by simp))
              go_wp2
              go_roundw
              case rel => first
                | exact ⟨k + 1, _, by omega, by go_num, by rw [shut_snoc HX.out, ← HSK.out]; exact HSH.out.symm, HSM.out, HCM.out⟩
                | ((repeat apply Exists.intro); exact ⟨⟨k + 1, _, by omega, by go_num, by rw [shut_snoc HX.out, ← HSK.out]; exact HSH.out.symm, HSM.out, HCM.out⟩, rfl⟩)
              case measure => first | (simp [intOf]; omega) | omega
          · have : k = gl := by omega
            subst this
            go_wp2
            go_ret
            refine ⟨ret_int (by rw [HFOL.out, HLV.out]), ?_⟩
            rw [HFOL.out, HLV.out]
            have e : GG.take k = GG := List.take_of_length_le (by rw [HGL.out]; exact Nat.le_refl _)
            have := HSK.out
            rw [e] at this
            rw [← this]; exact HSR.out

theorem follow_any (w0 : World) (K : TK) (hK : K.Ok w0.heap.size) (uses : List (Int × Int)) (huse : UsesOk K.n uses) (hn : K.n ≤ 16384) : ∀ f, Follows w0 K uses f
  | 0 => fun S i _ hf hinv h0 h1 h2 _ => by
    exfalso
    have hk : i.toNat < S.met.length := by rw [hinv.len]; omega
    have : 0 < unmet S := List.countP_pos_iff.2 ⟨_, List.getElem_mem hk, by have := getD_some hk (d := 0); rw [h2, List.getElem?_eq_getElem hk] at this; injection this with this; simp [this]⟩
    omega
  | f + 1 => follow_step w0 K hK uses huse hn f (follow_any w0 K hK uses huse hn f)
end Go.Proofs.Ytdodhbfplglbkaa

/- The way along gates that finds those that come round (Tarjan's): as a function on plain data, and what memory holds of it. -/
import Derived.Test.YtfcjdfjobneeeaaUses
namespace Go.Proofs.Ytfcjdfjobneeeaa
open Go.RowKit

/-- The numbers of gates that the way keeps: the first gate that comes round, how many were met, when each was met, those that are open. -/
structure TS where
  first : Int
  count : Nat
  met : List Int
  opn : List Int
abbrev maxI : Int := 9223372036854775807
/-- A gate of a group that is closed. -/
def shutOne (bad : Bool) (S : TS) (g : Int) : TS :=
  { S with met := S.met.set g.toNat maxI, first := if (bad && (decide (S.first = -1) || decide (g < S.first))) = true then g else S.first }
def shutAll (bad : Bool) (S : TS) (gs : List Int) : TS := gs.foldl (shutOne bad) S
/-- A gate that is used is looked at: the state, the least count, whether it is the gate itself. -/
def visitF (rec_ : TS → Int → TS × Int) (i : Int) (st : TS × Int × Bool) (u : Int) : TS × Int × Bool :=
  if u = -1 then st else
  if st.1.met.getD u.toNat 0 = 0 then ((rec_ st.1 u).1, min st.2.1 (rec_ st.1 u).2, st.2.2) else (st.1, min st.2.1 (st.1.met.getD u.toNat 0), st.2.2 || decide (u = i))
def meetF (S : TS) (i : Int) : TS := { S with count := S.count + 1, met := S.met.set i.toNat (S.count + 1), opn := S.opn ++ [i] }
def leaveF (place : Nat) (own : Int) (st : TS × Int × Bool) : TS × Int :=
  if st.2.1 < own then (st.1, st.2.1) else
  (shutAll (st.2.2 || decide (1 < (st.1.opn.drop place).length)) { st.1 with opn := st.1.opn.take place } (st.1.opn.drop place), maxI)
def followF (uses : List (Int × Int)) : Nat → TS → Int → TS × Int
  | 0, S, _ => (S, 0)
  | f + 1, S, i =>
    let p := uses.getD i.toNat (-1, -1)
    leaveF S.opn.length (S.count + 1) (visitF (followF uses f) i (visitF (followF uses f) i (meetF S i, (S.count : Int) + 1, false) p.1) p.2)
/-- How many gates were not met yet. -/
def unmet (S : TS) : Nat := S.met.countP (· == 0)

/-- The blocks of the variables. -/
structure TK where
  u : Nat
  f : Nat
  c : Nat
  gm : Nat
  m : Nat
  o : Nat
  w : Nat
  gu : Nat
  n : Nat
def TK.caps (K : TK) : Array Value := #[.pointer (some ⟨K.c, 0, none⟩), .pointer (some ⟨K.o, 0, none⟩), .pointer (some ⟨K.m, 0, none⟩), .pointer (some ⟨K.u, 0, none⟩), .pointer (some ⟨K.w, 0, none⟩), .pointer (some ⟨K.f, 0, none⟩)]
structure TK.Ok (K : TK) (B : Nat) : Prop where
  gu : K.gu < B
  u : B ≤ K.u
  f : K.u < K.f
  c : K.f < K.c
  gm : K.c < K.gm
  m : K.gm < K.m
  o : K.m < K.o
  w : K.o < K.w
/-- What memory holds in the midst. -/
structure TSt (w0 : World) (K : TK) (uses : List (Int × Int)) (w : World) (S : TS) : Prop where
  below : Below w0.heap.size w0 w
  uses_ : Prs w0 K.gu uses
  bu : Blk w K.u 59 #[.slice (some ⟨K.gu, 0, none⟩) K.n K.n]
  bf : Blk w K.f 3 #[.int .i64 S.first]
  bc : Blk w K.c 3 #[.int .i64 S.count]
  nums : Nums w K.gm S.met
  bm : Blk w K.m 22 #[.slice (some ⟨K.gm, 0, none⟩) K.n K.n]
  bo : ∃ v, Blk w K.o 22 #[v] ∧ w.ownsRow (K.w + 1) 3 1 v S.opn.length (S.opn.map (Value.int .i64))
  bw : Blk w K.w 67 #[.func (.func 74) #[] K.caps]
theorem TSt.size {w0 w : World} {K : TK} {uses : List (Int × Int)} {S : TS} (h : TSt w0 K uses w S) : K.w < w.heap.size := Blk.lt h.bw
theorem TSt.drewN {w0 w : World} {K : TK} {uses : List (Int × Int)} {S : TS} (h : TSt w0 K uses w S) (n : Nat) : TSt w0 K uses (w.drewN n) S := by
  obtain ⟨h1, h2, h3, h4, h5, h6, h7, ⟨v, h8, h9⟩, h10⟩ := h
  exact ⟨below_drewN h1 n, h2, h3, h4, h5, h6, h7, ⟨v, h8, own_below h9 (below_drewN (Below.refl _ _) n)⟩, h10⟩
theorem own_set {w : World} {B g n : Nat} {t : TypeId} {v : Value} {xs : List Value} (h : w.ownsRow B t 1 v n xs) (hg : g < B) (i : Nat) (u : Value) : (w.setCell ⟨g, i, none⟩ u).ownsRow B t 1 v n xs := by
  refine ⟨h.1, ?_⟩
  rcases h.2 with h2 | ⟨g', cap, cur, hv, hB, hh, h3⟩
  · exact .inl h2
  · exact .inr ⟨g', cap, cur, hv, hB, (Below.heap_setCell _ _ _ _ (by simp; omega)).trans hh, h3⟩
theorem TSt.setCount {w0 w : World} {K : TK} {uses : List (Int × Int)} {S : TS} (hK : K.Ok w0.heap.size) (h : TSt w0 K uses w S) (c : Nat) : TSt w0 K uses (w.setCell ⟨K.c, 0, none⟩ (.int .i64 (c : Int))) { S with count := c } := by
  obtain ⟨h1, h2, h3, h4, h5, h6, h7, ⟨v, h8, h9⟩, h10⟩ := h
  obtain ⟨k1, k2, k3, k4, k5, k6, k7, k8⟩ := hK
  exact ⟨h1.setCell (by simp; omega) _, h2, Blk.far h3 (by simp; omega) _, Blk.far h4 (by simp; omega) _, by simpa using Blk.set_ h5 0 (.int .i64 (c : Int)), Blk.far h6 (by simp; omega) _, Blk.far h7 (by simp; omega) _, ⟨v, Blk.far h8 (by simp; omega) _, own_set h9 (by omega) _ _⟩, Blk.far h10 (by simp; omega) _⟩
theorem TSt.setFirst {w0 w : World} {K : TK} {uses : List (Int × Int)} {S : TS} (hK : K.Ok w0.heap.size) (h : TSt w0 K uses w S) (x : Int) : TSt w0 K uses (w.setCell ⟨K.f, 0, none⟩ (.int .i64 x)) { S with first := x } := by
  obtain ⟨h1, h2, h3, h4, h5, h6, h7, ⟨v, h8, h9⟩, h10⟩ := h
  obtain ⟨k1, k2, k3, k4, k5, k6, k7, k8⟩ := hK
  exact ⟨h1.setCell (by simp; omega) _, h2, Blk.far h3 (by simp; omega) _, by simpa using Blk.set_ h4 0 (.int .i64 x), Blk.far h5 (by simp; omega) _, Blk.far h6 (by simp; omega) _, Blk.far h7 (by simp; omega) _, ⟨v, Blk.far h8 (by simp; omega) _, own_set h9 (by omega) _ _⟩, Blk.far h10 (by simp; omega) _⟩
theorem TSt.setMet {w0 w : World} {K : TK} {uses : List (Int × Int)} {S : TS} (hK : K.Ok w0.heap.size) (h : TSt w0 K uses w S) (i : Nat) (x : Int) : TSt w0 K uses (w.setCell ⟨K.gm, i, none⟩ (.int .i64 x)) { S with met := S.met.set i x } := by
  obtain ⟨h1, h2, h3, h4, h5, h6, h7, ⟨v, h8, h9⟩, h10⟩ := h
  obtain ⟨k1, k2, k3, k4, k5, k6, k7, k8⟩ := hK
  exact ⟨h1.setCell (by simp; omega) _, h2, Blk.far h3 (by simp; omega) _, Blk.far h4 (by simp; omega) _, Blk.far h5 (by simp; omega) _, Nums.set_ h6 i x, Blk.far h7 (by simp; omega) _, ⟨v, Blk.far h8 (by simp; omega) _, own_set h9 (by omega) _ _⟩, Blk.far h10 (by simp; omega) _⟩
/-- The open ones are put anew, in a world in which nothing but their row has turned. -/
theorem TSt.setOpen {w0 w w' : World} {K : TK} {uses : List (Int × Int)} {S : TS} (hK : K.Ok w0.heap.size) (h : TSt w0 K uses w S) {row : Option Nat} (hg : w.grownBy w' row) (hr : ∀ g, row = some g → K.w < g) {v : Value} {L : List Int} (hv : w'.ownsRow (K.w + 1) 3 1 v L.length (L.map (Value.int .i64))) :
    TSt w0 K uses (w'.setCell ⟨K.o, 0, none⟩ v) { S with opn := L } := by
  have hsz := h.size
  obtain ⟨h1, h2, h3, h4, h5, h6, h7, ⟨v0, h8, h9⟩, h10⟩ := h
  obtain ⟨k1, k2, k3, k4, k5, k6, k7, k8⟩ := hK
  have hn : ∀ b, b ≤ K.w → some b ≠ row := fun b hb e => by have := hr b e.symm; omega
  have hB : Below w0.heap.size w0 w' := h1.grown hg h1.size (fun g e => by have := hr g e; omega)
  exact ⟨hB.setCell (by simp; omega) _, h2, Blk.far (h3.grown hg (hn _ (by omega))) (by simp; omega) _, Blk.far (h4.grown hg (hn _ (by omega))) (by simp; omega) _, Blk.far (h5.grown hg (hn _ (by omega))) (by simp; omega) _,
    Blk.far (Blk.grown h6 hg (hn _ (by omega))) (by simp; omega) _, Blk.far (h7.grown hg (hn _ (by omega))) (by simp; omega) _, ⟨v, by simpa using Blk.set_ (h8.grown hg (hn _ (by omega))) 0 v, own_set hv (by omega) _ _⟩, Blk.far (h10.grown hg (hn _ (by omega))) (by simp; omega) _⟩
end Go.Proofs.Ytfcjdfjobneeeaa

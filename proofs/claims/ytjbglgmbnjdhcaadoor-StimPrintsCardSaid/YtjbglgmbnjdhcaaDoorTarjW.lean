/- The contract of the function that follows a gate (it calls itself): by induction on how many gates were not met yet. -/
import Derived.Test.YtjbglgmbnjdhcaaDoorUses
import Derived.BigRegion
import Derived.OwnWalk
import Derived.Deep.DeepCutAuto
namespace Go.Proofs.YtjbglgmbnjdhcaaDoor
open Go.RowKit

/-- The numbers of gates that the way keeps: the first gate that comes round, how many were met, when each was met, those that are open. -/
structure TS where
  first : Int
  count : Nat
  met : List Int
  opn : List Int
abbrev maxI : Int := 9223372036854775807
/-- A gate of a group that is closed. -/
def shutOne (bad : Bool) (S : TS) (g : Int) : TS :=
  { S with met := S.met.set g.toNat maxI, first := if (bad && (decide (S.first = -1) || decide (g < S.first))) = true then g else S.first }
def shutAll (bad : Bool) (S : TS) (gs : List Int) : TS := gs.foldl (shutOne bad) S
/-- A gate that is used is looked at: the state, the least count, whether it is the gate itself. -/
def visitF (rec_ : TS → Int → TS × Int) (i : Int) (st : TS × Int × Bool) (u : Int) : TS × Int × Bool :=
  if u = -1 then st else
  if st.1.met.getD u.toNat 0 = 0 then ((rec_ st.1 u).1, min st.2.1 (rec_ st.1 u).2, st.2.2) else (st.1, min st.2.1 (st.1.met.getD u.toNat 0), st.2.2 || decide (u = i))
def meetF (S : TS) (i : Int) : TS := { S with count := S.count + 1, met := S.met.set i.toNat (S.count + 1), opn := S.opn ++ [i] }
def leaveF (place : Nat) (own : Int) (st : TS × Int × Bool) : TS × Int :=
  if st.2.1 < own then (st.1, st.2.1) else
  (shutAll (st.2.2 || decide (1 < (st.1.opn.drop place).length)) { st.1 with opn := st.1.opn.take place } (st.1.opn.drop place), maxI)
def followF (uses : List (Int × Int)) : Nat → TS → Int → TS × Int
  | 0, S, _ => (S, 0)
  | f + 1, S, i =>
    let p := uses.getD i.toNat (-1, -1)
    leaveF S.opn.length (S.count + 1) (visitF (followF uses f) i (visitF (followF uses f) i (meetF S i, (S.count : Int) + 1, false) p.1) p.2)
/-- How many gates were not met yet. -/
def unmet (S : TS) : Nat := S.met.countP (· == 0)

/-- The blocks of the variables. -/
structure TK where
  u : Nat
  f : Nat
  c : Nat
  gm : Nat
  m : Nat
  o : Nat
  w : Nat
  gu : Nat
  n : Nat
structure TK.Ok (K : TK) (B : Nat) : Prop where
  gu : K.gu < B
  u : B ≤ K.u
  f : K.u < K.f
  c : K.f < K.c
  gm : K.c < K.gm
  m : K.gm < K.m
  o : K.m < K.o
  w : K.o < K.w
end Go.Proofs.YtjbglgmbnjdhcaaDoor

namespace Go.Proofs.YtjbglgmbnjdhcaaDoor
open Go.RowKit

structure TInv (n : Nat) (S : TS) : Prop where
  len : S.met.length = n
  opn : ∀ x ∈ S.opn, 0 ≤ x ∧ x < (n : Int)
  cnt : S.count + unmet S ≤ n
  olen : S.opn.length ≤ S.count
def UseOk (n : Nat) (u : Int) : Prop := u = -1 ∨ (0 ≤ u ∧ u < (n : Int))
def UsesOk (n : Nat) (uses : List (Int × Int)) : Prop := uses.length = n ∧ ∀ p ∈ uses, UseOk n p.1 ∧ UseOk n p.2

/-- From a state to a later one. -/
structure TGo (n : Nat) (S S' : TS) : Prop where
  inv : TInv n S'
  le : unmet S' ≤ unmet S
  opn : ∃ T, S'.opn = S.opn ++ T
theorem TGo.refl {n : Nat} {S : TS} (h : TInv n S) : TGo n S S := ⟨h, Nat.le_refl _, [], by simp⟩
theorem TGo.trans {n : Nat} {A B C : TS} (h1 : TGo n A B) (h2 : TGo n B C) : TGo n A C := by
  obtain ⟨T1, e1⟩ := h1.opn
  obtain ⟨T2, e2⟩ := h2.opn
  exact ⟨h2.inv, Nat.le_trans h2.le h1.le, T1 ++ T2, by rw [e2, e1, List.append_assoc]⟩
end Go.Proofs.YtjbglgmbnjdhcaaDoor

namespace Go.Proofs.YtjbglgmbnjdhcaaDoor
open Go.RowKit

theorem reads_one (w : World) (x : Value) (t : TypeId) : Reads (w.alloc (.cells #[x] t)) (w.heap.size + 1) 1 (some ⟨w.heap.size, 0, none⟩) 1 [x] := by
  refine ⟨rfl, fun _ => ⟨_, rfl, by simp, fun j u hu => ?_⟩⟩
  cases j with
  | zero =>
    cases hu
    rw [add_none, cell_of_row _ _ _ #[x] t (0, 0) (heap_alloc_new w _)]; rfl
  | succ j => simp at hu
end Go.Proofs.YtjbglgmbnjdhcaaDoor

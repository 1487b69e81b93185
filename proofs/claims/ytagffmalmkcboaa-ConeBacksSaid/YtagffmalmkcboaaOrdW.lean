/- The contract of order: each gate once, the least one that may come always the next, where none comes round. -/
import Derived.Test.YtagffmalmkcboaaHeapZ
import Derived.Test.YtagffmalmkcboaaTable
import Derived.Deep.DeepCutAuto
import Derived.BigRegion
import Derived.WalkMore
import Derived.Deep.LoopGhost
namespace Go.Proofs.Ytagffmalmkcboaa
open Go.RowKit

theorem own_of_block {w w' : World} {B n size : Nat} {t : TypeId} {v : Value} {xs : List Value} (h : w.ownsRow B t size v n xs) (hb : ∀ g, v.ownBlock = some g → w'.heap[g]? = w.heap[g]?) : w'.ownsRow B t size v n xs := by
  refine ⟨h.1, ?_⟩
  rcases h.2 with h2 | ⟨g, cap, cur, hv, hB, hh, h3⟩
  · exact .inl h2
  · exact .inr ⟨g, cap, cur, hv, hB, (hb g (by subst hv; rfl)).trans hh, h3⟩
def Apart (a b : Value × List Int) : Prop := ∀ g, a.1.ownBlock = some g → b.1.ownBlock ≠ some g
theorem Apart.symm {a b : Value × List Int} (h : Apart a b) : Apart b a := fun g hb ha => h g ha hb
structure Fam (w : World) (B : Nat) (R : List (Value × List Int)) : Prop where
  own : ∀ p ∈ R, w.ownsRow B 3 1 p.1 p.2.length (p.2.map (Value.int .i64))
  apart : ∀ (i j : Nat) (a b : Value × List Int), i ≠ j → R[i]? = some a → R[j]? = some b → Apart a b
theorem Fam.keep {w w' : World} {B : Nat} {R : List (Value × List Int)} (h : Fam w B R) (hk : ∀ g, B ≤ g → g < w.heap.size → w'.heap[g]? = w.heap[g]?) : Fam w' B R :=
  ⟨fun p hp => own_of_block (h.own p hp) fun g hg => hk g ((h.own p hp).lt g hg).1 ((h.own p hp).lt g hg).2, h.apart⟩
theorem Fam.upd {w w' : World} {B j : Nat} {R : List (Value × List Int)} {v v' : Value} {l l' : List Int} (h : Fam w B R) (hj : R[j]? = some (v, l)) (hk : ∀ g, B ≤ g → g < w.heap.size → some g ≠ v.ownBlock → w'.heap[g]? = w.heap[g]?)
    (ho : w'.ownsRow B 3 1 v' l'.length (l'.map (Value.int .i64))) (ha : v'.ownBlock = v.ownBlock ∨ ∃ g, v'.ownBlock = some g ∧ w.heap.size ≤ g) : Fam w' B (R.set j (v', l')) := by
  have hjl : j < R.length := (List.getElem?_eq_some_iff.1 hj).1
  have hnew : ∀ (i : Nat) (a : Value × List Int), i ≠ j → R[i]? = some a → Apart a (v', l') := by
    intro i a hij hi g hg hg'
    have hl := (h.own a (List.mem_of_getElem? hi)).lt g hg
    rcases ha with ha | ⟨g', hg2, hlt⟩
    · exact h.apart i j a _ hij hi hj g hg (by rw [← ha]; exact hg')
    · rw [hg2] at hg'
      injection hg' with e
      omega
  have hget : ∀ (i : Nat) (a : Value × List Int), (R.set j (v', l'))[i]? = some a → (i = j ∧ a = (v', l')) ∨ (i ≠ j ∧ R[i]? = some a) := by
    intro i a hi
    rw [List.getElem?_set] at hi
    by_cases e : j = i
    · subst e
      rw [if_pos rfl, if_pos hjl] at hi
      exact .inl ⟨rfl, by injection hi with hi; exact hi.symm⟩
    · rw [if_neg e] at hi
      exact .inr ⟨fun e2 => e e2.symm, hi⟩
  refine ⟨fun p hp => ?_, fun i k a b hik hi hk2 => ?_⟩
  · obtain ⟨i, hi⟩ := List.getElem?_of_mem hp
    rcases hget i p hi with ⟨_, rfl⟩ | ⟨hne, hi⟩
    · exact ho
    · have hpm := List.mem_of_getElem? hi
      refine own_of_block (h.own p hpm) fun g hg => hk g ((h.own p hpm).lt g hg).1 ((h.own p hpm).lt g hg).2 (fun e => ?_)
      exact h.apart i j p _ hne hi hj g hg e.symm
  · rcases hget i a hi with ⟨e1, e2⟩ | ⟨h1, hi2⟩
    · rcases hget k b hk2 with ⟨e3, _⟩ | ⟨h2, hk3⟩
      · exact absurd (e1.trans e3.symm) hik
      · rw [e2]; exact (hnew k b h2 hk3).symm
    · rcases hget k b hk2 with ⟨_, e4⟩ | ⟨h2, hk3⟩
      · rw [e4]; exact hnew i a h1 hi2
      · exact h.apart i k a b hik hi2 hk3
structure OB where
  gu : Nat
  gt : Nat
  gw : Nat
  gb : Nat
structure OB.Ok (K : OB) (B : Nat) : Prop where
  gu : K.gu < B
  gt : B ≤ K.gt
  gw : K.gt < K.gw
  gb : K.gw < K.gb
section
variable {w0 w w' : World} {K : OB} {uses : List (Int × Int)} {S : OS} {vo vh : Value} {vs : List Value}
end
open Go.RowKit

theorem bool_info2 : (Try.prog.info? 4).map (fun i => (i.zero, i.size, i.bytes)) = some (some (.bool false), 1, 1) := by kernel_rfl
theorem make_bools (n : Nat) (h : n ≤ 1000000) (wx : World) : (Instr.makeSlice 46 (.int .i64 (n : Int)) (.int .i64 (n : Int))).run Try.prog wx = .ok (.slice (some ⟨wx.heap.size, 0, none⟩) n n) (wx.alloc (.cells (madeCells #[Value.bool false] n) 4)) := by
  obtain ⟨i0, hi0, hz0, hz1, hz2⟩ := info_of2 bool_info2
  have := run_make (P := Try.prog) wx 46 4 i0 (.bool false) Try.underlying46 hi0 hz0 .i64 .i64 n n (by omega) (by omega) (by rw [hz2]; omega) (by omega)
  rw [hz1] at this
  simpa [Value.cells] using this
theorem own_base {w : World} {B B' n size : Nat} {t : TypeId} {v : Value} {xs : List Value} (h : w.ownsRow B t size v n xs) (hB : B' ≤ B) : w.ownsRow B' t size v n xs := by
  refine ⟨h.1, ?_⟩
  rcases h.2 with h2 | ⟨g, cap, cur, hv, hg, h3⟩
  · exact .inl h2
  · exact .inr ⟨g, cap, cur, hv, by omega, h3⟩
end Go.Proofs.Ytagffmalmkcboaa

/- The contract of order: each gate once, the least one that may come always the next, where none comes round. -/
import Derived.Test.YtdodhbfplglbkaaHeapZ
import Derived.Test.YtdodhbfplglbkaaTable
import Derived.Deep.DeepCutAuto
import Derived.BigRegion
import Derived.WalkMore
import Derived.Deep.LoopGhost
namespace Go.Proofs.Ytdodhbfplglbkaa
open Go.RowKit

theorem own_of_block {w w' : World} {B n size : Nat} {t : TypeId} {v : Value} {xs : List Value} (h : w.ownsRow B t size v n xs) (hb : ∀ g, v.ownBlock = some g → w'.heap[g]? = w.heap[g]?) : w'.ownsRow B t size v n xs := by
  refine ⟨h.1, ?_⟩
  rcases h.2 with h2 | ⟨g, cap, cur, hv, hB, hh, h3⟩
  · exact .inl h2
  · exact .inr ⟨g, cap, cur, hv, hB, (hb g (by subst hv; rfl)).trans hh, h3⟩
/-- Rows of the call's own, each in a block of its own. -/
def Apart (a b : Value × List Int) : Prop := ∀ g, a.1.ownBlock = some g → b.1.ownBlock ≠ some g
theorem Apart.symm {a b : Value × List Int} (h : Apart a b) : Apart b a := fun g hb ha => h g ha hb
structure Fam (w : World) (B : Nat) (R : List (Value × List Int)) : Prop where
  own : ∀ p ∈ R, w.ownsRow B 3 1 p.1 p.2.length (p.2.map (Value.int .i64))
  apart : ∀ (i j : Nat) (a b : Value × List Int), i ≠ j → R[i]? = some a → R[j]? = some b → Apart a b
theorem Fam.keep {w w' : World} {B : Nat} {R : List (Value × List Int)} (h : Fam w B R) (hk : ∀ g, B ≤ g → g < w.heap.size → w'.heap[g]? = w.heap[g]?) : Fam w' B R :=
  ⟨fun p hp => own_of_block (h.own p hp) fun g hg => hk g ((h.own p hp).lt g hg).1 ((h.own p hp).lt g hg).2, h.apart⟩
structure OB where
  gu : Nat
  gt : Nat
  gw : Nat
  gb : Nat
structure OB.Ok (K : OB) (B : Nat) : Prop where
  gu : K.gu < B
  gt : B ≤ K.gt
  gw : K.gt < K.gw
  gb : K.gw < K.gb
structure OrdSt (w0 : World) (K : OB) (uses : List (Int × Int)) (w : World) (S : OS) (vo vh : Value) (vs : List Value) : Prop where
  below : Below w0.heap.size w0 w
  uses_ : Prs w0 K.gu uses
  tab : Tab w K.gt S.told
  wts : Blk w K.gw 22 vs.toArray
  vl : vs.length = S.wait.length
  box : Blk w K.gb 169 #[vh]
  fam : Fam w (K.gb + 1) ((vo, S.out) :: (vh, S.hp) :: vs.zip S.wait)
section
variable {w0 w w' : World} {K : OB} {uses : List (Int × Int)} {S : OS} {vo vh : Value} {vs : List Value}
theorem OrdSt.size (h : OrdSt w0 K uses w S vo vh vs) : K.gb < w.heap.size := Blk.lt h.box
theorem OrdSt.alloc (h : OrdSt w0 K uses w S vo vh vs) (o : Obj) : OrdSt w0 K uses (w.alloc o) S vo vh vs :=
  ⟨h.below.alloc h.below.size o, h.uses_, Blk.alloc h.tab o, h.wts.alloc o, h.vl, h.box.alloc o, h.fam.keep fun g _ hg => Below.heap_alloc w o g hg⟩
theorem OrdSt.drewN (h : OrdSt w0 K uses w S vo vh vs) (k : Nat) : OrdSt w0 K uses (w.drewN k) S vo vh vs :=
  ⟨below_drewN h.below k, h.uses_, h.tab, h.wts, h.vl, h.box, h.fam.keep fun _ _ _ => rfl⟩
theorem OrdSt.heap (h : OrdSt w0 K uses w S vo vh vs) : HpB w (K.gb + 1) K.gb vh S.hp := ⟨h.box, h.fam.own (vh, S.hp) (by simp), by omega⟩
end
end Go.Proofs.Ytdodhbfplglbkaa

namespace Go.Proofs.Ytdodhbfplglbkaa
open Go.RowKit

theorem own_base {w : World} {B B' n size : Nat} {t : TypeId} {v : Value} {xs : List Value} (h : w.ownsRow B t size v n xs) (hB : B' ≤ B) : w.ownsRow B' t size v n xs := by
  refine ⟨h.1, ?_⟩
  rcases h.2 with h2 | ⟨g, cap, cur, hv, hg, h3⟩
  · exact .inl h2
  · exact .inr ⟨g, cap, cur, hv, by omega, h3⟩
end Go.Proofs.Ytdodhbfplglbkaa

/- Stim: All. -/
import Derived.Test.YtjbglgmbnjdhcaaDoorStmK
namespace Go.Proofs.YtjbglgmbnjdhcaaDoor
open Go.RowKit

def enc5 (y : Wit × Value × Value × Value) : List Value := [.int .i64 y.1.st, y.2.1, y.2.2.1, y.2.2.2, .int .i64 y.1.tr.loop]
/-- Witnesses in a row, whose lists are the call's own. -/
structure OwnA (w : World) (B : Nat) (xs : List Wit) (us : List (Value × Value × Value)) (v : Value) : Prop where
  len : us.length = xs.length
  o : w.ownsRow B 28 5 v us.length ((xs.zip us).flatMap enc5)
  each : ∀ (i : Nat) (x : Wit) (u : Value × Value × Value), xs[i]? = some x → us[i]? = some u → OwnW w B x u.1 u.2.1 u.2.2
theorem OwnA.below {w w' : World} {B : Nat} {xs : List Wit} {us : List (Value × Value × Value)} {v : Value} (h : OwnA w B xs us v) (hb : Below w.heap.size w w') : OwnA w' B xs us v :=
  ⟨h.len, own_below h.o hb, fun i x u hx hu => (h.each i x u hx hu).below hb⟩
theorem OwnW.turned {w w2 : World} {b B : Nat} {x : Wit} {vp vi vr : Value} (h : OwnW w B x vp vi vr) (hg : w.grownBy w2 (some b)) (hb : b < B) : OwnW w2 B x vp vi vr := ⟨own_turned h.p hg hb, h.t.turned hg hb⟩
theorem OwnW.other {w w' : World} {B B2 n2 k2 : Nat} {x : Wit} {vp vi vr v2 : Value} {t2 : TypeId} {xs2 : List Value} (h : OwnW w B x vp vi vr) (h2 : w.ownsRow B2 t2 k2 v2 n2 xs2) (h0 : t2 ≠ 57) (h1 : t2 ≠ 4) (h3 : t2 ≠ 23) (hg : w.grownBy w' v2.ownBlock) : OwnW w' B x vp vi vr := by
  obtain ⟨us, a1, a2, a3⟩ := h.t.ex
  exact ⟨own_other h.p h2 h0 hg, own_other h.t.i h2 h1 hg, us, a1, own_other a2 h2 h3 hg, fun i u zs hu hz => own_other (a3 i u zs hu hz) h2 h1 hg⟩
theorem OwnA.box {w w' : World} {B g : Nat} {xs : List Wit} {us : List (Value × Value × Value)} {v : Value} {t : TypeId} {cs : Array Value} (h : OwnA w B xs us v) (hb : Blk w g t cs) (h0 : 57 ≠ t) (h1 : 4 ≠ t) (h2 : 23 ≠ t) (h3 : 28 ≠ t) (ho : ∀ k, k ≠ g → w'.heap[k]? = w.heap[k]?) : OwnA w' B xs us v :=
  ⟨h.len, own_box h.o hb h3 ho, fun i x u hx hu => (h.each i x u hx hu).box hb h0 h1 h2 ho⟩
/-- One witness more. -/
theorem OwnA.put {w5 w7 : World} {B : Nat} {xs : List Wit} {us : List (Value × Value × Value)} {v v' : Value} {x : Wit} {u : Value × Value × Value} (h : OwnA w5 B xs us v) (hx : OwnW w5 B x u.1 u.2.1 u.2.2) (o : Obj)
    (hv : w7.ownsRow B 28 5 v' (us.length + 1) ((xs.zip us).flatMap enc5 ++ enc5 (x, u))) (hg : (w5.alloc o).grownBy w7 v.ownBlock) : OwnA w7 B (xs ++ [x]) (us ++ [u]) v' := by
  have key : ∀ {y : Wit} {a b c : Value}, OwnW w5 B y a b c → OwnW w7 B y a b c := fun hy =>
    OwnW.other (hy.below ((Below.refl _ _).alloc (Nat.le_refl _) o)) (h.o.alloc o) (by decide) (by decide) (by decide) hg
  refine ⟨by simp [h.len], ?_, fun i y a hy ha => ?_⟩
  · rw [List.zip_append h.len.symm, List.flatMap_append]
    simpa using hv
  · by_cases hi : i < us.length
    · rw [List.getElem?_append_left (by rw [← h.len]; exact hi)] at hy
      rw [List.getElem?_append_left hi] at ha
      exact key (h.each i y a hy ha)
    · rw [List.getElem?_append_right (by rw [← h.len]; omega), ← h.len] at hy
      rw [List.getElem?_append_right (by omega)] at ha
      have : i - us.length = 0 := by have := (List.getElem?_eq_some_iff.1 ha).1; simp at this; exact this
      rw [this] at hy ha
      simp at hy ha
      subst hy ha
      exact key hx
end Go.Proofs.YtjbglgmbnjdhcaaDoor

/- Sim: the contracts of the program's calls Values, Next, Holds. -/
import Derived.Test.YtagffmalmkcboaaSimB
import Derived.Test.YtagffmalmkcboaaRfO
namespace Go.Proofs.Ytagffmalmkcboaa
open Go.RowKit

structure IsOrd (C : Circ) (O : List Int) : Prop where
  g : Greedy (usesC C) O
  l : O.length = C.ands.length
theorem IsOrd.same {C : Circ} {O P : List Int} (h : IsOrd C O) (g : Greedy (usesC C) P) (l : P.length = C.ands.length) : P = O := greedy_same _ g h.g l h.l
theorem IsOrd.inR {C : Circ} {O : List Int} (h : IsOrd C O) : ∀ x ∈ O, 0 ≤ x ∧ x < (C.ands.length : Int) := fun x hx => by
  have := h.g.inR x hx
  unfold InR at this
  rw [usesC_len] at this
  exact this
theorem fillT_set {L : List Bool} {n k : Nat} {x : Bool} (hl : L.length = n) (hx : L[k]? = some x) : (L.take k ++ List.replicate (n - k) false).set k x = L.take (k + 1) ++ List.replicate (n - (k + 1)) false := by
  have hk : k < n := by rw [← hl]; exact (List.getElem?_eq_some_iff.1 hx).1
  obtain ⟨d, hd⟩ : ∃ d, n - k = d + 1 := ⟨n - k - 1, by omega⟩
  have hd2 : n - (k + 1) = d := by omega
  have htl : (L.take k).length = k := by rw [List.length_take]; omega
  rw [hd, hd2, List.set_append_right _ _ (by omega), htl, Nat.sub_self, List.replicate_succ, List.set_cons_zero, List.take_add_one, hx]
  simp
theorem fillT_len {L : List Bool} {n k : Nat} (hl : L.length = n) (hk : k ≤ n) : (L.take k ++ List.replicate (n - k) false).length = n := by simp; omega
structure NS (w0 wr : World) (bx g : Nat) (cs : Array Value) (T : List Bool) : Prop where
  below : Below w0.heap.size w0 wr
  box : Blk wr bx 29 cs
  tab : Tab wr g T
theorem NS.alloc {w0 wr : World} {bx g : Nat} {cs : Array Value} {T : List Bool} (h : NS w0 wr bx g cs T) (o : Obj) : NS w0 (wr.alloc o) bx g cs T := ⟨h.below.alloc h.below.size o, h.box.alloc o, Blk.alloc h.tab o⟩
theorem NS.set_ {w0 wr : World} {bx g : Nat} {cs : Array Value} {T : List Bool} (h : NS w0 wr bx g cs T) (hB : w0.heap.size ≤ g) (hx : bx ≠ g) (i : Nat) (b : Bool) : NS w0 (wr.setCell ⟨g, i, none⟩ (.bool b)) bx g cs (T.set i b) :=
  ⟨h.below.setCell hB _, Blk.far h.box (by simpa using hx) _, Tab.set_ h.tab i b⟩

open Go.RowKit

theorem slO_form {w : World} {v : Value} {t : List Bool} (h : RowE 1 encO w v t) : ∃ A n c, v = .slice A n c := by
  obtain ⟨A, c, e, _⟩ := h
  exact ⟨A, _, c, e⟩
end Go.Proofs.Ytagffmalmkcboaa

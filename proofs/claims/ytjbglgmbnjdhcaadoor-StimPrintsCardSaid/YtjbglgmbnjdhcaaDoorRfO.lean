/- The document's own Order. -/
import Derived.Test.YtjbglgmbnjdhcaaDoorCopy
import Derived.Test.YtjbglgmbnjdhcaaDoorUses
import Derived.Test.YtjbglgmbnjdhcaaDoorRfA
import Derived.Test.YtjbglgmbnjdhcaaDoorRight
import Derived.Deep.LoopGhost
import Derived.BigRegion
import Derived.Deep.RegionHeld3
import Derived.Test.YtjbglgmbnjdhcaaDoorCheck3
import Derived.Deep.DeepCutAuto
import Derived.Deep.CutBlock
import Derived.Test.YtjbglgmbnjdhcaaDoorRfD
import Derived.Lib.IndexAny
namespace Go.Proofs.YtjbglgmbnjdhcaaDoor
open Go.RowKit

section
variable {uses : List (Int × Int)}
theorem round_no {a : Int} {L : List Int} (ha : a ∈ L) (hc : ∀ x ∈ L, ∀ y, Edge uses x y → y ∈ L ∧ y ≠ a) : ¬ Cyc uses a := by
  rintro ⟨y, he, hp⟩
  have key : ∀ {s t : Int}, Path uses s t → s ∈ L → s ≠ a → t ≠ a := fun hp => by
    induction hp with
    | refl => exact fun _ h => h
    | step e _ ih => intro hs _; have := hc _ hs _ e; exact ih this.1 this.2
  have h1 := hc a ha y he
  exact key hp h1.1 h1.2 rfl
end
end Go.Proofs.YtjbglgmbnjdhcaaDoor

namespace Go.Proofs.YtjbglgmbnjdhcaaDoor
open Go.RowKit

end Go.Proofs.YtjbglgmbnjdhcaaDoor

namespace Go.Proofs.YtjbglgmbnjdhcaaDoor
open Go.RowKit

section
variable {w0 w : World} {b gg gd : Nat} {cs : Array Value} {G : List Int} {n : Nat} {v : Value} {L : List Int}
end
end Go.Proofs.YtjbglgmbnjdhcaaDoor

namespace Go.Proofs.YtjbglgmbnjdhcaaDoor
open Go.RowKit

/-- The search from a gate: what is listed, what of it has been looked at. -/
structure Srch (uses : List (Int × Int)) (n : Nat) (at_ : Int) (R : List Int) (i : Nat) : Prop where
  nd : (at_ :: R).Nodup
  inr : ∀ x ∈ at_ :: R, InR n x
  path : ∀ x ∈ at_ :: R, Path uses at_ x
  done : ∀ (j : Nat) (x : Int), j < i → (at_ :: R)[j]? = some x → ∀ y, Edge uses x y → y ∈ at_ :: R ∧ y ≠ at_
  le : i ≤ (at_ :: R).length
section
variable {uses : List (Int × Int)} {n i : Nat} {at_ : Int} {R : List Int}
theorem Srch.len (h : Srch uses n at_ R i) : (at_ :: R).length ≤ n := by
  have := nodup_sub (m := (List.range n).map (fun (k : Nat) => (k : Int))) h.nd (fun x hx => by
    have := h.inr x hx
    exact List.mem_map.2 ⟨x.toNat, List.mem_range.2 (by omega), by omega⟩)
  simpa using this
theorem Srch.add (h : Srch uses n at_ R i) {y : Int} (hy : InR n y) (hn : y ∉ R) (hne : y ≠ at_) (hp : Path uses at_ y) : Srch uses n at_ (R ++ [y]) i := by
  have e : at_ :: (R ++ [y]) = (at_ :: R) ++ [y] := rfl
  refine ⟨?_, fun x hx => ?_, fun x hx => ?_, fun j x hj hx z hz => ?_, by have := h.le; simp at this ⊢; omega⟩
  · rw [e, List.nodup_append]
    refine ⟨h.nd, by simp, fun a ha b hb => ?_⟩
    simp at hb
    subst hb
    rcases List.mem_cons.1 ha with rfl | ha
    · exact hne.symm
    · exact fun e => hn (e ▸ ha)
  · rw [e] at hx
    rcases List.mem_append.1 hx with hx | hx
    · exact h.inr x hx
    · simp at hx; exact hx ▸ hy
  · rw [e] at hx
    rcases List.mem_append.1 hx with hx | hx
    · exact h.path x hx
    · simp at hx; exact hx ▸ hp
  · have hle := h.le
    rw [e, List.getElem?_append_left (by omega)] at hx
    have := h.done j x hj hx z hz
    exact ⟨by rw [e]; exact List.mem_append_left _ this.1, this.2⟩
theorem Srch.next (h : Srch uses n at_ R i) {x : Int} (hx : (at_ :: R)[i]? = some x) (hc : ∀ y, Edge uses x y → y ∈ at_ :: R ∧ y ≠ at_) : Srch uses n at_ R (i + 1) := by
  refine ⟨h.nd, h.inr, h.path, fun j z hj hz => ?_, (List.getElem?_eq_some_iff.1 hx).1⟩
  by_cases e : j = i
  · subst e
    rw [hx] at hz
    injection hz with hz
    subst hz
    exact hc
  · exact h.done j z (by omega) hz
theorem Srch.no (h : Srch uses n at_ R i) (hi : i = (at_ :: R).length) : ¬ Cyc uses at_ :=
  round_no (L := at_ :: R) (by simp) fun x hx y hE => by
    obtain ⟨j, hj⟩ := List.getElem?_of_mem hx
    exact h.done j x (by have := (List.getElem?_eq_some_iff.1 hj).1; omega) hj y hE
end
section
variable {w0 w : World} {b gd : Nat} {cs : Array Value} {n : Nat} {v : Value} {at_ : Int} {R : List Int}
end
end Go.Proofs.YtjbglgmbnjdhcaaDoor

namespace Go.Proofs.YtjbglgmbnjdhcaaDoor
open Go.RowKit

end Go.Proofs.YtjbglgmbnjdhcaaDoor

namespace Go.Proofs.YtjbglgmbnjdhcaaDoor
open Go.RowKit

end Go.Proofs.YtjbglgmbnjdhcaaDoor

namespace Go.Proofs.YtjbglgmbnjdhcaaDoor
open Go.RowKit

end Go.Proofs.YtjbglgmbnjdhcaaDoor

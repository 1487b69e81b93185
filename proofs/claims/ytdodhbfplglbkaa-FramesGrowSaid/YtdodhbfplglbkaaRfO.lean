/- The document's own Order. -/
import Derived.Test.YtdodhbfplglbkaaCopy
import Derived.Test.YtdodhbfplglbkaaUses
import Derived.Test.YtdodhbfplglbkaaRfA
import Derived.Test.YtdodhbfplglbkaaRight
import Derived.Deep.LoopGhost
import Derived.BigRegion
import Derived.Deep.RegionHeld3
import Derived.Test.YtdodhbfplglbkaaCheck3
import Derived.Deep.DeepCutAuto
import Derived.Deep.CutBlock
import Derived.Test.YtdodhbfplglbkaaRfD
import Derived.Lib.IndexAny
namespace Go.Proofs.Ytdodhbfplglbkaa
open Go.RowKit

section
variable {uses : List (Int × Int)}
theorem round_no {a : Int} {L : List Int} (ha : a ∈ L) (hc : ∀ x ∈ L, ∀ y, Edge uses x y → y ∈ L ∧ y ≠ a) : ¬ Cyc uses a := by
  rintro ⟨y, he, hp⟩
  have key : ∀ {s t : Int}, Path uses s t → s ∈ L → s ≠ a → t ≠ a := fun hp => by
    induction hp with
    | refl => exact fun _ h => h
    | step e _ ih => intro hs _; have := hc _ hs _ e; exact ih this.1 this.2
  have h1 := hc a ha y he
  exact key hp h1.1 h1.2 rfl
end
end Go.Proofs.Ytdodhbfplglbkaa

namespace Go.Proofs.Ytdodhbfplglbkaa
open Go.RowKit

end Go.Proofs.Ytdodhbfplglbkaa

namespace Go.Proofs.Ytdodhbfplglbkaa
open Go.RowKit

/-- The gates that are told, as a table. -/
def dnT (n : Nat) (L : List Int) : List Bool := (List.range n).map (fun (k : Nat) => decide ((k : Int) ∈ L))
theorem dnT_len (n : Nat) (L : List Int) : (dnT n L).length = n := by simp [dnT]
theorem dnT_get {n k : Nat} {L : List Int} (hk : k < n) : (dnT n L)[k]? = some (decide ((k : Int) ∈ L)) := by simp [dnT, hk]
theorem dnT_snoc {n k : Nat} {L : List Int} (hk : k < n) : (dnT n L).set k true = dnT n (L ++ [(k : Int)]) := by
  apply List.ext_getElem?
  intro i
  by_cases h : i < n
  · rw [dnT_get h, List.getElem?_set]
    by_cases e : k = i
    · subst e
      simp [dnT_len, hk]
    · rw [if_neg e, dnT_get h]
      have : ¬ (i : Int) = (k : Int) := by omega
      simp [this]
  · rw [List.getElem?_eq_none (by rw [List.length_set, dnT_len]; omega), List.getElem?_eq_none (by rw [dnT_len]; omega)]
/-- What memory holds while gates are told. -/
structure ToldS (w0 w : World) (b gg gd : Nat) (cs : Array Value) (G : List Int) (n : Nat) (v : Value) (L : List Int) : Prop where
  below : Below w0.heap.size w0 w
  box : Blk w b 29 cs
  nums : Nums w gg G
  done : Tab w gd (dnT n L)
  row : w.ownsRow (gd + 1) 3 1 v L.length (L.map (Value.int .i64))
section
variable {w0 w : World} {b gg gd : Nat} {cs : Array Value} {G : List Int} {n : Nat} {v : Value} {L : List Int}
theorem ToldS.drewN (h : ToldS w0 w b gg gd cs G n v L) (k : Nat) : ToldS w0 (w.drewN k) b gg gd cs G n v L := ⟨below_drewN h.below k, h.box.drewN k, Blk.drewN h.nums k, Blk.drewN h.done k, own_of_block h.row fun _ _ => rfl⟩
theorem ToldS.lt (h : ToldS w0 w b gg gd cs G n v L) : gd < w.heap.size := Blk.lt h.done
end
end Go.Proofs.Ytdodhbfplglbkaa

namespace Go.Proofs.Ytdodhbfplglbkaa
open Go.RowKit

/-- The search from a gate: what is listed, what of it has been looked at. -/
structure Srch (uses : List (Int × Int)) (n : Nat) (at_ : Int) (R : List Int) (i : Nat) : Prop where
  nd : (at_ :: R).Nodup
  inr : ∀ x ∈ at_ :: R, InR n x
  path : ∀ x ∈ at_ :: R, Path uses at_ x
  done : ∀ (j : Nat) (x : Int), j < i → (at_ :: R)[j]? = some x → ∀ y, Edge uses x y → y ∈ at_ :: R ∧ y ≠ at_
  le : i ≤ (at_ :: R).length
section
variable {uses : List (Int × Int)} {n i : Nat} {at_ : Int} {R : List Int}
theorem Srch.len (h : Srch uses n at_ R i) : (at_ :: R).length ≤ n := by
  have := nodup_sub (m := (List.range n).map (fun (k : Nat) => (k : Int))) h.nd (fun x hx => by
    have := h.inr x hx
    exact List.mem_map.2 ⟨x.toNat, List.mem_range.2 (by omega), by omega⟩)
  simpa using this
theorem Srch.start (ha : InR n at_) : Srch uses n at_ [] 0 :=
  ⟨by simp, fun x hx => by simp at hx; exact hx ▸ ha, fun x hx => by simp at hx; exact hx ▸ .refl _, fun j x hj => by omega, Nat.zero_le _⟩
theorem Srch.add (h : Srch uses n at_ R i) {y : Int} (hy : InR n y) (hn : y ∉ R) (hne : y ≠ at_) (hp : Path uses at_ y) : Srch uses n at_ (R ++ [y]) i := by
  have e : at_ :: (R ++ [y]) = (at_ :: R) ++ [y] := rfl
  refine ⟨?_, fun x hx => ?_, fun x hx => ?_, fun j x hj hx z hz => ?_, by have := h.le; simp at this ⊢; omega⟩
  · rw [e, List.nodup_append]
    refine ⟨h.nd, by simp, fun a ha b hb => ?_⟩
    simp at hb
    subst hb
    rcases List.mem_cons.1 ha with rfl | ha
    · exact hne.symm
    · exact fun e => hn (e ▸ ha)
  · rw [e] at hx
    rcases List.mem_append.1 hx with hx | hx
    · exact h.inr x hx
    · simp at hx; exact hx ▸ hy
  · rw [e] at hx
    rcases List.mem_append.1 hx with hx | hx
    · exact h.path x hx
    · simp at hx; exact hx ▸ hp
  · have hle := h.le
    rw [e, List.getElem?_append_left (by omega)] at hx
    have := h.done j x hj hx z hz
    exact ⟨by rw [e]; exact List.mem_append_left _ this.1, this.2⟩
theorem Srch.next (h : Srch uses n at_ R i) {x : Int} (hx : (at_ :: R)[i]? = some x) (hc : ∀ y, Edge uses x y → y ∈ at_ :: R ∧ y ≠ at_) : Srch uses n at_ R (i + 1) := by
  refine ⟨h.nd, h.inr, h.path, fun j z hj hz => ?_, (List.getElem?_eq_some_iff.1 hx).1⟩
  by_cases e : j = i
  · subst e
    rw [hx] at hz
    injection hz with hz
    subst hz
    exact hc
  · exact h.done j z (by omega) hz
theorem Srch.no (h : Srch uses n at_ R i) (hi : i = (at_ :: R).length) : ¬ Cyc uses at_ :=
  round_no (L := at_ :: R) (by simp) fun x hx y hE => by
    obtain ⟨j, hj⟩ := List.getElem?_of_mem hx
    exact h.done j x (by have := (List.getElem?_eq_some_iff.1 hj).1; omega) hj y hE
end
/-- What memory holds while a gate is looked at. -/
structure RndS (w0 w : World) (b gd : Nat) (cs : Array Value) (n : Nat) (v : Value) (at_ : Int) (R : List Int) : Prop where
  below : Below w0.heap.size w0 w
  box : Blk w b 29 cs
  done : Tab w gd (dnT n R)
  row : w.ownsRow (gd + 1) 3 1 v (at_ :: R).length ((at_ :: R).map (Value.int .i64))
section
variable {w0 w : World} {b gd : Nat} {cs : Array Value} {n : Nat} {v : Value} {at_ : Int} {R : List Int}
theorem RndS.drewN (h : RndS w0 w b gd cs n v at_ R) (k : Nat) : RndS w0 (w.drewN k) b gd cs n v at_ R := ⟨below_drewN h.below k, h.box.drewN k, Blk.drewN h.done k, own_of_block h.row fun _ _ => rfl⟩
theorem RndS.drew (h : RndS w0 w b gd cs n v at_ R) : RndS w0 w.drew b gd cs n v at_ R := h.drewN 1
theorem RndS.lt (h : RndS w0 w b gd cs n v at_ R) : gd < w.heap.size := Blk.lt h.done
theorem RndS.alloc (h : RndS w0 w b gd cs n v at_ R) (o : Obj) : RndS w0 (w.alloc o) b gd cs n v at_ R := ⟨h.below.alloc h.below.size o, h.box.alloc o, Blk.alloc h.done o, h.row.alloc o⟩
theorem RndS.add (h : RndS w0 w b gd cs n v at_ R) (h1 : w0.heap.size ≤ gd) (hb : b < gd) {i : Nat} (hi : i < n) {o : Obj} {v' : Value} {w' : World}
    (hgr : ((w.setCell ⟨gd, i, none⟩ (.bool true)).alloc o).grownBy w' v.ownBlock) (ho : w'.ownsRow (gd + 1) 3 1 v' ((at_ :: R).length + 1) ((at_ :: R).map (Value.int .i64) ++ [Value.int .i64 (i : Int)])) :
    RndS w0 w' b gd cs n v' at_ (R ++ [(i : Int)]) := by
  have hlt := h.lt
  have hrow : ∀ k, k ≤ gd → some k ≠ v.ownBlock := fun k hk e => by
    have := (h.row.lt k e.symm).1
    omega
  have hsz : ((w.setCell ⟨gd, i, none⟩ (.bool true)).alloc o).heap.size = w.heap.size + 1 := by simp [World.setCell]
  have hbl : ∀ k, k ≤ gd → w'.heap[k]? = (w.setCell ⟨gd, i, none⟩ (.bool true)).heap[k]? := fun k hk =>
    (hgr.block k (by omega) (hrow k hk)).trans (Below.heap_alloc _ o k (by simp [World.setCell]; omega))
  have hfar : ∀ k, k < gd → w'.heap[k]? = w.heap[k]? := fun k hk => (hbl k (by omega)).trans (Below.heap_setCell _ _ _ _ (by simp; omega))
  refine ⟨h.below.trans ⟨hgr.os, hgr.tape, hgr.output, by have := hgr.size; omega, fun k hk => hfar k (by omega)⟩, (hfar _ hb).trans h.box, ?_, by simpa using ho⟩
  have := (Tab.set_ h.done i true)
  rw [dnT_snoc hi] at this
  exact (hbl gd (Nat.le_refl _)).trans this
end
end Go.Proofs.Ytdodhbfplglbkaa

namespace Go.Proofs.Ytdodhbfplglbkaa
open Go.RowKit

/-- What stays while a symbol is looked at. -/
structure SymS (w0 w : World) (b gs : Nat) (cs : Array Value) (kd at_ : Int) (nm : ByteArray) : Prop where
  below : Below w0.heap.size w0 w
  box : Blk w b 29 cs
  sym : Blk w gs 155 #[.int .u8 kd, .int .i64 at_, .string nm]
theorem SymS.drewN {w0 w : World} {b gs : Nat} {cs : Array Value} {kd at_ : Int} {nm : ByteArray} (h : SymS w0 w b gs cs kd at_ nm) (k : Nat) : SymS w0 (w.drewN k) b gs cs kd at_ nm := ⟨below_drewN h.below k, h.box.drewN k, h.sym.drewN k⟩

end Go.Proofs.Ytdodhbfplglbkaa

namespace Go.Proofs.Ytdodhbfplglbkaa
open Go.RowKit

end Go.Proofs.Ytdodhbfplglbkaa

namespace Go.Proofs.Ytdodhbfplglbkaa
open Go.RowKit

end Go.Proofs.Ytdodhbfplglbkaa

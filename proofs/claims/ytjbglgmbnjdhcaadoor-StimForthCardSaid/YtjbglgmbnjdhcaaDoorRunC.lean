/- Sim, the book's side: a trace copied; whether two traces are the same. -/
import Derived.Test.YtjbglgmbnjdhcaaDoorSimO
import Derived.Test.YtjbglgmbnjdhcaaDoorSimQ
import Derived.Test.YtjbglgmbnjdhcaaDoorArgS
namespace Go.Proofs.YtjbglgmbnjdhcaaDoor
open Go.RowKit

end Go.Proofs.YtjbglgmbnjdhcaaDoor

namespace Go.Proofs.YtjbglgmbnjdhcaaDoor
open Go.RowKit

end Go.Proofs.YtjbglgmbnjdhcaaDoor

namespace Go.Proofs.YtjbglgmbnjdhcaaDoor
open Go.RowKit

/-- What stands while a trace is copied: the new struct in block g, its lists the call's own. -/
structure CT (W0 wr : World) (g : Nat) (iv ov : Value) (lp : Int) (ini : List Bool) (us : List Value) (rows : List (List Bool)) : Prop where
  below : Below W0.heap.size W0 wr
  lt : W0.heap.size ≤ g
  blk : Blk wr g 26 #[iv, ov, .int .i64 lp]
  i : wr.ownsRow W0.heap.size 4 1 iv ini.length (ini.map Value.bool)
  len : us.length = rows.length
  o : wr.ownsRow W0.heap.size 23 1 ov us.length us
  each : ∀ (i : Nat) (u : Value) (zs : List Bool), us[i]? = some u → rows[i]? = some zs → wr.ownsRow W0.heap.size 4 1 u zs.length (zs.map Value.bool)
/-- One row more. -/
theorem CT.put {W0 wr w5 w7 : World} {g : Nat} {iv ov u v : Value} {lp : Int} {ini zs : List Bool} {us : List Value} {rows : List (List Bool)} (h : CT W0 wr g iv ov lp ini us rows) (hb : Below wr.heap.size wr w5) (hu : w5.ownsRow wr.heap.size 4 1 u zs.length (zs.map Value.bool))
    (o : Obj) (hv : w7.ownsRow W0.heap.size 23 1 v (us.length + 1) (us ++ [u])) (hg : (w5.alloc o).grownBy w7 ov.ownBlock) :
    Blk w7 g 26 #[iv, ov, .int .i64 lp] ∧ CT W0 (w7.setCell ⟨g, 1, none⟩ v) g iv v lp ini (us ++ [u]) (rows ++ [zs]) := by
  have hsz := h.below.size
  have hb5 : Below W0.heap.size W0 w5 := bt h.below (Nat.le_refl _) hb
  have ho5 := (own_below h.o hb).alloc o
  have hbk5 := h.blk.below hb h.blk.lt
  have hb7 : Below W0.heap.size W0 w7 := (hb5.alloc hb5.size o).grown hg (by have := hb5.size; simp; omega) (fun k hk => (h.o.lt k hk).1)
  have hbk7 : Blk w7 g 26 #[iv, ov, .int .i64 lp] := (hbk5.alloc o).grown hg (fun e => own_blk_ne (own_below h.o hb) hbk5 (by decide) e.symm)
  have key : ∀ (x : Value) (ys : List Bool), w5.ownsRow W0.heap.size 4 1 x ys.length (ys.map Value.bool) → (w7.setCell ⟨g, 1, none⟩ v).ownsRow W0.heap.size 4 1 x ys.length (ys.map Value.bool) := fun x ys hx => by
    have h7 := own_other (hx.alloc o) ho5 (by decide) hg
    exact own_setQ h7 _ _ (fun k hk e => own_blk_ne h7 hbk7 (by decide) (by rw [hk, e]))
  refine ⟨hbk7, hb7.setCell (by simpa using h.lt) _, h.lt, by simpa using hbk7.set_ 1 v, key _ _ (own_below h.i hb), by simp [h.len], ?_, fun i x ys hx hy => ?_⟩
  · have := own_setQ hv ⟨g, 1, none⟩ v (fun k hk e => own_blk_ne hv hbk7 (by decide) (by rw [hk, e]))
    simpa using this
  · by_cases hi : i < us.length
    · rw [List.getElem?_append_left hi] at hx
      rw [List.getElem?_append_left (by rw [← h.len]; exact hi)] at hy
      exact key x ys (own_below (h.each i x ys hx hy) hb)
    · rw [List.getElem?_append_right (by omega)] at hx
      rw [List.getElem?_append_right (by rw [← h.len]; omega), ← h.len] at hy
      have : i - us.length = 0 := by have := (List.getElem?_eq_some_iff.1 hx).1; simp at this; exact this
      rw [this] at hx hy
      simp at hx hy
      subst hx hy
      exact key _ _ (own_le hu (by omega))
/-- A trace whose lists are the call's own. -/
structure OwnT (w : World) (B : Nat) (t : Tr) (U : TV) : Prop where
  i : w.ownsRow B 4 1 U.i t.init.length (t.init.map Value.bool)
  ex : ∃ us : List Value, us.length = t.rows.length ∧ w.ownsRow B 23 1 U.r us.length us ∧ ∀ (i : Nat) (u : Value) (zs : List Bool), us[i]? = some u → t.rows[i]? = some zs → w.ownsRow B 4 1 u zs.length (zs.map Value.bool)
theorem OwnT.in_ {w : World} {B : Nat} {t : Tr} {U : TV} (h : OwnT w B t U) : t.In w U := by
  obtain ⟨us, h1, h2, h3⟩ := h.ex
  exact ⟨own_rowe lenO (by rw [flat_bools]; exact h.i), us, own_rowe lenV (by rw [flat_vals]; exact h2), h1, fun i u zs hu hz => own_rowe lenO (by rw [flat_bools]; exact h3 i u zs hu hz)⟩
theorem OwnT.below {w w' : World} {B : Nat} {t : Tr} {U : TV} (h : OwnT w B t U) (hb : Below w.heap.size w w') : OwnT w' B t U := by
  obtain ⟨us, h1, h2, h3⟩ := h.ex
  exact ⟨own_below h.i hb, us, h1, own_below h2 hb, fun i u zs hu hz => own_below (h3 i u zs hu hz) hb⟩
theorem infoBB : (Tryd.prog.info? 23).map (fun i => (i.zero, i.size, i.bytes)) = some (some (.slice none 0 0), 1, 24) := by kernel_rfl

end Go.Proofs.YtjbglgmbnjdhcaaDoor

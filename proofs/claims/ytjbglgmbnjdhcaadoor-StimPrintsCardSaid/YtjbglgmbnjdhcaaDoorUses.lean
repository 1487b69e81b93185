/- The contract of usesOf: of each gate the gates that it uses. -/
import Derived.Test.YtjbglgmbnjdhcaaDoorCirc
import Derived.Laws.Tables
import Derived.Laws.MakeOwn
import Derived.Deep.RegionHeld3
namespace Go.Proofs.YtjbglgmbnjdhcaaDoor
open Go.RowKit

/-- A block of numbers of the call's own. -/
def Nums (w : World) (g : Nat) (L : List Int) : Prop := Blk w g 3 (L.map (Value.int .i64)).toArray
theorem Nums.cell {w : World} {g : Nat} {L : List Int} (h : Nums w g L) {i : Nat} {x : Int} (hx : L[i]? = some x) : w.cell? ⟨g, i, none⟩ = some (.int .i64 x) := by
  rw [Blk.cell h]; simp [hx]
theorem Nums.set_ {w : World} {g : Nat} {L : List Int} (h : Nums w g L) (i : Nat) (x : Int) : Nums (w.setCell ⟨g, i, none⟩ (.int .i64 x)) g (L.set i x) := by
  have := Blk.set_ h i (.int .i64 x)
  simpa [Nums, List.map_set] using this
/-- Of each variable the gate that it is the Out of. -/
def gateF : List Tri → Nat → List Int → List Int
  | [], _, G => G
  | z :: r, i, G => gateF r (i + 1) (G.set (z.1 / 2).toNat i)
theorem gateF_len : ∀ (zs : List Tri) (i : Nat) (G : List Int), (gateF zs i G).length = G.length
  | [], _, _ => rfl
  | z :: r, i, G => by rw [gateF, gateF_len]; simp
def gateOf (C : Circ) : List Int := gateF C.ands 0 (List.replicate (C.max.toNat + 1) (-1))
def useOf (G : List Int) (z : Tri) : Int × Int := (G.getD (z.2.1 / 2).toNat 0, G.getD (z.2.2 / 2).toNat 0)
def usesC (C : Circ) : List (Int × Int) := C.ands.map (useOf (gateOf C))
/-- A gate's three literals have variables up to the greatest one. -/
def FitT (m : Int) (z : Tri) : Prop := (0 ≤ z.1 ∧ z.1 / 2 ≤ m) ∧ (0 ≤ z.2.1 ∧ z.2.1 / 2 ≤ m) ∧ (0 ≤ z.2.2 ∧ z.2.2 / 2 ≤ m)

theorem info_of' {t : TypeId} {z : Value} {s b : Nat} (h : (Tryd.prog.info? t).map (fun i => (i.zero, i.size, i.bytes)) = some (some z, s, b)) : ∃ i, Tryd.prog.info? t = some i ∧ i.zero = some z ∧ i.size = s ∧ i.bytes = b := by
  cases hi : Tryd.prog.info? t with
  | none => rw [hi] at h; cases h
  | some i => rw [hi] at h; simp at h; exact ⟨i, rfl, h.1, h.2.1, h.2.2⟩
end Go.Proofs.YtjbglgmbnjdhcaaDoor

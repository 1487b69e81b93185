/- The contract of usesOf: of each gate the gates that it uses. -/
import Derived.Test.YtagffmalmkcboaaDoorCirc
import Derived.Laws.Tables
import Derived.Laws.MakeOwn
import Derived.Deep.RegionHeld3
namespace Go.Proofs.YtagffmalmkcboaaDoor
open Go.RowKit

/-- A block of numbers of the call's own. -/
def Nums (w : World) (g : Nat) (L : List Int) : Prop := Blk w g 3 (L.map (Value.int .i64)).toArray
theorem Nums.cell {w : World} {g : Nat} {L : List Int} (h : Nums w g L) {i : Nat} {x : Int} (hx : L[i]? = some x) : w.cell? ⟨g, i, none⟩ = some (.int .i64 x) := by
  rw [Blk.cell h]; simp [hx]
theorem Nums.set_ {w : World} {g : Nat} {L : List Int} (h : Nums w g L) (i : Nat) (x : Int) : Nums (w.setCell ⟨g, i, none⟩ (.int .i64 x)) g (L.set i x) := by
  have := Blk.set_ h i (.int .i64 x)
  simpa [Nums, List.map_set] using this
abbrev encP (p : Int × Int) : List Value := [.int .i64 p.1, .int .i64 p.2]
theorem lenP (z : Int × Int) : (encP z).length = 2 := rfl
/-- A block of pairs of numbers. -/
def Prs (w : World) (g : Nat) (L : List (Int × Int)) : Prop := Blk w g 112 (L.flatMap encP).toArray
theorem Prs.cell {w : World} {g : Nat} {L : List (Int × Int)} (h : Prs w g L) {i : Nat} {p : Int × Int} (hx : L[i]? = some p) : w.cell? ⟨g, i * 2, none⟩ = some (.int .i64 p.1) ∧ w.cell? ⟨g, i * 2 + 1, none⟩ = some (.int .i64 p.2) := by
  have h0 := flat_get (enc := encP) (k := 2) lenP L i p hx 0 (by omega)
  have h1 := flat_get (enc := encP) (k := 2) lenP L i p hx 1 (by omega)
  rw [Blk.cell h, Blk.cell h]
  simp only [Nat.add_zero] at h0
  exact ⟨by simpa using h0, by simpa using h1⟩
theorem flat_set {L : List (Int × Int)} {i : Nat} {p : Int × Int} (h : i < L.length) : ((L.flatMap encP).set (i * 2) (.int .i64 p.1)).set (i * 2 + 1) (.int .i64 p.2) = (L.set i p).flatMap encP := by
  induction L generalizing i with
  | nil => simp at h
  | cons a r ih =>
    cases i with
    | zero => rfl
    | succ i =>
      have hr := ih (i := i) (by simpa using h)
      rw [List.flatMap_cons, List.set_cons_succ, List.flatMap_cons, ← hr, show (i + 1) * 2 = i * 2 + 1 + 1 by omega]
      rfl
theorem Prs.set_ {w : World} {g : Nat} {L : List (Int × Int)} (h : Prs w g L) {i : Nat} (hi : i < L.length) (p : Int × Int) : Prs ((w.setCell ⟨g, i * 2, none⟩ (.int .i64 p.1)).setCell ⟨g, i * 2 + 1, none⟩ (.int .i64 p.2)) g (L.set i p) := by
  have := Blk.set_ (Blk.set_ h (i * 2) (.int .i64 p.1)) (i * 2 + 1) (.int .i64 p.2)
  unfold Prs
  rw [← flat_set hi]
  simpa using this

/-- Of each variable the gate that it is the Out of. -/
def gateF : List Tri → Nat → List Int → List Int
  | [], _, G => G
  | z :: r, i, G => gateF r (i + 1) (G.set (z.1 / 2).toNat i)
theorem gateF_len : ∀ (zs : List Tri) (i : Nat) (G : List Int), (gateF zs i G).length = G.length
  | [], _, _ => rfl
  | z :: r, i, G => by rw [gateF, gateF_len]; simp
def gateOf (C : Circ) : List Int := gateF C.ands 0 (List.replicate (C.max.toNat + 1) (-1))
def useOf (G : List Int) (z : Tri) : Int × Int := (G.getD (z.2.1 / 2).toNat 0, G.getD (z.2.2 / 2).toNat 0)
def usesC (C : Circ) : List (Int × Int) := C.ands.map (useOf (gateOf C))
/-- A gate's three literals have variables up to the greatest one. -/
def FitT (m : Int) (z : Tri) : Prop := (0 ≤ z.1 ∧ z.1 / 2 ≤ m) ∧ (0 ≤ z.2.1 ∧ z.2.1 / 2 ≤ m) ∧ (0 ≤ z.2.2 ∧ z.2.2 / 2 ≤ m)

theorem info_of' {t : TypeId} {z : Value} {s b : Nat} (h : (Tryd.prog.info? t).map (fun i => (i.zero, i.size, i.bytes)) = some (some z, s, b)) : ∃ i, Tryd.prog.info? t = some i ∧ i.zero = some z ∧ i.size = s ∧ i.bytes = b := by
  cases hi : Tryd.prog.info? t with
  | none => rw [hi] at h; cases h
  | some i => rw [hi] at h; simp at h; exact ⟨i, rfl, h.1, h.2.1, h.2.2⟩
structure Mid2 (w0 w : World) (bx g : Nat) (cs : Array Value) (G : List Int) : Prop where
  below : Below w0.heap.size w0 w
  box : Blk w bx 29 cs
  nums : Nums w g G
theorem Mid2.alloc {w0 w : World} {bx g : Nat} {cs : Array Value} {G : List Int} (h : Mid2 w0 w bx g cs G) (o : Obj) : Mid2 w0 (w.alloc o) bx g cs G :=
  ⟨h.below.alloc h.below.size o, h.box.alloc o, Blk.alloc h.nums o⟩
theorem Mid2.set_ {w0 w : World} {bx g : Nat} {cs : Array Value} {G : List Int} (h : Mid2 w0 w bx g cs G) (hg : w0.heap.size ≤ g) (hne : bx ≠ g) (i : Nat) (x : Int) : Mid2 w0 (w.setCell ⟨g, i, none⟩ (.int .i64 x)) bx g cs (G.set i x) :=
  ⟨h.below.setCell hg _, Blk.far h.box hne _, h.nums.set_ i x⟩

theorem Mid2.far {w0 w : World} {bx g : Nat} {cs : Array Value} {G : List Int} (h : Mid2 w0 w bx g cs G) {gp : Nat} (hg : w0.heap.size ≤ gp) (h1 : bx ≠ gp) (h2 : g ≠ gp) (i : Nat) (u : Value) : Mid2 w0 (w.setCell ⟨gp, i, none⟩ u) bx g cs G :=
  ⟨h.below.setCell hg _, Blk.far h.box h1 _, Blk.far h.nums h2 _⟩
theorem Mid2.drew {w0 w : World} {bx g : Nat} {cs : Array Value} {G : List Int} (h : Mid2 w0 w bx g cs G) : Mid2 w0 w.drew bx g cs G := ⟨below_drewN h.below 1, h.box, h.nums⟩
end Go.Proofs.YtagffmalmkcboaaDoor

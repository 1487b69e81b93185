/- Which gates come round: what the way along gates finds is the least gate that comes round (plain data). -/
import Derived.Test.YtdodhbfplglbkaaFirst
namespace Go.Proofs.Ytdodhbfplglbkaa
open Go.RowKit

/-- One gate uses another. -/
def Edge (uses : List (Int × Int)) (x y : Int) : Prop := y ≠ -1 ∧ ((uses.getD x.toNat (-1, -1)).1 = y ∨ (uses.getD x.toNat (-1, -1)).2 = y)
inductive Path (uses : List (Int × Int)) : Int → Int → Prop where
  | refl (x : Int) : Path uses x x
  | step {x y z : Int} : Edge uses x y → Path uses y z → Path uses x z
theorem Path.trans {uses : List (Int × Int)} {x y z : Int} (h : Path uses x y) (h2 : Path uses y z) : Path uses x z := by
  induction h with
  | refl => exact h2
  | step e _ ih => exact .step e (ih h2)
theorem Path.one {uses : List (Int × Int)} {x y : Int} (h : Edge uses x y) : Path uses x y := .step h (.refl y)
/-- A gate comes round. -/
def Cyc (uses : List (Int × Int)) (x : Int) : Prop := ∃ y, Edge uses x y ∧ Path uses y x
abbrev InR (n : Nat) (x : Int) : Prop := 0 ≤ x ∧ x < (n : Int)
/-- When a gate was met. -/
def mt (S : TS) (x : Int) : Int := S.met.getD x.toNat 0
structure TI (uses : List (Int × Int)) (n : Nat) (S : TS) : Prop where
  base : TInv n S
  nd : S.opn.Pairwise (fun x y => mt S x < mt S y)
  op : ∀ x, InR n x → (x ∈ S.opn ↔ mt S x ≠ 0 ∧ mt S x ≠ maxI)
  cb : ∀ x ∈ S.opn, 0 < mt S x ∧ mt S x ≤ (S.count : Int)
  cl : ∀ x y, InR n x → mt S x = maxI → Edge uses x y → mt S y = maxI
  rch : S.opn.Pairwise (fun x y => Path uses x y)
  f1 : ∀ x, InR n x → mt S x = maxI → Cyc uses x → S.first ≠ -1 ∧ S.first ≤ x
  f2 : S.first ≠ -1 → InR n S.first ∧ Cyc uses S.first
/-- In the midst of a gate's uses, those that vis says have been looked at. -/
structure MS (uses : List (Int × Int)) (n : Nat) (S : TS) (i own : Int) (vis : Int → Prop) (st : TS × Int × Bool) (B : List Int) : Prop where
  inv : TI uses n st.1
  opn : st.1.opn = S.opn ++ i :: B
  keep : ∀ x, InR n x → mt S x ≠ 0 → mt st.1 x = mt S x
  me : mt st.1 i = own
  le : st.2.1 ≤ own
  res : st.2.1 < own → ∃ y ∈ S.opn, mt S y = st.2.1 ∧ Path uses i y
  back : ∀ x ∈ B, ∃ y ∈ st.1.opn, mt st.1 y < mt st.1 x ∧ Path uses x y
  edges : ∀ x ∈ B, ∀ y, Edge uses x y → mt st.1 y ≠ 0 ∧ (y ∈ S.opn → st.2.1 ≤ mt S y)
  mine : ∀ u, vis u → u ≠ -1 → mt st.1 u ≠ 0 ∧ (u ∈ S.opn → st.2.1 ≤ mt S u)
  s1 : st.2.2 = true → Edge uses i i
  s2 : vis i → st.2.2 = true
section
variable {uses : List (Int × Int)} {n : Nat}
theorem TI.inR {S : TS} (h : TI uses n S) {x : Int} (hx : x ∈ S.opn) : InR n x := h.base.opn x hx
/-- All that is open behind i leads to i. -/
theorem MS.desc {S : TS} {i own : Int} {vis : Int → Prop} {st : TS × Int × Bool} {B : List Int} (h : MS uses n S i own vis st B) : ∀ (k : Nat) (x : Int), x ∈ st.1.opn → mt st.1 x ≤ (k : Int) → Path uses x i
  | 0, x, hx, hk => by have := (h.inv.cb x hx).1; omega
  | k + 1, x, hx, hk => by
    have hr := h.inv.rch
    rw [h.opn] at hr
    have hx' := hx
    rw [h.opn] at hx'
    rcases List.mem_append.1 hx' with h1 | h1
    · exact (List.pairwise_append.1 hr).2.2 x h1 i (by simp)
    · rcases List.mem_cons.1 h1 with h1 | h1
      · subst h1; exact .refl _
      · obtain ⟨y, hy, hlt, hp⟩ := h.back x h1
        exact hp.trans (h.desc k y hy (by omega))
theorem MS.all {S : TS} {i own : Int} {vis : Int → Prop} {st : TS × Int × Bool} {B : List Int} (h : MS uses n S i own vis st B) {x : Int} (hx : x ∈ st.1.opn) : Path uses x i :=
  h.desc (mt st.1 x).toNat x hx (by have := (h.inv.cb x hx).1; omega)
end
section
variable {uses : List (Int × Int)} {n : Nat}
end
end Go.Proofs.Ytdodhbfplglbkaa

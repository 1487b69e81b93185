/- Cone: the contracts of checkLiterals and Support. -/
import Derived.Test.YtdodhbfplglbkaaSetP
import Derived.Maps.OwnSet
import Derived.Maps.RangeWalk
import Derived.Deep.LoopGhost
namespace Go.Proofs.Ytdodhbfplglbkaa

/-- A list in which some things were laid, each at its own place. -/
def laid {α β : Type} (key : α → Nat) (val : α → β) (xs : List α) (u : List β) : List β := xs.foldl (fun u x => u.set (key x) (val x)) u
theorem laid_other {α β : Type} {key : α → Nat} {val : α → β} {d : β} : ∀ {xs : List α} {u : List β} {v : Nat}, (∀ x ∈ xs, key x ≠ v) → (laid key val xs u).getD v d = u.getD v d
  | [], _, _, _ => rfl
  | x :: xs, u, v, h => by
    show (laid key val xs (u.set (key x) (val x))).getD v d = _
    rw [laid_other (fun y hy => h y (List.mem_cons_of_mem _ hy))]
    have := h x List.mem_cons_self
    simp only [List.getD_eq_getElem?_getD]
    rw [List.getElem?_set_ne this]
theorem laid_at {α β : Type} {key : α → Nat} {val : α → β} {d : β} : ∀ {xs : List α} {u : List β}, (xs.map key).Nodup → (∀ x ∈ xs, key x < u.length) → ∀ x ∈ xs, (laid key val xs u).getD (key x) d = val x
  | [], _, _, _, x, hx => by simp at hx
  | y :: xs, u, hn, hl, x, hx => by
    show (laid key val xs (u.set (key y) (val y))).getD (key x) d = _
    rw [List.map_cons, List.nodup_cons] at hn
    rcases List.mem_cons.1 hx with rfl | hx
    · rw [laid_other (fun z hz he => hn.1 (by rw [← he]; exact List.mem_map_of_mem hz))]
      have := hl x List.mem_cons_self
      simp [List.getD_eq_getElem?_getD, this]
    · exact laid_at hn.2 (fun z hz => by rw [List.length_set]; exact hl z (List.mem_cons_of_mem _ hz)) x hx

def vOf (l : Int) : Nat := (l / 2).toNat
/-- Of what each variable is made, within one step. -/
def withU (C : Circ) : List (Int × Int) := laid (fun z : Tri => vOf z.1) (fun z => z.2) C.ands (List.replicate (C.max.toNat + 1) (0, 0))
/-- On which variables some literals hang (the variable 0 is not counted). -/
inductive Hang (u : List (Int × Int)) (L : List Int) : Nat → Prop
  | root {l : Int} : l ∈ L → 2 ≤ l → Hang u L (vOf l)
  | left {v : Nat} : Hang u L v → 2 ≤ (u.getD v (0, 0)).1 → Hang u L (vOf (u.getD v (0, 0)).1)
  | right {v : Nat} : Hang u L v → 2 ≤ (u.getD v (0, 0)).2 → Hang u L (vOf (u.getD v (0, 0)).2)
noncomputable def supF (u : List (Int × Int)) (L : List Int) : List Bool := (List.range u.length).map fun v => @decide (Hang u L v) (Classical.propDecidable _)
theorem supF_len (u : List (Int × Int)) (L : List Int) : (supF u L).length = u.length := by
  unfold supF
  simp
theorem sup_eq {u : List (Int × Int)} {L : List Int} {tb : List Bool} (hl : tb.length = u.length) (h : ∀ v, v < u.length → (tb.getD v false = true ↔ Hang u L v)) : tb = supF u L := by
  apply List.ext_getElem (by rw [hl, supF_len])
  intro v h1 h2
  have hv : v < u.length := by omega
  have := h v hv
  rw [List.getD_eq_getElem?_getD, List.getElem?_eq_getElem h1] at this
  simp only [Option.getD_some] at this
  have e : (supF u L)[v] = @decide (Hang u L v) (Classical.propDecidable _) := by simp [supF]
  rw [e]
  by_cases hh : Hang u L v
  · rw [this.2 hh]; simp [hh]
  · have : tb[v] ≠ true := fun e => hh (this.1 e)
    simp [hh, this]
/-- Every literal in it has its variable in the table. -/
def CFits (u : List (Int × Int)) (L : List Int) : Prop := (∀ l ∈ L, 0 ≤ l ∧ vOf l < u.length) ∧ ∀ v, (0 ≤ (u.getD v (0, 0)).1 ∧ vOf (u.getD v (0, 0)).1 < u.length) ∧ 0 ≤ (u.getD v (0, 0)).2 ∧ vOf (u.getD v (0, 0)).2 < u.length
theorem Hang.lt {u : List (Int × Int)} {L : List Int} (hf : CFits u L) {v : Nat} (h : Hang u L v) : 0 < v ∧ v < u.length := by
  cases h with
  | root hl h2 => exact ⟨by unfold vOf; omega, (hf.1 _ hl).2⟩
  | left _ h2 => exact ⟨by unfold vOf; omega, (hf.2 _).1.2⟩
  | right _ h2 => exact ⟨by unfold vOf; omega, (hf.2 _).2.2⟩
/-- Least: what has the roots and is closed has all. -/
theorem Hang.least {u : List (Int × Int)} {L : List Int} {p : Nat → Prop} (hr : ∀ l ∈ L, 2 ≤ l → p (vOf l)) (hs : ∀ v, p v → (2 ≤ (u.getD v (0, 0)).1 → p (vOf (u.getD v (0, 0)).1)) ∧ (2 ≤ (u.getD v (0, 0)).2 → p (vOf (u.getD v (0, 0)).2))) {v : Nat} (h : Hang u L v) : p v := by
  induction h with
  | root hl h2 => exact hr _ hl h2
  | left _ h2 ih => exact (hs _ ih).1 h2
  | right _ h2 ih => exact (hs _ ih).2 h2

section
variable {C : Circ}
theorem vOf_inj {a b : Int} (ha : 0 ≤ a ∧ a % 2 = 0) (hb : 0 ≤ b ∧ b % 2 = 0) (h : vOf a = vOf b) : a = b := by
  unfold vOf at h; omega
theorem map_nodup {α β γ : Type} {f : α → β} {g : α → γ} : ∀ {xs : List α}, (xs.map f).Nodup → (∀ x ∈ xs, ∀ y ∈ xs, g x = g y → f x = f y) → (xs.map g).Nodup
  | [], _, _ => List.nodup_nil
  | x :: xs, hn, h => by
    rw [List.map_cons, List.nodup_cons] at hn ⊢
    refine ⟨fun hm => ?_, map_nodup hn.2 (fun a ha b hb => h a (List.mem_cons_of_mem _ ha) b (List.mem_cons_of_mem _ hb))⟩
    obtain ⟨y, hy, he⟩ := List.mem_map.1 hm
    exact hn.1 (h y (List.mem_cons_of_mem _ hy) x List.mem_cons_self he ▸ List.mem_map_of_mem hy)
theorem Fine.and_mem (_ : Fine C) {z : Tri} (hz : z ∈ C.ands) : z.1 ∈ defsL C := List.mem_append_right _ (List.mem_map_of_mem hz)
theorem Fine.latch_mem (_ : Fine C) {z : Tri} (hz : z ∈ C.latches) : z.1 ∈ defsL C := List.mem_append_left _ (List.mem_append_right _ (List.mem_map_of_mem hz))
theorem Fine.v_inj (h : Fine C) {a b : Int} (ha : a ∈ defsL C) (hb : b ∈ defsL C) (e : vOf a = vOf b) : a = b := by
  have h1 := h.d.two _ ha
  have h2 := h.d.two _ hb
  exact vOf_inj ⟨by omega, h1.2.1⟩ ⟨by omega, h2.2.1⟩ e
theorem Fine.v_lt (h : Fine C) {a : Int} (ha : a ∈ defsL C) : 0 < vOf a ∧ vOf a < C.max.toNat + 1 := by
  have h1 := h.d.two _ ha
  have := h.m0
  unfold vOf; omega
theorem Fine.and_nd (h : Fine C) : (C.ands.map fun z : Tri => vOf z.1).Nodup := by
  have h1 := h.d.nd
  unfold defsL at h1
  exact map_nodup (List.nodup_append.1 h1).2.1 (fun a ha b hb e => h.v_inj (h.and_mem ha) (h.and_mem hb) e)
theorem Fine.apart (h : Fine C) {y z : Tri} (hy : y ∈ C.latches) (hz : z ∈ C.ands) : vOf y.1 ≠ vOf z.1 := fun e => by
  have h0 := h.v_inj (h.latch_mem hy) (h.and_mem hz) e
  have h1 := h.d.nd
  unfold defsL at h1
  exact (List.nodup_append.1 h1).2.2 y.1 (List.mem_append_right _ (List.mem_map_of_mem hy)) z.1 (List.mem_map_of_mem hz) h0
theorem withU_and (h : Fine C) {z : Tri} (hz : z ∈ C.ands) : (withU C).getD (vOf z.1) (0, 0) = z.2 := by
  unfold withU
  exact laid_at (key := fun z : Tri => vOf z.1) (val := fun z : Tri => z.2) h.and_nd (fun x hx => by rw [List.length_replicate]; exact (h.v_lt (h.and_mem hx)).2) z hz
end

/-! The search: what was found, and what of it was looked at. -/
def addF (tb : List Bool) (l : Int) : List Bool := if l < 2 then tb else tb.set (vOf l) true
theorem addF_len (tb : List Bool) (l : Int) : (addF tb l).length = tb.length := by
  unfold addF
  split <;> simp
theorem addF_get {tb : List Bool} {l : Int} (hl : vOf l < tb.length) (v : Nat) : (addF tb l).getD v false = true ↔ tb.getD v false = true ∨ (2 ≤ l ∧ v = vOf l) := by
  unfold addF
  by_cases h2 : l < 2
  · rw [if_pos h2]
    constructor
    · exact Or.inl
    · rintro (h | ⟨h, _⟩)
      · exact h
      · omega
  · rw [if_neg h2]
    simp only [List.getD_eq_getElem?_getD, List.getElem?_set]
    by_cases e : vOf l = v
    · subst e
      simp [hl, Int.not_lt.1 h2]
    · rw [if_neg e]
      constructor
      · exact Or.inl
      · rintro (h | ⟨_, h⟩)
        · exact h
        · exact absurd h.symm e
/-- The search under way: tb was found, dn was looked at. -/
structure CSrch (u : List (Int × Int)) (L : List Int) (tb : List Bool) (dn : List Nat) : Prop where
  len : tb.length = u.length
  nd : dn.Nodup
  sub : ∀ v ∈ dn, tb.getD v false = true
  ok : ∀ v, tb.getD v false = true → Hang u L v
def CFound (tb : List Bool) (l : Int) : Prop := 2 ≤ l → tb.getD (vOf l) false = true
theorem CFound.add {tb : List Bool} {l : Int} (h : CFound tb l) {k : Int} (hk : vOf k < tb.length) : CFound (addF tb k) l := fun h2 => (addF_get hk _).2 (Or.inl (h h2))
def Kids (u : List (Int × Int)) (tb : List Bool) (v : Nat) : Prop := CFound tb (u.getD v (0, 0)).1 ∧ CFound tb (u.getD v (0, 0)).2
theorem Kids.add {u : List (Int × Int)} {tb : List Bool} {v : Nat} (h : Kids u tb v) {k : Int} (hk : vOf k < tb.length) : Kids u (addF tb k) v := ⟨h.1.add hk, h.2.add hk⟩
theorem CSrch.add {u : List (Int × Int)} {L : List Int} {tb : List Bool} {dn : List Nat} (h : CSrch u L tb dn) {l : Int} (hl : vOf l < u.length) (hh : 2 ≤ l → Hang u L (vOf l)) : CSrch u L (addF tb l) dn := by
  have hl2 : vOf l < tb.length := by rw [h.len]; exact hl
  refine ⟨by rw [addF_len, h.len], h.nd, fun v hv => (addF_get hl2 v).2 (Or.inl (h.sub v hv)), fun v hv => ?_⟩
  rcases (addF_get hl2 v).1 hv with hv | ⟨h2, rfl⟩
  · exact h.ok v hv
  · exact hh h2
theorem CSrch.take {u : List (Int × Int)} {L : List Int} {tb : List Bool} {dn : List Nat} (h : CSrch u L tb dn) {v : Nat} (hv : tb.getD v false = true) (hn : v ∉ dn) : CSrch u L tb (v :: dn) :=
  ⟨h.len, List.nodup_cons.2 ⟨hn, h.nd⟩, fun x hx => by
    rcases List.mem_cons.1 hx with rfl | hx
    · exact hv
    · exact h.sub x hx, h.ok⟩
theorem CSrch.end_ {u : List (Int × Int)} {L : List Int} {tb : List Bool} {dn : List Nat} (h : CSrch u L tb dn) (hr : ∀ l ∈ L, CFound tb l) (hk : ∀ v ∈ dn, Kids u tb v) (hn : ∀ v, tb.getD v false = true → v ∈ dn) : tb = supF u L :=
  sup_eq h.len (fun v _ => ⟨h.ok v, fun hh => hh.least (p := fun v => tb.getD v false = true) (fun l hl h2 => hr l hl h2) (fun v hv => ⟨fun h2 => (hk v (hn v hv)).1 h2, fun h2 => (hk v (hn v hv)).2 h2⟩)⟩)
end Go.Proofs.Ytdodhbfplglbkaa

namespace Go.Proofs.Ytdodhbfplglbkaa
open Go.RowKit

/-- A table of uses beside a circuit's box. -/
structure MidU (w0 w : World) (bx g : Nat) (cs : Array Value) (u : List (Int × Int)) : Prop where
  below : Below w0.heap.size w0 w
  box : Blk w bx 29 cs
  prs : Prs w g u
theorem MidU.alloc {w0 w : World} {bx g : Nat} {cs : Array Value} {u : List (Int × Int)} (h : MidU w0 w bx g cs u) (o : Obj) : MidU w0 (w.alloc o) bx g cs u :=
  ⟨h.below.alloc h.below.size o, h.box.alloc o, Blk.alloc h.prs o⟩
theorem MidU.set_ {w0 w : World} {bx g : Nat} {cs : Array Value} {u : List (Int × Int)} (h : MidU w0 w bx g cs u) (hg : w0.heap.size ≤ g) (hne : bx ≠ g) {i : Nat} (hi : i < u.length) (p : Int × Int) : MidU w0 ((w.setCell ⟨g, i * 2, none⟩ (.int .i64 p.1)).setCell ⟨g, i * 2 + 1, none⟩ (.int .i64 p.2)) bx g cs (u.set i p) :=
  ⟨(h.below.setCell hg _).setCell hg _, Blk.far (Blk.far h.box hne _) hne _, h.prs.set_ hi p⟩
end Go.Proofs.Ytdodhbfplglbkaa

namespace Go.Proofs.Ytdodhbfplglbkaa
open Go.RowKit Go.Maps

/-- What is still to be looked at: what was found, and not looked at yet. -/
def Todo (D : DataW Unit) (tb : List Bool) (dn : List Nat) : Prop := IsMap D ∧ ∀ x : Int, Maps.has D (.int .i64 x) = true ↔ 0 ≤ x ∧ tb.getD x.toNat false = true ∧ x.toNat ∉ dn
theorem Todo.put {D : DataW Unit} {tb : List Bool} {dn : List Nat} (h : Todo D tb dn) {l : Int} (hl : 0 ≤ l / 2) (h2 : 2 ≤ l) (hn : vOf l < tb.length) (hd : vOf l ∉ dn) (d : DataW Unit) : Todo (D.put (.int .i64 (l / 2)) d) (addF tb l) dn := by
  refine ⟨h.1.put _ _, fun x => ?_⟩
  rw [addF_get hn]
  by_cases e : x = l / 2
  · subst e
    rw [has_put_same h.1 (by trivial)]
    exact ⟨fun _ => ⟨hl, Or.inr ⟨h2, rfl⟩, hd⟩, fun _ => rfl⟩
  · rw [has_put_other (by intro e2; injection e2 with _ e2; exact e e2), h.2 x]
    constructor
    · rintro ⟨a, b, c⟩; exact ⟨a, Or.inl b, c⟩
    · rintro ⟨a, b | ⟨_, b⟩, c⟩
      · exact ⟨a, b, c⟩
      · exfalso
        unfold vOf at b
        omega
theorem Todo.same {D : DataW Unit} {tb : List Bool} {dn : List Nat} (h : Todo D tb dn) {tb' : List Bool} (e : tb' = tb) : Todo D tb' dn := by rw [e]; exact h
/-- What stands when a variable was taken. -/
def LP (u : List (Int × Int)) (L : List Int) (tb : List Bool) (dn : List Nat) (v : Nat) (b : Bool) : Prop :=
  CSrch u L tb dn ∧ (∀ l ∈ L, CFound tb l) ∧ ((b = true ∧ v < u.length ∧ ∃ dn1, dn = v :: dn1 ∧ ∀ x ∈ dn1, Kids u tb x) ∨ (b = false ∧ (∀ x ∈ dn, Kids u tb x) ∧ ∀ v, tb.getD v false = true → v ∈ dn))
theorem LP.last {u : List (Int × Int)} {L : List Int} {tb : List Bool} {dn : List Nat} {v : Nat} (h : LP u L tb dn v false) : tb = supF u L := by
  obtain ⟨hs, hr, ⟨h0, _⟩ | ⟨_, hk, hn⟩⟩ := h
  · cases h0
  · exact hs.end_ hr hk hn
end Go.Proofs.Ytdodhbfplglbkaa

namespace Go.Proofs.Ytdodhbfplglbkaa
open Go.RowKit Go.Maps

end Go.Proofs.Ytdodhbfplglbkaa

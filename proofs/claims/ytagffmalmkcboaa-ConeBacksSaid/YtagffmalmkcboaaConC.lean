/- Cone: the contracts of checkLiterals and Support. -/
import Derived.Test.YtagffmalmkcboaaSetP
import Derived.Maps.OwnSet
import Derived.Maps.RangeWalk
import Derived.Deep.LoopGhost
namespace Go.Proofs.Ytagffmalmkcboaa

def laid {α β : Type} (key : α → Nat) (val : α → β) (xs : List α) (u : List β) : List β := xs.foldl (fun u x => u.set (key x) (val x)) u
theorem laid_len {α β : Type} {key : α → Nat} {val : α → β} : ∀ {xs : List α} {u : List β}, (laid key val xs u).length = u.length
  | [], _ => rfl
  | x :: xs, u => by
    show (laid key val xs (u.set (key x) (val x))).length = _
    rw [laid_len, List.length_set]
theorem laid_snoc {α β : Type} {key : α → Nat} {val : α → β} (xs : List α) (x : α) (u : List β) : laid key val (xs ++ [x]) u = (laid key val xs u).set (key x) (val x) := by
  unfold laid
  rw [List.foldl_append]
  rfl
theorem laid_other {α β : Type} {key : α → Nat} {val : α → β} {d : β} : ∀ {xs : List α} {u : List β} {v : Nat}, (∀ x ∈ xs, key x ≠ v) → (laid key val xs u).getD v d = u.getD v d
  | [], _, _, _ => rfl
  | x :: xs, u, v, h => by
    show (laid key val xs (u.set (key x) (val x))).getD v d = _
    rw [laid_other (fun y hy => h y (List.mem_cons_of_mem _ hy))]
    have := h x List.mem_cons_self
    simp only [List.getD_eq_getElem?_getD]
    rw [List.getElem?_set_ne this]
theorem laid_at {α β : Type} {key : α → Nat} {val : α → β} {d : β} : ∀ {xs : List α} {u : List β}, (xs.map key).Nodup → (∀ x ∈ xs, key x < u.length) → ∀ x ∈ xs, (laid key val xs u).getD (key x) d = val x
  | [], _, _, _, x, hx => by simp at hx
  | y :: xs, u, hn, hl, x, hx => by
    show (laid key val xs (u.set (key y) (val y))).getD (key x) d = _
    rw [List.map_cons, List.nodup_cons] at hn
    rcases List.mem_cons.1 hx with rfl | hx
    · rw [laid_other (fun z hz he => hn.1 (by rw [← he]; exact List.mem_map_of_mem hz))]
      have := hl x List.mem_cons_self
      simp [List.getD_eq_getElem?_getD, this]
    · exact laid_at hn.2 (fun z hz => by rw [List.length_set]; exact hl z (List.mem_cons_of_mem _ hz)) x hx

def vOf (l : Int) : Nat := (l / 2).toNat
def withU (C : Circ) : List (Int × Int) := laid (fun z : Tri => vOf z.1) (fun z => z.2) C.ands (List.replicate (C.max.toNat + 1) (0, 0))
def thruU (C : Circ) : List (Int × Int) := laid (fun z : Tri => vOf z.1) (fun z => (z.2.1, (0 : Int))) C.latches (withU C)
theorem withU_len (C : Circ) : (withU C).length = C.max.toNat + 1 := by
  unfold withU
  rw [laid_len, List.length_replicate]
theorem thruU_len (C : Circ) : (thruU C).length = C.max.toNat + 1 := by
  unfold thruU
  rw [laid_len, withU_len]

inductive Hang (u : List (Int × Int)) (L : List Int) : Nat → Prop
  | root {l : Int} : l ∈ L → 2 ≤ l → Hang u L (vOf l)
  | left {v : Nat} : Hang u L v → 2 ≤ (u.getD v (0, 0)).1 → Hang u L (vOf (u.getD v (0, 0)).1)
  | right {v : Nat} : Hang u L v → 2 ≤ (u.getD v (0, 0)).2 → Hang u L (vOf (u.getD v (0, 0)).2)
noncomputable def supF (u : List (Int × Int)) (L : List Int) : List Bool := (List.range u.length).map fun v => @decide (Hang u L v) (Classical.propDecidable _)
theorem supF_len (u : List (Int × Int)) (L : List Int) : (supF u L).length = u.length := by
  unfold supF
  simp
theorem sup_eq {u : List (Int × Int)} {L : List Int} {tb : List Bool} (hl : tb.length = u.length) (h : ∀ v, v < u.length → (tb.getD v false = true ↔ Hang u L v)) : tb = supF u L := by
  apply List.ext_getElem (by rw [hl, supF_len])
  intro v h1 h2
  have hv : v < u.length := by omega
  have := h v hv
  rw [List.getD_eq_getElem?_getD, List.getElem?_eq_getElem h1] at this
  simp only [Option.getD_some] at this
  have e : (supF u L)[v] = @decide (Hang u L v) (Classical.propDecidable _) := by simp [supF]
  rw [e]
  by_cases hh : Hang u L v
  · rw [this.2 hh]; simp [hh]
  · have : tb[v] ≠ true := fun e => hh (this.1 e)
    simp [hh, this]
def CFits (u : List (Int × Int)) (L : List Int) : Prop := (∀ l ∈ L, 0 ≤ l ∧ vOf l < u.length) ∧ ∀ v, (0 ≤ (u.getD v (0, 0)).1 ∧ vOf (u.getD v (0, 0)).1 < u.length) ∧ 0 ≤ (u.getD v (0, 0)).2 ∧ vOf (u.getD v (0, 0)).2 < u.length
theorem Hang.lt {u : List (Int × Int)} {L : List Int} (hf : CFits u L) {v : Nat} (h : Hang u L v) : 0 < v ∧ v < u.length := by
  cases h with
  | root hl h2 => exact ⟨by unfold vOf; omega, (hf.1 _ hl).2⟩
  | left _ h2 => exact ⟨by unfold vOf; omega, (hf.2 _).1.2⟩
  | right _ h2 => exact ⟨by unfold vOf; omega, (hf.2 _).2.2⟩
theorem Hang.least {u : List (Int × Int)} {L : List Int} {p : Nat → Prop} (hr : ∀ l ∈ L, 2 ≤ l → p (vOf l)) (hs : ∀ v, p v → (2 ≤ (u.getD v (0, 0)).1 → p (vOf (u.getD v (0, 0)).1)) ∧ (2 ≤ (u.getD v (0, 0)).2 → p (vOf (u.getD v (0, 0)).2))) {v : Nat} (h : Hang u L v) : p v := by
  induction h with
  | root hl h2 => exact hr _ hl h2
  | left _ h2 ih => exact (hs _ ih).1 h2
  | right _ h2 ih => exact (hs _ ih).2 h2

section
variable {C : Circ}
theorem vOf_inj {a b : Int} (ha : 0 ≤ a ∧ a % 2 = 0) (hb : 0 ≤ b ∧ b % 2 = 0) (h : vOf a = vOf b) : a = b := by
  unfold vOf at h; omega
theorem map_nodup {α β γ : Type} {f : α → β} {g : α → γ} : ∀ {xs : List α}, (xs.map f).Nodup → (∀ x ∈ xs, ∀ y ∈ xs, g x = g y → f x = f y) → (xs.map g).Nodup
  | [], _, _ => List.nodup_nil
  | x :: xs, hn, h => by
    rw [List.map_cons, List.nodup_cons] at hn ⊢
    refine ⟨fun hm => ?_, map_nodup hn.2 (fun a ha b hb => h a (List.mem_cons_of_mem _ ha) b (List.mem_cons_of_mem _ hb))⟩
    obtain ⟨y, hy, he⟩ := List.mem_map.1 hm
    exact hn.1 (h y (List.mem_cons_of_mem _ hy) x List.mem_cons_self he ▸ List.mem_map_of_mem hy)
theorem Fine.and_mem (_ : Fine C) {z : Tri} (hz : z ∈ C.ands) : z.1 ∈ defsL C := List.mem_append_right _ (List.mem_map_of_mem hz)
theorem Fine.latch_mem (_ : Fine C) {z : Tri} (hz : z ∈ C.latches) : z.1 ∈ defsL C := List.mem_append_left _ (List.mem_append_right _ (List.mem_map_of_mem hz))
theorem Fine.in_mem (_ : Fine C) {l : Int} (hz : l ∈ C.inputs) : l ∈ defsL C := List.mem_append_left _ (List.mem_append_left _ hz)
theorem Fine.v_inj (h : Fine C) {a b : Int} (ha : a ∈ defsL C) (hb : b ∈ defsL C) (e : vOf a = vOf b) : a = b := by
  have h1 := h.d.two _ ha
  have h2 := h.d.two _ hb
  exact vOf_inj ⟨by omega, h1.2.1⟩ ⟨by omega, h2.2.1⟩ e
theorem Fine.v_lt (h : Fine C) {a : Int} (ha : a ∈ defsL C) : 0 < vOf a ∧ vOf a < C.max.toNat + 1 := by
  have h1 := h.d.two _ ha
  have := h.m0
  unfold vOf; omega
theorem Fine.and_nd (h : Fine C) : (C.ands.map fun z : Tri => vOf z.1).Nodup := by
  have h1 := h.d.nd
  unfold defsL at h1
  exact map_nodup (List.nodup_append.1 h1).2.1 (fun a ha b hb e => h.v_inj (h.and_mem ha) (h.and_mem hb) e)
theorem Fine.latch_nd (h : Fine C) : (C.latches.map fun z : Tri => vOf z.1).Nodup := by
  have h1 := h.d.nd
  unfold defsL at h1
  exact map_nodup (List.nodup_append.1 (List.nodup_append.1 h1).1).2.1 (fun a ha b hb e => h.v_inj (h.latch_mem ha) (h.latch_mem hb) e)
theorem Fine.apart (h : Fine C) {y z : Tri} (hy : y ∈ C.latches) (hz : z ∈ C.ands) : vOf y.1 ≠ vOf z.1 := fun e => by
  have h0 := h.v_inj (h.latch_mem hy) (h.and_mem hz) e
  have h1 := h.d.nd
  unfold defsL at h1
  exact (List.nodup_append.1 h1).2.2 y.1 (List.mem_append_right _ (List.mem_map_of_mem hy)) z.1 (List.mem_map_of_mem hz) h0
theorem withU_and (h : Fine C) {z : Tri} (hz : z ∈ C.ands) : (withU C).getD (vOf z.1) (0, 0) = z.2 := by
  unfold withU
  exact laid_at (key := fun z : Tri => vOf z.1) (val := fun z : Tri => z.2) h.and_nd (fun x hx => by rw [List.length_replicate]; exact (h.v_lt (h.and_mem hx)).2) z hz
theorem thruU_and (h : Fine C) {z : Tri} (hz : z ∈ C.ands) : (thruU C).getD (vOf z.1) (0, 0) = z.2 := by
  unfold thruU
  rw [laid_other (fun x hx => h.apart hx hz)]
  exact withU_and h hz
theorem thruU_latch (h : Fine C) {z : Tri} (hz : z ∈ C.latches) : (thruU C).getD (vOf z.1) (0, 0) = (z.2.1, 0) := by
  unfold thruU
  exact laid_at (key := fun z : Tri => vOf z.1) (val := fun z : Tri => (z.2.1, (0 : Int))) h.latch_nd (fun x hx => by rw [withU_len]; exact (h.v_lt (h.latch_mem hx)).2) z hz
theorem rep_get (n v : Nat) : (List.replicate n ((0 : Int), (0 : Int))).getD v (0, 0) = (0, 0) := by
  rw [List.getD_eq_getElem?_getD, List.getElem?_replicate]
  split <;> rfl
theorem withU_none {v : Nat} (ha : ∀ z ∈ C.ands, vOf z.1 ≠ v) : (withU C).getD v (0, 0) = (0, 0) := by
  unfold withU
  rw [laid_other ha, rep_get]
theorem thruU_none {v : Nat} (ha : ∀ z ∈ C.ands, vOf z.1 ≠ v) (hl : ∀ z ∈ C.latches, vOf z.1 ≠ v) : (thruU C).getD v (0, 0) = (0, 0) := by
  unfold thruU
  rw [laid_other hl, withU_none ha]
theorem thruU_cases (C : Circ) (v : Nat) (h : Fine C) : (∃ z ∈ C.ands, vOf z.1 = v ∧ (thruU C).getD v (0, 0) = z.2) ∨ (∃ z ∈ C.latches, vOf z.1 = v ∧ (thruU C).getD v (0, 0) = (z.2.1, 0)) ∨ (thruU C).getD v (0, 0) = (0, 0) := by
  by_cases ha : ∃ z ∈ C.ands, vOf z.1 = v
  · obtain ⟨z, hz, rfl⟩ := ha
    exact Or.inl ⟨z, hz, rfl, thruU_and h hz⟩
  · by_cases hl : ∃ z ∈ C.latches, vOf z.1 = v
    · obtain ⟨z, hz, rfl⟩ := hl
      exact Or.inr (Or.inl ⟨z, hz, rfl, thruU_latch h hz⟩)
    · exact Or.inr (Or.inr (thruU_none (fun z hz e => ha ⟨z, hz, e⟩) (fun z hz e => hl ⟨z, hz, e⟩)))
theorem UseL.fit {l : Int} (h : UseL C l) : 0 ≤ l ∧ vOf l < C.max.toNat + 1 := by
  obtain ⟨h1, h2, _⟩ := h
  unfold vOf; omega
theorem fits_thru (h : Fine C) {L : List Int} (hL : ∀ l ∈ L, 0 ≤ l ∧ l / 2 ≤ C.max) : CFits (thruU C) L := by
  have h0 := h.m0
  refine ⟨fun l hl => ?_, fun v => ?_⟩
  · have := hL l hl
    rw [thruU_len]
    unfold vOf; omega
  · rw [thruU_len]
    rcases thruU_cases C v h with ⟨z, hz, _, e⟩ | ⟨z, hz, _, e⟩ | e
    · rw [e]; exact ⟨(h.u.a z hz).1.fit, (h.u.a z hz).2.fit⟩
    · rw [e]; exact ⟨(h.u.l z hz).fit, by unfold vOf; simp⟩
    · rw [e]; unfold vOf; simp
end

/-! The search: what was found, and what of it was looked at. -/
def addF (tb : List Bool) (l : Int) : List Bool := if l < 2 then tb else tb.set (vOf l) true
theorem addF_len (tb : List Bool) (l : Int) : (addF tb l).length = tb.length := by
  unfold addF
  split <;> simp
theorem addF_get {tb : List Bool} {l : Int} (hl : vOf l < tb.length) (v : Nat) : (addF tb l).getD v false = true ↔ tb.getD v false = true ∨ (2 ≤ l ∧ v = vOf l) := by
  unfold addF
  by_cases h2 : l < 2
  · rw [if_pos h2]
    constructor
    · exact Or.inl
    · rintro (h | ⟨h, _⟩)
      · exact h
      · omega
  · rw [if_neg h2]
    simp only [List.getD_eq_getElem?_getD, List.getElem?_set]
    by_cases e : vOf l = v
    · subst e
      simp [hl, Int.not_lt.1 h2]
    · rw [if_neg e]
      constructor
      · exact Or.inl
      · rintro (h | ⟨_, h⟩)
        · exact h
        · exact absurd h.symm e
structure CSrch (u : List (Int × Int)) (L : List Int) (tb : List Bool) (dn : List Nat) : Prop where
  len : tb.length = u.length
  nd : dn.Nodup
  sub : ∀ v ∈ dn, tb.getD v false = true
  ok : ∀ v, tb.getD v false = true → Hang u L v
def CFound (tb : List Bool) (l : Int) : Prop := 2 ≤ l → tb.getD (vOf l) false = true
theorem CFound.add {tb : List Bool} {l : Int} (h : CFound tb l) {k : Int} (hk : vOf k < tb.length) : CFound (addF tb k) l := fun h2 => (addF_get hk _).2 (Or.inl (h h2))
theorem found_add {tb : List Bool} {k : Int} (hk : vOf k < tb.length) : CFound (addF tb k) k := fun h2 => (addF_get hk _).2 (Or.inr ⟨h2, rfl⟩)
def Kids (u : List (Int × Int)) (tb : List Bool) (v : Nat) : Prop := CFound tb (u.getD v (0, 0)).1 ∧ CFound tb (u.getD v (0, 0)).2
theorem Kids.add {u : List (Int × Int)} {tb : List Bool} {v : Nat} (h : Kids u tb v) {k : Int} (hk : vOf k < tb.length) : Kids u (addF tb k) v := ⟨h.1.add hk, h.2.add hk⟩
theorem CSrch.add {u : List (Int × Int)} {L : List Int} {tb : List Bool} {dn : List Nat} (h : CSrch u L tb dn) {l : Int} (hl : vOf l < u.length) (hh : 2 ≤ l → Hang u L (vOf l)) : CSrch u L (addF tb l) dn := by
  have hl2 : vOf l < tb.length := by rw [h.len]; exact hl
  refine ⟨by rw [addF_len, h.len], h.nd, fun v hv => (addF_get hl2 v).2 (Or.inl (h.sub v hv)), fun v hv => ?_⟩
  rcases (addF_get hl2 v).1 hv with hv | ⟨h2, rfl⟩
  · exact h.ok v hv
  · exact hh h2
theorem CSrch.take {u : List (Int × Int)} {L : List Int} {tb : List Bool} {dn : List Nat} (h : CSrch u L tb dn) {v : Nat} (hv : tb.getD v false = true) (hn : v ∉ dn) : CSrch u L tb (v :: dn) :=
  ⟨h.len, List.nodup_cons.2 ⟨hn, h.nd⟩, fun x hx => by
    rcases List.mem_cons.1 hx with rfl | hx
    · exact hv
    · exact h.sub x hx, h.ok⟩
theorem nodup_le : ∀ (n : Nat) (xs : List Nat), xs.Nodup → (∀ x ∈ xs, x < n) → xs.length ≤ n
  | 0, [], _, _ => Nat.le_refl _
  | 0, x :: _, _, h => absurd (h x List.mem_cons_self) (by omega)
  | n + 1, xs, hn, h => by
    by_cases hm : n ∈ xs
    · have h1 := nodup_le n (xs.erase n) (hn.erase n) (fun x hx => by
        have h2 := h x (List.mem_of_mem_erase hx)
        have h3 : x ≠ n := fun e => by
          subst e
          exact (List.Nodup.not_mem_erase hn) hx
        omega)
      rw [List.length_erase_of_mem hm] at h1
      omega
    · have h1 := nodup_le n xs hn (fun x hx => by
        have h2 := h x hx
        have h3 : x ≠ n := fun e => hm (e ▸ hx)
        omega)
      omega
theorem get_lt {tb : List Bool} {v : Nat} (h : tb.getD v false = true) : v < tb.length := by
  rcases Nat.lt_or_ge v tb.length with h1 | h1
  · exact h1
  · rw [List.getD_eq_getElem?_getD, List.getElem?_eq_none h1] at h; simp at h
theorem CSrch.few {u : List (Int × Int)} {L : List Int} {tb : List Bool} {dn : List Nat} (h : CSrch u L tb dn) : dn.length ≤ u.length :=
  nodup_le _ _ h.nd (fun x hx => h.len ▸ get_lt (h.sub x hx))
theorem CSrch.end_ {u : List (Int × Int)} {L : List Int} {tb : List Bool} {dn : List Nat} (h : CSrch u L tb dn) (hr : ∀ l ∈ L, CFound tb l) (hk : ∀ v ∈ dn, Kids u tb v) (hn : ∀ v, tb.getD v false = true → v ∈ dn) : tb = supF u L :=
  sup_eq h.len (fun v _ => ⟨h.ok v, fun hh => hh.least (p := fun v => tb.getD v false = true) (fun l hl h2 => hr l hl h2) (fun v hv => ⟨fun h2 => (hk v (hn v hv)).1 h2, fun h2 => (hk v (hn v hv)).2 h2⟩)⟩)
open Go.RowKit

theorem make_uses (n : Nat) (h : n ≤ 1000000) (wx : World) : (Instr.makeSlice 97 (.int .i64 (n : Int)) (.int .i64 (n : Int))).run Try.prog wx = .ok (.slice (some ⟨wx.heap.size, 0, none⟩) n n) (wx.alloc (.cells (madeCells #[Value.int .i64 0, Value.int .i64 0] (n * 2)) 125)) := by
  obtain ⟨i0, hi0, hz0, hz1, hz2⟩ := info_of' pair_info
  have := run_make (P := Try.prog) wx 97 125 i0 (.agg #[.int .i64 0, .int .i64 0]) Try.underlying97 hi0 hz0 .i64 .i64 n n (by omega) (by omega) (by rw [hz2]; omega) (by omega)
  rw [hz1] at this
  simpa [Value.cells] using this
theorem build_one (a : Int) (w : World) : (Instr.build 125 #[(0, .int .i64 a)]).run Try.prog w = .ok (.agg #[.int .i64 a, .int .i64 0]) w := run_build w _ _ _ (by kernel_rfl)
structure MidU (w0 w : World) (bx g : Nat) (cs : Array Value) (u : List (Int × Int)) : Prop where
  below : Below w0.heap.size w0 w
  box : Blk w bx 29 cs
  prs : Prs w g u
theorem MidU.alloc {w0 w : World} {bx g : Nat} {cs : Array Value} {u : List (Int × Int)} (h : MidU w0 w bx g cs u) (o : Obj) : MidU w0 (w.alloc o) bx g cs u :=
  ⟨h.below.alloc h.below.size o, h.box.alloc o, Blk.alloc h.prs o⟩
theorem MidU.set_ {w0 w : World} {bx g : Nat} {cs : Array Value} {u : List (Int × Int)} (h : MidU w0 w bx g cs u) (hg : w0.heap.size ≤ g) (hne : bx ≠ g) {i : Nat} (hi : i < u.length) (p : Int × Int) : MidU w0 ((w.setCell ⟨g, i * 2, none⟩ (.int .i64 p.1)).setCell ⟨g, i * 2 + 1, none⟩ (.int .i64 p.2)) bx g cs (u.set i p) :=
  ⟨(h.below.setCell hg _).setCell hg _, Blk.far (Blk.far h.box hne _) hne _, h.prs.set_ hi p⟩
theorem take_more {α : Type} {xs : List α} {k : Nat} {x : α} (h : xs[k]? = some x) : xs.take (k + 1) = xs.take k ++ [x] := by
  rw [List.take_add_one, h]; rfl

set_option maxHeartbeats 4000000 in
set_option maxRecDepth 100000 in
theorem withinStep_any (w : World) (V : CV) (C : Circ) (h : C.In w V) (hm0 : 0 ≤ C.max) (hm : C.max ≤ 16384) (hal : C.ands.length ≤ 16384) (hfit : ∀ z ∈ C.ands, FitT C.max z) :
    Calls Try.prog 86 #[V.val C.max] w fun e w' => ∃ g, e = .returned (.slice (some ⟨g, 0, none⟩) (C.max.toNat + 1) (C.max.toNat + 1)) ∧ w.heap.size ≤ g ∧ Below w.heap.size w w' ∧ Prs w' g (withU C) := by
  obtain ⟨m, hmm⟩ : ∃ m : Nat, C.max = (m : Int) := ⟨C.max.toNat, by omega⟩
  have HWU : Hid (withU C = laid (fun z : Tri => vOf z.1) (fun z => z.2) C.ands (List.replicate (m + 1) (0, 0))) := Lib.hid (by unfold withU; rw [hmm]; rfl)
  rw [hmm] at hm hfit ⊢
  rw [show ((m : Int).toNat) = m by omega]
  clear hm0
  have hmk := make_uses (m + 1) (by omega)
  push_cast at hmk
  have HM : Hid (MidU w ((w.alloc (.cells (V.cells m) 29)).alloc (.cells (madeCells #[Value.int .i64 0, Value.int .i64 0] ((m + 1) * 2)) 125)) w.heap.size (w.heap.size + 1) (V.cells m) (List.replicate (m + 1) (0, 0))) := by
    refine Lib.hid ⟨((Below.refl _ _).alloc (Nat.le_refl _) _).alloc (by simp) _, (Blk.new _ _ _).alloc _, ?_⟩
    have := new_pairs (w.alloc (.cells (V.cells m) 29)) (m + 1)
    simpa using this
  obtain ⟨AA, cA, eA, _, _, hA⟩ := h.a
  obtain ⟨Vi, Vl, Vo, Vb, Vc, Vj, Vf, Va, Vs, Vt⟩ := V
  simp only at eA
  subst eA
  have HA := Lib.hid hA
  have HFIT := Lib.hid hfit
  clear hA h hfit hmm
  have h8 := HM.out.box.cell 8
  simp at h8
  generalize hn : C.ands.length = n at *
  have HN := Lib.hid hn
  clear hn
  go_enter Try.func86, Try.ntmps86
  go_wp2
  go_loopw [13] (fun i wr => ∃ k : Nat, k ≤ n ∧ i = .int .i64 k ∧ MidU w wr w.heap.size (w.heap.size + 1) _ (laid (fun z : Tri => vOf z.1) (fun z => z.2) (C.ands.take k) (List.replicate (m + 1) (0, 0)))) (fun i _ => n - (intOf i).toNat)
  case atStart => exact ⟨0, Nat.zero_le _, rfl, HM.out⟩
  case round =>
    obtain ⟨k, hk, rfl, hmid⟩ := hrel
    have HMM := Lib.hid hmid
    clear hmid
    by_cases hlt : k < n
    · have hx := List.getElem?_eq_getElem (l := C.ands) (i := k) (by rw [HN.out]; exact hlt)
      generalize C.ands[k]'(by rw [HN.out]; exact hlt) = x at hx
      obtain ⟨b, off, rfl, hb, hcell⟩ := HA.out k x hx
      have HX := Lib.hid hx
      have hxo := HFIT.out x (List.mem_of_getElem? HX.out)
      clear hx
      obtain ⟨x0, x1, x2⟩ := x
      have h0 := (HMM.out.below.cell (p := ⟨b, off + (k * 3 + 0), none⟩) hb).trans (hcell 0 _ rfl)
      have h1 := (HMM.out.below.cell (p := ⟨b, off + (k * 3 + 1), none⟩) hb).trans (hcell 1 _ rfl)
      have h2 := (HMM.out.below.cell (p := ⟨b, off + (k * 3 + 2), none⟩) hb).trans (hcell 2 _ rfl)
      simp only [Nat.add_zero, ← Nat.add_assoc] at h0 h1 h2
      clear hcell
      obtain ⟨⟨a1, a2⟩, _, _⟩ := hxo
      simp only at a1 a2
      have hq := tdiv_nn (b := 2) a1
      have hq0 : 0 ≤ x0 / 2 := by omega
      have hq1 : x0 / 2 < (m : Int) + 1 := by omega
      have hq3 : IntKind.i64.wrap (x0 / 2) = x0 / 2 := i64_small (by omega) (by omega)
      have hpl := Blk.lt HMM.out.prs
      have hlen : (laid (fun z : Tri => vOf z.1) (fun z => z.2) (C.ands.take k) (List.replicate (m + 1) ((0 : Int), (0 : Int)))).length = m + 1 := by rw [laid_len, List.length_replicate]
      have HST := Lib.hid (HMM.out.set_ (i := (x0 / 2).toNat) (by omega) (by omega) (by rw [hlen]; omega) (x1, x2))
      obtain ⟨pv, hpv⟩ : ∃ p, (laid (fun z : Tri => vOf z.1) (fun z => z.2) (C.ands.take k) (List.replicate (m + 1) ((0 : Int), (0 : Int))))[(x0 / 2).toNat]? = some p := ⟨_, List.getElem?_eq_getElem (by rw [hlen]; omega)⟩
      obtain ⟨hp1, hp2⟩ := HMM.out.prs.cell hpv
      have hf1 := Blk.frozen HMM.out.prs ((x0 / 2).toNat * 2)
      have hf2 := Blk.frozen HMM.out.prs ((x0 / 2).toNat * 2 + 1)
      have hbld := build_two x1 x2
      clear hpv hlen
      have hk0 : (0 : Int) ≤ (k : Int) := by omega
      have hk1 : (k : Int) < (n : Int) := by omega
      go_wp2
      go_roundw
      case rel => exact ⟨k + 1, by omega, by go_num, by rw [take_more HX.out, laid_snoc]; exact HST.out.alloc _⟩
      case measure => simp [intOf]; omega
    · have : k = n := by omega
      subst this
      go_wp2
      go_ret
      refine ⟨_, rfl, by omega, HMM.out.below, ?_⟩
      have := HMM.out.prs
      rw [List.take_of_length_le (by rw [HN.out]; exact Nat.le_refl _)] at this
      rw [HWU.out]
      exact this

set_option maxHeartbeats 4000000 in
set_option maxRecDepth 100000 in
theorem throughLatches_any (w : World) (V : CV) (C : Circ) (h : C.In w V) (hm0 : 0 ≤ C.max) (hm : C.max ≤ 16384) (hal : C.ands.length ≤ 16384) (hll : C.latches.length ≤ 16384) (hfit : ∀ z ∈ C.ands, FitT C.max z) (hfl : ∀ z ∈ C.latches, 0 ≤ z.1 ∧ z.1 / 2 ≤ C.max) :
    Calls Try.prog 54 #[V.val C.max] w fun e w' => ∃ g, e = .returned (.slice (some ⟨g, 0, none⟩) (C.max.toNat + 1) (C.max.toNat + 1)) ∧ w.heap.size ≤ g ∧ Below w.heap.size w w' ∧ Prs w' g (thruU C) := by
  have hb0 := (Below.refl w.heap.size w).alloc (Nat.le_refl _) (.cells (V.cells C.max) 29)
  have hbx0 := Blk.new w 29 (V.cells C.max)
  have HCALL := Lib.hid (withinStep_any (w.alloc (.cells (V.cells C.max) 29)) V C (h.below hb0) hm0 hm hal hfit)
  obtain ⟨m, hmm⟩ : ∃ m : Nat, C.max = (m : Int) := ⟨C.max.toNat, by omega⟩
  have HTU : Hid (thruU C = laid (fun z : Tri => vOf z.1) (fun z => (z.2.1, (0 : Int))) C.latches (withU C)) := Lib.hid rfl
  have HWL : Hid ((withU C).length = m + 1) := Lib.hid (by rw [withU_len, hmm]; omega)
  rw [hmm] at hm hfit hfl hb0 hbx0 HCALL ⊢
  rw [show ((m : Int).toNat) = m by omega] at HCALL ⊢
  obtain ⟨AA, cA, eA, _, _, hA⟩ := h.l
  obtain ⟨Vi, Vl, Vo, Vb, Vc, Vj, Vf, Va, Vs, Vt⟩ := V
  simp only at eA
  subst eA
  have HA := Lib.hid hA
  have HFIT := Lib.hid hfl
  have HB0 := Lib.hid hb0
  have HX0 := Lib.hid hbx0
  clear hA h hfit hmm hfl hm0 hal hb0 hbx0
  generalize hn : C.latches.length = n at *
  have HN := Lib.hid hn
  clear hn
  go_enter Try.func54, Try.ntmps54
  go_wp2_with (go_at_call 86; refine HCALL.out.mono ?_; rintro e w2 ⟨g, rfl, hg, hb2, hprs⟩; have HM : Hid (MidU w w2 w.heap.size g _ (withU C)) := Lib.hid ⟨bt HB0.out (by simp) hb2, HX0.out.below hb2 (by simp), hprs⟩; clear hprs hb2 HX0 HB0; have h2 := HM.out.box.cell 2; simp at h2; simp at hg)
  go_loopw [11] (fun i wr => ∃ k : Nat, k ≤ n ∧ i = .int .i64 k ∧ MidU w wr w.heap.size g _ (laid (fun z : Tri => vOf z.1) (fun z => (z.2.1, (0 : Int))) (C.latches.take k) (withU C))) (fun i _ => n - (intOf i).toNat)
  case atStart => exact ⟨0, Nat.zero_le _, rfl, HM.out⟩
  case round =>
    obtain ⟨k, hk, rfl, hmid⟩ := hrel
    have HMM := Lib.hid hmid
    clear hmid
    by_cases hlt : k < n
    · have hx := List.getElem?_eq_getElem (l := C.latches) (i := k) (by rw [HN.out]; exact hlt)
      generalize C.latches[k]'(by rw [HN.out]; exact hlt) = x at hx
      obtain ⟨b, off, rfl, hb, hcell⟩ := HA.out k x hx
      have HX := Lib.hid hx
      have hxo := HFIT.out x (List.mem_of_getElem? HX.out)
      clear hx
      obtain ⟨x0, x1, x2⟩ := x
      have h0 := (HMM.out.below.cell (p := ⟨b, off + (k * 3 + 0), none⟩) hb).trans (hcell 0 _ rfl)
      have h1 := (HMM.out.below.cell (p := ⟨b, off + (k * 3 + 1), none⟩) hb).trans (hcell 1 _ rfl)
      have h2 := (HMM.out.below.cell (p := ⟨b, off + (k * 3 + 2), none⟩) hb).trans (hcell 2 _ rfl)
      simp only [Nat.add_zero, ← Nat.add_assoc] at h0 h1 h2
      clear hcell
      obtain ⟨a1, a2⟩ := hxo
      simp only at a1 a2
      have hq := tdiv_nn (b := 2) a1
      have hq0 : 0 ≤ x0 / 2 := by omega
      have hq1 : x0 / 2 < (m : Int) + 1 := by omega
      have hq3 : IntKind.i64.wrap (x0 / 2) = x0 / 2 := i64_small (by omega) (by omega)
      have hpl := Blk.lt HMM.out.prs
      have hlen : (laid (fun z : Tri => vOf z.1) (fun z => (z.2.1, (0 : Int))) (C.latches.take k) (withU C)).length = m + 1 := by rw [laid_len, HWL.out]
      have HST := Lib.hid (HMM.out.set_ (i := (x0 / 2).toNat) (by omega) (by omega) (by rw [hlen]; omega) (x1, 0))
      obtain ⟨pv, hpv⟩ : ∃ p, (laid (fun z : Tri => vOf z.1) (fun z => (z.2.1, (0 : Int))) (C.latches.take k) (withU C))[(x0 / 2).toNat]? = some p := ⟨_, List.getElem?_eq_getElem (by rw [hlen]; omega)⟩
      obtain ⟨hp1, hp2⟩ := HMM.out.prs.cell hpv
      have hf1 := Blk.frozen HMM.out.prs ((x0 / 2).toNat * 2)
      have hf2 := Blk.frozen HMM.out.prs ((x0 / 2).toNat * 2 + 1)
      have hbld := build_one x1
      clear hpv hlen
      have hk0 : (0 : Int) ≤ (k : Int) := by omega
      have hk1 : (k : Int) < (n : Int) := by omega
      go_wp2
      go_roundw
      case rel => exact ⟨k + 1, by omega, by go_num, by rw [take_more HX.out, laid_snoc]; exact HST.out.alloc _⟩
      case measure => simp [intOf]; omega
    · have : k = n := by omega
      subst this
      go_wp2
      go_ret
      refine ⟨_, rfl, by omega, HMM.out.below, ?_⟩
      have := HMM.out.prs
      rw [List.take_of_length_le (by rw [HN.out]; exact Nat.le_refl _)] at this
      rw [HTU.out]
      exact this
end Go.Proofs.Ytagffmalmkcboaa

namespace Go.Proofs.Ytagffmalmkcboaa
open Go.RowKit Go.Maps

theorem keyI : Keyed Try.prog 3 := int_keyed Try.underlying3
theorem wfI {x : Int} (h0 : 0 ≤ x) (h1 : x ≤ 1000000) : (Lit.int .i64 x).wf = true := by simp [Lit.wf, IntKind.min, IntKind.max, IntKind.signed, IntKind.bits]; omega
theorem keyI_of {x : Int} (h0 : 0 ≤ x) (h1 : x ≤ 1000000) : keyOf Try.prog 3 (.int .i64 x) = some (.int .i64 x) := keyOf_int_mk Try.underlying3 (wfI h0 h1)
def Todo (D : DataW Unit) (tb : List Bool) (dn : List Nat) : Prop := IsMap D ∧ ∀ x : Int, Maps.has D (.int .i64 x) = true ↔ 0 ≤ x ∧ tb.getD x.toNat false = true ∧ x.toNat ∉ dn
theorem todo_none (n : Nat) : Todo (.map []) (List.replicate n false) [] := ⟨isMap_empty, fun x => by
  constructor
  · intro h; cases h
  · rintro ⟨_, h, _⟩
    rw [List.getD_eq_getElem?_getD, List.getElem?_replicate] at h
    split at h <;> simp at h⟩
theorem Todo.put {D : DataW Unit} {tb : List Bool} {dn : List Nat} (h : Todo D tb dn) {l : Int} (hl : 0 ≤ l / 2) (h2 : 2 ≤ l) (hn : vOf l < tb.length) (hd : vOf l ∉ dn) (d : DataW Unit) : Todo (D.put (.int .i64 (l / 2)) d) (addF tb l) dn := by
  refine ⟨h.1.put _ _, fun x => ?_⟩
  rw [addF_get hn]
  by_cases e : x = l / 2
  · subst e
    rw [has_put_same h.1 (by trivial)]
    exact ⟨fun _ => ⟨hl, Or.inr ⟨h2, rfl⟩, hd⟩, fun _ => rfl⟩
  · rw [has_put_other (by intro e2; injection e2 with _ e2; exact e e2), h.2 x]
    constructor
    · rintro ⟨a, b, c⟩; exact ⟨a, Or.inl b, c⟩
    · rintro ⟨a, b | ⟨_, b⟩, c⟩
      · exact ⟨a, b, c⟩
      · exfalso
        unfold vOf at b
        omega
theorem Todo.del {D : DataW Unit} {tb : List Bool} {dn : List Nat} (h : Todo D tb dn) {v : Nat} : Todo (D.del (.int .i64 (v : Int))) tb (v :: dn) := by
  refine ⟨h.1.del _, fun x => ?_⟩
  by_cases e : x = (v : Int)
  · subst e
    rw [has_del_same]
    simp
  · rw [has_del_other (by intro e2; injection e2 with _ e2; exact e e2), h.2 x]
    constructor
    · rintro ⟨a, b, c⟩
      refine ⟨a, b, fun hm => ?_⟩
      rcases List.mem_cons.1 hm with hm | hm
      · omega
      · exact c hm
    · rintro ⟨a, b, c⟩
      exact ⟨a, b, fun hm => c (List.mem_cons_of_mem _ hm)⟩
theorem Todo.same {D : DataW Unit} {tb : List Bool} {dn : List Nat} (h : Todo D tb dn) {tb' : List Bool} (e : tb' = tb) : Todo D tb' dn := by rw [e]; exact h
theorem addF_small {tb : List Bool} {l : Int} (h : l < 2) : addF tb l = tb := by unfold addF; rw [if_pos h]
theorem addF_there {tb : List Bool} {l : Int} (h : tb.getD (vOf l) false = true) : addF tb l = tb := by
  unfold addF
  split
  · rfl
  · have hl := get_lt h
    apply List.ext_getElem?
    intro i
    rw [List.getElem?_set]
    split
    · rename_i e
      subst e
      rw [List.getD_eq_getElem?_getD, List.getElem?_eq_getElem hl] at h
      simp only [Option.getD_some] at h
      rw [List.getElem?_eq_getElem hl, h]
    · rfl

abbrev srchV (g n m : Nat) : Value := .agg #[.slice (some ⟨g, 0, none⟩) n n, .map (some m)]

set_option maxHeartbeats 4000000 in
set_option maxRecDepth 100000 in
theorem add_any (w : World) (g m n cnt : Nat) (tb : List Bool) (D : DataW Unit) (dn : List Nat) (l : Int) (ht : Tab w g tb) (hn : tb.length = n) (hn1 : n ≤ 20000) (hm : w.ownsMap Try.prog 3 (unitElem (H := Unit)) m cnt D) (hc : cnt ≤ 100000) (hD : Todo D tb dn) (hl : 0 ≤ l) (hl1 : vOf l < n) (hdn : ∀ v ∈ dn, tb.getD v false = true) :
    Calls Try.prog 84 #[srchV g n m, .int .i64 l] w fun e w' => e = .returned (.tuple #[]) ∧ But (fun k => k = g ∨ k = m) w w' ∧ Tab w' g (addF tb l) ∧ ∃ D', w'.ownsMap Try.prog 3 (unitElem (H := Unit)) m (cnt + 1) D' ∧ Todo D' (addF tb l) dn := by
  have hgm : g ≠ m := fun e => by
    obtain ⟨es, clock, h1, _⟩ := hm
    subst e
    unfold Tab Blk at ht
    rw [h1] at ht
    cases ht
  have hbut0 : But (fun k => k = g ∨ k = m) w (w.alloc (.cells #[.slice (some ⟨g, 0, none⟩) n n, .map (some m)] 122)) := (But.refl _ _).alloc _
  have hbx := Blk.new w 122 #[.slice (some ⟨g, 0, none⟩) n n, .map (some m)]
  have hb0 := hbx.cell 0
  have hb1 := hbx.cell 1
  simp only [List.getElem?_toArray, List.getElem?_cons_succ, List.getElem?_cons_zero] at hb0 hb1
  have ht1 : Tab (w.alloc (.cells #[.slice (some ⟨g, 0, none⟩) n n, .map (some m)] 122)) g tb := Blk.alloc ht _
  have hm1 := hm.alloc (.cells #[.slice (some ⟨g, 0, none⟩) n n, .map (some m)] 122)
  have hgl := Blk.lt ht
  have hv : vOf l = (l / 2).toNat := rfl
  have hq := tdiv_nn (b := 2) hl
  have hq0 : 0 ≤ l / 2 := by omega
  have hq1 : l / 2 < (n : Int) := by omega
  have hq3 : IntKind.i64.wrap (l / 2) = l / 2 := i64_small (by omega) (by omega)
  obtain ⟨x, hx⟩ : ∃ x, tb[(l / 2).toNat]? = some x := ⟨_, List.getElem?_eq_getElem (by omega)⟩
  have hcell := ht1.cell hx
  have hgx : tb.getD (vOf l) false = x := by rw [List.getD_eq_getElem?_getD, hv, hx]; rfl
  have HD := Lib.hid hD
  have HGX := Lib.hid hgx
  have HDN := Lib.hid hdn
  have HB := Lib.hid hbut0
  have HV := Lib.hid hv
  have HM1 := Lib.hid hm1
  have HT1 := Lib.hid ht1
  have HM0 := Lib.hid hm
  have HT0 := Lib.hid ht
  have HLEN := Lib.hid hn
  have HL1 := Lib.hid hl1
  have HKEY := Lib.hid (keyI_of hq0 (show l / 2 ≤ 1000000 by omega))
  clear hD hgx hdn hbut0 hv hm ht hm1 ht1 hx hn hl1
  by_cases h2 : l < 2
  · have e0 : l / 2 = 0 := by omega
    rw [e0] at hq hq3 hcell
    clear e0 hq0 hq1
    go_enter Try.func84, Try.ntmps84
    go_wp2
    refine bodyPost_ret (results_none rfl _ _ _) rfl ?_
    exact ⟨rfl, HB.out, by rw [addF_small h2]; exact HT1.out, D, HM1.out.mono (Nat.le_succ _), HD.out.same (addF_small h2)⟩
  · have hq4 : ¬ l / 2 = 0 := by omega
    have hq5 : ¬ (0 : Int) = l / 2 := by omega
    cases x with
    | true =>
      go_enter Try.func84, Try.ntmps84
      go_wp2
      refine bodyPost_ret (results_none rfl _ _ _) rfl ?_
      exact ⟨rfl, HB.out, by rw [addF_there HGX.out]; exact HT1.out, D, HM1.out.mono (Nat.le_succ _), HD.out.same (addF_there HGX.out)⟩
    | false =>
      have hfr := Blk.frozen HT1.out (l / 2).toNat
      have HT2 : Hid (Tab ((w.setCell ⟨g, (l / 2).toNat, none⟩ (.bool true)).alloc (.cells #[.slice (some ⟨g, 0, none⟩) n n, .map (some m)] 122)) g (tb.set (l / 2).toNat true)) := Lib.hid (Blk.alloc (HT0.out.set_ (l / 2).toNat true) _)
      have HM2 := Lib.hid ((HM0.out.setCell (a := ⟨g, (l / 2).toNat, none⟩) (show m ≠ g from fun e => hgm e.symm) (.bool true)).alloc (.cells #[.slice (some ⟨g, 0, none⟩) n n, .map (some m)] 122))
      have HB2 : Hid (But (fun k => k = g ∨ k = m) w ((w.setCell ⟨g, (l / 2).toNat, none⟩ (.bool true)).alloc (.cells #[.slice (some ⟨g, 0, none⟩) n n, .map (some m)] 122))) := Lib.hid (((But.refl _ _).set_ (p := ⟨g, (l / 2).toNat, none⟩) (Or.inl (Or.inl rfl)) (.bool true)).alloc _)
      have hb3 := (Blk.new (w.setCell ⟨g, (l / 2).toNat, none⟩ (.bool true)) 122 #[.slice (some ⟨g, 0, none⟩) n n, .map (some m)]).cell 1
      simp only [List.getElem?_toArray, List.getElem?_cons_succ, List.getElem?_cons_zero] at hb3
      rw [show (w.setCell ⟨g, (l / 2).toNat, none⟩ (.bool true)).heap.size = w.heap.size by simp [World.setCell]] at hb3
      have hbl : ∀ wx, (Instr.build 136 #[]).run Try.prog wx = .ok (.agg #[]) wx := fun wx => run_build wx _ _ _ (by kernel_rfl)
      clear hbx
      go_enter Try.func84, Try.ntmps84
      go_wp2_with (first | (at_mapUpdate; refine wpList_mapUpdate_own _ rfl _ _ _ 120 rfl 3 136 keyI Try.underlying120 (unitElem (H := Unit)) m cnt _ rfl HM2.out (by unfold maxLen; omega) _ _ _ rfl rfl HKEY.out _ [] unitElem_mk ?_; intro w4 hown4 hgrow4) | go_in)
      go_end0
      have hset : (addF tb l) = tb.set (l / 2).toNat true := by unfold addF; rw [if_neg (by omega), HV.out]
      refine ⟨rfl, HB2.out.grown hgrow4 (fun k hk => by cases hk; exact Or.inl (Or.inr rfl)), ?_, _, hown4, ?_⟩
      · rw [hset]
        exact Blk.grown HT2.out hgrow4 (by intro e; cases e; exact hgm rfl)
      · refine HD.out.put hq0 (by omega) (by rw [HLEN.out]; exact HL1.out) (fun hmem => ?_) _
        have := HDN.out _ hmem
        rw [HGX.out] at this
        cases this

set_option maxHeartbeats 4000000 in
set_option maxRecDepth 100000 in
theorem take_any (w : World) (g m n cnt : Nat) (tb : List Bool) (D : DataW Unit) (dn : List Nat) (hm : w.ownsMap Try.prog 3 (unitElem (H := Unit)) m cnt D) (hD : Todo D tb dn) :
    Calls Try.prog 85 #[srchV g n m] w fun e w' => But (fun k => k = m) w w' ∧ ((∃ (v : Nat) (D' : DataW Unit), e = .returned (.tuple #[.int .i64 v, .bool true]) ∧ tb.getD v false = true ∧ v ∉ dn ∧ w'.ownsMap Try.prog 3 (unitElem (H := Unit)) m cnt D' ∧ Todo D' tb (v :: dn)) ∨
      (e = .returned (.tuple #[.int .i64 0, .bool false]) ∧ (∀ v, tb.getD v false = true → v ∈ dn) ∧ w'.ownsMap Try.prog 3 (unitElem (H := Unit)) m cnt D)) := by
  have hbx := Blk.new w 122 #[.slice (some ⟨g, 0, none⟩) n n, .map (some m)]
  have HB := Lib.hid (show But (fun k => k = m) w (w.alloc (.cells #[.slice (some ⟨g, 0, none⟩) n n, .map (some m)] 122)) from (But.refl _ _).alloc _)
  have HM1 := Lib.hid (hm.alloc (.cells #[.slice (some ⟨g, 0, none⟩) n n, .map (some m)] 122))
  have hml := hm.lt
  have hb1 := hbx.cell 1
  simp only [List.getElem?_toArray, List.getElem?_cons_succ, List.getElem?_cons_zero] at hb1
  have HBX := Lib.hid hbx
  have HD := Lib.hid hD
  clear hm hD hbx
  go_enter Try.func85, Try.ntmps85
  go_wp2_with (first
    | (at_range; refine wpList_range_own _ rfl _ 120 rfl 3 136 keyI Try.underlying120 _ m cnt _ rfl HM1.out ?_; intro w0 hrg0 hg0 hs0)
    | go_in)
  go_frame
  have HB0 := Lib.hid (HB.out.grown hg0 (fun k hk => by cases hk))
  have hb2 := (HBX.out.grown hg0 (by simp)).cell 1
  simp only [List.getElem?_toArray, List.getElem?_cons_succ, List.getElem?_cons_zero] at hb2
  have HBX0 := Lib.hid (HBX.out.grown hg0 (by simp))
  obtain ⟨r, hr⟩ : ∃ r, (w.alloc (.cells #[.slice (some ⟨g, 0, none⟩) n n, .map (some m)] 122)).heap.size = r := ⟨_, rfl⟩
  rw [hr] at hrg0 ⊢
  refine wp_loop_rounds 1 ?_
  rw [rounds_succ]
  go_wp2_with (first
    | (at_next; refine wpList_next_ranges _ rfl _ rfl 3 keyI (unitElem (H := Unit)) (Value.int .i64) (fun _ : Unit => Value.agg #[]) (fun key kl hk => by obtain ⟨x, rfl, _⟩ := Maps.keyOf_int_inv Try.underlying3 hk; exact ⟨x, rfl⟩) (fun v y hv => ⟨(), (unitElem_inv hv).1⟩) m r cnt _ _ _ rfl hrg0 ?_ ?_)
    | go_in)
  · intro h0 hl0
    go_wp2
    go_ret2
    refine ⟨HB0.out, Or.inr ⟨rfl, fun v hv => ?_, hrg0.owns⟩⟩
    rcases Classical.em (v ∈ dn) with h | h
    · exact h
    · have := (HD.out.2 (v : Int)).2 ⟨by omega, by simpa using hv, by simpa using h⟩
      rw [hl0 _] at this
      cases this
  · intro x c kl y w1 cnt1 hk hl hu hat hrg1 hlt hg1 hs1 hen
    obtain ⟨x', ex, rfl, hwx⟩ := Maps.keyOf_int_inv Try.underlying3 hk
    cases ex
    have HB1 := Lib.hid (HB0.out.grown hg1 (fun k hk => by cases hk; exact Or.inr (by rw [← hr]; simp)))
    have hb4 := (HBX0.out.grown hg1 (by rw [← hr]; simp)).cell 1
    simp only [List.getElem?_toArray, List.getElem?_cons_succ, List.getElem?_cons_zero] at hb4
    obtain ⟨h1, h2, h3⟩ := (HD.out.2 x).1 hl
    obtain ⟨v, rfl⟩ : ∃ v : Nat, x = (v : Int) := ⟨x.toNat, by omega⟩
    have HF := Lib.hid (And.intro h2 h3)
    clear h2 h3 hb2 hb1
    go_wp2_with (first
      | (at_delete; refine wpList_delete_ranges _ rfl _ _ 120 3 rfl 136 keyI Try.underlying120 _ m r cnt _ _ _ rfl hrg1 _ _ rfl hk ?_; intro w2 cnt2 hrg2 hle hturn; go_frame)
      | go_in)
    go_ret2
    refine ⟨HB1.out.grown hturn.grown (fun k hk => by cases hk; exact Or.inl rfl), Or.inl ⟨v, _, rfl, by simpa using HF.out.1, by simpa using HF.out.2, hrg2.owns, HD.out.del⟩⟩

theorem bool_infoC : (Try.prog.info? 4).map (fun i => (i.zero, i.size, i.bytes)) = some (some (.bool false), 1, 1) := by kernel_rfl
theorem make_supp (n : Nat) (h : n ≤ 1000000) (wx : World) : (Instr.makeSlice 69 (.int .i64 (n : Int)) (.int .i64 (n : Int))).run Try.prog wx = .ok (.slice (some ⟨wx.heap.size, 0, none⟩) n n) (wx.alloc (.cells (madeCells #[Value.bool false] n) 4)) := by
  obtain ⟨i0, hi0, hz0, hz1, hz2⟩ := info_of' bool_infoC
  have := run_make (P := Try.prog) wx 69 4 i0 (.bool false) Try.underlying69 hi0 hz0 .i64 .i64 n n (by omega) (by omega) (by rw [hz2]; omega) (by omega)
  rw [hz1] at this
  simpa [Value.cells] using this
theorem new_supp (w : World) (n : Nat) : Tab (w.alloc (.cells (madeCells #[Value.bool false] n) 4)) w.heap.size (List.replicate n false) := by
  unfold Tab
  have : madeCells #[Value.bool false] n = ((List.replicate n false).map Value.bool).toArray := by
    apply Array.toList_inj.1
    rw [toList_madeCells_one]; simp
  rw [← this]
  exact Blk.new _ _ _

structure SS (w0 wr : World) (bx g m n cnt : Nat) (tb : List Bool) (D : DataW Unit) (dn : List Nat) : Prop where
  below : Below w0.heap.size w0 wr
  box : Blk wr bx 122 #[.slice (some ⟨g, 0, none⟩) n n, .map (some m)]
  tab : Tab wr g tb
  map : wr.ownsMap Try.prog 3 (unitElem (H := Unit)) m cnt D
  todo : Todo D tb dn
theorem SS.bm {w0 wr : World} {bx g m n cnt : Nat} {tb : List Bool} {D : DataW Unit} {dn : List Nat} (h : SS w0 wr bx g m n cnt tb D dn) : bx ≠ m ∧ g ≠ m ∧ bx ≠ g := by
  obtain ⟨es, clock, h1, _⟩ := h.map
  have hb := h.box
  have ht := h.tab
  refine ⟨fun e => ?_, fun e => ?_, hb.ne_ ht (by decide)⟩
  · subst e; unfold Blk at hb; rw [h1] at hb; cases hb
  · subst e; unfold Tab Blk at ht; rw [h1] at ht; cases ht
theorem SS.add {w0 wr w2 : World} {bx g m n cnt cnt2 : Nat} {tb tb2 : List Bool} {D D2 : DataW Unit} {dn dn2 : List Nat} (h : SS w0 wr bx g m n cnt tb D dn) (hg : w0.heap.size ≤ g) (hm : w0.heap.size ≤ m) (hb : But (fun k => k = g ∨ k = m) wr w2) (ht : Tab w2 g tb2) (ho : w2.ownsMap Try.prog 3 (unitElem (H := Unit)) m cnt2 D2) (hd : Todo D2 tb2 dn2) : SS w0 w2 bx g m n cnt2 tb2 D2 dn2 :=
  ⟨h.below.trans (hb.below h.below.size (fun k hk => by rcases hk with rfl | rfl <;> assumption)), hb.blk h.box (by have := h.bm; omega), ht, ho, hd⟩

theorem take_any2 (w : World) (g m n cnt : Nat) (tb : List Bool) (D : DataW Unit) (dn : List Nat) (hm : w.ownsMap Try.prog 3 (unitElem (H := Unit)) m cnt D) (hD : Todo D tb dn) :
    Calls Try.prog 85 #[srchV g n m] w fun e w' => But (fun k => k = m) w w' ∧ ∃ (v : Nat) (b : Bool) (D' : DataW Unit) (dn' : List Nat), e = .returned (.tuple #[.int .i64 v, .bool b]) ∧ w'.ownsMap Try.prog 3 (unitElem (H := Unit)) m cnt D' ∧ Todo D' tb dn' ∧
      ((b = true ∧ tb.getD v false = true ∧ v ∉ dn ∧ dn' = v :: dn) ∨ (b = false ∧ dn' = dn ∧ ∀ v, tb.getD v false = true → v ∈ dn)) :=
  (take_any w g m n cnt tb D dn hm hD).mono (by
    rintro e w' ⟨hb, ⟨v, D', rfl, h1, h2, h3, h4⟩ | ⟨rfl, h1, h2⟩⟩
    · exact ⟨hb, v, true, D', _, rfl, h3, h4, Or.inl ⟨rfl, h1, h2, rfl⟩⟩
    · exact ⟨hb, 0, false, D, dn, rfl, h2, hD, Or.inr ⟨rfl, rfl, h1⟩⟩)
def LP (u : List (Int × Int)) (L : List Int) (tb : List Bool) (dn : List Nat) (v : Nat) (b : Bool) : Prop :=
  CSrch u L tb dn ∧ (∀ l ∈ L, CFound tb l) ∧ ((b = true ∧ v < u.length ∧ ∃ dn1, dn = v :: dn1 ∧ ∀ x ∈ dn1, Kids u tb x) ∨ (b = false ∧ (∀ x ∈ dn, Kids u tb x) ∧ ∀ v, tb.getD v false = true → v ∈ dn))
theorem lp_take {u : List (Int × Int)} {L : List Int} {tb : List Bool} {dn dn' : List Nat} {v : Nat} {b : Bool} (hs : CSrch u L tb dn) (hr : ∀ l ∈ L, CFound tb l) (hk : ∀ x ∈ dn, Kids u tb x)
    (hc : (b = true ∧ tb.getD v false = true ∧ v ∉ dn ∧ dn' = v :: dn) ∨ (b = false ∧ dn' = dn ∧ ∀ v, tb.getD v false = true → v ∈ dn)) : LP u L tb dn' v b := by
  rcases hc with ⟨rfl, h1, h2, rfl⟩ | ⟨rfl, rfl, h1⟩
  · exact ⟨hs.take h1 h2, hr, Or.inl ⟨rfl, by rw [← hs.len]; exact get_lt h1, dn, rfl, hk⟩⟩
  · exact ⟨hs, hr, Or.inr ⟨rfl, hk, h1⟩⟩
theorem LP.last {u : List (Int × Int)} {L : List Int} {tb : List Bool} {dn : List Nat} {v : Nat} (h : LP u L tb dn v false) : tb = supF u L := by
  obtain ⟨hs, hr, ⟨h0, _⟩ | ⟨_, hk, hn⟩⟩ := h
  · cases h0
  · exact hs.end_ hr hk hn
theorem SS.take {w0 wr w2 : World} {bx g m n cnt cnt2 : Nat} {tb : List Bool} {D D2 : DataW Unit} {dn dn2 : List Nat} (h : SS w0 wr bx g m n cnt tb D dn) (hm : w0.heap.size ≤ m) (hb : But (fun k => k = m) wr w2) (ho : w2.ownsMap Try.prog 3 (unitElem (H := Unit)) m cnt2 D2) (hd : Todo D2 tb dn2) : SS w0 w2 bx g m n cnt2 tb D2 dn2 :=
  ⟨h.below.trans (hb.below h.below.size (fun k hk => by rw [hk]; exact hm)), hb.blk h.box (by have := h.bm; omega), hb.blk h.tab (by have := h.bm; omega), ho, hd⟩
set_option maxHeartbeats 4000000 in
set_option maxRecDepth 100000 in
theorem supportOf_any (w : World) (gu n : Nat) (u : List (Int × Int)) (v : Value) (L : List Int) (hu : Prs w gu u) (hn : u.length = n) (hn1 : n ≤ 20000) (hv : RowE 1 encI w v L) (hll : L.length ≤ 60000) (hf : CFits u L) :
    Calls Try.prog 53 #[.slice (some ⟨gu, 0, none⟩) n n, v] w fun e w' => ∃ g, e = .returned (.slice (some ⟨g, 0, none⟩) n n) ∧ w.heap.size ≤ g ∧ Below w.heap.size w w' ∧ Tab w' g (supF u L) := by
  obtain ⟨A, c, rfl, _, _, hA⟩ := hv
  have hgu := Blk.lt hu
  have hmm := @run_makeMap Try.prog
  have hmk := make_supp n (by omega)
  have hb1 := ((Below.refl w.heap.size w).alloc (Nat.le_refl _) (.cells (madeCells #[Value.bool false] n) 4))
  have ht1 := new_supp w n
  have hm1 := World.ownsMap_made (P := Try.prog) (k := 3) (R := unitElem (H := Unit)) (w.alloc (.cells (madeCells #[Value.bool false] n) 4))
  have hx1 := Blk.new ((w.alloc (.cells (madeCells #[Value.bool false] n) 4)).alloc (.map #[] 0)) 122 #[.slice (some ⟨w.heap.size, 0, none⟩) n n, .map (some (w.heap.size + 1))]
  have HS0 : Hid (SS w (((w.alloc (.cells (madeCells #[Value.bool false] n) 4)).alloc (.map #[] 0)).alloc (.cells #[.slice (some ⟨w.heap.size, 0, none⟩) n n, .map (some (w.heap.size + 1))] 122)) (w.heap.size + 1 + 1) w.heap.size (w.heap.size + 1) n 0 (List.replicate n false) (.map []) []) := by
    refine Lib.hid ⟨(hb1.alloc (by simp) _).alloc (by simp; omega) _, by simpa using hx1, (Blk.alloc (Blk.alloc ht1 _) _), by simpa using hm1.alloc _, todo_none n⟩
  have HSR : Hid (CSrch u L (List.replicate n false) []) := Lib.hid ⟨by rw [List.length_replicate, hn], List.nodup_nil, fun v hv => by simp at hv, fun v hv => by
    rw [List.getD_eq_getElem?_getD, List.getElem?_replicate] at hv
    split at hv <;> simp at hv⟩
  have HU := Lib.hid hu
  have HA := Lib.hid hA
  have HF := Lib.hid hf
  have HN := Lib.hid hn
  clear hu hA hf hn hb1 ht1 hm1 hx1
  generalize hl : L.length = nl at *
  have HL := Lib.hid hl
  clear hl
  obtain ⟨wg, hwg⟩ : ∃ k, w.heap.size = k := ⟨_, rfl⟩
  rw [hwg] at HS0 hgu
  go_enter Try.func53, Try.ntmps53
  go_wp2
  go_loopg [19] nl (fun j iv wx => ∃ (k : Nat) (tb : List Bool) (D : DataW Unit), k ≤ nl ∧ j = nl - k ∧ iv = .int .i64 k ∧ SS w wx (wg + 1 + 1) wg (wg + 1) n k tb D [] ∧ CSrch u L tb [] ∧ ∀ l ∈ L.take k, CFound tb l)
  case atStart => exact ⟨0, _, _, Nat.zero_le _, rfl, rfl, HS0.out, HSR.out, fun l hl => by simp at hl⟩
  case round =>
    obtain ⟨k, tb, D, hk, rfl, rfl, hss, hsr, hfd⟩ := hrel
    have HMM := Lib.hid (And.intro hss (And.intro hsr hfd))
    clear hss hsr hfd
    by_cases hlt : k < nl
    · have hx := List.getElem?_eq_getElem (l := L) (i := k) (by rw [HL.out]; exact hlt)
      generalize L[k]'(by rw [HL.out]; exact hlt) = x at hx
      obtain ⟨b, off, rfl, hb, hcell⟩ := HA.out k x hx
      have h0 := (HMM.out.1.below.cell (p := ⟨b, off + (k * 1 + 0), none⟩) hb).trans (hcell 0 _ rfl)
      simp only [Nat.add_zero, Nat.mul_one] at h0
      have HX := Lib.hid hx
      have hfx := HF.out.1 x (List.mem_of_getElem? hx)
      clear hcell hx
      have hk0 : (0 : Int) ≤ (k : Int) := by omega
      have hk1 : (k : Int) < (nl : Int) := by omega
      have HADD := Lib.hid (add_any wr wg (wg + 1) n k tb D [] x HMM.out.1.tab (by rw [HMM.out.2.1.len, HN.out]) hn1 HMM.out.1.map (by omega) HMM.out.1.todo hfx.1 (by rw [← HN.out]; exact hfx.2) (fun v hv => by simp at hv))
      have HBOX := Lib.hid (show wr.heap[wg + 1 + 1]? = some (.cells #[.slice (some ⟨wg, 0, none⟩) n n, .map (some (wg + 1))] 122 (0, 0)) from HMM.out.1.box)
      go_wp2_with (first
        | (refine wpList_load_row rfl 122 (.tmp 5) rfl (wg + 1 + 1) rfl 122 #[.slice (some ⟨wg, 0, none⟩) n n, .map (some (wg + 1))] (0, 0) _ HBOX.out Try.underlying122 rfl (by kernel_rfl) ?_)
        | (go_at_call 84; refine HADD.out.mono ?_; rintro e w2 ⟨rfl, hb2, ht2, D2, ho2, hd2⟩; have HB2 := Lib.hid hb2; have HT2 := Lib.hid ht2; have HO2 := Lib.hid ho2; have HD2 := Lib.hid hd2; clear hb2 ht2 ho2 hd2))
      go_roundg (nl - (k + 1))
      case rel =>
        have hvl : vOf x < tb.length := by rw [HMM.out.2.1.len]; exact hfx.2
        refine ⟨k + 1, _, _, by omega, rfl, by go_num, HMM.out.1.add (by omega) (by omega) HB2.out HT2.out HO2.out HD2.out, HMM.out.2.1.add hfx.2 (fun h2 => Hang.root (List.mem_of_getElem? HX.out) h2), fun l hl => ?_⟩
        rw [take_more HX.out] at hl
        rcases List.mem_append.1 hl with hl | hl
        · exact (HMM.out.2.2 l hl).add hvl
        · rw [List.mem_singleton.1 hl]
          exact found_add hvl
      case measure => omega
    · have : k = nl := by omega
      subst this
      have HRT : Hid (∀ l ∈ L, CFound tb l) := Lib.hid (fun l hl => HMM.out.2.2 l (by rw [List.take_of_length_le (by rw [HL.out]; exact Nat.le_refl _)]; exact hl))
      have HSS := Lib.hid HMM.out.1
      have HSR := Lib.hid HMM.out.2.1
      clear HMM HA
      have HBOX := Lib.hid (show wr.heap[wg + 1 + 1]? = some (.cells #[.slice (some ⟨wg, 0, none⟩) n n, .map (some (wg + 1))] 122 (0, 0)) from HSS.out.box)
      have HTAKE := Lib.hid (take_any2 wr wg (wg + 1) n k tb D [] HSS.out.map HSS.out.todo)
      go_wp2_with (first
        | (refine wpList_load_row rfl 122 (.tmp 5) rfl (wg + 1 + 1) rfl 122 #[.slice (some ⟨wg, 0, none⟩) n n, .map (some (wg + 1))] (0, 0) _ HBOX.out Try.underlying122 rfl (by kernel_rfl) ?_)
        | (go_at_call 85; refine HTAKE.out.mono ?_; rintro e w2 ⟨hb2, v, b, D2, dn2, rfl, ho2, hd2, hcase⟩; have HB2 := Lib.hid hb2; have HO2 := Lib.hid ho2; have HD2 := Lib.hid hd2; have HC2 := Lib.hid hcase; clear hb2 ho2 hd2 hcase))
      have HSS2 : Hid (SS w w2 (wg + 1 + 1) wg (wg + 1) n k tb D2 dn2) := Lib.hid (HSS.out.take (by omega) HB2.out HO2.out HD2.out)
      have HLP : Hid (LP u L tb dn2 v b) := Lib.hid (lp_take HSR.out HRT.out (fun x hx => by simp at hx) HC2.out)
      have HK : Hid (k + 2 * b.toNat ≤ k + 2 * dn2.length) := Lib.hid (by rcases HC2.out with ⟨rfl, _, _, rfl⟩ | ⟨rfl, _, _⟩ <;> simp)
      clear HSS HSR HRT HTAKE HBOX HB2 HO2 HD2 HC2
      go_loopg [8, 9] (if b = true then n + 1 - dn2.length else 0) (fun j vv bv wx => ∃ (v : Nat) (b : Bool) (tb : List Bool) (D : DataW Unit) (dn : List Nat) (cnt : Nat), j = (if b = true then n + 1 - dn.length else 0) ∧ vv = .int .i64 v ∧ bv = .bool b ∧ cnt + 2 * b.toNat ≤ k + 2 * dn.length ∧ SS w wx (wg + 1 + 1) wg (wg + 1) n cnt tb D dn ∧ LP u L tb dn v b)
      case atStart => exact ⟨v, b, tb, D2, dn2, k, rfl, rfl, rfl, HK.out, HSS2.out, HLP.out⟩
      case round =>
        clear HSS2 HLP HK
        obtain ⟨y, bb, tc, E, dm, cnt, rfl, rfl, rfl, hcnt, hss, hlp⟩ := hrel
        have HSS := Lib.hid hss
        have HLP := Lib.hid hlp
        have hdl : dm.length ≤ n := by rw [← HN.out]; exact hlp.1.few
        clear hss hlp
        cases bb with
        | false =>
          have hb0 := HSS.out.box.cell 0
          simp only [List.getElem?_toArray, List.getElem?_cons_zero] at hb0
          go_wp2
          go_ret
          refine ⟨_, rfl, by omega, HSS.out.below, ?_⟩
          have := HLP.out.last
          rw [← this]
          exact HSS.out.tab
        | true =>
          obtain ⟨hsr, hrt, hc⟩ := HLP.out
          rcases hc with ⟨_, hvn, dn1, rfl, hkids⟩ | ⟨h, _⟩
          rotate_left
          · cases h
          obtain ⟨⟨p1, p2⟩, hp⟩ : ∃ p, u[y]? = some p := ⟨_, List.getElem?_eq_getElem hvn⟩
          have HSR := Lib.hid hsr
          have HRT := Lib.hid hrt
          have HKD := Lib.hid hkids
          have hpd : u.getD y (0, 0) = (p1, p2) := by rw [List.getD_eq_getElem?_getD, hp]; rfl
          have HPD := Lib.hid hpd
          have hfit := HF.out.2 y
          rw [hpd] at hfit
          obtain ⟨⟨f1, f2⟩, f3, f4⟩ := hfit
          simp only at f1 f2 f3 f4
          obtain ⟨hc1, hc2⟩ := HU.out.cell hp
          have hgw : gu < w.heap.size := by omega
          have hc3 := (HSS.out.below.cell (p := ⟨gu, y * 2, none⟩) hgw).trans hc1
          have hc4 := (HSS.out.below.cell (p := ⟨gu, y * 2 + 1, none⟩) hgw).trans hc2
          simp only at hc3 hc4
          have hv0 : (0 : Int) ≤ (y : Int) := by omega
          have hv1 : (y : Int) < (n : Int) := by have := HN.out; omega
          clear hc1 hc2 hp hpd hsr hrt hkids HLP
          simp only [List.length_cons] at hcnt hdl
          have hcnt' : cnt ≤ k + 2 * dn1.length := by simp at hcnt; omega
          have HHY : Hid (Hang u L y) := Lib.hid (HSR.out.ok y (HSR.out.sub y List.mem_cons_self))
          clear hcnt
          go_wp2
          go_loopg [42] 2 (fun j iv wx => ∃ (q cn : Nat) (td : List Bool) (E2 : DataW Unit), q ≤ 2 ∧ j = 2 - q ∧ iv = .int .i64 q ∧ cn ≤ k + 2 * dn1.length + q ∧ SS w wx (wg + 1 + 1) wg (wg + 1) n cn td E2 (y :: dn1) ∧ CSrch u L td (y :: dn1) ∧ (∀ l ∈ L, CFound td l) ∧ (∀ x ∈ dn1, Kids u td x) ∧ (1 ≤ q → CFound td p1) ∧ (2 ≤ q → CFound td p2))
          case atStart => exact ⟨0, cnt, tc, E, by omega, rfl, rfl, by omega, HSS.out, HSR.out, HRT.out, HKD.out, fun h => absurd h (by omega), fun h => absurd h (by omega)⟩
          case round =>
            clear HSS HSR HRT HKD
            obtain ⟨q, cn, td, E2, hq, rfl, rfl, hcn, hss, hsr⟩ := hrel
            have HMM := Lib.hid hss
            have HS2 := Lib.hid hsr
            clear hss hsr
            have HBOX := Lib.hid (show wr.heap[wg + 1 + 1]? = some (.cells #[.slice (some ⟨wg, 0, none⟩) n n, .map (some (wg + 1))] 122 (0, 0)) from HMM.out.box)
            by_cases hlt : q < 2
            · rcases (show q = 0 ∨ q = 1 by omega) with rfl | rfl
              · have HADD := Lib.hid (add_any wr wg (wg + 1) n cn td E2 (y :: dn1) p1 HMM.out.tab (by rw [HS2.out.1.len, HN.out]) hn1 HMM.out.map (by omega) HMM.out.todo f1 (by rw [← HN.out]; exact f2) HS2.out.1.sub)
                go_wp2_with (first
                  | (refine wpList_load_row rfl 122 (.tmp 5) rfl (wg + 1 + 1) rfl 122 #[.slice (some ⟨wg, 0, none⟩) n n, .map (some (wg + 1))] (0, 0) _ HBOX.out Try.underlying122 rfl (by kernel_rfl) ?_)
                  | (go_at_call 84; refine HADD.out.mono ?_; rintro e w2 ⟨rfl, hb2, ht2, D2, ho2, hd2⟩; have HB2 := Lib.hid hb2; have HT2 := Lib.hid ht2; have HO2 := Lib.hid ho2; have HD2 := Lib.hid hd2; clear hb2 ht2 ho2 hd2))
                go_roundg (2 - (0 + 1))
                case rel => exact ⟨0 + 1, _, _, _, by omega, by omega, by simp, by omega, HMM.out.add (by omega) (by omega) HB2.out HT2.out HO2.out HD2.out, HS2.out.1.add f2 (fun h2 => by have h3 := Hang.left (u := u) (L := L) (v := y) HHY.out (by rw [HPD.out]; exact h2); rw [HPD.out] at h3; exact h3), fun l hl => (HS2.out.2.1 l hl).add (by rw [HS2.out.1.len]; exact f2), fun x hx => (HS2.out.2.2.1 x hx).add (by rw [HS2.out.1.len]; exact f2), fun _ => found_add (by rw [HS2.out.1.len]; exact f2), fun h => absurd h (by omega)⟩
                case measure => omega
              · have HADD := Lib.hid (add_any wr wg (wg + 1) n cn td E2 (y :: dn1) p2 HMM.out.tab (by rw [HS2.out.1.len, HN.out]) hn1 HMM.out.map (by omega) HMM.out.todo f3 (by rw [← HN.out]; exact f4) HS2.out.1.sub)
                go_wp2_with (first
                  | (refine wpList_load_row rfl 122 (.tmp 5) rfl (wg + 1 + 1) rfl 122 #[.slice (some ⟨wg, 0, none⟩) n n, .map (some (wg + 1))] (0, 0) _ HBOX.out Try.underlying122 rfl (by kernel_rfl) ?_)
                  | (go_at_call 84; refine HADD.out.mono ?_; rintro e w2 ⟨rfl, hb2, ht2, D2, ho2, hd2⟩; have HB2 := Lib.hid hb2; have HT2 := Lib.hid ht2; have HO2 := Lib.hid ho2; have HD2 := Lib.hid hd2; clear hb2 ht2 ho2 hd2))
                go_roundg (2 - (1 + 1))
                case rel => exact ⟨1 + 1, _, _, _, by omega, by omega, by simp, by omega, HMM.out.add (by omega) (by omega) HB2.out HT2.out HO2.out HD2.out, HS2.out.1.add f4 (fun h2 => by have h3 := Hang.right (u := u) (L := L) (v := y) HHY.out (by rw [HPD.out]; exact h2); rw [HPD.out] at h3; exact h3), fun l hl => (HS2.out.2.1 l hl).add (by rw [HS2.out.1.len]; exact f4), fun x hx => (HS2.out.2.2.1 x hx).add (by rw [HS2.out.1.len]; exact f4), fun h => (HS2.out.2.2.2.1 (by omega)).add (by rw [HS2.out.1.len]; exact f4), fun _ => found_add (by rw [HS2.out.1.len]; exact f4)⟩
                case measure => omega
            · have : q = 2 := by omega
              subst this
              have HTAKE := Lib.hid (take_any2 wr wg (wg + 1) n cn td E2 (y :: dn1) HMM.out.map HMM.out.todo)
              go_wp2_with (first
                | (refine wpList_load_row rfl 122 (.tmp 5) rfl (wg + 1 + 1) rfl 122 #[.slice (some ⟨wg, 0, none⟩) n n, .map (some (wg + 1))] (0, 0) _ HBOX.out Try.underlying122 rfl (by kernel_rfl) ?_)
                | (go_at_call 85; refine HTAKE.out.mono ?_; rintro e w2 ⟨hb2, z, bz, D3, dn3, rfl, ho2, hd2, hcase⟩; have HB2 := Lib.hid hb2; have HO2 := Lib.hid ho2; have HD2 := Lib.hid hd2; have HC2 := Lib.hid hcase; clear hb2 ho2 hd2 hcase))
              have HLP2 : Hid (LP u L td dn3 z bz) := Lib.hid (lp_take HS2.out.1 HS2.out.2.1 (fun x hx => by
                rcases List.mem_cons.1 hx with rfl | hx
                · unfold Kids
                  rw [HPD.out]
                  exact ⟨HS2.out.2.2.2.1 (by omega), HS2.out.2.2.2.2 (by omega)⟩
                · exact HS2.out.2.2.1 x hx) HC2.out)
              go_roundg (if bz = true then n + 1 - dn3.length else 0)
              case rel => exact ⟨z, bz, td, D3, dn3, cn, rfl, rfl, rfl, by rcases HC2.out with ⟨rfl, _, _, rfl⟩ | ⟨rfl, rfl, _⟩ <;> simp <;> omega, HMM.out.take (by omega) HB2.out HO2.out HD2.out, HLP2.out⟩
              case measure => rcases HC2.out with ⟨rfl, _, _, rfl⟩ | ⟨rfl, rfl, _⟩ <;> simp <;> omega
end Go.Proofs.Ytagffmalmkcboaa

namespace Go.Proofs.Ytagffmalmkcboaa
open Go.RowKit Go.Maps

theorem fitT_of {C : Circ} (h : Right C) : ∀ z ∈ C.ands, FitT C.max z := fun z hz => by
  obtain ⟨⟨a, b⟩, ⟨c, d⟩, ⟨e, f⟩⟩ := h.a z hz
  exact ⟨⟨by omega, b⟩, ⟨c, d⟩, ⟨e, f⟩⟩
theorem fitL_of {C : Circ} (h : Right C) : ∀ z ∈ C.latches, 0 ≤ z.1 ∧ z.1 / 2 ≤ C.max := fun z hz => by
  obtain ⟨⟨a, b⟩, _⟩ := h.l z hz
  exact ⟨by omega, b⟩
theorem support_of (w : World) (V : CV) (C : Circ) (h : C.In w V) (hr : Right C) :
    Calls Try.prog 54 #[V.val C.max] w fun e w' => ∃ g, e = .returned (.slice (some ⟨g, 0, none⟩) (C.max.toNat + 1) (C.max.toNat + 1)) ∧ w.heap.size ≤ g ∧ Below w.heap.size w w' ∧ Prs w' g (thruU C) :=
  throughLatches_any w V C h hr.m0 hr.m1 hr.na hr.nl (fitT_of hr) (fitL_of hr)

end Go.Proofs.Ytagffmalmkcboaa

/- Frames: the statements' own example: trestlelaw16.works answers true in whatever world; cost. -/
import Derived.Test.YtdodhbfplglbkaaEncX
namespace Go.Proofs.Ytdodhbfplglbkaa
open Go.RowKit

/-- A formula's literal, moved behind so many variables. -/
def movF (a x : Int) : Int := if 1 < x then x + a else if x < -1 then x - a else x
/-- The formula's literal of a circuit's at a step. -/
def litT (m t l : Int) : Int := movF (t * m) (litC l)
theorem movF_neg (a x : Int) (_h : x ≠ 0) : movF a (-x) = -(movF a x) := by
  unfold movF
  by_cases h1 : 1 < x
  · rw [if_pos h1, if_neg (by omega), if_pos (by omega)]; omega
  · rw [if_neg h1]
    by_cases h2 : x < -1
    · rw [if_pos h2, if_pos (by omega)]; omega
    · rw [if_neg h2, if_neg (by omega), if_neg (by omega)]
theorem litT_def {m t l : Int} (h : 0 ≤ l) : litT m t l = if l % 2 = 1 then -(movF (t * m) (l / 2 + 1)) else movF (t * m) (l / 2 + 1) := by
  unfold litT litC
  by_cases h1 : l % 2 = 1
  · rw [if_pos h1, if_pos h1, movF_neg _ _ (by omega)]
  · rw [if_neg h1, if_neg h1]
theorem mul_in {t m : Int} (h0 : 0 ≤ t) (h1 : t ≤ 600) (h2 : 0 ≤ m) (h3 : m ≤ 16384) : 0 ≤ t * m ∧ t * m ≤ 9830400 :=
  ⟨Int.mul_nonneg h0 h2, by have := Int.mul_le_mul h1 h3 h2 (by omega); omega⟩
theorem movF_in {a x : Int} (h0 : 0 ≤ a) (h1 : a ≤ 9830400) (h2 : -1000000 ≤ x) (h3 : x ≤ 1000000) : -11000000 ≤ movF a x ∧ movF a x ≤ 11000000 := by
  unfold movF; split
  · omega
  · split <;> omega
/-- A frame's value and its cells. -/
def frmC (V : CV) (m t : Int) : Array Value := #[.int .i64 m, V.i, V.l, V.o, V.b, V.c, V.j, V.f, V.a, V.s, V.t, .int .i64 t]
abbrev frmV (V : CV) (m t : Int) : Value := .agg (frmC V m t)
/-- The circuit without what its runs do not hang on. -/
def runC (C : Circ) : Circ := { C with outputs := [], bads := [], justice := [], fairness := [], symbols := [], comments := [] }
def runV (V : CV) : CV := ⟨V.i, V.l, .slice none 0 0, .slice none 0 0, V.c, .slice none 0 0, .slice none 0 0, V.a, .slice none 0 0, .slice none 0 0⟩
theorem runC_in {w : World} {V : CV} {C : Circ} (h : C.In w V) : (runC C).In w (runV V) :=
  ⟨h.i, h.l, RowE.nil w none 0 (by simp), RowE.nil w none 0 (by simp), h.c, ⟨[], RowE.nil w none 0 (by simp), rfl, fun i u zs hu _ => by simp at hu⟩, RowE.nil w none 0 (by simp), h.a, RowE.nil w none 0 (by simp), RowE.nil w none 0 (by simp)⟩
theorem runC_ok {C : Circ} (h : C.Ok) : (runC C).Ok :=
  ⟨h.max, h.i, h.l, fun _ hz => (nomatch hz), fun _ hz => (nomatch hz), h.c, fun _ hz => (nomatch hz), fun _ hz => (nomatch hz), h.a, fun _ hz => (nomatch hz), fun _ hz => (nomatch hz)⟩
theorem thenE_parts {a b : Int × Int} (h : (thenE a b).2 = 0) : a.2 = 0 ∧ b.2 = 0 := by
  unfold thenE at h
  by_cases h1 : a.2 = 0
  · rw [if_pos h1] at h; exact ⟨h1, h⟩
  · rw [if_neg h1] at h; exact absurd h h1
theorem thenE_both {a b : Int × Int} (h1 : a.2 = 0) (h2 : b.2 = 0) : (thenE a b).2 = 0 := by
  unfold thenE
  rw [if_pos h1]; exact h2
theorem runC_check {C : Circ} (h : (checkR C).2 = 0) : (checkR (runC C)).2 = 0 := by
  obtain ⟨h1, h2, h3, h4, h5, h6⟩ := check_parts h
  have hr := right_of h
  have e1 : sizesE (runC C) = 0 := sizesE_ok (by have := hr.m0; have := hr.m1; show ¬ (C.max < 0 ∨ 16384 < C.max); omega) (fun x hx => by
    have g := hr.ni; have g2 := hr.nl; have g3 := hr.nc; have g4 := hr.na
    simp [sizesL, runC, show sumW ([] : List (List Int)) = 0 from rfl] at hx
    omega)
  have e3 : (usedR (runC C) (defR C (tab0 C.max.toNat)).2).2 = 0 := by
    unfold usedR at h3
    obtain ⟨a1, h3⟩ := thenE_parts h3
    obtain ⟨_, h3⟩ := thenE_parts h3
    obtain ⟨_, h3⟩ := thenE_parts h3
    obtain ⟨a4, h3⟩ := thenE_parts h3
    obtain ⟨_, h3⟩ := thenE_parts h3
    obtain ⟨_, a7⟩ := thenE_parts h3
    exact thenE_both a1 (thenE_both rfl (thenE_both rfl (thenE_both a4 (thenE_both rfl (thenE_both rfl a7)))))
  unfold checkR
  rw [if_neg (by rw [e1]; decide), if_neg (by show ¬ (defR C (tab0 C.max.toNat)).1.2 ≠ 0; rw [h2]; decide), if_neg (by show ¬ (usedR (runC C) (defR C (tab0 C.max.toNat)).2).2 ≠ 0; rw [e3]; decide), if_neg (by show ¬ firstF (usesC C) ≠ -1; rw [h4]; decide), if_neg (by show ¬ (0 : Int) ≠ 0; decide)]
  rfl
set_option maxHeartbeats 1000000 in
set_option maxRecDepth 100000 in
theorem moved_any (w : World) (V : CV) (m t x : Int) (h0 : 0 ≤ m) (h1 : m ≤ 16384) (h2 : 0 ≤ t) (h3 : t ≤ 600) (h4 : -1000000 ≤ x) (h5 : x ≤ 1000000) :
    Calls Try.prog 59 #[frmV V m t, .int .i64 x] w fun e w' => e = .returned (.int .i64 (movF (t * m) x)) ∧ Below w.heap.size w w' := by
  obtain ⟨g0, g1⟩ := mul_in h2 h3 h0 h1
  have hw : IntKind.i64.wrap (t * m) = t * m := i64_in (by omega)
  have hw1 : IntKind.i64.wrap (x + t * m) = x + t * m := i64_in (by omega)
  have hw2 : IntKind.i64.wrap (x - t * m) = x - t * m := i64_in (by omega)
  have hb : Below w.heap.size w (w.alloc (.cells (frmC V m t) 85)) := (Below.refl _ _).alloc (Nat.le_refl _) _
  have HB := Lib.hid hb
  have HX := Lib.hid (Blk.new w 85 (frmC V m t))
  obtain ⟨W0, hW0⟩ : ∃ W0, w.alloc (.cells (frmC V m t) 85) = W0 := ⟨_, rfl⟩
  rw [hW0] at HB HX
  have HW0 := Lib.hid hW0
  have c0 := HX.out.cell 0
  have c11 := HX.out.cell 11
  simp only [frmC, List.getElem?_toArray, List.getElem?_cons_zero, List.getElem?_cons_succ] at c0 c11
  clear hb hW0
  by_cases k1 : 1 < x
  · have e : movF (t * m) x = x + t * m := if_pos k1
    rw [e]
    clear e
    go_enter Try.func59, Try.ntmps59
    go_upto_region 1 with (fail)
    rw [HW0.out]
    go_wp2
    go_ret
    exact ⟨rfl, HB.out⟩
  · by_cases k2 : x < -1
    · have e : movF (t * m) x = x - t * m := by unfold movF; rw [if_neg k1, if_pos k2]
      rw [e]
      clear e
      go_enter Try.func59, Try.ntmps59
      go_upto_region 1 with (fail)
      rw [HW0.out]
      go_wp2
      go_ret
      exact ⟨rfl, HB.out⟩
    · have e : movF (t * m) x = x := by unfold movF; rw [if_neg k1, if_neg k2]
      rw [e]
      clear e
      go_enter Try.func59, Try.ntmps59
      go_upto_region 1 with (fail)
      rw [HW0.out]
      go_wp2
      go_ret
      exact ⟨rfl, HB.out⟩
set_option maxHeartbeats 1000000 in
set_option maxRecDepth 100000 in
theorem at_any (w : World) (V : CV) (m t l : Int) (h0 : 0 ≤ m) (h1 : m ≤ 16384) (h2 : 0 ≤ t) (h3 : t ≤ 600) (h4 : 0 ≤ l) (h5 : l ≤ 1000000) :
    Calls Try.prog 113 #[frmV V m t, .int .i64 l] w fun e w' => e = .returned (.int .i64 (litT m t l)) ∧ Below w.heap.size w w' := by
  obtain ⟨g0, g1⟩ := mul_in h2 h3 h0 h1
  have hq := tdiv_nn (b := 2) h4
  have hm : l.tmod 2 = l % 2 := Int.tmod_eq_emod_of_nonneg h4
  have hw : IntKind.i64.wrap (l / 2) = l / 2 := i64_in (by omega)
  have hw1 : IntKind.i64.wrap (l / 2 + 1) = l / 2 + 1 := i64_in (by omega)
  obtain ⟨k0, k1⟩ := movF_in (x := l / 2 + 1) g0 g1 (by omega) (by omega)
  have HMV := Lib.hid (fun wx => moved_any wx V m t (l / 2 + 1) h0 h1 h2 h3 (by omega) (by omega))
  rw [litT_def h4]
  obtain ⟨y, hy⟩ : ∃ y, movF (t * m) (l / 2 + 1) = y := ⟨_, rfl⟩
  rw [hy] at HMV k0 k1 ⊢
  have hw2 : IntKind.i64.wrap (-y) = -y := i64_in (by omega)
  have HB : Hid (Below w.heap.size w (w.alloc (.cells (frmC V m t) 85))) := Lib.hid ((Below.refl _ _).alloc (Nat.le_refl _) _)
  have HX := Lib.hid (Blk.new w 85 (frmC V m t))
  obtain ⟨W0, hW0⟩ : ∃ W0, w.alloc (.cells (frmC V m t) 85) = W0 := ⟨_, rfl⟩
  rw [hW0] at HB HX
  have HW0 := Lib.hid hW0
  have HBX : Hid (W0.heap[w.heap.size]? = some (.cells (frmC V m t) 85 (0, 0))) := Lib.hid HX.out
  clear hW0 hy g0 g1
  by_cases h6 : l % 2 = 1
  · rw [if_pos h6]
    go_enter Try.func113, Try.ntmps113
    go_upto_region 1 with (fail)
    rw [HW0.out]
    go_wp2_with (first
      | (refine wpList_load_row rfl 85 (.tmp 2) rfl w.heap.size rfl 85 (frmC V m t) (0, 0) _ HBX.out Try.underlying85 rfl (by kernel_rfl) ?_)
      | (go_at_call 59; refine (HMV.out _).mono ?_; rintro e w1 ⟨rfl, hb1⟩; have HB1 := Lib.hid hb1; clear hb1))
    go_ret
    exact ⟨rfl, bt HB.out (Nat.le_refl _) HB1.out⟩
  · have h7 : l % 2 = 0 := by omega
    rw [if_neg h6]
    go_enter Try.func113, Try.ntmps113
    go_upto_region 1 with (fail)
    rw [HW0.out]
    go_wp2_with (first
      | (refine wpList_load_row rfl 85 (.tmp 2) rfl w.heap.size rfl 85 (frmC V m t) (0, 0) _ HBX.out Try.underlying85 rfl (by kernel_rfl) ?_)
      | (go_at_call 59; refine (HMV.out _).mono ?_; rintro e w1 ⟨rfl, hb1⟩; have HB1 := Lib.hid hb1; clear hb1))
    go_ret
    exact ⟨rfl, bt HB.out (Nat.le_refl _) HB1.out⟩
end Go.Proofs.Ytdodhbfplglbkaa

namespace Go.Proofs.Ytdodhbfplglbkaa
open Go.RowKit

theorem frmC_one {w : World} {V : CV} {C : Circ} (h : C.In w V) (m t : Int) : (frmC V m t).all (·.oneCell') = true := by
  obtain ⟨A0, c0, e0, _⟩ := h.i
  obtain ⟨A1, c1, e1, _⟩ := h.l
  obtain ⟨A2, c2, e2, _⟩ := h.o
  obtain ⟨A3, c3, e3, _⟩ := h.b
  obtain ⟨A4, c4, e4, _⟩ := h.c
  obtain ⟨us, ⟨A5, c5, e5, _⟩, _⟩ := h.j
  obtain ⟨A6, c6, e6, _⟩ := h.f
  obtain ⟨A7, c7, e7, _⟩ := h.a
  obtain ⟨A8, c8, e8, _⟩ := h.s
  obtain ⟨A9, c9, e9, _⟩ := h.t
  unfold frmC
  rw [e0, e1, e2, e3, e4, e5, e6, e7, e8, e9]
  simp [Value.oneCell']
theorem cv_oneF {w : World} {V : CV} {C : Circ} (h : C.In w V) (m : Int) : (V.cells m).all (·.oneCell') = true := by
  obtain ⟨A0, c0, e0, _⟩ := h.i
  obtain ⟨A1, c1, e1, _⟩ := h.l
  obtain ⟨A2, c2, e2, _⟩ := h.o
  obtain ⟨A3, c3, e3, _⟩ := h.b
  obtain ⟨A4, c4, e4, _⟩ := h.c
  obtain ⟨us, ⟨A5, c5, e5, _⟩, _⟩ := h.j
  obtain ⟨A6, c6, e6, _⟩ := h.f
  obtain ⟨A7, c7, e7, _⟩ := h.a
  obtain ⟨A8, c8, e8, _⟩ := h.s
  obtain ⟨A9, c9, e9, _⟩ := h.t
  unfold CV.cells
  rw [e0, e1, e2, e3, e4, e5, e6, e7, e8, e9]
  simp [Value.oneCell']
abbrev frm0 : Array Value := #[.int .i64 0, .slice none 0 0, .slice none 0 0, .slice none 0 0, .slice none 0 0, .slice none 0 0, .slice none 0 0, .slice none 0 0, .slice none 0 0, .slice none 0 0, .slice none 0 0, .int .i64 0]
abbrev cir0 : Array Value := #[.int .i64 0, .slice none 0 0, .slice none 0 0, .slice none 0 0, .slice none 0 0, .slice none 0 0, .slice none 0 0, .slice none 0 0, .slice none 0 0, .slice none 0 0, .slice none 0 0]
theorem newRowF (w : World) (old new : Array Value) (t : TypeId) : Below w.heap.size w ((w.alloc (.cells old t)).setRow w.heap.size new) ∧ ((w.alloc (.cells old t)).setRow w.heap.size new).heap[w.heap.size]? = some (.cells new t (0, 0)) ∧ ((w.alloc (.cells old t)).setRow w.heap.size new).heap.size = w.heap.size + 1 :=
  ⟨below_setRowE ((Below.refl _ _).alloc (Nat.le_refl _) _) (Nat.le_refl _), setRow_heap _ _ _ _ _ _ (Blk.new w t old), by simp⟩

set_option maxHeartbeats 2000000 in
set_option maxRecDepth 100000 in
theorem then_any (w : World) (V : CV) (m t : Int) (hone : (frmC V m (t + 1)).all (·.oneCell') = true) (h2 : 0 ≤ t) (h3 : t ≤ 600) :
    Calls Try.prog 75 #[frmV V m t] w fun e w' => e = .returned (frmV V m (t + 1)) ∧ Below w.heap.size w w' := by
  have hw : IntKind.i64.wrap (t + 1) = t + 1 := i64_in (by omega)
  have HONE := Lib.hid hone
  obtain ⟨W0, hW0⟩ : ∃ W0, (w.alloc (.cells (frmC V m t) 85)).alloc (.cells frm0 85) = W0 := ⟨_, rfl⟩
  have HB : Hid (Below w.heap.size w W0) := Lib.hid (by rw [← hW0]; exact ((Below.refl _ _).alloc (Nat.le_refl _) _).alloc (by simp) _)
  have HX : Hid (Blk W0 w.heap.size 85 (frmC V m t)) := Lib.hid (by rw [← hW0]; exact (Blk.new w _ _).alloc _)
  have HR : Hid (Blk W0 (w.heap.size + 1) 85 frm0) := Lib.hid (by
    rw [← hW0]
    have := Blk.new (w.alloc (.cells (frmC V m t) 85)) 85 frm0
    simpa using this)
  have HW0 := Lib.hid hW0
  obtain ⟨Vi, Vl, Vo, Vb, Vc, Vj, Vf, Va, Vs, Vt⟩ := V
  have c0 := HX.out.cell 0
  have c1 := HX.out.cell 1
  have c2 := HX.out.cell 2
  have c3 := HX.out.cell 3
  have c4 := HX.out.cell 4
  have c5 := HX.out.cell 5
  have c6 := HX.out.cell 6
  have c7 := HX.out.cell 7
  have c8 := HX.out.cell 8
  have c9 := HX.out.cell 9
  have c10 := HX.out.cell 10
  have c11 := HX.out.cell 11
  simp only [frmC, List.getElem?_toArray, List.getElem?_cons_zero, List.getElem?_cons_succ] at c0 c1 c2 c3 c4 c5 c6 c7 c8 c9 c10 c11
  clear hW0 hone
  go_enter Try.func75, Try.ntmps75
  go_upto_region 1 with (fail)
  rw [HW0.out]
  go_wp2_with (first
    | (refine wpList_buildTo rfl 85 #[(0, .tmp 4), (1, .tmp 7)] rfl (some 8) rfl (frmC ⟨Vi, Vl, Vo, Vb, Vc, Vj, Vf, Va, Vs, Vt⟩ m (t + 1)) (by kernel_rfl) ?_)
    | (refine wpList_store_row rfl 85 (.tmp 2) (.tmp 8) rfl (w.heap.size + 1) (frmC ⟨Vi, Vl, Vo, Vb, Vc, Vj, Vf, Va, Vs, Vt⟩ m (t + 1)) rfl rfl 85 frm0 HR.out (by kernel_rfl) rfl HONE.out ?_))
  refine bodyPost_ret (results_cell_row (fn := Try.f75) rfl _ _ (w.heap.size + 1) 85 (frmC ⟨Vi, Vl, Vo, Vb, Vc, Vj, Vf, Va, Vs, Vt⟩ m (t + 1)) (0, 0) _ rfl (setRow_heap _ _ _ _ _ _ HR.out) Try.underlying85 rfl (by kernel_rfl)) rfl ?_
  exact ⟨rfl, below_setRowE HB.out (by omega)⟩
end Go.Proofs.Ytdodhbfplglbkaa

namespace Go.Proofs.Ytdodhbfplglbkaa
open Go.RowKit

theorem rowE_dropF {E : Type} {s : Nat} {enc : E → List Value} {w : World} {b off n c : Nat} {zs : List E} (h : RowE s enc w (.slice (some ⟨b, off, none⟩) n c) zs) {k : Nat} (hk : k ≤ n) : RowE s enc w (.slice (some ⟨b, off + k * s, none⟩) (n - k) (c - k)) (zs.drop k) := by
  obtain ⟨A, c', e, h1, h2, h3⟩ := h
  injection e with e1 e2 e3
  subst e1 e2 e3
  refine ⟨_, c - k, by rw [List.length_drop], by rw [List.length_drop]; omega, by omega, fun i z hz => ?_⟩
  rw [List.getElem?_drop] at hz
  obtain ⟨b', off', e, hb, hc⟩ := h3 (k + i) z hz
  injection e with e
  injection e with e1 e2 _
  subst e1 e2
  refine ⟨b, _, rfl, hb, fun j u hu => ?_⟩
  rw [← hc j u hu]
  congr 2
  rw [Nat.add_mul]
  omega
/-- Clauses that a call hands out, to be read: each in a row of its own, no two share any. -/
structure Cls (w : World) (B : Nat) (v : Value) (us : List Value) (F : List (List Int)) : Prop where
  ul : us.length = F.length
  row : RowE 1 encV w v us
  each : ∀ (i : Nat) (u : Value) (zs : List Int), us[i]? = some u → F[i]? = some zs → w.ownsRow B 3 1 u zs.length (zs.flatMap encI)
  ap : ∀ (i j : Nat) (a b : Value), i < j → us[i]? = some a → us[j]? = some b → ApV a b
theorem CRow.cls {w : World} {B : Nat} {v : Value} {us : List Value} {F : List (List Int)} (h : CRow w B v us F) : Cls w B v us F :=
  ⟨h.ul, own_rowe lenV (by rw [flat_vals]; exact h.own), h.each, h.ap⟩
theorem Cls.below {w w' : World} {B : Nat} {v : Value} {us : List Value} {F : List (List Int)} (h : Cls w B v us F) (hb : Below w.heap.size w w') : Cls w' B v us F :=
  ⟨h.ul, h.row.below hb, fun i u zs hu hz => own_below (h.each i u zs hu hz) hb, h.ap⟩
theorem CRow.toD {w : World} {B : Nat} {v : Value} {us : List Value} {F : List (List Int)} (h : CRow w B v us F) : DRow w B v us F := ⟨h.ul, h.own, h.each⟩
theorem CRow.app {w w1 w2 : World} {B : Nat} {v v2 : Value} {us us2 : List Value} {F F2 : List (List Int)} (h : CRow w B v us F) (hb : Below w.heap.size w w1) (hBw : B ≤ w.heap.size) (hl : us2.length = F2.length)
    (hu : ∀ (i : Nat) (u : Value) (zs : List Int), us2[i]? = some u → F2[i]? = some zs → w1.ownsRow w.heap.size 3 1 u zs.length (zs.flatMap encI)) (hap : ∀ (i j : Nat) (a b : Value), i < j → us2[i]? = some a → us2[j]? = some b → ApV a b)
    (hg : w1.grownBy w2 v.ownBlock) (ho : w2.ownsRow B 81 1 v2 (us.length + us2.length) (us ++ us2)) : CRow w2 B v2 (us ++ us2) (F ++ F2) := by
  have hd := h.toD.app hb hBw hl hu hg ho
  refine ⟨hd.ul, hd.own, hd.each, fun i j a b hij ha hb' => ?_⟩
  have hul := h.ul
  by_cases hj : j < us.length
  · rw [List.getElem?_append_left hj] at hb'
    rw [List.getElem?_append_left (by omega)] at ha
    exact h.ap i j a b hij ha hb'
  · rw [List.getElem?_append_right (by omega)] at hb'
    have hj2 : j - us.length < F2.length := by rw [← hl]; exact (List.getElem?_eq_some_iff.1 hb').1
    by_cases hi : i < us.length
    · rw [List.getElem?_append_left hi] at ha
      obtain ⟨zs, hz⟩ : ∃ zs, F[i]? = some zs := ⟨_, List.getElem?_eq_getElem (by omega)⟩
      exact apV_ofE (h.each i a zs ha hz) (hu _ b _ hb' (List.getElem?_eq_getElem hj2))
    · rw [List.getElem?_append_right (by omega)] at ha
      exact hap (i - us.length) (j - us.length) a b (by omega) ha hb'

/-- The clauses of a frame's parts. -/
def conT (C : Circ) (t : Int) : List (List Int) := C.constraints.map fun l => [litT C.max t l]
def resC (m t : Int) (z : Tri) : List (List Int) := if z.2.2 = 0 then [[-(litT m t z.1)]] else if z.2.2 = 1 then [[litT m t z.1]] else []
def resT (C : Circ) (t : Int) : List (List Int) := C.latches.flatMap (resC C.max t)
def nxtC (m t : Int) (z : Tri) : List (List Int) := [[-(litT m (t + 1) z.1), litT m t z.2.1], [litT m (t + 1) z.1, -(litT m t z.2.1)]]
def nxtT (C : Circ) (t : Int) : List (List Int) := C.latches.flatMap (nxtC C.max t)
def gatT (C : Circ) (t : Int) : List (List Int) := (C.ands.flatMap gateC).map (·.map (movF (t * C.max)))

theorem own_oneB (w : World) (x : Value) : (w.alloc (.cells #[x] 3)).ownsRow w.heap.size 3 1 (.slice (some ⟨w.heap.size, 0, none⟩) 1 1) 1 [x] := by
  have := blk_ownR (Blk.new w 3 #[x]) (Nat.le_refl _) (n := 1) (k := 1) rfl (by simp [maxLen])
  simpa using this

set_option maxHeartbeats 4000000 in
set_option maxRecDepth 100000 in
theorem constraints_any (w : World) (V : CV) (C : Circ) (t : Int) (h : C.In w V) (hz : (checkR C).2 = 0) (h2 : 0 ≤ t) (h3 : t ≤ 600) :
    Calls Try.prog 66 #[frmV V C.max t] w fun e w' => Below w.heap.size w w' ∧ ∃ v us, e = .returned v ∧ CRow w' w.heap.size v us (conT C t) := by
  have hr := right_of hz
  obtain ⟨m, hm⟩ : ∃ m : Int, C.max = m := ⟨_, rfl⟩
  have hm0 : 0 ≤ m := by rw [← hm]; exact hr.m0
  have hm1 : m ≤ 16384 := by rw [← hm]; exact hr.m1
  have HAT := Lib.hid (fun (wx : World) (l : Int) (h4 : 0 ≤ l) (h5 : l ≤ 1000000) => at_any wx V m t l hm0 hm1 h2 h3 h4 h5)
  have HLI : Hid (∀ l ∈ C.constraints, 0 ≤ l ∧ l ≤ 1000000) := Lib.hid (fun l hl => by have := hr.c l hl; unfold LitOk at this; omega)
  have hcn := hr.nc
  obtain ⟨CA, cc, ec, _, _, hrun⟩ := h.c
  obtain ⟨n, hn⟩ : ∃ n, C.constraints.length = n := ⟨_, rfl⟩
  rw [hn] at ec hcn
  have HN := Lib.hid hn
  have HRUN := Lib.hid hrun
  obtain ⟨W0, hW0⟩ : ∃ W0, w.alloc (.cells (frmC V m t) 85) = W0 := ⟨_, rfl⟩
  have HB : Hid (Below w.heap.size w W0) := Lib.hid (by rw [← hW0]; exact (Below.refl _ _).alloc (Nat.le_refl _) _)
  have HX : Hid (Blk W0 w.heap.size 85 (frmC V m t)) := Lib.hid (by rw [← hW0]; exact Blk.new w _ _)
  have HS0 : Hid (W0.heap.size = w.heap.size + 1) := Lib.hid (by rw [← hW0]; simp)
  have HW0 := Lib.hid hW0
  obtain ⟨i0, hi0, hz0, hz1, hz2⟩ := info_of2 infoCl
  have HI0 := Lib.hid (And.intro hi0 (And.intro hz0 (And.intro hz1 hz2)))
  obtain ⟨Vi, Vl, Vo, Vb, Vc, Vj, Vf, Va, Vs, Vt⟩ := V
  simp only at ec
  subst ec
  have hct : conT C t = C.constraints.map fun l => [litT m t l] := by unfold conT; rw [hm]
  rw [hct, hm]
  have c5 := HX.out.cell 5
  simp only [frmC, List.getElem?_toArray, List.getElem?_cons_zero, List.getElem?_cons_succ] at c5
  clear hW0 hr h hz hrun hn hm hct hi0 hz0 hz1 hz2
  go_enter Try.func66, Try.ntmps66
  go_upto_region 1 with (fail)
  rw [HW0.out]
  go_wp2
  go_loopg [3, 10] n (fun k vg jv wx => ∃ (q : Nat) (us : List Value), q ≤ n ∧ k = n - q ∧ jv = .int .i64 q ∧ CRow wx W0.heap.size vg us ((C.constraints.take q).map fun l => [litT m t l]) ∧ Below W0.heap.size W0 wx)
  case atStart => exact ⟨0, [], Nat.zero_le _, rfl, rfl, crow_none _ _, Below.refl _ _⟩
  case round =>
    obtain ⟨q, us, hq, hgk, rfl, hcr, hbl⟩ := hrel
    subst hgk
    obtain ⟨UA, uc, hue⟩ := own_slice_k hcr.own
    subst hue
    have HCR := Lib.hid hcr
    have HBL := Lib.hid hbl
    have hul : us.length = q := by rw [hcr.ul, List.length_map, List.length_take, HN.out]; omega
    have HUL := Lib.hid hul
    rw [hul]
    clear hcr hbl hul c5
    by_cases hlt : q < n
    · obtain ⟨l, hl⟩ : ∃ l, C.constraints[q]? = some l := ⟨_, List.getElem?_eq_getElem (by rw [HN.out]; exact hlt)⟩
      obtain ⟨b, off, e, hb, hcell⟩ := HRUN.out q l hl
      subst e
      have h0 := ((HB.out.trans (HBL.out.mono HB.out.size)).cell (p := ⟨b, off + (q * 1 + 0), none⟩) hb).trans (hcell 0 _ rfl)
      simp only [Nat.add_zero, Nat.mul_one] at h0
      have hli := HLI.out l (List.mem_of_getElem? hl)
      have HTK : Hid ((C.constraints.take (q + 1)).map (fun l => [litT m t l]) = (C.constraints.take q).map (fun l => [litT m t l]) ++ [[litT m t l]]) := Lib.hid (by rw [List.take_add_one, hl]; simp)
      have HAL := Lib.hid (fun wx => HAT.out wx l hli.1 hli.2)
      have HBX : Hid (wr.heap[w.heap.size]? = some (.cells (frmC ⟨Vi, Vl, Vo, Vb, .slice (some ⟨b, off, none⟩) n cc, Vj, Vf, Va, Vs, Vt⟩ m t) 85 (0, 0))) := Lib.hid (HX.out.below HBL.out HX.out.lt)
      have hk0 : (0 : Int) ≤ (q : Int) := by omega
      have hk1 : (q : Int) < (n : Int) := by omega
      generalize litT m t l = y at *
      clear hcell hl hb hli
      go_wp2_with (first
        | (refine wpList_load_row rfl 85 (.tmp 1) rfl w.heap.size rfl 85 (frmC ⟨Vi, Vl, Vo, Vb, .slice (some ⟨b, off, none⟩) n cc, Vj, Vf, Va, Vs, Vt⟩ m t) (0, 0) _ HBX.out Try.underlying85 rfl (by kernel_rfl) ?_)
        | (go_at_call 113; refine (HAL.out _).mono ?_; rintro e w1 ⟨rfl, hb1⟩; have HB1 := Lib.hid hb1; clear hb1)
        | (at_builtin; refine wpList_append_any _ rfl (.tmp 14) (.tmp 19) _ rfl W0.heap.size 81 i0 _ 1 24 Try.underlying32 HI0.out.1 HI0.out.2.1 HI0.out.2.2.1 HI0.out.2.2.2 rfl (by omega) (.slice UA q uc) q us rfl (by have := own_below HCR.out.own (HB1.out.alloc HB1.out.size (.cells #[.int .i64 y] 3)); have := own_below this ((Below.refl _ _).alloc (Nat.le_refl _) (.cells #[.slice (some ⟨w1.heap.size, 0, none⟩) 1 1] 81)); rw [HUL.out] at this; exact this) (w1.heap.size + 1 + 1) (some ⟨w1.heap.size + 1, 0, none⟩) 1 1 [.slice (some ⟨w1.heap.size, 0, none⟩) 1 1] rfl (by have := reads_one (w1.alloc (.cells #[.int .i64 y] 3)) (.slice (some ⟨w1.heap.size, 0, none⟩) 1 1) 81; simpa using this) (by simp [Value.oneCell']) (by simp only [maxLen]; omega) (by omega) (by have h1 := HB1.out.size; have h2 := HBL.out.size; simp; omega) ?_; intro v2 w2 hown2 hg2 hat2; obtain ⟨A2, c2, hf2⟩ := own_slice_k hown2; subst hf2; have HO2 := Lib.hid hown2; have HG2 := Lib.hid hg2; clear hown2 hg2 hat2))
      go_roundg (n - (q + 1))
      case measure => omega
      case rel =>
        have hb2 : Below wr.heap.size wr ((w1.alloc (.cells #[.int .i64 y] 3)).alloc (.cells #[.slice (some ⟨w1.heap.size, 0, none⟩) 1 1] 81)) := (HB1.out.alloc HB1.out.size _).alloc (by have := HB1.out.size; simp; omega) _
        refine ⟨q + 1, us ++ [.slice (some ⟨w1.heap.size, 0, none⟩) 1 1], by omega, rfl, by go_num, ?_, (HBL.out.trans (hb2.mono HBL.out.size)).grown HG2.out (by have h1 := HB1.out.size; have h2 := HBL.out.size; simp; omega) (fun k hk => (HCR.out.own.lt k (by rw [HUL.out]; exact hk)).1)⟩
        rw [HTK.out]
        refine HCR.out.snoc hb2 HBL.out.size (own_le (own_below (own_oneB w1 (.int .i64 y)) ((Below.refl _ _).alloc (Nat.le_refl _) _)) HB1.out.size) (by rw [HUL.out]; exact HG2.out) (by rw [HUL.out]; exact HO2.out)
    · have hqe : n = q := by omega
      subst hqe
      have HE : Hid ((C.constraints.take n).map (fun l => [litT m t l]) = C.constraints.map fun l => [litT m t l]) := Lib.hid (by rw [List.take_of_length_le (by rw [HN.out]; exact Nat.le_refl _)])
      go_wp2
      go_ret
      refine ⟨HB.out.trans (HBL.out.mono HB.out.size), _, us, rfl, ?_⟩
      have := HCR.out.base HB.out.size
      rw [HE.out, HUL.out] at this
      exact this
theorem resC_len (m t : Int) (zs : List Tri) : (zs.flatMap (resC m t)).length ≤ zs.length := by
  induction zs with
  | nil => simp
  | cons a r ih =>
    rw [List.flatMap_cons, List.length_append, List.length_cons]
    have : (resC m t a).length ≤ 1 := by unfold resC; split <;> (try split) <;> simp
    omega
theorem nxtC_len (m t : Int) (zs : List Tri) : (zs.flatMap (nxtC m t)).length ≤ 2 * zs.length := by
  induction zs with
  | nil => simp
  | cons a r ih =>
    rw [List.flatMap_cons, List.length_append, List.length_cons]
    have : (nxtC m t a).length = 2 := rfl
    omega

set_option maxHeartbeats 4000000 in
set_option maxRecDepth 100000 in
theorem resets_any (w : World) (V : CV) (C : Circ) (t : Int) (h : C.In w V) (hz : (checkR C).2 = 0) (h2' : 0 ≤ t) (h3' : t ≤ 600) :
    Calls Try.prog 70 #[frmV V C.max t] w fun e w' => Below w.heap.size w w' ∧ ∃ v us, e = .returned v ∧ CRow w' w.heap.size v us (resT C t) := by
  have hr := right_of hz
  obtain ⟨m, hm⟩ : ∃ m : Int, C.max = m := ⟨_, rfl⟩
  have hm0 : 0 ≤ m := by rw [← hm]; exact hr.m0
  have hm1 : m ≤ 16384 := by rw [← hm]; exact hr.m1
  have HAT := Lib.hid (fun (wx : World) (t l : Int) (h2 : 0 ≤ t) (h3 : t ≤ 600) (h4 : 0 ≤ l) (h5 : l ≤ 1000000) => at_any wx V m t l hm0 hm1 h2 h3 h4 h5)
  have HLI : Hid (∀ z ∈ C.latches, (0 ≤ z.1 ∧ z.1 ≤ 1000000) ∧ (0 ≤ z.2.1 ∧ z.2.1 ≤ 1000000)) := Lib.hid (fun z hl => by have := hr.l z hl; unfold LitOk at this; omega)
  have HTI : Hid (∀ t l : Int, 0 ≤ t → t ≤ 600 → 0 ≤ l → l ≤ 1000000 → -11000000 ≤ litT m t l ∧ litT m t l ≤ 11000000) := Lib.hid (fun t l h1 h2 h3 h4 => by
    obtain ⟨g0, g1⟩ := mul_in h1 h2 hm0 hm1
    exact movF_in g0 g1 (by unfold litC; split <;> omega) (by unfold litC; split <;> omega))
  have hcn := hr.nl
  obtain ⟨CA, cc, ec, _, _, hrun⟩ := h.l
  obtain ⟨n, hn⟩ : ∃ n, C.latches.length = n := ⟨_, rfl⟩
  rw [hn] at ec hcn
  have HN := Lib.hid hn
  have HRUN := Lib.hid hrun
  obtain ⟨W0, hW0⟩ : ∃ W0, w.alloc (.cells (frmC V m t) 85) = W0 := ⟨_, rfl⟩
  have HB : Hid (Below w.heap.size w W0) := Lib.hid (by rw [← hW0]; exact (Below.refl _ _).alloc (Nat.le_refl _) _)
  have HX : Hid (Blk W0 w.heap.size 85 (frmC V m t)) := Lib.hid (by rw [← hW0]; exact Blk.new w _ _)
  have HS0 : Hid (W0.heap.size = w.heap.size + 1) := Lib.hid (by rw [← hW0]; simp)
  have HW0 := Lib.hid hW0
  obtain ⟨i0, hi0, hz0, hz1, hz2⟩ := info_of2 infoCl
  have HI0 := Lib.hid (And.intro hi0 (And.intro hz0 (And.intro hz1 hz2)))
  
  obtain ⟨Vi, Vl, Vo, Vb, Vc, Vj, Vf, Va, Vs, Vt⟩ := V
  simp only at ec
  subst ec
  have c2 := HX.out.cell 2
  simp only [frmC, List.getElem?_toArray, List.getElem?_cons_zero, List.getElem?_cons_succ] at c2
  have hct : resT C t = C.latches.flatMap (resC m t) := by unfold resT; rw [hm]
  rw [hct, hm]
  clear hW0 hr h hz hrun hn hm hct hi0 hz0 hz1 hz2
  go_enter Try.func70, Try.ntmps70
  go_upto_region 1 with (fail)
  rw [HW0.out]
  go_wp2
  go_loopg [3, 10] n (fun k vg jv wx => ∃ (q : Nat) (us : List Value), q ≤ n ∧ k = n - q ∧ jv = .int .i64 q ∧ CRow wx W0.heap.size vg us ((C.latches.take q).flatMap (resC m t)) ∧ Below W0.heap.size W0 wx)
  case atStart => exact ⟨0, [], Nat.zero_le _, rfl, rfl, crow_none _ _, Below.refl _ _⟩
  case round =>
    obtain ⟨q, us, hq, hgk, rfl, hcr, hbl⟩ := hrel
    subst hgk
    obtain ⟨UA, uc, hue⟩ := own_slice_k hcr.own
    subst hue
    have HCR := Lib.hid hcr
    have HBL := Lib.hid hbl
    obtain ⟨k, hk⟩ : ∃ k, us.length = k := ⟨_, rfl⟩
    have HK := Lib.hid hk
    have hk8 : k ≤ 40000 := by
      have h9 := hcr.ul
      rw [hk] at h9
      have h8 := resC_len m t (C.latches.take q)
      rw [← h9, List.length_take] at h8
      omega
    rw [hk]
    clear hcr hbl hk c2
    by_cases hlt : q < n
    · obtain ⟨z, hl⟩ : ∃ z, C.latches[q]? = some z := ⟨_, List.getElem?_eq_getElem (by rw [HN.out]; exact hlt)⟩
      obtain ⟨b, off, e, hb, hcell⟩ := HRUN.out q z hl
      subst e
      obtain ⟨z0, z1, z2⟩ := z
      have hbs := HB.out.trans (HBL.out.mono HB.out.size)
      have h0 := (hbs.cell (p := ⟨b, off + (q * 3 + 0), none⟩) hb).trans (hcell 0 _ rfl)
      have h1 := (hbs.cell (p := ⟨b, off + (q * 3 + 1), none⟩) hb).trans (hcell 1 _ rfl)
      have h2 := (hbs.cell (p := ⟨b, off + (q * 3 + 2), none⟩) hb).trans (hcell 2 _ rfl)
      simp only [Nat.add_zero, ← Nat.add_assoc] at h0 h1 h2
      obtain ⟨⟨l0, l1⟩, l2, l3⟩ := HLI.out _ (List.mem_of_getElem? hl)
      simp only at l0 l1 l2 l3
      have HTK : Hid ((C.latches.take (q + 1)).flatMap (resC m t) = (C.latches.take q).flatMap (resC m t) ++ resC m t (z0, z1, z2)) := Lib.hid (by rw [List.take_add_one, hl, List.flatMap_append]; simp)
      have HXB : Hid (Blk (wr.alloc (.cells #[.int .i64 z0, .int .i64 z1, .int .i64 z2] 70)) w.heap.size 85 (frmC ⟨Vi, .slice (some ⟨b, off, none⟩) n cc, Vo, Vb, Vc, Vj, Vf, Va, Vs, Vt⟩ m t)) := Lib.hid ((HX.out.below HBL.out HX.out.lt).alloc _)
      have HBX : Hid ((wr.alloc (.cells #[.int .i64 z0, .int .i64 z1, .int .i64 z2] 70)).heap[w.heap.size]? = some (.cells (frmC ⟨Vi, .slice (some ⟨b, off, none⟩) n cc, Vo, Vb, Vc, Vj, Vf, Va, Vs, Vt⟩ m t) 85 (0, 0))) := Lib.hid HXB.out
      have HYB : Hid (Blk (wr.alloc (.cells #[.int .i64 z0, .int .i64 z1, .int .i64 z2] 70)) wr.heap.size 70 #[.int .i64 z0, .int .i64 z1, .int .i64 z2]) := Lib.hid (Blk.new wr _ _)
      have HBA : Hid (Below wr.heap.size wr (wr.alloc (.cells #[.int .i64 z0, .int .i64 z1, .int .i64 z2] 70))) := Lib.hid ((Below.refl _ _).alloc (Nat.le_refl _) _)
      have hk0 : (0 : Int) ≤ (q : Int) := by omega
      have hk1 : (q : Int) < (n : Int) := by omega
      rcases (show z2 = 0 ∨ z2 = 1 ∨ (z2 ≠ 0 ∧ z2 ≠ 1) by omega) with hzz | hzz | hzz
      · have HFE : Hid (resC m t (z0, z1, z2) = [[-(litT m t z0)]]) := Lib.hid (by unfold resC; simp [hzz])
        have htl := HTI.out t z0 h2' h3' l0 l1
        have hwn : IntKind.i64.wrap (-(litT m t z0)) = -(litT m t z0) := i64_in (by omega)
        have HAL := Lib.hid (fun wx => HAT.out wx t z0 h2' h3' l0 l1)
        rw [HFE.out] at HTK
        obtain ⟨y, hy⟩ : ∃ y, -(litT m t z0) = y := ⟨_, rfl⟩
        rw [hy] at HTK; replace hwn := hwn.trans hy
        subst hzz
        clear hcell hl hb hbs htl hy HFE
        go_wp2_with (first
          | (refine wpList_load_row rfl 85 (.tmp 1) rfl w.heap.size rfl 85 (frmC ⟨Vi, .slice (some ⟨b, off, none⟩) n cc, Vo, Vb, Vc, Vj, Vf, Va, Vs, Vt⟩ m t) (0, 0) _ HBX.out Try.underlying85 rfl (by kernel_rfl) ?_)
          | (go_at_call 113; refine (HAL.out _).mono ?_; rintro e w1 ⟨rfl, hb1⟩; have HB1 := Lib.hid (bt HBA.out (Nat.le_refl _) hb1); clear hb1)
          | (at_builtin; refine wpList_append_any _ rfl (.tmp 18) (.tmp 25) _ rfl W0.heap.size 81 i0 _ 1 24 Try.underlying32 HI0.out.1 HI0.out.2.1 HI0.out.2.2.1 HI0.out.2.2.2 rfl (by omega) (.slice UA k uc) k us rfl (by have := own_below HCR.out.own (HB1.out.alloc HB1.out.size (.cells #[.int .i64 y] 3)); have := own_below this ((Below.refl _ _).alloc (Nat.le_refl _) (.cells #[.slice (some ⟨w1.heap.size, 0, none⟩) 1 1] 81)); rw [HK.out] at this; exact this) (w1.heap.size + 1 + 1) (some ⟨w1.heap.size + 1, 0, none⟩) 1 1 [.slice (some ⟨w1.heap.size, 0, none⟩) 1 1] rfl (by have := reads_one (w1.alloc (.cells #[.int .i64 y] 3)) (.slice (some ⟨w1.heap.size, 0, none⟩) 1 1) 81; simpa using this) (by simp [Value.oneCell']) (by simp only [maxLen]; omega) (by omega) (by have h1 := HB1.out.size; have h2 := HBL.out.size; simp; omega) ?_; intro v2 w2 hown2 hg2 hat2; obtain ⟨A2, c2, hf2⟩ := own_slice_k hown2; subst hf2; have HO2 := Lib.hid hown2; have HG2 := Lib.hid hg2; clear hown2 hg2 hat2))
        go_roundg (n - (q + 1))
        case measure => omega
        case rel =>
          have hb2 : Below wr.heap.size wr ((w1.alloc (.cells #[.int .i64 y] 3)).alloc (.cells #[.slice (some ⟨w1.heap.size, 0, none⟩) 1 1] 81)) := (HB1.out.alloc HB1.out.size _).alloc (by have := HB1.out.size; simp; omega) _
          refine ⟨q + 1, us ++ [.slice (some ⟨w1.heap.size, 0, none⟩) 1 1], by omega, rfl, by go_num, ?_, (HBL.out.trans (hb2.mono HBL.out.size)).grown HG2.out (by have h1 := HB1.out.size; have h2 := HBL.out.size; simp; omega) (fun j hj => (HCR.out.own.lt j (by rw [HK.out]; exact hj)).1)⟩
          rw [HTK.out]
          refine HCR.out.snoc hb2 HBL.out.size (own_le (own_below (own_oneB w1 (.int .i64 y)) ((Below.refl _ _).alloc (Nat.le_refl _) _)) HB1.out.size) (by rw [HK.out]; exact HG2.out) (by rw [HK.out]; exact HO2.out)
      · have HFE : Hid (resC m t (z0, z1, z2) = [[litT m t z0]]) := Lib.hid (by unfold resC; simp [hzz])
        have htl := HTI.out t z0 h2' h3' l0 l1
        have hwn : IntKind.i64.wrap (-(litT m t z0)) = -(litT m t z0) := i64_in (by omega)
        have HAL := Lib.hid (fun wx => HAT.out wx t z0 h2' h3' l0 l1)
        rw [HFE.out] at HTK
        obtain ⟨y, hy⟩ : ∃ y, litT m t z0 = y := ⟨_, rfl⟩
        rw [hy] at HTK HAL
        subst hzz
        clear hwn hcell hl hb hbs htl hy HFE
        go_wp2_with (first
          | (refine wpList_load_row rfl 85 (.tmp 1) rfl w.heap.size rfl 85 (frmC ⟨Vi, .slice (some ⟨b, off, none⟩) n cc, Vo, Vb, Vc, Vj, Vf, Va, Vs, Vt⟩ m t) (0, 0) _ HBX.out Try.underlying85 rfl (by kernel_rfl) ?_)
          | (go_at_call 113; refine (HAL.out _).mono ?_; rintro e w1 ⟨rfl, hb1⟩; have HB1 := Lib.hid (bt HBA.out (Nat.le_refl _) hb1); clear hb1)
          | (at_builtin; refine wpList_append_any _ rfl (.tmp 29) (.tmp 35) _ rfl W0.heap.size 81 i0 _ 1 24 Try.underlying32 HI0.out.1 HI0.out.2.1 HI0.out.2.2.1 HI0.out.2.2.2 rfl (by omega) (.slice UA k uc) k us rfl (by have := own_below HCR.out.own (HB1.out.alloc HB1.out.size (.cells #[.int .i64 y] 3)); have := own_below this ((Below.refl _ _).alloc (Nat.le_refl _) (.cells #[.slice (some ⟨w1.heap.size, 0, none⟩) 1 1] 81)); rw [HK.out] at this; exact this) (w1.heap.size + 1 + 1) (some ⟨w1.heap.size + 1, 0, none⟩) 1 1 [.slice (some ⟨w1.heap.size, 0, none⟩) 1 1] rfl (by have := reads_one (w1.alloc (.cells #[.int .i64 y] 3)) (.slice (some ⟨w1.heap.size, 0, none⟩) 1 1) 81; simpa using this) (by simp [Value.oneCell']) (by simp only [maxLen]; omega) (by omega) (by have h1 := HB1.out.size; have h2 := HBL.out.size; simp; omega) ?_; intro v2 w2 hown2 hg2 hat2; obtain ⟨A2, c2, hf2⟩ := own_slice_k hown2; subst hf2; have HO2 := Lib.hid hown2; have HG2 := Lib.hid hg2; clear hown2 hg2 hat2))
        go_roundg (n - (q + 1))
        case measure => omega
        case rel =>
          have hb2 : Below wr.heap.size wr ((w1.alloc (.cells #[.int .i64 y] 3)).alloc (.cells #[.slice (some ⟨w1.heap.size, 0, none⟩) 1 1] 81)) := (HB1.out.alloc HB1.out.size _).alloc (by have := HB1.out.size; simp; omega) _
          refine ⟨q + 1, us ++ [.slice (some ⟨w1.heap.size, 0, none⟩) 1 1], by omega, rfl, by go_num, ?_, (HBL.out.trans (hb2.mono HBL.out.size)).grown HG2.out (by have h1 := HB1.out.size; have h2 := HBL.out.size; simp; omega) (fun j hj => (HCR.out.own.lt j (by rw [HK.out]; exact hj)).1)⟩
          rw [HTK.out]
          refine HCR.out.snoc hb2 HBL.out.size (own_le (own_below (own_oneB w1 (.int .i64 y)) ((Below.refl _ _).alloc (Nat.le_refl _) _)) HB1.out.size) (by rw [HK.out]; exact HG2.out) (by rw [HK.out]; exact HO2.out)
      · have HFE : Hid (resC m t (z0, z1, z2) = []) := Lib.hid (by unfold resC; simp [hzz.1, hzz.2])
        rw [HFE.out, List.append_nil] at HTK
        obtain ⟨hzz0, hzz1⟩ := hzz
        clear hcell hl hb hbs HFE
        go_wp2
        go_roundg (n - (q + 1))
        case measure => omega
        case rel => exact ⟨q + 1, us, by omega, rfl, by go_num, by rw [HTK.out]; have := HCR.out.below HBA.out; rw [HK.out] at this; exact this, HBL.out.trans (HBA.out.mono HBL.out.size)⟩
    · have hqe : n = q := by omega
      subst hqe
      have HE : Hid ((C.latches.take n).flatMap (resC m t) = C.latches.flatMap (resC m t)) := Lib.hid (by rw [List.take_of_length_le (by rw [HN.out]; exact Nat.le_refl _)])
      go_wp2
      go_ret
      refine ⟨HB.out.trans (HBL.out.mono HB.out.size), _, us, rfl, ?_⟩
      have := HCR.out.base HB.out.size
      rw [HE.out, HK.out] at this
      exact this

theorem two_rows {w1 : World} {y x : Int} : ∀ (i : Nat) (u : Value) (zs : List Int), [Value.slice (some ⟨w1.heap.size, 0, none⟩) 2 2, .slice (some ⟨w1.heap.size + 1, 0, none⟩) 2 2][i]? = some u → [[-x, y], [x, -y]][i]? = some zs →
    (((w1.alloc (.cells #[.int .i64 (-x), .int .i64 y] 3)).alloc (.cells #[.int .i64 x, .int .i64 (-y)] 3)).alloc (.cells #[.slice (some ⟨w1.heap.size, 0, none⟩) 2 2, .slice (some ⟨w1.heap.size + 1, 0, none⟩) 2 2] 81)).ownsRow w1.heap.size 3 1 u zs.length (zs.flatMap encI) := fun i u zs hu hz => by
  have b1 := Blk.new w1 3 #[.int .i64 (-x), .int .i64 y]
  have b2 := Blk.new (w1.alloc (.cells #[.int .i64 (-x), .int .i64 y] 3)) 3 #[.int .i64 x, .int .i64 (-y)]
  simp only [World.size_alloc] at b2
  match i, hu, hz with
  | 0, hu, hz => injection hu with hu; injection hz with hz; subst hu hz; exact blk_ownR ((b1.alloc _).alloc _) (Nat.le_refl _) rfl (by simp [maxLen])
  | 1, hu, hz => injection hu with hu; injection hz with hz; subst hu hz; exact blk_ownR (b2.alloc _) (by omega) rfl (by simp [maxLen])
  | i + 2, hu, _ => simp at hu
theorem two_ap {g : Nat} : ∀ (i j : Nat) (a b : Value), i < j → [Value.slice (some ⟨g, 0, none⟩) 2 2, .slice (some ⟨g + 1, 0, none⟩) 2 2][i]? = some a → [Value.slice (some ⟨g, 0, none⟩) 2 2, .slice (some ⟨g + 1, 0, none⟩) 2 2][j]? = some b → ApV a b := fun i j a b hij ha hb => by
  match i, j, hij, ha, hb with
  | 0, 1, _, ha, hb =>
    injection ha with ha
    injection hb with hb
    subst ha hb
    intro k h1 h2
    simp [Value.ownBlock] at h1 h2
    omega
  | i, j + 2, _, _, hb => simp at hb
  | i + 1, 1, hij, _, _ => omega
  | i, 0, hij, _, _ => omega
theorem reads_twoF (w : World) (x y : Value) (t : TypeId) : Reads (w.alloc (.cells #[x, y] t)) (w.heap.size + 1) 1 (some ⟨w.heap.size, 0, none⟩) 2 [x, y] := by
  refine ⟨rfl, fun _ => ⟨_, rfl, by simp, fun j u hu => ?_⟩⟩
  rw [add_none, Nat.zero_add, (Blk.new w t #[x, y]).cell]
  simpa using hu
set_option maxHeartbeats 4000000 in
set_option maxRecDepth 100000 in
theorem next_any (w : World) (V : CV) (C : Circ) (t : Int) (h : C.In w V) (hz : (checkR C).2 = 0) (h2' : 0 ≤ t) (h3' : t ≤ 599) :
    Calls Try.prog 68 #[frmV V C.max t] w fun e w' => Below w.heap.size w w' ∧ ∃ v us, e = .returned v ∧ CRow w' w.heap.size v us (nxtT C t) := by
  have hr := right_of hz
  obtain ⟨m, hm⟩ : ∃ m : Int, C.max = m := ⟨_, rfl⟩
  have hm0 : 0 ≤ m := by rw [← hm]; exact hr.m0
  have hm1 : m ≤ 16384 := by rw [← hm]; exact hr.m1
  have HAT := Lib.hid (fun (wx : World) (t l : Int) (h2 : 0 ≤ t) (h3 : t ≤ 600) (h4 : 0 ≤ l) (h5 : l ≤ 1000000) => at_any wx V m t l hm0 hm1 h2 h3 h4 h5)
  have HLI : Hid (∀ z ∈ C.latches, (0 ≤ z.1 ∧ z.1 ≤ 1000000) ∧ (0 ≤ z.2.1 ∧ z.2.1 ≤ 1000000)) := Lib.hid (fun z hl => by have := hr.l z hl; unfold LitOk at this; omega)
  have HTI : Hid (∀ t l : Int, 0 ≤ t → t ≤ 600 → 0 ≤ l → l ≤ 1000000 → -11000000 ≤ litT m t l ∧ litT m t l ≤ 11000000) := Lib.hid (fun t l h1 h2 h3 h4 => by
    obtain ⟨g0, g1⟩ := mul_in h1 h2 hm0 hm1
    exact movF_in g0 g1 (by unfold litC; split <;> omega) (by unfold litC; split <;> omega))
  have hcn := hr.nl
  obtain ⟨CA, cc, ec, _, _, hrun⟩ := h.l
  obtain ⟨n, hn⟩ : ∃ n, C.latches.length = n := ⟨_, rfl⟩
  rw [hn] at ec hcn
  have HN := Lib.hid hn
  have HRUN := Lib.hid hrun
  obtain ⟨W0, hW0⟩ : ∃ W0, w.alloc (.cells (frmC V m t) 85) = W0 := ⟨_, rfl⟩
  have HB : Hid (Below w.heap.size w W0) := Lib.hid (by rw [← hW0]; exact (Below.refl _ _).alloc (Nat.le_refl _) _)
  have HX : Hid (Blk W0 w.heap.size 85 (frmC V m t)) := Lib.hid (by rw [← hW0]; exact Blk.new w _ _)
  have HS0 : Hid (W0.heap.size = w.heap.size + 1) := Lib.hid (by rw [← hW0]; simp)
  have HW0 := Lib.hid hW0
  obtain ⟨i0, hi0, hz0, hz1, hz2⟩ := info_of2 infoCl
  have HI0 := Lib.hid (And.intro hi0 (And.intro hz0 (And.intro hz1 hz2)))
  have HTH : Hid (∀ wx, Calls Try.prog 75 #[frmV V m t] wx fun e w' => e = .returned (frmV V m (t + 1)) ∧ Below wx.heap.size wx w') := Lib.hid (fun wx => then_any wx V m t (frmC_one h m (t + 1)) h2' (by omega))
  obtain ⟨Vi, Vl, Vo, Vb, Vc, Vj, Vf, Va, Vs, Vt⟩ := V
  simp only at ec
  subst ec
  have c2 := HX.out.cell 2
  simp only [frmC, List.getElem?_toArray, List.getElem?_cons_zero, List.getElem?_cons_succ] at c2
  have hct : nxtT C t = C.latches.flatMap (nxtC m t) := by unfold nxtT; rw [hm]
  rw [hct, hm]
  clear hW0 hr h hz hrun hn hm hct hi0 hz0 hz1 hz2
  go_enter Try.func68, Try.ntmps68
  go_upto_region 1 with (fail)
  rw [HW0.out]
  go_wp2
  go_loopg [3, 12] n (fun k vg jv wx => ∃ (q : Nat) (us : List Value), q ≤ n ∧ k = n - q ∧ jv = .int .i64 q ∧ CRow wx W0.heap.size vg us ((C.latches.take q).flatMap (nxtC m t)) ∧ Below W0.heap.size W0 wx)
  case atStart => exact ⟨0, [], Nat.zero_le _, rfl, rfl, crow_none _ _, Below.refl _ _⟩
  case round =>
    obtain ⟨q, us, hq, hgk, rfl, hcr, hbl⟩ := hrel
    subst hgk
    obtain ⟨UA, uc, hue⟩ := own_slice_k hcr.own
    subst hue
    have HCR := Lib.hid hcr
    have HBL := Lib.hid hbl
    obtain ⟨k, hk⟩ : ∃ k, us.length = k := ⟨_, rfl⟩
    have HK := Lib.hid hk
    have hk8 : k ≤ 40000 := by
      have h9 := hcr.ul
      rw [hk] at h9
      have h8 := nxtC_len m t (C.latches.take q)
      rw [← h9, List.length_take] at h8
      omega
    rw [hk]
    clear hcr hbl hk c2
    by_cases hlt : q < n
    · obtain ⟨z, hl⟩ : ∃ z, C.latches[q]? = some z := ⟨_, List.getElem?_eq_getElem (by rw [HN.out]; exact hlt)⟩
      obtain ⟨b, off, e, hb, hcell⟩ := HRUN.out q z hl
      subst e
      obtain ⟨z0, z1, z2⟩ := z
      have hbs := HB.out.trans (HBL.out.mono HB.out.size)
      have h0 := (hbs.cell (p := ⟨b, off + (q * 3 + 0), none⟩) hb).trans (hcell 0 _ rfl)
      have h1 := (hbs.cell (p := ⟨b, off + (q * 3 + 1), none⟩) hb).trans (hcell 1 _ rfl)
      have h2 := (hbs.cell (p := ⟨b, off + (q * 3 + 2), none⟩) hb).trans (hcell 2 _ rfl)
      simp only [Nat.add_zero, ← Nat.add_assoc] at h0 h1 h2
      obtain ⟨⟨l0, l1⟩, l2, l3⟩ := HLI.out _ (List.mem_of_getElem? hl)
      simp only at l0 l1 l2 l3
      have HTK : Hid ((C.latches.take (q + 1)).flatMap (nxtC m t) = (C.latches.take q).flatMap (nxtC m t) ++ nxtC m t (z0, z1, z2)) := Lib.hid (by rw [List.take_add_one, hl, List.flatMap_append]; simp)
      have HXB : Hid (Blk (wr.alloc (.cells #[.int .i64 z0, .int .i64 z1, .int .i64 z2] 70)) w.heap.size 85 (frmC ⟨Vi, .slice (some ⟨b, off, none⟩) n cc, Vo, Vb, Vc, Vj, Vf, Va, Vs, Vt⟩ m t)) := Lib.hid ((HX.out.below HBL.out HX.out.lt).alloc _)
      have HBX : Hid ((wr.alloc (.cells #[.int .i64 z0, .int .i64 z1, .int .i64 z2] 70)).heap[w.heap.size]? = some (.cells (frmC ⟨Vi, .slice (some ⟨b, off, none⟩) n cc, Vo, Vb, Vc, Vj, Vf, Va, Vs, Vt⟩ m t) 85 (0, 0))) := Lib.hid HXB.out
      have HYB : Hid (Blk (wr.alloc (.cells #[.int .i64 z0, .int .i64 z1, .int .i64 z2] 70)) wr.heap.size 70 #[.int .i64 z0, .int .i64 z1, .int .i64 z2]) := Lib.hid (Blk.new wr _ _)
      have HBA : Hid (Below wr.heap.size wr (wr.alloc (.cells #[.int .i64 z0, .int .i64 z1, .int .i64 z2] 70))) := Lib.hid ((Below.refl _ _).alloc (Nat.le_refl _) _)
      have hk0 : (0 : Int) ≤ (q : Int) := by omega
      have hk1 : (q : Int) < (n : Int) := by omega
      have ht1 := HTI.out (t + 1) z0 (by omega) (by omega) l0 l1
      have ht2 := HTI.out t z1 h2' (by omega) l2 l3
      have HA1 := Lib.hid (fun wx => HAT.out wx (t + 1) z0 (by omega) (by omega) l0 l1)
      have HA2 := Lib.hid (fun wx => HAT.out wx t z1 h2' (by omega) l2 l3)
      have HFE : Hid (nxtC m t (z0, z1, z2) = [[-(litT m (t + 1) z0), litT m t z1], [litT m (t + 1) z0, -(litT m t z1)]]) := Lib.hid rfl
      rw [HFE.out] at HTK
      obtain ⟨x, hx⟩ : ∃ x, litT m (t + 1) z0 = x := ⟨_, rfl⟩
      obtain ⟨y, hy⟩ : ∃ y, litT m t z1 = y := ⟨_, rfl⟩
      rw [hx] at HA1 HTK ht1
      rw [hy] at HA2 HTK ht2
      have hwx : IntKind.i64.wrap (-x) = -x := i64_in (by omega)
      have hwy : IntKind.i64.wrap (-y) = -y := i64_in (by omega)
      clear hcell hl hb hbs ht1 ht2 hx hy HFE
      go_upto_region 5 with (fail)
      obtain ⟨wx, hwx0⟩ : ∃ x, wr.alloc (.cells #[.int .i64 z0, .int .i64 z1, .int .i64 z2] 70) = x := ⟨_, rfl⟩
      obtain ⟨xb, hxb⟩ : ∃ x, wr.heap.size = x := ⟨_, rfl⟩
      rw [hwx0] at HXB HYB HBA
      have HWR : Hid (wr.heap.size ≤ wx.heap.size) := Lib.hid (by rw [← hwx0]; simp)
      rw [hxb] at HYB
      rw [hwx0, hxb]
      have HSB : Hid (∀ w3, Below wx.drew.heap.size wx.drew w3 → Blk w3 w.heap.size 85 (frmC ⟨Vi, .slice (some ⟨b, off, none⟩) n cc, Vo, Vb, Vc, Vj, Vf, Va, Vs, Vt⟩ m t) ∧ Blk w3 xb 70 #[.int .i64 z0, .int .i64 z1, .int .i64 z2]) := Lib.hid (fun w3 hb => ⟨HXB.out.drew.below hb HXB.out.drew.lt, HYB.out.drew.below hb HYB.out.drew.lt⟩)
      clear hwx0 hxb h0 h1 h2
      refine wp_region_T (by kernel_rfl) (fun w' => Blk w' w.heap.size 85 (frmC ⟨Vi, .slice (some ⟨b, off, none⟩) n cc, Vo, Vb, Vc, Vj, Vf, Va, Vs, Vt⟩ m t) ∧ Blk w' xb 70 #[.int .i64 z0, .int .i64 z1, .int .i64 z2]) 11 ?_
      have hHeld := HSB.out _ (Below.refl _ _)
      refine wpAnyT_take (i := 0) (v := frmV ⟨Vi, .slice (some ⟨b, off, none⟩) n cc, Vo, Vb, Vc, Vj, Vf, Va, Vs, Vt⟩ m t) rfl (by kernel_rfl) (fun _ _ _ h => h) (by rfl) hHeld (fun w' hSw => exec_load_rowE 85 (.tmp 1) rfl w.heap.size rfl 85 (frmC ⟨Vi, .slice (some ⟨b, off, none⟩) n cc, Vo, Vb, Vc, Vj, Vf, Va, Vs, Vt⟩ m t) (0, 0) _ hSw.1 Try.underlying85 rfl (by kernel_rfl)) ?_
      (try simp only [Act.put, List.setIfInBounds_toArray])
      refine wpAnyT_take (i := 2) (v := ?v2q1) rfl (by kernel_rfl) (fun _ _ _ h => h) (by rfl) hHeld ?h2q1 ?_
      case h2q1 => (intro w' hSw; (try dsimp only at hSw); have e0 := hSw.2.cell 0; simp only [List.getElem?_toArray, List.getElem?_cons_zero] at e0; go_simp; try with_reducible rfl)
      (try simp only [Act.put])
      refine wpAnyT_take (i := 3) (v := ?v3q2) rfl (by kernel_rfl) (fun _ _ _ h => h) (by rfl) hHeld ?h3q2 ?_
      case h3q2 => (intro w' hSw; (try dsimp only at hSw); have e0 := hSw.2.cell 0; simp only [List.getElem?_toArray, List.getElem?_cons_zero] at e0; go_simp; try with_reducible rfl)
      (try simp only [Act.put])
      refine wpAnyT_take (i := 5) (v := frmV ⟨Vi, .slice (some ⟨b, off, none⟩) n cc, Vo, Vb, Vc, Vj, Vf, Va, Vs, Vt⟩ m t) rfl (by kernel_rfl) (fun _ _ _ h => h) (by rfl) hHeld (fun w' hSw => exec_load_rowE 85 (.tmp 1) rfl w.heap.size rfl 85 (frmC ⟨Vi, .slice (some ⟨b, off, none⟩) n cc, Vo, Vb, Vc, Vj, Vf, Va, Vs, Vt⟩ m t) (0, 0) _ hSw.1 Try.underlying85 rfl (by kernel_rfl)) ?_
      (try simp only [Act.put])
      refine wpAnyT_take (i := 6) (v := ?v6q3) rfl (by kernel_rfl) (fun _ _ _ h => h) (by rfl) hHeld ?h6q3 ?_
      case h6q3 => (intro w' hSw; (try dsimp only at hSw); have e0 := hSw.2.cell 1; simp only [List.getElem?_toArray, List.getElem?_cons_zero, List.getElem?_cons_succ] at e0; go_simp; try with_reducible rfl)
      (try simp only [Act.put])
      refine wpAnyT_take (i := 7) (v := ?v7q4) rfl (by kernel_rfl) (fun _ _ _ h => h) (by rfl) hHeld ?h7q4 ?_
      case h7q4 => (intro w' hSw; (try dsimp only at hSw); have e0 := hSw.2.cell 1; simp only [List.getElem?_toArray, List.getElem?_cons_zero, List.getElem?_cons_succ] at e0; go_simp; try with_reducible rfl)
      (try simp only [Act.put])
      clear hHeld
      refine wpAnyT_one (i := 1) rfl (by kernel_rfl) (fun K hK => ?_)
      go_simp
      go_at_call 75
      refine (HTH.out _).mono ?_
      rintro e w3 ⟨rfl, hb3⟩
      have HB3 := Lib.hid hb3
      clear hb3
      refine hK.out _ _ (fun _ => HSB.out _ HB3.out) ?_
      clear hK K
      (try simp only [Act.put, List.setIfInBounds_toArray, List.set_cons_zero, List.set_cons_succ])
      refine wpAnyT_one (i := 4) rfl (by kernel_rfl) (fun K hK => ?_)
      go_simp
      go_at_call 113
      refine (HA1.out _).mono ?_
      rintro e w4 ⟨rfl, hb4⟩
      have HB4 := Lib.hid (bt HB3.out (Nat.le_refl _) hb4)
      clear hb4
      refine hK.out _ _ (fun _ => HSB.out _ HB4.out) ?_
      clear hK K
      (try simp only [Act.put, List.setIfInBounds_toArray, List.set_cons_zero, List.set_cons_succ])
      refine wpAnyT_one (i := 8) rfl (by kernel_rfl) (fun K hK => ?_)
      go_simp
      go_at_call 113
      refine (HA2.out _).mono ?_
      rintro e w1 ⟨rfl, hb1⟩
      have HB5 := Lib.hid (bt HB4.out (Nat.le_refl _) hb1)
      clear hb1
      refine hK.out _ _ (fun _ => HSB.out _ HB5.out) ?_
      clear hK K
      (try simp only [Act.put, List.setIfInBounds_toArray, List.set_cons_zero, List.set_cons_succ])
      refine wpAnyT_one (i := 9) rfl (by kernel_rfl) (fun K hK => ?_)
      go_simp
      refine hK.out _ _ (fun _ => HSB.out _ HB5.out) ?_
      clear hK K
      (try simp only [Act.put, List.setIfInBounds_toArray, List.set_cons_zero, List.set_cons_succ])
      refine wpAnyT_one (i := 10) rfl (by kernel_rfl) (fun K hK => ?_)
      go_simp
      refine hK.out _ _ (fun _ => HSB.out _ HB5.out) ?_
      clear hK K
      (try simp only [Act.put, List.setIfInBounds_toArray, List.set_cons_zero, List.set_cons_succ])
      refine wpAnyT_done (by kernel_rfl) ?_
      have HB1 : Hid (Below wr.heap.size wr w1) := Lib.hid (bt HBA.out.drew (Nat.le_refl _) HB5.out)
      go_wp2_with (at_builtin; refine wpList_append_any _ rfl (.tmp 25) (.tmp 34) _ rfl W0.heap.size 81 i0 _ 1 24 Try.underlying32 HI0.out.1 HI0.out.2.1 HI0.out.2.2.1 HI0.out.2.2.2 rfl (by omega) (.slice UA k uc) k us rfl (by have := own_below HCR.out.own (((HB1.out.alloc HB1.out.size (.cells #[.int .i64 (-x), .int .i64 y] 3)).alloc (by have := HB1.out.size; simp; omega) (.cells #[.int .i64 x, .int .i64 (-y)] 3)).alloc (by have := HB1.out.size; simp; omega) (.cells #[.slice (some ⟨w1.heap.size, 0, none⟩) 2 2, .slice (some ⟨w1.heap.size + 1, 0, none⟩) 2 2] 81)); rw [HK.out] at this; exact this) (w1.heap.size + 1 + 1 + 1) (some ⟨w1.heap.size + 1 + 1, 0, none⟩) 2 2 [.slice (some ⟨w1.heap.size, 0, none⟩) 2 2, .slice (some ⟨w1.heap.size + 1, 0, none⟩) 2 2] rfl (by have := reads_twoF ((w1.alloc (.cells #[.int .i64 (-x), .int .i64 y] 3)).alloc (.cells #[.int .i64 x, .int .i64 (-y)] 3)) (.slice (some ⟨w1.heap.size, 0, none⟩) 2 2) (.slice (some ⟨w1.heap.size + 1, 0, none⟩) 2 2) 81; simpa using this) (by simp [Value.oneCell']) (by simp only [maxLen]; omega) (by omega) (by have h1 := HB1.out.size; have h2 := HBL.out.size; simp; omega) ?_; intro v2 w2 hown2 hg2 hat2; obtain ⟨A2, c2, hf2⟩ := own_slice_k hown2; subst hf2; have HO2 := Lib.hid hown2; have HG2 := Lib.hid hg2; clear hown2 hg2 hat2)
      go_roundg (n - (q + 1))
      case measure => omega
      case rel =>
        have hb2 : Below wr.heap.size wr (((w1.alloc (.cells #[.int .i64 (-x), .int .i64 y] 3)).alloc (.cells #[.int .i64 x, .int .i64 (-y)] 3)).alloc (.cells #[.slice (some ⟨w1.heap.size, 0, none⟩) 2 2, .slice (some ⟨w1.heap.size + 1, 0, none⟩) 2 2] 81)) := ((HB1.out.alloc HB1.out.size _).alloc (by have := HB1.out.size; simp; omega) _).alloc (by have := HB1.out.size; simp; omega) _
        refine ⟨q + 1, us ++ [.slice (some ⟨w1.heap.size, 0, none⟩) 2 2, .slice (some ⟨w1.heap.size + 1, 0, none⟩) 2 2], by omega, rfl, by go_num, ?_, (HBL.out.trans (hb2.mono HBL.out.size)).grown HG2.out (by have h1 := HB1.out.size; have h2 := HBL.out.size; simp; omega) (fun j hj => (HCR.out.own.lt j (by rw [HK.out]; exact hj)).1)⟩
        rw [HTK.out]
        exact HCR.out.app hb2 HBL.out.size rfl (fun i u zs hu hz => own_le (two_rows i u zs hu hz) HB1.out.size) two_ap (by rw [HK.out]; exact HG2.out) (by rw [HK.out]; exact HO2.out)
    · have hqe : n = q := by omega
      subst hqe
      have HE : Hid ((C.latches.take n).flatMap (nxtC m t) = C.latches.flatMap (nxtC m t)) := Lib.hid (by rw [List.take_of_length_le (by rw [HN.out]; exact Nat.le_refl _)])
      go_wp2
      go_ret
      refine ⟨HB.out.trans (HBL.out.mono HB.out.size), _, us, rfl, ?_⟩
      have := HCR.out.base HB.out.size
      rw [HE.out, HK.out] at this
      exact this
end Go.Proofs.Ytdodhbfplglbkaa

namespace Go.Proofs.Ytdodhbfplglbkaa
open Go.RowKit

theorem own_set1Y {w : World} {B n cap g q : Nat} {t : TypeId} {xs : List Value} (h : w.ownsRow B t 1 (.slice (some ⟨g, 0, none⟩) n cap) n xs) (hq : q < n) (u : Value) :
    B ≤ g ∧ (∃ cs, Blk w g t cs) ∧ (∀ i, w.frozen? ⟨g, i, none⟩ = false) ∧ w.cell? ⟨g, q, none⟩ = xs[q]? ∧ (w.setCell ⟨g, q, none⟩ u).ownsRow B t 1 (.slice (some ⟨g, 0, none⟩) n cap) n (xs.set q u) := by
  have hl := h.1
  rcases h.2 with ⟨hv, hn0⟩ | ⟨g', cap', cur, hv, hB, hh, h1, h2, h3, h4⟩
  · omega
  · injection hv with e1 e2 e3
    injection e1 with e1
    injection e1 with e1
    subst e1 e3
    have hb : Blk w g t cur := hh
    refine ⟨hB, ⟨cur, hb⟩, fun i => hb.frozen i, ?_, by simpa using hl, .inr ⟨g, cap, cur.setIfInBounds q u, rfl, hB, Blk.set_ hb q u, h1, h2, by simpa using h3, ?_⟩⟩
    · rw [hb.cell, ← h4, List.getElem?_take, if_pos (by omega), Array.getElem?_toList]
    · rw [Array.toList_setIfInBounds, ← h4, List.take_set]
theorem own_farY {w : World} {B k n g : Nat} {t t' : TypeId} {v : Value} {xs : List Value} {cs : Array Value} (h : w.ownsRow B t k v n xs) (hb : Blk w g t' cs) (ht : t ≠ t') (i : Nat) (u : Value) : (w.setCell ⟨g, i, none⟩ u).ownsRow B t k v n xs :=
  own_of_block h fun g2 hg2 => Below.heap_setCell _ _ _ _ (fun e => own_blk_ne h hb ht (by rw [hg2, e]))
/-- While the literals are moved: the first q clauses are, and i literals of the next one. -/
structure GS (a : Int) (F F' : List (List Int)) (q i : Nat) : Prop where
  len : F'.length = F.length
  lo : ∀ j, j < q → F'[j]? = (F[j]?).map (·.map (movF a))
  at_ : ∀ zs, F[q]? = some zs → F'[q]? = some ((zs.take i).map (movF a) ++ zs.drop i)
  hi : ∀ j, q < j → F'[j]? = F[j]?
theorem GS.start (a : Int) (F : List (List Int)) : GS a F F 0 0 := ⟨rfl, fun j hj => by omega, fun zs h => by simpa using h, fun _ _ => rfl⟩
theorem GS.next {a : Int} {F F' : List (List Int)} {q i : Nat} {zs : List Int} (h : GS a F F' q i) (hz : F[q]? = some zs) (hi : zs.length ≤ i) : GS a F F' (q + 1) 0 := by
  refine ⟨h.len, fun j hj => ?_, fun ys hy => ?_, fun j hj => h.hi j (by omega)⟩
  · by_cases e : j = q
    · subst e
      rw [h.at_ zs hz, hz, List.take_of_length_le hi, List.drop_eq_nil_of_le hi, List.append_nil]
      rfl
    · exact h.lo j (by omega)
  · rw [h.hi _ (by omega), hy]
    simp
theorem GS.step {a : Int} {F F' : List (List Int)} {q i : Nat} {zs : List Int} {x : Int} (h : GS a F F' q i) (hz : F[q]? = some zs) (hx : zs[i]? = some x) : GS a F (F'.set q (((zs.take i).map (movF a) ++ zs.drop i).set i (movF a x))) q (i + 1) := by
  have hq : q < F'.length := by rw [h.len]; exact (List.getElem?_eq_some_iff.1 hz).1
  have hil : i < zs.length := (List.getElem?_eq_some_iff.1 hx).1
  refine ⟨by rw [List.length_set]; exact h.len, fun j hj => ?_, fun ys hy => ?_, fun j hj => ?_⟩
  · rw [List.getElem?_set_ne (by omega)]; exact h.lo j hj
  · rw [hz] at hy
    injection hy with hy
    subst hy
    rw [List.getElem?_set_self hq]
    congr 1
    have hl : ((zs.take i).map (movF a)).length = i := by rw [List.length_map, List.length_take]; omega
    have hd : zs.drop i = x :: zs.drop (i + 1) := by
      rw [List.drop_eq_getElem_cons hil]
      congr 1
      rw [List.getElem?_eq_getElem hil] at hx
      injection hx
    rw [hd, List.set_append_right _ _ (by omega), hl, Nat.sub_self, List.set_cons_zero, List.take_add_one, hx, List.map_append]
    simp
  · rw [List.getElem?_set_ne (by omega)]; exact h.hi j hj
theorem GS.done {a : Int} {F F' : List (List Int)} {i : Nat} (h : GS a F F' F.length i) : F' = F.map (·.map (movF a)) := by
  refine List.ext_getElem? fun j => ?_
  rw [List.getElem?_map]
  by_cases e : j < F.length
  · exact h.lo j e
  · rw [List.getElem?_eq_none (by rw [h.len]; omega), List.getElem?_eq_none (by omega)]
    rfl
theorem CRow.setAt {w : World} {B q i g n c : Nat} {v : Value} {us : List Value} {F : List (List Int)} {zs : List Int} (h : CRow w B v us F) (hq : us[q]? = some (.slice (some ⟨g, 0, none⟩) n c)) (hz : F[q]? = some zs) (hi : i < zs.length) (y : Int) :
    (∃ cs, Blk w g 3 cs) ∧ B ≤ g ∧ w.frozen? ⟨g, i, none⟩ = false ∧ w.cell? ⟨g, i, none⟩ = (zs[i]?).map (Value.int .i64) ∧ CRow (w.setCell ⟨g, i, none⟩ (.int .i64 y)) B v us (F.set q (zs.set i y)) := by
  have ho := h.each q _ zs hq hz
  have hn : n = zs.length := by
    obtain ⟨A, c', e⟩ := own_slice_k ho
    injection e with _ e _
  subst hn
  rw [flat_ints] at ho
  obtain ⟨hB, hblk, hf, hc, hs⟩ := own_set1Y ho (q := i) hi (.int .i64 y)
  obtain ⟨cs, hcs⟩ := hblk
  refine ⟨⟨cs, hcs⟩, hB, hf i, by rw [hc, List.getElem?_map], by rw [List.length_set]; exact h.ul, own_farY h.own hcs (by decide) i _, fun j u ys hu hy => ?_, h.ap⟩
  by_cases e : j = q
  · subst e
    rw [hq] at hu
    injection hu with hu
    subst hu
    rw [List.getElem?_set_self (by exact (List.getElem?_eq_some_iff.1 hz).1)] at hy
    injection hy with hy
    subst hy
    rw [List.length_set, flat_ints, List.map_set]
    exact hs
  · rw [List.getElem?_set_ne (fun e2 => e e2.symm)] at hy
    have h1 := h.each j u ys hu hy
    refine own_of_block h1 fun k hk => Below.heap_setCell _ _ _ _ (fun e2 => ?_)
    have e3 : k = g := e2
    subst e3
    rcases Nat.lt_or_gt_of_ne e with hlt | hlt
    · exact h.ap j q u _ hlt hu hq k hk rfl
    · exact h.ap q j _ u hlt hq hu k rfl hk
theorem CRow.tail {w : World} {B : Nat} {A : Option Addr} {n c : Nat} {us : List Value} {F : List (List Int)} (h : CRow w B (.slice A n c) us F) (hn : 0 < n) : ∃ g, A = some ⟨g, 0, none⟩ ∧ n ≤ c ∧ us.length = n ∧ Cls w B (.slice (some ⟨g, 1, none⟩) (n - 1) (c - 1)) us.tail F.tail := by
  have hul : us.length = n := by
    obtain ⟨_, _, e⟩ := own_slice_k h.own
    injection e with _ e _
    exact e.symm
  obtain ⟨g, cap, e, _, _, hcap, _, _, _⟩ := own_cells_v h.own (by omega)
  injection e with e1 e2 e3
  subst e1 e3
  have hr := h.cls.row
  have hd := rowE_dropF hr (k := 1) (by omega)
  refine ⟨g, rfl, by omega, hul, by rw [List.length_tail, List.length_tail, h.ul], ?_, fun i u zs hu hz => ?_, fun i j a b hij ha hb => ?_⟩
  · simpa using hd
  · rw [List.getElem?_tail] at hu hz
    exact h.each _ u zs hu hz
  · rw [List.getElem?_tail] at ha hb
    exact h.ap _ _ a b (by omega) ha hb

theorem gates_wfF {C : Circ} {m : Nat} (h0 : (checkR C).2 = 0) (hm : C.max = (m : Int)) : WfC (m + 1) (formC C.ands) := formC_wf (by omega) (fun z hz => by
  obtain ⟨⟨a, b⟩, ⟨c, d⟩, e, f⟩ := gates_in h0 hm z hz
  exact ⟨⟨a, by push_cast; omega⟩, ⟨c, by push_cast; omega⟩, e, by push_cast; omega⟩)
set_option maxHeartbeats 8000000 in
set_option maxRecDepth 100000 in
theorem fgates_any (w : World) (V : CV) (C : Circ) (t : Int) (h : C.In w V) (ok : C.Ok) (hz : (checkR C).2 = 0) (h2' : 0 ≤ t) (h3' : t ≤ 600) :
    Calls Try.prog 65 #[frmV V C.max t] w fun e w' => Below w.heap.size w w' ∧ ∃ v us, e = .returned v ∧ Cls w' w.heap.size v us (gatT C t) := by
  have hr := right_of hz
  obtain ⟨m, hm⟩ : ∃ m : Nat, C.max = (m : Int) := ⟨C.max.toNat, by have := hr.m0; omega⟩
  have hm1 : m ≤ 16384 := by have := hr.m1; omega
  have HMV := Lib.hid (fun (wx : World) (x : Int) (h4 : -1000000 ≤ x) (h5 : x ≤ 1000000) => moved_any wx V m t x (by omega) (by omega) h2' h3' h4 h5)
  obtain ⟨a, ha⟩ : ∃ a : Int, t * (m : Int) = a := ⟨_, rfl⟩
  rw [ha] at HMV
  obtain ⟨W0, hW0⟩ : ∃ W0, w.alloc (.cells (frmC V m t) 85) = W0 := ⟨_, rfl⟩
  have HB : Hid (Below w.heap.size w W0) := Lib.hid (by rw [← hW0]; exact (Below.refl _ _).alloc (Nat.le_refl _) _)
  have HX : Hid (Blk W0 w.heap.size 85 (frmC V m t)) := Lib.hid (by rw [← hW0]; exact Blk.new w _ _)
  have HS0 : Hid (W0.heap.size = w.heap.size + 1) := Lib.hid (by rw [← hW0]; simp)
  have HW0 := Lib.hid hW0
  have hga := Gates_any W0 V C (h.below HB.out) ok
  rw [show gatesF C = formC C.ands from if_pos hz, show varsF C = (m : Int) + 1 by unfold varsF; rw [if_pos hz, hm], hz, hm] at hga
  have HGA := Lib.hid hga
  have hFL : (formC C.ands).length = 1 + 3 * C.ands.length := formC_len _
  have hgt : gatT C t = ((formC C.ands).map (·.map (movF a))).tail := by unfold gatT formC; rw [hm, ha]; rfl
  have HWF : Hid (∀ zs ∈ formC C.ands, ∀ x ∈ zs, -1000000 ≤ x ∧ x ≤ 1000000) := Lib.hid (fun zs hzs x hx => by
    have := (gates_wfF hz hm zs hzs).2 x hx
    omega)
  have hna := hr.na
  obtain ⟨F, hF⟩ : ∃ F, formC C.ands = F := ⟨_, rfl⟩
  rw [hF] at HGA hFL hgt HWF
  rw [hgt, hm]
  obtain ⟨Vi, Vl, Vo, Vb, Vc, Vj, Vf, Va, Vs, Vt⟩ := V
  have c0 := HX.out.cell 0
  have c1 := HX.out.cell 1
  have c2 := HX.out.cell 2
  have c3 := HX.out.cell 3
  have c4 := HX.out.cell 4
  have c5 := HX.out.cell 5
  have c6 := HX.out.cell 6
  have c7 := HX.out.cell 7
  have c8 := HX.out.cell 8
  have c9 := HX.out.cell 9
  have c10 := HX.out.cell 10
  simp only [frmC, List.getElem?_toArray, List.getElem?_cons_zero, List.getElem?_cons_succ] at c0 c1 c2 c3 c4 c5 c6 c7 c8 c9 c10
  clear hW0 hr h ok hz hm ha hga hF hgt h2' h3'
  go_enter Try.func65, Try.ntmps65
  go_upto_region 1 with (fail)
  rw [HW0.out]
  go_upto_region 2 with (go_at_call 11; refine HGA.out.mono ?_; rintro e w3 ⟨hb3, v, us, rfl, hcr⟩; obtain ⟨gA, gc, hve⟩ := own_slice_k hcr.own; subst hve; have HB3 := Lib.hid hb3; have HCR := Lib.hid hcr; clear hb3 hcr c0 c1 c2 c3 c4 c5 c6 c7 c8 c9 c10)
  obtain ⟨n, hn⟩ : ∃ n, us.length = n := ⟨_, rfl⟩
  have HUN := Lib.hid hn
  have HFN : Hid (F.length = n) := Lib.hid (by rw [← hn]; exact HCR.out.ul.symm)
  have hn8 : n ≤ 60000 ∧ 0 < n := by rw [← HFN.out]; omega
  rw [hn]
  rw [hn] at HCR
  have HAL : Hid (Below W0.heap.size W0 (w3.alloc (.cells #[.int .i64 ((m : Int) + 1), .slice gA n gc] 34))) := Lib.hid (HB3.out.alloc HB3.out.size _)
  have HX2 := Lib.hid (HX.out.below HAL.out HX.out.lt)
  have HF2 := Lib.hid (Blk.new w3 34 #[.int .i64 ((m : Int) + 1), .slice gA n gc])
  have HCR2 := Lib.hid (HCR.out.below ((Below.refl _ _).alloc (Nat.le_refl _) (.cells #[.int .i64 ((m : Int) + 1), .slice gA n gc] 34)))
  obtain ⟨W2, hW2⟩ : ∃ W2, w3.alloc (.cells #[.int .i64 ((m : Int) + 1), .slice gA n gc] 34) = W2 := ⟨_, rfl⟩
  obtain ⟨fb, hfb⟩ : ∃ fb, w3.heap.size = fb := ⟨_, rfl⟩
  rw [hW2] at HAL HX2 HF2 HCR2
  rw [hfb] at HF2
  rw [hW2, hfb]
  have f1 := HF2.out.cell 1
  simp only [List.getElem?_toArray, List.getElem?_cons_zero, List.getElem?_cons_succ] at f1
  clear hn hW2 hfb HCR HB3 hFL
  go_wp2
  go_loopg [18] n (fun k jv wx => ∃ (q : Nat) (F' : List (List Int)), q ≤ n ∧ k = n - q ∧ jv = .int .i64 q ∧ GS a F F' q 0 ∧ CRow wx W0.heap.size (.slice gA n gc) us F' ∧ Below W0.heap.size W0 wx ∧ Blk wx fb 34 #[.int .i64 ((m : Int) + 1), .slice gA n gc])
  case atStart => exact ⟨0, F, Nat.zero_le _, rfl, rfl, GS.start a F, HCR2.out, HAL.out, HF2.out⟩
  case round =>
    obtain ⟨q, F', hq, hgk, rfl, hgs, hcr, hbl, hfx⟩ := hrel
    subst hgk
    have HGS := Lib.hid hgs
    have HCR := Lib.hid hcr
    have HBL := Lib.hid hbl
    have HFX := Lib.hid hfx
    clear hgs hcr hbl hfx f1 HCR2 HAL HF2 HX2
    by_cases hlt : q < n
    · obtain ⟨u, hu⟩ : ∃ u, us[q]? = some u := ⟨_, List.getElem?_eq_getElem (by rw [HUN.out]; exact hlt)⟩
      obtain ⟨zs, hzs⟩ : ∃ zs, F[q]? = some zs := ⟨_, List.getElem?_eq_getElem (by rw [HFN.out]; exact hlt)⟩
      have hown := HCR.out.own
      rw [HUN.out] at hown
      obtain ⟨gB, capB, eB, _, _, _, hcB, _, _⟩ := own_cells_v hown (by omega)
      injection eB with e1 e2 e3
      subst e1 e3
      have o0 := hcB q u hu
      have HU := Lib.hid hu
      have HZS := Lib.hid hzs
      have hcq := HGS.out.at_ zs hzs
      simp only [List.take_zero, List.map_nil, List.nil_append, List.drop_zero] at hcq
      obtain ⟨uA, uc, hue⟩ := own_slice_k (HCR.out.each q u zs hu hcq)
      subst hue
      obtain ⟨zn, hzn⟩ : ∃ zn, zs.length = zn := ⟨_, rfl⟩
      have hzn8 : zn ≤ maxLen := by rw [← hzn]; exact (own_rowe lenI (HCR.out.each q _ zs hu hcq)).len
      unfold maxLen at hzn8
      rw [hzn] at o0 HU
      have HZN := Lib.hid hzn
      have hk0 : (0 : Int) ≤ (q : Int) := by omega
      have hk1 : (q : Int) < (n : Int) := by omega
      clear hown hcB hu hzs hcq hzn
      go_wp2
      go_loopg [24] zn (fun k jv wx => ∃ (i : Nat) (F' : List (List Int)), i ≤ zn ∧ k = zn - i ∧ jv = .int .i64 i ∧ GS a F F' q i ∧ CRow wx W0.heap.size (.slice (some ⟨gB, 0, none⟩) n gc) us F' ∧ Below W0.heap.size W0 wx ∧ Blk wx fb 34 #[.int .i64 ((m : Int) + 1), .slice (some ⟨gB, 0, none⟩) n gc])
      case atStart => exact ⟨0, F', Nat.zero_le _, rfl, rfl, HGS.out, HCR.out, HBL.out, HFX.out⟩
      case round =>
        clear HGS HCR HBL HFX o0
        obtain ⟨i, F', hi, hgk, rfl, hgs, hcr, hbl, hfx⟩ := hrel
        subst hgk
        have HGS := Lib.hid hgs
        have HCR := Lib.hid hcr
        have HBL := Lib.hid hbl
        have HFX := Lib.hid hfx
        clear hgs hcr hbl hfx
        by_cases hil : i < zn
        · obtain ⟨x, hx⟩ : ∃ x, zs[i]? = some x := ⟨_, List.getElem?_eq_getElem (by rw [HZN.out]; exact hil)⟩
          have hrow := HGS.out.at_ zs HZS.out
          have hlen : ((zs.take i).map (movF a) ++ zs.drop i).length = zn := by rw [List.length_append, List.length_map, List.length_take, List.length_drop, HZN.out]; omega
          have hxi : ((zs.take i).map (movF a) ++ zs.drop i)[i]? = some x := by
            rw [List.getElem?_append_right (by rw [List.length_map, List.length_take]; omega), List.length_map, List.length_take, List.getElem?_drop, HZN.out, Nat.min_eq_left (by omega), Nat.sub_self, Nat.add_zero]
            exact hx
          obtain ⟨g, e⟩ : ∃ g, uA = some ⟨g, 0, none⟩ := by
            have ho := HCR.out.each q _ _ HU.out hrow
            rw [hlen, flat_ints] at ho
            obtain ⟨g, cap, e, _⟩ := own_cells_v ho (by omega)
            injection e with e _ _
            exact ⟨g, e⟩
          subst e
          obtain ⟨hblk, hBg, hfr, hcell, _⟩ := HCR.out.setAt HU.out hrow (by rw [hlen]; exact hil) 0
          rw [hxi, Option.map_some] at hcell
          obtain ⟨x0, x1⟩ := HWF.out zs (List.mem_of_getElem? HZS.out) x (List.mem_of_getElem? hx)
          have HCALL := Lib.hid (fun wx => HMV.out wx x x0 x1)
          have hset : ∀ wx : World, Below wr.heap.size wr wx → _ := fun wx hb => (HCR.out.below hb).setAt HU.out hrow (by rw [hlen]; exact hil) (movF a x)
          rw [hxi, Option.map_some] at hset
          have HSET := Lib.hid hset
          have HGN := Lib.hid (HGS.out.step HZS.out hx)
          have HBX : Hid (wr.heap[w.heap.size]? = some (.cells (frmC ⟨Vi, Vl, Vo, Vb, Vc, Vj, Vf, Va, Vs, Vt⟩ m t) 85 (0, 0))) := Lib.hid (HX.out.below HBL.out HX.out.lt)
          have hj0 : (0 : Int) ≤ (i : Int) := by omega
          have hj1 : (i : Int) < (zn : Int) := by omega
          obtain ⟨y, hy⟩ : ∃ y, movF a x = y := ⟨_, rfl⟩
          rw [hy] at HCALL HSET HGN
          clear hx hrow hlen hxi x0 x1 hblk hy hset
          go_wp2_with (first
            | (refine wpList_load_row rfl 85 (.tmp 1) rfl w.heap.size rfl 85 (frmC ⟨Vi, Vl, Vo, Vb, Vc, Vj, Vf, Va, Vs, Vt⟩ m t) (0, 0) _ HBX.out Try.underlying85 rfl (by kernel_rfl) ?_)
            | (go_at_call 59; refine (HCALL.out _).mono ?_; rintro e w1 ⟨rfl, hb1⟩; have HB1 := Lib.hid hb1; have HS1 := Lib.hid (HSET.out w1 hb1); clear hb1 hcell hfr; have hcell := HS1.out.2.2.2.1; have hfr := HS1.out.2.2.1; have hgl : g < w1.heap.size := by (obtain ⟨cs, hcs⟩ := HS1.out.1; exact hcs.lt)))
          go_roundg (zn - (i + 1))
          case measure => omega
          case rel =>
            obtain ⟨cs, hcs⟩ := HS1.out.1
            have hfx := HFX.out.below HB1.out HFX.out.lt
            exact ⟨i + 1, _, by omega, rfl, by go_num, HGN.out, HS1.out.2.2.2.2, (HBL.out.trans (HB1.out.mono HBL.out.size)).setCell hBg _, Blk.far hfx (p := ⟨g, i, none⟩) (hfx.ne_ hcs (by decide)) _⟩
        · have hie : zn = i := by omega
          subst hie
          go_wp2
          go_roundg (n - (q + 1))
          case measure => omega
          case rel => exact ⟨q + 1, F', by omega, rfl, by go_num, HGS.out.next HZS.out (by rw [HZN.out]; exact Nat.le_refl _), HCR.out, HBL.out, HFX.out⟩
    · have hqe : n = q := by omega
      subst hqe
      have hFE : F' = F.map (·.map (movF a)) := GS.done (by rw [HFN.out]; exact HGS.out)
      subst hFE
      obtain ⟨gB, e, hnc, _, hcl⟩ := HCR.out.tail (by omega)
      subst e
      have HCL := Lib.hid hcl
      have f1 := HFX.out.cell 1
      simp only [List.getElem?_toArray, List.getElem?_cons_zero, List.getElem?_cons_succ] at f1
      have hn1 : (1 : Int) ≤ (n : Int) := by omega
      have hn2 : (n : Int) ≤ (gc : Int) := by omega
      clear hcl hq hlt
      by_cases hg1 : gc = 1
      · have HN3 : Hid (n = 1) := Lib.hid (by omega)
        have HUT : Hid (us.tail = []) := Lib.hid (by apply List.eq_nil_of_length_eq_zero; rw [List.length_tail, HUN.out, HN3.out])
        subst hg1
        go_wp2
        go_ret
        exact ⟨HB.out.trans (HBL.out.mono HB.out.size), _, us.tail, rfl, ⟨HCL.out.ul, by rw [HUT.out]; exact RowE.nil _ _ 0 (by simp), fun i u zs hu hz => own_le (HCL.out.each i u zs hu hz) HB.out.size, HCL.out.ap⟩⟩
      · go_wp2
        go_ret
        exact ⟨HB.out.trans (HBL.out.mono HB.out.size), _, us.tail, rfl, ⟨HCL.out.ul, HCL.out.row, fun i u zs hu hz => own_le (HCL.out.each i u zs hu hz) HB.out.size, HCL.out.ap⟩⟩
end Go.Proofs.Ytdodhbfplglbkaa

namespace Go.Proofs.Ytdodhbfplglbkaa
open Go.RowKit

/-- What can be told of a frame. -/
inductive Pt where
  | gat
  | con
  | res
  | nxt
def Pt.val : Pt → Value
  | .gat => .func (.func 65) #[] #[]
  | .con => .func (.func 66) #[] #[]
  | .res => .func (.func 70) #[] #[]
  | .nxt => .func (.func 68) #[] #[]
def Pt.cls (C : Circ) (t : Int) : Pt → List (List Int)
  | .gat => gatT C t
  | .con => conT C t
  | .res => resT C t
  | .nxt => nxtT C t
theorem rowF (w : World) (A : Option Addr) (n c : Nat) (vs : List Value) (h : RowE 1 encV w (.slice A n c) vs) : n = vs.length ∧ Reads w w.heap.size 1 A n vs := by
  obtain ⟨A', c', e, hr⟩ := h.reads lenV (by omega)
  injection e with e1 e2 e3
  subst e1 e2
  rw [flat_vals] at hr
  exact ⟨rfl, hr⟩
theorem Cls.one {w : World} {B : Nat} {v : Value} {us : List Value} {F : List (List Int)} (h : Cls w B v us F) : ∀ u ∈ us, u.oneCell' = true := fun u hu => by
  obtain ⟨i, hi⟩ := List.getElem?_of_mem hu
  have hil := (List.getElem?_eq_some_iff.1 hi).1
  obtain ⟨A, c, e⟩ := own_slice_k (h.each i u _ hi (List.getElem?_eq_getElem (by rw [← h.ul]; exact hil)))
  rw [e]
  rfl
theorem keepX_step {S : Nat → Prop} {W0 wr w1 w2 : World} {r : Option Nat} (h : KeepX S W0 wr) (hb : Below wr.heap.size wr w1) (hg : w1.grownBy w2 r) (hr : ∀ k, r = some k → S k ∨ W0.heap.size ≤ k) : KeepX S W0 w2 :=
  ⟨hg.os.trans (hb.os.trans h.os), hg.tape.trans (hb.tape.trans h.tape), hg.output.trans (hb.output.trans h.output), Nat.le_trans h.size (Nat.le_trans hb.size hg.size), fun k hk hn => (hg.block k (Nat.lt_of_lt_of_le hk (Nat.le_trans h.size hb.size)) (fun e => by
    rcases hr k e.symm with h1 | h1
    · exact hn h1
    · omega)).trans ((hb.block k (Nat.lt_of_lt_of_le hk h.size)).trans (h.blk k hk hn))⟩
theorem KeepX.on {S : Nat → Prop} {a b c : World} (h : KeepX S a b) (hb : Below b.heap.size b c) : KeepX S a c :=
  ⟨hb.os.trans h.os, hb.tape.trans h.tape, hb.output.trans h.output, Nat.le_trans h.size hb.size, fun k hk hn => (hb.block k (Nat.lt_of_lt_of_le hk h.size)).trans (h.blk k hk hn)⟩
theorem KeepX.ofBelow {S : Nat → Prop} {a b : World} (h : Below a.heap.size a b) : KeepX S a b := ⟨h.os, h.tape, h.output, h.size, fun k hk _ => h.block k hk⟩
theorem KeepX.blk_ {S : Nat → Prop} {a b : World} {g : Nat} {t : TypeId} {cs : Array Value} (h : KeepX S a b) (hb : Blk a g t cs) (hn : ¬ S g) : Blk b g t cs := (h.blk g hb.lt hn).trans hb
theorem KeepX.belowB {S : Nat → Prop} {a b : World} {B : Nat} (h : KeepX S a b) (hB : B ≤ a.heap.size) (hS : ∀ k, S k → B ≤ k) : Below B a b := ⟨h.os, h.tape, h.output, h.size, fun k hk => h.blk k (by omega) (fun e => by have := hS k e; omega)⟩

set_option maxHeartbeats 8000000 in
set_option maxRecDepth 100000 in
theorem fput_any (w0 w : World) (B : Nat) (V : CV) (C : Circ) (t : Int) (v : Value) (us : List Value) (F : List (List Int)) (gp : Nat) (ps : List Pt) (h : C.In w0 V) (ok : C.Ok) (hz : (checkR C).2 = 0) (h2 : 0 ≤ t) (h3 : t ≤ 599)
    (hB0 : w0.heap.size ≤ B) (hBw : Below B w0 w) (hB : B ≤ w.heap.size) (hc : CRow w B v us F) (hp : Blk w gp 138 (ps.map Pt.val).toArray) (hpl : ps.length ≤ 10) (hF : F.length + (ps.flatMap (Pt.cls C t)).length ≤ 2000000) :
    Calls Try.prog 74 #[frmV V C.max t, v, .slice (some ⟨gp, 0, none⟩) ps.length ps.length] w fun e w' => ∃ v' us', e = .returned v' ∧ KeepX (fun k => v.ownBlock = some k) w w' ∧ (v'.ownBlock = v.ownBlock ∨ ∀ k, v'.ownBlock = some k → w.heap.size ≤ k) ∧ CRow w' B v' us' (F ++ ps.flatMap (Pt.cls C t)) := by
  have HG := Lib.hid (fun (wx : World) (hb : Below B w0 wx) => fgates_any wx V C t (h.below (hb.mono hB0)) ok hz h2 (by omega))
  have HC := Lib.hid (fun (wx : World) (hb : Below B w0 wx) => constraints_any wx V C t (h.below (hb.mono hB0)) hz h2 (by omega))
  have HR := Lib.hid (fun (wx : World) (hb : Below B w0 wx) => resets_any wx V C t (h.below (hb.mono hB0)) hz h2 (by omega))
  have HN := Lib.hid (fun (wx : World) (hb : Below B w0 wx) => next_any wx V C t (h.below (hb.mono hB0)) hz h2 h3)
  obtain ⟨W0, hW0⟩ : ∃ W0, w.alloc (.cells (frmC V C.max t) 85) = W0 := ⟨_, rfl⟩
  have hbw : Below w.heap.size w W0 := by rw [← hW0]; exact (Below.refl _ _).alloc (Nat.le_refl _) _
  have HX : Hid (Blk W0 w.heap.size 85 (frmC V C.max t)) := Lib.hid (by rw [← hW0]; exact Blk.new w _ _)
  have HS0 : Hid (W0.heap.size = w.heap.size + 1) := Lib.hid (by rw [← hW0]; simp)
  have HB := Lib.hid hbw
  have HW0 := Lib.hid hW0
  have HP := Lib.hid (hp.below hbw hp.lt)
  have HNX : Hid (v.ownBlock ≠ some w.heap.size) := Lib.hid (fun e => by have := (hc.own.lt _ e).2; omega)
  have HNP : Hid (v.ownBlock ≠ some gp) := Lib.hid (own_blk_ne hc.own hp (by decide))
  have HSB : Hid (∀ k, v.ownBlock = some k → B ≤ k) := Lib.hid (fun k hk => (hc.own.lt k hk).1)
  have HCR := Lib.hid (hc.below hbw)
  have HBW := Lib.hid hBw
  have HBB := Lib.hid hB
  have HFL := Lib.hid hF
  obtain ⟨i0, hi0, hz0, hz1, hz2⟩ := info_of2 infoCl
  have HI0 := Lib.hid (And.intro hi0 (And.intro hz0 (And.intro hz1 hz2)))
  obtain ⟨n, hn⟩ : ∃ n, ps.length = n := ⟨_, rfl⟩
  have HPN := Lib.hid hn
  rw [hn] at hpl ⊢
  obtain ⟨m, hm⟩ : ∃ m : Int, C.max = m := ⟨_, rfl⟩
  rw [hm] at HG HC HR HN HX HW0 ⊢
  clear h ok hz hc hp hn hW0 hbw hi0 hz0 hz1 hz2 h2 h3 hF hBw hB hm hB0
  go_enter Try.func74, Try.ntmps74
  go_upto_region 1 with (fail)
  rw [HW0.out]
  go_wp2
  go_loopg [1, 11] n (fun k av jv wx => ∃ (q : Nat) (us : List Value), q ≤ n ∧ k = n - q ∧ jv = .int .i64 q ∧ CRow wx B av us (F ++ (ps.take q).flatMap (Pt.cls C t)) ∧ KeepX (fun k => v.ownBlock = some k) W0 wx ∧ (av.ownBlock = v.ownBlock ∨ ∀ k, av.ownBlock = some k → W0.heap.size ≤ k))
  case atStart => exact ⟨0, us, Nat.zero_le _, rfl, rfl, by simpa using HCR.out, KeepX.refl _ _, .inl rfl⟩
  case round =>
    obtain ⟨q, us, hq, hgk, rfl, hcr, hkp, hav⟩ := hrel
    subst hgk
    obtain ⟨UA, uc, hue⟩ := own_slice_k hcr.own
    subst hue
    obtain ⟨k, hk⟩ : ∃ k, us.length = k := ⟨_, rfl⟩
    have HK := Lib.hid hk
    have HCW := Lib.hid hcr
    have HKP := Lib.hid hkp
    have HAV := Lib.hid hav
    have HBW1 : Hid (Below B w0 wr) := Lib.hid ((HBW.out.trans (HB.out.mono HBB.out)).trans (hkp.belowB (Nat.le_trans HBB.out HB.out.size) HSB.out))
    have HBX : Hid (wr.heap[w.heap.size]? = some (.cells (frmC V m t) 85 (0, 0))) := Lib.hid (hkp.blk_ HX.out HNX.out)
    have HPX : Hid (Blk wr gp 138 (ps.map Pt.val).toArray) := Lib.hid (hkp.blk_ HP.out HNP.out)
    rw [hk]
    clear hcr hkp hav hk
    by_cases hlt : q < n
    · obtain ⟨p, hp⟩ : ∃ p, ps[q]? = some p := ⟨_, List.getElem?_eq_getElem (by rw [HPN.out]; exact hlt)⟩
      have hcell : wr.cell? ⟨gp, q, none⟩ = some p.val := by
        rw [HPX.out.cell]
        simp [hp]
      have hTK : (ps.take (q + 1)).flatMap (Pt.cls C t) = (ps.take q).flatMap (Pt.cls C t) ++ p.cls C t := by rw [List.take_add_one, hp, List.flatMap_append]; simp
      have hle : F.length + ((ps.take (q + 1)).flatMap (Pt.cls C t)).length ≤ 2000000 := by
        have h1 := HFL.out
        have h2 : (ps.flatMap (Pt.cls C t)).length = ((ps.take (q + 1)).flatMap (Pt.cls C t)).length + ((ps.drop (q + 1)).flatMap (Pt.cls C t)).length := by
          rw [← List.length_append, ← List.flatMap_append, List.take_append_drop]
        omega
      have HTK := Lib.hid hTK
      have hkl : k = F.length + ((ps.take q).flatMap (Pt.cls C t)).length := by
        have := HCW.out.ul
        rw [HK.out, List.length_append] at this
        exact this
      have HTOT : Hid (k + (p.cls C t).length ≤ 2000000) := Lib.hid (by
        rw [hTK, List.length_append] at hle
        omega)
      have hk0 : (0 : Int) ≤ (q : Int) := by omega
      have hk1 : (q : Int) < (n : Int) := by omega
      have HFIN : Hid (∀ (w1 w2 : World) (v2 v3 : Value) (us2 : List Value), Below wr.heap.size wr w1 → Cls w1 wr.heap.size v2 us2 (p.cls C t) → w1.grownBy w2 (Value.slice UA k uc).ownBlock → (v3.ownBlock = (Value.slice UA k uc).ownBlock ∨ v3.ownBlock = some w1.heap.size) → w2.ownsRow B 81 1 v3 (k + us2.length) (us ++ us2) →
          CRow w2 B v3 (us ++ us2) (F ++ (ps.take (q + 1)).flatMap (Pt.cls C t)) ∧ KeepX (fun k => v.ownBlock = some k) W0 w2 ∧ (v3.ownBlock = v.ownBlock ∨ ∀ k, v3.ownBlock = some k → W0.heap.size ≤ k)) := Lib.hid (fun w1 w2 v2 v3 us2 hb1 hcl hg hat ho => by
        have hav := HAV.out
        rw [HK.out] at hav
        refine ⟨?_, keepX_step HKP.out hb1 hg (fun j hj => ?_), ?_⟩
        · rw [HTK.out, ← List.append_assoc]
          exact HCW.out.app hb1 (Nat.le_trans HBB.out (Nat.le_trans HB.out.size HKP.out.size)) hcl.ul hcl.each hcl.ap (by rw [HK.out]; exact hg) (by rw [HK.out]; exact ho)
        · rcases hav with e | e
          · exact .inl (e.symm.trans hj)
          · exact .inr (e j hj)
        · rcases hat with e | e
          · rw [e]; exact hav
          · right
            intro j hj
            rw [e] at hj
            injection hj with hj
            have h1 := HKP.out.size
            have h2 := hb1.size
            omega)
      have HOWN : Hid (∀ w1, Below wr.heap.size wr w1 → w1.ownsRow B 81 1 (.slice UA k uc) k us ∧ B ≤ w1.heap.size) := Lib.hid (fun w1 hb => by
        have := own_below HCW.out.own hb
        rw [HK.out] at this
        exact ⟨this, Nat.le_trans HBB.out (Nat.le_trans HB.out.size (Nat.le_trans HKP.out.size hb.size))⟩)
      clear hp hTK hle hkl
      cases p
      · have hcell2 : wr.cell? ⟨gp, q, none⟩ = some (.func (.func 65) #[] #[]) := hcell
        clear hcell
        go_wp2_with (first
          | (refine wpList_load_row rfl 85 (.tmp 3) rfl w.heap.size rfl 85 (frmC V m t) (0, 0) _ HBX.out Try.underlying85 rfl (by kernel_rfl) ?_)
          | (go_at_call 65; refine (HG.out _ HBW1.out).mono ?_; rintro e w1 ⟨hb1, v2, us2, rfl, hcl⟩; have HB1 := Lib.hid hb1; have hcl2 := hcl; have hul2 := hcl2.ul; obtain ⟨A2, c2, e2, _⟩ := hcl2.row; subst e2; have HCL := Lib.hid hcl2; have HLE : Hid (k + us2.length ≤ 2000000) := Lib.hid (by rw [hul2]; exact HTOT.out); clear hb1 hcl hcl2 hul2)
          | (at_builtin; refine wpList_append_any _ rfl (.tmp 15) (.tmp 18) _ rfl B 81 i0 _ 1 24 Try.underlying32 HI0.out.1 HI0.out.2.1 HI0.out.2.2.1 HI0.out.2.2.2 rfl (by omega) (.slice UA k uc) k us rfl (HOWN.out _ HB1.out).1 w1.heap.size A2 us2.length c2 us2 rfl (rowF _ _ _ _ _ HCL.out.row).2 HCL.out.one (by have := HLE.out; simp only [maxLen]; omega) (by have := HLE.out; omega) (HOWN.out _ HB1.out).2 ?_; intro v3 w2 hown2 hg2 hat2; have HFI := Lib.hid (HFIN.out w1 w2 _ v3 us2 HB1.out HCL.out hg2 hat2 hown2); clear hown2 hg2 hat2))
        go_roundg (n - (q + 1))
        case measure => omega
        case rel => exact ⟨q + 1, us ++ us2, by omega, rfl, by go_num, HFI.out.1, HFI.out.2.1, HFI.out.2.2⟩
      · have hcell2 : wr.cell? ⟨gp, q, none⟩ = some (.func (.func 66) #[] #[]) := hcell
        clear hcell
        go_wp2_with (first
          | (refine wpList_load_row rfl 85 (.tmp 3) rfl w.heap.size rfl 85 (frmC V m t) (0, 0) _ HBX.out Try.underlying85 rfl (by kernel_rfl) ?_)
          | (go_at_call 66; refine (HC.out _ HBW1.out).mono ?_; rintro e w1 ⟨hb1, v2, us2, rfl, hcl⟩; have HB1 := Lib.hid hb1; have hcl2 := hcl.cls; have hul2 := hcl2.ul; obtain ⟨A2, c2, e2, _⟩ := hcl2.row; subst e2; have HCL := Lib.hid hcl2; have HLE : Hid (k + us2.length ≤ 2000000) := Lib.hid (by rw [hul2]; exact HTOT.out); clear hb1 hcl hcl2 hul2)
          | (at_builtin; refine wpList_append_any _ rfl (.tmp 15) (.tmp 18) _ rfl B 81 i0 _ 1 24 Try.underlying32 HI0.out.1 HI0.out.2.1 HI0.out.2.2.1 HI0.out.2.2.2 rfl (by omega) (.slice UA k uc) k us rfl (HOWN.out _ HB1.out).1 w1.heap.size A2 us2.length c2 us2 rfl (rowF _ _ _ _ _ HCL.out.row).2 HCL.out.one (by have := HLE.out; simp only [maxLen]; omega) (by have := HLE.out; omega) (HOWN.out _ HB1.out).2 ?_; intro v3 w2 hown2 hg2 hat2; have HFI := Lib.hid (HFIN.out w1 w2 _ v3 us2 HB1.out HCL.out hg2 hat2 hown2); clear hown2 hg2 hat2))
        go_roundg (n - (q + 1))
        case measure => omega
        case rel => exact ⟨q + 1, us ++ us2, by omega, rfl, by go_num, HFI.out.1, HFI.out.2.1, HFI.out.2.2⟩
      · have hcell2 : wr.cell? ⟨gp, q, none⟩ = some (.func (.func 70) #[] #[]) := hcell
        clear hcell
        go_wp2_with (first
          | (refine wpList_load_row rfl 85 (.tmp 3) rfl w.heap.size rfl 85 (frmC V m t) (0, 0) _ HBX.out Try.underlying85 rfl (by kernel_rfl) ?_)
          | (go_at_call 70; refine (HR.out _ HBW1.out).mono ?_; rintro e w1 ⟨hb1, v2, us2, rfl, hcl⟩; have HB1 := Lib.hid hb1; have hcl2 := hcl.cls; have hul2 := hcl2.ul; obtain ⟨A2, c2, e2, _⟩ := hcl2.row; subst e2; have HCL := Lib.hid hcl2; have HLE : Hid (k + us2.length ≤ 2000000) := Lib.hid (by rw [hul2]; exact HTOT.out); clear hb1 hcl hcl2 hul2)
          | (at_builtin; refine wpList_append_any _ rfl (.tmp 15) (.tmp 18) _ rfl B 81 i0 _ 1 24 Try.underlying32 HI0.out.1 HI0.out.2.1 HI0.out.2.2.1 HI0.out.2.2.2 rfl (by omega) (.slice UA k uc) k us rfl (HOWN.out _ HB1.out).1 w1.heap.size A2 us2.length c2 us2 rfl (rowF _ _ _ _ _ HCL.out.row).2 HCL.out.one (by have := HLE.out; simp only [maxLen]; omega) (by have := HLE.out; omega) (HOWN.out _ HB1.out).2 ?_; intro v3 w2 hown2 hg2 hat2; have HFI := Lib.hid (HFIN.out w1 w2 _ v3 us2 HB1.out HCL.out hg2 hat2 hown2); clear hown2 hg2 hat2))
        go_roundg (n - (q + 1))
        case measure => omega
        case rel => exact ⟨q + 1, us ++ us2, by omega, rfl, by go_num, HFI.out.1, HFI.out.2.1, HFI.out.2.2⟩
      · have hcell2 : wr.cell? ⟨gp, q, none⟩ = some (.func (.func 68) #[] #[]) := hcell
        clear hcell
        go_wp2_with (first
          | (refine wpList_load_row rfl 85 (.tmp 3) rfl w.heap.size rfl 85 (frmC V m t) (0, 0) _ HBX.out Try.underlying85 rfl (by kernel_rfl) ?_)
          | (go_at_call 68; refine (HN.out _ HBW1.out).mono ?_; rintro e w1 ⟨hb1, v2, us2, rfl, hcl⟩; have HB1 := Lib.hid hb1; have hcl2 := hcl.cls; have hul2 := hcl2.ul; obtain ⟨A2, c2, e2, _⟩ := hcl2.row; subst e2; have HCL := Lib.hid hcl2; have HLE : Hid (k + us2.length ≤ 2000000) := Lib.hid (by rw [hul2]; exact HTOT.out); clear hb1 hcl hcl2 hul2)
          | (at_builtin; refine wpList_append_any _ rfl (.tmp 15) (.tmp 18) _ rfl B 81 i0 _ 1 24 Try.underlying32 HI0.out.1 HI0.out.2.1 HI0.out.2.2.1 HI0.out.2.2.2 rfl (by omega) (.slice UA k uc) k us rfl (HOWN.out _ HB1.out).1 w1.heap.size A2 us2.length c2 us2 rfl (rowF _ _ _ _ _ HCL.out.row).2 HCL.out.one (by have := HLE.out; simp only [maxLen]; omega) (by have := HLE.out; omega) (HOWN.out _ HB1.out).2 ?_; intro v3 w2 hown2 hg2 hat2; have HFI := Lib.hid (HFIN.out w1 w2 _ v3 us2 HB1.out HCL.out hg2 hat2 hown2); clear hown2 hg2 hat2))
        go_roundg (n - (q + 1))
        case measure => omega
        case rel => exact ⟨q + 1, us ++ us2, by omega, rfl, by go_num, HFI.out.1, HFI.out.2.1, HFI.out.2.2⟩
    · have hqe : n = q := by omega
      subst hqe
      have HE : Hid ((ps.take n).flatMap (Pt.cls C t) = ps.flatMap (Pt.cls C t)) := Lib.hid (by rw [List.take_of_length_le (by rw [HPN.out]; exact Nat.le_refl _)])
      go_wp2
      go_ret
      have h1 := HCW.out
      have h2 := HAV.out
      rw [HE.out, HK.out] at h1
      rw [HK.out] at h2
      exact ⟨_, us, rfl, (KeepX.ofBelow HB.out).trans HKP.out, h2.imp id (fun h k hk => Nat.le_trans HB.out.size (h k hk)), h1⟩
end Go.Proofs.Ytdodhbfplglbkaa

namespace Go.Proofs.Ytdodhbfplglbkaa
open Go.RowKit

def fitS (m n : Int) : Int := if n < 1 ∨ 512 < n then 1 else if 262144 < 1 + n * m then 6 else 0
def fitP (m s e : Int) : Int := if s < 0 ∨ 512 ≤ s then 1 else fitS m (s + 1 + e)
def fitN (C : Circ) (n : Int) : Int := if (checkR C).2 ≠ 0 then (checkR C).2 else fitS C.max n
def fitLT (C : Circ) (l s : Int) : Int := if fitL C l ≠ 0 then fitL C l else fitP C.max s 0
def litFT (C : Circ) (l s : Int) : Int := if fitLT C l s = 0 then litT C.max s l else 0
def varsFT (C : Circ) (n : Int) : Int := if fitN C n = 0 then 1 + n * C.max else 0
theorem fitS_ok {m n : Int} (h : fitS m n = 0) : 1 ≤ n ∧ n ≤ 512 ∧ 1 + n * m ≤ 262144 := by
  unfold fitS at h
  split at h
  · cases h
  · split at h
    · cases h
    · omega
theorem fitP_ok {m s e : Int} (h : fitP m s e = 0) : 0 ≤ s ∧ s < 512 ∧ fitS m (s + 1 + e) = 0 := by
  unfold fitP at h
  split at h
  · cases h
  · exact ⟨by omega, by omega, h⟩

set_option maxHeartbeats 1000000 in
set_option maxRecDepth 100000 in
theorem fvarsOf_any (w : World) (V : CV) (m n : Int) (h0 : 0 ≤ m) (h1 : m ≤ 16384) (h2 : 0 ≤ n) (h3 : n ≤ 600) :
    Calls Try.prog 63 #[V.val m, .int .i64 n] w fun e w' => e = .returned (.int .i64 (1 + n * m)) ∧ Below w.heap.size w w' := by
  obtain ⟨g0, g1⟩ := mul_in h2 h3 h0 h1
  have hw : IntKind.i64.wrap (n * m) = n * m := i64_in (by omega)
  have hw1 : IntKind.i64.wrap (1 + n * m) = 1 + n * m := i64_in (by omega)
  obtain ⟨W0, hW0⟩ : ∃ W0, w.alloc (.cells (V.cells m) 29) = W0 := ⟨_, rfl⟩
  have HB : Hid (Below w.heap.size w W0) := Lib.hid (by rw [← hW0]; exact (Below.refl _ _).alloc (Nat.le_refl _) _)
  have HX : Hid (Blk W0 w.heap.size 29 (V.cells m)) := Lib.hid (by rw [← hW0]; exact Blk.new w _ _)
  have HW0 := Lib.hid hW0
  have c0 := HX.out.cell 0
  simp only [CV.cells, List.getElem?_toArray, List.getElem?_cons_zero] at c0
  clear hW0
  go_enter Try.func63, Try.ntmps63
  go_upto_region 1 with (fail)
  rw [HW0.out]
  go_wp2
  go_ret
  exact ⟨rfl, HB.out⟩
set_option maxHeartbeats 2000000 in
set_option maxRecDepth 100000 in
theorem checkSteps_any (w : World) (V : CV) (m n : Int) (h0 : 0 ≤ m) (h1 : m ≤ 16384) :
    Calls Try.prog 112 #[V.val m, .int .i64 n] w fun e w' => e = .returned (.int .i64 (fitS m n)) ∧ Below w.heap.size w w' := by
  obtain ⟨W0, hW0⟩ : ∃ W0, w.alloc (.cells (V.cells m) 29) = W0 := ⟨_, rfl⟩
  have HB : Hid (Below w.heap.size w W0) := Lib.hid (by rw [← hW0]; exact (Below.refl _ _).alloc (Nat.le_refl _) _)
  have HX : Hid (Blk W0 w.heap.size 29 (V.cells m)) := Lib.hid (by rw [← hW0]; exact Blk.new w _ _)
  have HBX : Hid (W0.heap[w.heap.size]? = some (.cells (V.cells m) 29 (0, 0))) := Lib.hid HX.out
  have HW0 := Lib.hid hW0
  clear hW0
  by_cases k1 : n < 1
  · have e : fitS m n = 1 := if_pos (.inl k1)
    rw [e]
    clear e
    go_enter Try.func112, Try.ntmps112
    go_upto_region 1 with (fail)
    rw [HW0.out]
    go_wp2
    go_ret
    exact ⟨rfl, HB.out⟩
  · by_cases k2 : 512 < n
    · have e : fitS m n = 1 := if_pos (.inr k2)
      rw [e]
      clear e
      go_enter Try.func112, Try.ntmps112
      go_upto_region 1 with (fail)
      rw [HW0.out]
      go_wp2
      go_ret
      exact ⟨rfl, HB.out⟩
    · have HV := Lib.hid (fun wx => fvarsOf_any wx V m n h0 h1 (by omega) (by omega))
      have e : fitS m n = if 262144 < 1 + n * m then 6 else 0 := if_neg (by omega)
      rw [e]
      generalize 1 + n * m = y at *
      clear e
      by_cases k3 : 262144 < y
      · rw [if_pos k3]
        go_enter Try.func112, Try.ntmps112
        go_upto_region 1 with (fail)
        rw [HW0.out]
        go_wp2_with (first
          | (refine wpList_load_row rfl 29 (.tmp 2) rfl w.heap.size rfl 29 (V.cells m) (0, 0) _ HBX.out Try.underlying29 rfl (by kernel_rfl) ?_)
          | (go_at_call 63; refine (HV.out _).mono ?_; rintro e w1 ⟨rfl, hb1⟩; have HB1 := Lib.hid hb1; clear hb1))
        go_ret
        exact ⟨rfl, bt HB.out (Nat.le_refl _) HB1.out⟩
      · rw [if_neg k3]
        go_enter Try.func112, Try.ntmps112
        go_upto_region 1 with (fail)
        rw [HW0.out]
        go_wp2_with (first
          | (refine wpList_load_row rfl 29 (.tmp 2) rfl w.heap.size rfl 29 (V.cells m) (0, 0) _ HBX.out Try.underlying29 rfl (by kernel_rfl) ?_)
          | (go_at_call 63; refine (HV.out _).mono ?_; rintro e w1 ⟨rfl, hb1⟩; have HB1 := Lib.hid hb1; clear hb1))
        go_ret
        exact ⟨rfl, bt HB.out (Nat.le_refl _) HB1.out⟩
set_option maxHeartbeats 2000000 in
set_option maxRecDepth 100000 in
theorem checkStep_any (w : World) (V : CV) (m s d : Int) (h0 : 0 ≤ m) (h1 : m ≤ 16384) (h2 : 0 ≤ d) (h3 : d ≤ 1) :
    Calls Try.prog 58 #[V.val m, .int .i64 s, .int .i64 d] w fun e w' => e = .returned (.int .i64 (fitP m s d)) ∧ Below w.heap.size w w' := by
  obtain ⟨W0, hW0⟩ : ∃ W0, w.alloc (.cells (V.cells m) 29) = W0 := ⟨_, rfl⟩
  have HB : Hid (Below w.heap.size w W0) := Lib.hid (by rw [← hW0]; exact (Below.refl _ _).alloc (Nat.le_refl _) _)
  have HX : Hid (Blk W0 w.heap.size 29 (V.cells m)) := Lib.hid (by rw [← hW0]; exact Blk.new w _ _)
  have HBX : Hid (W0.heap[w.heap.size]? = some (.cells (V.cells m) 29 (0, 0))) := Lib.hid HX.out
  have HW0 := Lib.hid hW0
  clear hW0
  by_cases k1 : s < 0
  · have e : fitP m s d = 1 := if_pos (.inl k1)
    rw [e]
    clear e
    go_enter Try.func58, Try.ntmps58
    go_upto_region 1 with (fail)
    rw [HW0.out]
    go_wp2
    go_ret
    exact ⟨rfl, HB.out⟩
  · by_cases k2 : 512 ≤ s
    · have e : fitP m s d = 1 := if_pos (.inr k2)
      rw [e]
      clear e
      go_enter Try.func58, Try.ntmps58
      go_upto_region 1 with (fail)
      rw [HW0.out]
      go_wp2
      go_ret
      exact ⟨rfl, HB.out⟩
    · have HV := Lib.hid (fun wx => checkSteps_any wx V m (s + 1 + d) h0 h1)
      have e : fitP m s d = fitS m (s + 1 + d) := if_neg (by omega)
      have hw1 : IntKind.i64.wrap (s + 1) = s + 1 := i64_in (by omega)
      have hw2 : IntKind.i64.wrap (s + 1 + d) = s + 1 + d := i64_in (by omega)
      rw [e]
      generalize fitS m (s + 1 + d) = y at *
      clear e
      go_enter Try.func58, Try.ntmps58
      go_upto_region 1 with (fail)
      rw [HW0.out]
      go_wp2_with (first
        | (refine wpList_load_row rfl 29 (.tmp 3) rfl w.heap.size rfl 29 (V.cells m) (0, 0) _ HBX.out Try.underlying29 rfl (by kernel_rfl) ?_)
        | (go_at_call 112; refine (HV.out _).mono ?_; rintro e w1 ⟨rfl, hb1⟩; have HB1 := Lib.hid hb1; clear hb1))
      go_ret
      exact ⟨rfl, bt HB.out (Nat.le_refl _) HB1.out⟩
set_option maxHeartbeats 2000000 in
set_option maxRecDepth 100000 in
theorem fcheck_any (w : World) (V : CV) (C : Circ) (n : Int) (h : C.In w V) (ok : C.Ok) :
    Calls Try.prog 62 #[V.val C.max, .int .i64 n] w fun e w' => e = .returned (.int .i64 (fitN C n)) ∧ Below w.heap.size w w' := by
  obtain ⟨W0, hW0⟩ : ∃ W0, w.alloc (.cells (V.cells C.max) 29) = W0 := ⟨_, rfl⟩
  have HB : Hid (Below w.heap.size w W0) := Lib.hid (by rw [← hW0]; exact (Below.refl _ _).alloc (Nat.le_refl _) _)
  have HX : Hid (Blk W0 w.heap.size 29 (V.cells C.max)) := Lib.hid (by rw [← hW0]; exact Blk.new w _ _)
  have HBX : Hid (W0.heap[w.heap.size]? = some (.cells (V.cells C.max) 29 (0, 0))) := Lib.hid HX.out
  have HCK := Lib.hid (Check_any W0 V C (h.below HB.out) ok)
  have HW0 := Lib.hid hW0
  obtain ⟨a, r, hrr⟩ : ∃ a r, checkR C = (a, r) := ⟨_, _, rfl⟩
  have HRR : Hid ((checkR C).2 = r) := Lib.hid (by rw [hrr])
  rw [hrr] at HCK
  have e : fitN C n = if r ≠ 0 then r else fitS C.max n := by unfold fitN; rw [HRR.out]
  rw [e]
  clear hW0 e hrr h ok
  by_cases h0 : r = 0
  · subst h0
    have hr := right_of HRR.out
    have HV := Lib.hid (fun wx => checkSteps_any wx V C.max n hr.m0 hr.m1)
    rw [if_neg (by simp)]
    generalize fitS C.max n = y at *
    clear hr
    go_enter Try.func62, Try.ntmps62
    go_upto_region 1 with (fail)
    rw [HW0.out]
    go_wp2_with (first
      | (refine wpList_load_row rfl 29 (.tmp 2) rfl w.heap.size rfl 29 (V.cells C.max) (0, 0) _ HBX.out Try.underlying29 rfl (by kernel_rfl) ?_)
      | (go_at_call 44; refine HCK.out.mono ?_; rintro e w1 ⟨rfl, hb1⟩; have HB1 := Lib.hid hb1; have HBX1 : Hid (w1.heap[w.heap.size]? = some (.cells (V.cells C.max) 29 (0, 0))) := Lib.hid (HX.out.below hb1 HX.out.lt); clear hb1 HBX; have HBX := HBX1; clear HBX1)
      | (go_at_call 112; refine (HV.out _).mono ?_; rintro e w2 ⟨rfl, hb2⟩; have HB2 := Lib.hid hb2; clear hb2))
    go_ret
    exact ⟨rfl, bt (bt HB.out (Nat.le_refl _) HB1.out) (Nat.le_refl _) HB2.out⟩
  · have hq : (r != 0) = true := by simpa using h0
    rw [if_pos h0]
    go_enter Try.func62, Try.ntmps62
    go_upto_region 1 with (fail)
    rw [HW0.out]
    go_wp2_with (first
      | (refine wpList_load_row rfl 29 (.tmp 2) rfl w.heap.size rfl 29 (V.cells C.max) (0, 0) _ HBX.out Try.underlying29 rfl (by kernel_rfl) ?_)
      | (go_at_call 44; refine HCK.out.mono ?_; rintro e w1 ⟨rfl, hb1⟩; have HB1 := Lib.hid hb1; clear hb1))
    go_ret
    exact ⟨rfl, bt HB.out (Nat.le_refl _) HB1.out⟩
set_option maxHeartbeats 2000000 in
set_option maxRecDepth 100000 in
theorem running_any (w : World) (V : CV) (C : Circ) (m : Int) (h : C.In w V) :
    Calls Try.prog 73 #[V.val m] w fun e w' => e = .returned ((runV V).val m) ∧ Below w.heap.size w w' := by
  have HONE := Lib.hid (cv_oneF (runC_in h) m)
  obtain ⟨A0, n0, k0, e0⟩ := sl_form h.i
  obtain ⟨A1, n1, k1, e1⟩ := sl_form h.l
  obtain ⟨A2, n2, k2, e2⟩ := sl_form h.c
  obtain ⟨A3, n3, k3, e3⟩ := sl_form h.a
  obtain ⟨W0, hW0⟩ : ∃ W0, (w.alloc (.cells (V.cells m) 29)).alloc (.cells cir0 29) = W0 := ⟨_, rfl⟩
  have HB : Hid (Below w.heap.size w W0) := Lib.hid (by rw [← hW0]; exact ((Below.refl _ _).alloc (Nat.le_refl _) _).alloc (by simp) _)
  have HX : Hid (Blk W0 w.heap.size 29 (V.cells m)) := Lib.hid (by rw [← hW0]; exact (Blk.new w _ _).alloc _)
  have HR : Hid (Blk W0 (w.heap.size + 1) 29 cir0) := Lib.hid (by
    rw [← hW0]
    have := Blk.new (w.alloc (.cells (V.cells m) 29)) 29 cir0
    simpa using this)
  have HW0 := Lib.hid hW0
  obtain ⟨Vi, Vl, Vo, Vb, Vc, Vj, Vf, Va, Vs, Vt⟩ := V
  simp only at e0 e1 e2 e3
  subst e0 e1 e2 e3
  obtain ⟨c0, c1, c2, c3, c4, c5, c6, c7, c8, c9, c10⟩ := rbox_of HX.out
  clear hW0 h
  go_enter Try.func73, Try.ntmps73
  go_upto_region 1 with (fail)
  rw [HW0.out]
  go_wp2_with (first
    | (refine wpList_buildTo rfl 29 #[(0, .tmp 4), (1, .tmp 6), (2, .tmp 8), (5, .tmp 10), (8, .tmp 12)] rfl (some 13) rfl ((runV ⟨.slice A0 n0 k0, .slice A1 n1 k1, Vo, Vb, .slice A2 n2 k2, Vj, Vf, .slice A3 n3 k3, Vs, Vt⟩).cells m) (by kernel_rfl) ?_)
    | (refine wpList_store_row rfl 29 (.tmp 2) (.tmp 13) rfl (w.heap.size + 1) ((runV ⟨.slice A0 n0 k0, .slice A1 n1 k1, Vo, Vb, .slice A2 n2 k2, Vj, Vf, .slice A3 n3 k3, Vs, Vt⟩).cells m) rfl rfl 29 cir0 HR.out (by kernel_rfl) rfl HONE.out ?_))
  refine bodyPost_ret (results_cell_row (fn := Try.f73) rfl _ _ (w.heap.size + 1) 29 ((runV ⟨.slice A0 n0 k0, .slice A1 n1 k1, Vo, Vb, .slice A2 n2 k2, Vj, Vf, .slice A3 n3 k3, Vs, Vt⟩).cells m) (0, 0) _ rfl (setRow_heap _ _ _ _ _ _ HR.out) Try.underlying29 rfl (by kernel_rfl)) rfl ?_
  exact ⟨rfl, below_setRowE HB.out (by omega)⟩
end Go.Proofs.Ytdodhbfplglbkaa

namespace Go.Proofs.Ytdodhbfplglbkaa
open Go.RowKit

theorem gateC_len (zs : List Tri) : (zs.flatMap gateC).length = 3 * zs.length := by
  induction zs with
  | nil => rfl
  | cons a r ih => rw [List.flatMap_cons, List.length_append, ih, List.length_cons]; show 3 + _ = _; omega
theorem Pt.cls_len {C : Circ} (hz : (checkR C).2 = 0) (t : Int) (p : Pt) : (p.cls C t).length ≤ 50000 := by
  have hr := right_of hz
  have h1 := hr.na
  have h2 := hr.nc
  have h3 := hr.nl
  cases p with
  | gat => show (gatT C t).length ≤ 50000; unfold gatT; rw [List.length_map, gateC_len]; omega
  | con => show (conT C t).length ≤ 50000; unfold conT; rw [List.length_map]; omega
  | res => show (resT C t).length ≤ 50000; have := resC_len C.max t C.latches; unfold resT; omega
  | nxt => show (nxtT C t).length ≤ 50000; have := nxtC_len C.max t C.latches; unfold nxtT; omega
theorem pts_len {C : Circ} (hz : (checkR C).2 = 0) (t : Int) : ∀ ps : List Pt, (ps.flatMap (Pt.cls C t)).length ≤ ps.length * 50000
  | [] => Nat.le_refl _
  | p :: r => by
    have h1 := Pt.cls_len hz t p
    have h2 := pts_len hz t r
    rw [List.flatMap_cons, List.length_append, List.length_cons]
    omega
theorem cls_run (C : Circ) (t : Int) : Pt.cls (runC C) t = Pt.cls C t := by
  funext p
  cases p <;> rfl
end Go.Proofs.Ytdodhbfplglbkaa

namespace Go.Proofs.Ytdodhbfplglbkaa
open Go.RowKit

/-- The formula of one step more than so many. -/
def runT (C : Circ) : Nat → List (List Int)
  | 0 => [-1] :: (resT C 0 ++ (gatT C 0 ++ conT C 0))
  | k + 1 => runT C k ++ (nxtT C k ++ (gatT C ((k : Int) + 1) ++ conT C ((k : Int) + 1)))
def cntF (C : Circ) (n : Int) : Int := 1 + (resT C 0).length + n * (3 * C.ands.length + C.constraints.length) + (n - 1) * (2 * C.latches.length)
def fitR (C : Circ) (n : Int) : Int := if fitN C n ≠ 0 then fitN C n else if 524288 < cntF C n then 6 else 0
def runF (C : Circ) (n : Int) : List (List Int) := if fitR C n = 0 then runT C (n.toNat - 1) else []
def runN (C : Circ) (n : Int) : Int := if fitR C n = 0 then 1 + n * C.max else 0
theorem gatT_len (C : Circ) (t : Int) : (gatT C t).length = 3 * C.ands.length := by unfold gatT; rw [List.length_map, gateC_len]
theorem conT_len (C : Circ) (t : Int) : (conT C t).length = C.constraints.length := by unfold conT; rw [List.length_map]
theorem nxtT_len (C : Circ) (t : Int) : (nxtT C t).length = 2 * C.latches.length := by
  unfold nxtT
  generalize C.latches = zs
  induction zs with
  | nil => rfl
  | cons a r ih => rw [List.flatMap_cons, List.length_append, ih, List.length_cons]; show 2 + _ = _; omega
theorem runT_len (C : Circ) : ∀ k : Nat, ((runT C k).length : Int) = cntF C ((k : Int) + 1)
  | 0 => by
    simp only [runT, List.length_cons, List.length_append, gatT_len, conT_len, cntF]
    push_cast
    simp
    omega
  | k + 1 => by
    have ih := runT_len C k
    simp only [runT, List.length_append, gatT_len, conT_len, nxtT_len]
    push_cast
    rw [ih]
    unfold cntF
    rw [show ((k : Int) + 1 + 1) * (3 * (C.ands.length : Int) + C.constraints.length) = ((k : Int) + 1) * (3 * (C.ands.length : Int) + C.constraints.length) + (3 * (C.ands.length : Int) + C.constraints.length) by rw [Int.add_mul ((k : Int) + 1)]; simp,
      show ((k : Int) + 1 + 1 - 1) * (2 * (C.latches.length : Int)) = ((k : Int) + 1 - 1) * (2 * (C.latches.length : Int)) + 2 * (C.latches.length : Int) by rw [show (k : Int) + 1 + 1 - 1 = ((k : Int) + 1 - 1) + 1 by omega, Int.add_mul]; simp]
    omega
theorem runT_mono (C : Circ) (j : Nat) : ∀ d : Nat, (runT C j).length ≤ (runT C (j + d)).length
  | 0 => Nat.le_refl _
  | d + 1 => by
    have := runT_mono C j d
    show _ ≤ (runT C (j + d) ++ _).length
    rw [List.length_append]
    omega

set_option maxHeartbeats 2000000 in
set_option maxRecDepth 100000 in
theorem fLit_any (w : World) (V : CV) (C : Circ) (l s : Int) (h : C.In w V) (ok : C.Ok) :
    Calls Try.prog 22 #[V.val C.max, .int .i64 l, .int .i64 s] w fun e w' => e = .returned (.tuple #[.int .i64 (litFT C l s), .int .i64 (fitLT C l s)]) ∧ Below w.heap.size w w' := by
  obtain ⟨W0, hW0⟩ : ∃ W0, w.alloc (.cells (V.cells C.max) 29) = W0 := ⟨_, rfl⟩
  have HB : Hid (Below w.heap.size w W0) := Lib.hid (by rw [← hW0]; exact (Below.refl _ _).alloc (Nat.le_refl _) _)
  have HX : Hid (Blk W0 w.heap.size 29 (V.cells C.max)) := Lib.hid (by rw [← hW0]; exact Blk.new w _ _)
  have HBX : Hid (W0.heap[w.heap.size]? = some (.cells (V.cells C.max) 29 (0, 0))) := Lib.hid HX.out
  have HEL := Lib.hid (eLit_any W0 V C l (h.below HB.out) ok)
  have HW0 := Lib.hid hW0
  obtain ⟨f, hf⟩ : ∃ f, fitL C l = f := ⟨_, rfl⟩
  have elt : fitLT C l s = if f ≠ 0 then f else fitP C.max s 0 := by unfold fitLT; rw [hf]
  rw [hf] at HEL
  clear hW0 h ok
  by_cases h0 : f = 0
  · subst h0
    obtain ⟨hz, l0, l1⟩ := fitL_lit hf
    have hr := right_of hz
    have hm0 := hr.m0
    have hm1 := hr.m1
    have HCS := Lib.hid (fun wx => checkStep_any wx V C.max s 0 hr.m0 hr.m1 (by omega) (by omega))
    have elf : litF C l = litC l := if_pos hf
    rw [elf] at HEL
    rw [if_neg (by simp)] at elt
    obtain ⟨p, hp⟩ : ∃ p, fitP C.max s 0 = p := ⟨_, rfl⟩
    rw [hp] at HCS elt
    by_cases h1 : p = 0
    · subst h1
      obtain ⟨s0, s1, _⟩ := fitP_ok hp
      have hlc : -1000000 ≤ litC l ∧ litC l ≤ 1000000 := by unfold litC; split <;> omega
      have HMV := Lib.hid (fun wx => moved_any wx V C.max s (litC l) hr.m0 hr.m1 s0 (by omega) hlc.1 hlc.2)
      have e : litFT C l s = movF (s * C.max) (litC l) := if_pos elt
      rw [e, elt]
      generalize movF (s * C.max) (litC l) = y at *
      generalize litC l = lc at *
      clear hr hz hlc e elt hf hp elf
      go_enter Try.func22, Try.ntmps22
      go_upto_region 1 with (fail)
      rw [HW0.out]
      go_wp2_with (first
        | (refine wpList_load_row rfl 29 (.tmp 3) rfl w.heap.size rfl 29 (V.cells C.max) (0, 0) _ HBX.out Try.underlying29 rfl (by kernel_rfl) ?_)
        | (go_at_call 13; refine HEL.out.mono ?_; rintro e w1 ⟨rfl, hb1⟩; have HB1 := Lib.hid hb1; have HBX1 : Hid (w1.heap[w.heap.size]? = some (.cells (V.cells C.max) 29 (0, 0))) := Lib.hid (HX.out.below hb1 HX.out.lt); clear hb1 HBX; have HBX := HBX1; clear HBX1)
        | (go_at_call 58; refine (HCS.out _).mono ?_; rintro e w2 ⟨rfl, hb2⟩; have HB2 := Lib.hid (bt HB1.out (Nat.le_refl _) hb2); have HBX1 : Hid (w2.heap[w.heap.size]? = some (.cells (V.cells C.max) 29 (0, 0))) := Lib.hid (HX.out.below HB2.out HX.out.lt); clear hb2 HBX; have HBX := HBX1; clear HBX1)
        | (refine wpList_buildTo rfl 85 #[(0, .tmp 26), (1, .tmp 27)] rfl (some 28) rfl (frmC V C.max s) (by kernel_rfl) ?_)
        | (go_at_call 59; refine (HMV.out _).mono ?_; rintro e w3 ⟨rfl, hb3⟩; have HB3 := Lib.hid hb3; clear hb3))
      go_ret2
      exact ⟨rfl, bt (bt HB.out (Nat.le_refl _) HB2.out) (Nat.le_refl _) HB3.out⟩
    · have hq : (p != 0) = true := by simpa using h1
      have e : litFT C l s = 0 := if_neg (by rw [elt]; exact h1)
      rw [e, elt]
      clear hr hz e elt hf hp elf h1
      go_enter Try.func22, Try.ntmps22
      go_upto_region 1 with (fail)
      rw [HW0.out]
      go_wp2_with (first
        | (refine wpList_load_row rfl 29 (.tmp 3) rfl w.heap.size rfl 29 (V.cells C.max) (0, 0) _ HBX.out Try.underlying29 rfl (by kernel_rfl) ?_)
        | (go_at_call 13; refine HEL.out.mono ?_; rintro e w1 ⟨rfl, hb1⟩; have HB1 := Lib.hid hb1; have HBX1 : Hid (w1.heap[w.heap.size]? = some (.cells (V.cells C.max) 29 (0, 0))) := Lib.hid (HX.out.below hb1 HX.out.lt); clear hb1 HBX; have HBX := HBX1; clear HBX1)
        | (go_at_call 58; refine (HCS.out _).mono ?_; rintro e w2 ⟨rfl, hb2⟩; have HB2 := Lib.hid (bt HB1.out (Nat.le_refl _) hb2); clear hb2))
      go_ret2
      exact ⟨rfl, bt HB.out (Nat.le_refl _) HB2.out⟩
  · have hq : (f != 0) = true := by simpa using h0
    rw [if_pos h0] at elt
    have e : litFT C l s = 0 := if_neg (by rw [elt]; exact h0)
    rw [e, elt]
    clear e elt h0 hf
    go_enter Try.func22, Try.ntmps22
    go_upto_region 1 with (fail)
    rw [HW0.out]
    go_wp2_with (first
      | (refine wpList_load_row rfl 29 (.tmp 3) rfl w.heap.size rfl 29 (V.cells C.max) (0, 0) _ HBX.out Try.underlying29 rfl (by kernel_rfl) ?_)
      | (go_at_call 13; refine HEL.out.mono ?_; rintro e w1 ⟨rfl, hb1⟩; have HB1 := Lib.hid hb1; clear hb1))
    go_ret2
    exact ⟨rfl, bt HB.out (Nat.le_refl _) HB1.out⟩

set_option maxHeartbeats 2000000 in
set_option maxRecDepth 100000 in
theorem fcountOf_any (w : World) (V : CV) (C : Circ) (n : Int) (h : C.In w V) (hz : (checkR C).2 = 0) (h1 : 1 ≤ n) (h2 : n ≤ 512) :
    Calls Try.prog 72 #[V.val C.max, .int .i64 n] w fun e w' => e = .returned (.int .i64 (cntF C n)) ∧ Below w.heap.size w w' := by
  have hr := right_of hz
  obtain ⟨W0, hW0⟩ : ∃ W0, w.alloc (.cells (V.cells C.max) 29) = W0 := ⟨_, rfl⟩
  have HB : Hid (Below w.heap.size w W0) := Lib.hid (by rw [← hW0]; exact (Below.refl _ _).alloc (Nat.le_refl _) _)
  have HX : Hid (Blk W0 w.heap.size 29 (V.cells C.max)) := Lib.hid (by rw [← hW0]; exact Blk.new w _ _)
  have HRS := Lib.hid (resets_any W0 V C 0 (h.below HB.out) hz (by omega) (by omega))
  have HW0 := Lib.hid hW0
  have hrl : (resT C 0).length ≤ 16384 := by have := resC_len C.max 0 C.latches; have := hr.nl; unfold resT; omega
  obtain ⟨AA, na, ca, ea⟩ := sl_form h.a
  obtain ⟨AL, nl, cl, el⟩ := sl_form h.l
  obtain ⟨AC, nc, cc, ec⟩ := sl_form h.c
  have ha : na = C.ands.length := by obtain ⟨A, c, e, _⟩ := h.a; rw [ea] at e; injection e with _ e _
  have hl : nl = C.latches.length := by obtain ⟨A, c, e, _⟩ := h.l; rw [el] at e; injection e with _ e _
  have hc : nc = C.constraints.length := by obtain ⟨A, c, e, _⟩ := h.c; rw [ec] at e; injection e with _ e _
  have b1 : na ≤ 16384 := by rw [ha]; exact hr.na
  have b2 : nl ≤ 16384 := by rw [hl]; exact hr.nl
  have b3 : nc ≤ 16384 := by rw [hc]; exact hr.nc
  have ecn : cntF C n = 1 + (resT C 0).length + n * (3 * na + nc) + (n - 1) * (2 * nl) := by unfold cntF; rw [ha, hl, hc]
  rw [ecn]
  obtain ⟨r, hrr⟩ : ∃ r : Nat, (resT C 0).length = r := ⟨_, rfl⟩
  have HRL := Lib.hid hrr
  rw [hrr] at hrl ⊢
  have m1 : 0 ≤ n * (3 * (na : Int) + nc) ∧ n * (3 * (na : Int) + nc) ≤ 512 * 65536 := ⟨Int.mul_nonneg (by omega) (by omega), Int.mul_le_mul h2 (by omega) (by omega) (by omega)⟩
  have m2 : 0 ≤ (n - 1) * (2 * (nl : Int)) ∧ (n - 1) * (2 * (nl : Int)) ≤ 512 * 32768 := ⟨Int.mul_nonneg (by omega) (by omega), Int.mul_le_mul (by omega) (by omega) (by omega) (by omega)⟩
  have w1 : IntKind.i64.wrap (3 * (na : Int)) = 3 * (na : Int) := i64_in (by omega)
  have w2 : IntKind.i64.wrap (3 * (na : Int) + nc) = 3 * (na : Int) + nc := i64_in (by omega)
  have w3 : IntKind.i64.wrap (2 * (nl : Int)) = 2 * (nl : Int) := i64_in (by omega)
  have w4 : IntKind.i64.wrap (1 + (r : Int)) = 1 + (r : Int) := i64_in (by omega)
  have w5 : IntKind.i64.wrap (n * (3 * (na : Int) + nc)) = n * (3 * (na : Int) + nc) := i64_in (by omega)
  have w6 : IntKind.i64.wrap (n - 1) = n - 1 := i64_in (by omega)
  have w7 : IntKind.i64.wrap ((n - 1) * (2 * (nl : Int))) = (n - 1) * (2 * (nl : Int)) := i64_in (by omega)
  generalize hx1 : n * (3 * (na : Int) + nc) = x1 at *
  generalize hx2 : (n - 1) * (2 * (nl : Int)) = x2 at *
  have w8 : IntKind.i64.wrap (1 + (r : Int) + x1) = 1 + (r : Int) + x1 := i64_in (by omega)
  have w9 : IntKind.i64.wrap (1 + (r : Int) + x1 + x2) = 1 + (r : Int) + x1 + x2 := i64_in (by omega)
  obtain ⟨Vi, Vl, Vo, Vb, Vc, Vj, Vf, Va, Vs, Vt⟩ := V
  simp only at ea el ec
  subst ea el ec
  obtain ⟨c0, c1, c2, c3, c4, c5, c6, c7, c8, c9, c10⟩ := rbox_of HX.out
  have HC := Lib.hid (fun (wx : World) (hb : Below W0.heap.size W0 wx) => rbox_of (HX.out.below hb HX.out.lt))
  clear hW0 hr h hz ha hl hc ecn hrr
  go_enter Try.func72, Try.ntmps72
  go_upto_region 1 with (fail)
  rw [HW0.out]
  go_upto_region 2 with (first
    | (refine wpList_buildTo rfl 85 #[(0, .tmp 8), (1, .const (.int .i64 0))] rfl (some 9) rfl (frmC ⟨Vi, .slice AL nl cl, Vo, Vb, .slice AC nc cc, Vj, Vf, .slice AA na ca, Vs, Vt⟩ C.max 0) (by kernel_rfl) ?_)
    | (go_at_call 70; refine HRS.out.mono ?_; rintro e w1 ⟨hb1, v1, us1, rfl, hcr⟩; obtain ⟨A1, k1, e1⟩ := own_slice_k hcr.own; subst e1; have hul : us1.length = r := hcr.ul.trans HRL.out; rw [hul]; have HB1 := Lib.hid hb1; clear hb1 hcr hul c0 c1 c2 c3 c4 c5 c6 c7 c8 c9 c10; obtain ⟨c0, c1, c2, c3, c4, c5, c6, c7, c8, c9, c10⟩ := HC.out _ HB1.out))
  go_wp2
  go_ret
  exact ⟨rfl, bt HB.out (Nat.le_refl _) HB1.out⟩
end Go.Proofs.Ytdodhbfplglbkaa

namespace Go.Proofs.Ytdodhbfplglbkaa
open Go.RowKit

/-- Behind put, ahead of the store into the formula: all that a store wants, and what stands behind it. -/
theorem rs_put {W5 wx w4 : World} {B gf nb : Nat} {vn : Int} {v v' : Value} {us us' : List Value} {F F' : List (List Int)} {fr : Array Value} {o : Obj} (hb : Below B W5 wx) (hB : B ≤ wx.heap.size) (hgf : B ≤ gf) (hf : Blk wx gf 34 #[.int .i64 vn, v]) (hn : Blk wx nb 85 fr) (hc : CRow wx B v us F)
    (hk : KeepX (fun k => v.ownBlock = some k) (wx.alloc o) w4) (hc' : CRow w4 B v' us' F') :
    (w4.cell? ⟨gf, 1, none⟩ = some v ∧ w4.frozen? ⟨gf, 1, none⟩ = false ∧ gf < w4.heap.size) ∧ Below B W5 (w4.setCell ⟨gf, 1, none⟩ v') ∧ Blk (w4.setCell ⟨gf, 1, none⟩ v') gf 34 #[.int .i64 vn, v'] ∧ Blk (w4.setCell ⟨gf, 1, none⟩ v') nb 85 fr ∧ CRow (w4.setCell ⟨gf, 1, none⟩ v') B v' us' F' := by
  have h1 : Blk w4 gf 34 #[.int .i64 vn, v] := hk.blk_ (hf.alloc o) (own_blk_ne hc.own hf (by decide))
  have h2 : Blk w4 nb 85 fr := hk.blk_ (hn.alloc o) (own_blk_ne hc.own hn (by decide))
  have h3 : Below B W5 w4 := (hb.alloc hB o).trans (hk.belowB (by simp; omega) (fun k e => (hc.own.lt k e).1))
  refine ⟨⟨by simpa using h1.cell 1, h1.frozen 1, h1.lt⟩, h3.setCell hgf _, by simpa using h1.set_ 1 v', Blk.far h2 (p := ⟨gf, 1, none⟩) (h2.ne_ h1 (by decide)) _, hc'.far h1 (by decide) (by decide) (fun k _ hk => Below.heap_setCell _ _ _ _ hk)⟩
theorem rs_first {W5 wc w2 : World} {B gf : Nat} {vn : Int} {v v' : Value} {us' : List Value} {F' : List (List Int)} (hb : Below B W5 wc) (hgf : B ≤ gf) (hBs : B ≤ wc.heap.size) (hf : Blk wc gf 34 #[.int .i64 vn, v]) (hc : CRow wc B v [] []) {w1 : World} (hb1 : Below wc.heap.size wc w1) (hg : w1.grownBy w2 v.ownBlock) (hc' : CRow w2 B v' us' F') :
    (w2.cell? ⟨gf, 1, none⟩ = some v ∧ w2.frozen? ⟨gf, 1, none⟩ = false ∧ gf < w2.heap.size) ∧ Below B W5 (w2.setCell ⟨gf, 1, none⟩ v') ∧ Blk (w2.setCell ⟨gf, 1, none⟩ v') gf 34 #[.int .i64 vn, v'] ∧ CRow (w2.setCell ⟨gf, 1, none⟩ v') B v' us' F' := by
  have h1 : Blk w2 gf 34 #[.int .i64 vn, v] := Blk.grown (hf.below hb1 hf.lt) hg (Ne.symm (own_blk_ne hc.own hf (by decide)))
  have h3 : Below B W5 w2 := (hb.trans (hb1.mono hBs)).grown hg (Nat.le_trans hBs hb1.size) (fun k hk => (hc.own.lt k hk).1)
  exact ⟨⟨by simpa using h1.cell 1, h1.frozen 1, h1.lt⟩, h3.setCell hgf _, by simpa using h1.set_ 1 v', hc'.far h1 (by decide) (by decide) (fun k _ hk => Below.heap_setCell _ _ _ _ hk)⟩

set_option maxHeartbeats 20000000 in
set_option maxRecDepth 100000 in
theorem fRun_any (w : World) (V : CV) (C : Circ) (n : Int) (h : C.In w V) (ok : C.Ok) :
    Calls Try.prog 35 #[V.val C.max, .int .i64 n] w fun e w' => Below w.heap.size w w' ∧ ∃ v us, e = .returned (.tuple #[.agg #[.int .i64 (runN C n), v], .int .i64 (fitR C n)]) ∧ CRow w' w.heap.size v us (runF C n) := by
  obtain ⟨W0, hW0⟩ : ∃ W0, (w.alloc (.cells (V.cells C.max) 29)).alloc (.cells #[.int .i64 0, .slice none 0 0] 34) = W0 := ⟨_, rfl⟩
  have HB0 : Hid (Below w.heap.size w W0) := Lib.hid (by rw [← hW0]; exact ((Below.refl w.heap.size w).alloc (Nat.le_refl _) _).alloc (by simp) _)
  have HX0 : Hid (Blk W0 w.heap.size 29 (V.cells C.max)) := Lib.hid (by rw [← hW0]; exact (Blk.new w _ _).alloc _)
  have H1 : Hid (Blk W0 (w.heap.size + 1) 34 #[.int .i64 0, .slice none 0 0]) := Lib.hid (by
    rw [← hW0]
    have := Blk.new (w.alloc (.cells (V.cells C.max) 29)) 34 #[.int .i64 0, .slice none 0 0]
    simpa using this)
  have HS0 : Hid (W0.heap.size = w.heap.size + 1 + 1) := Lib.hid (by rw [← hW0]; simp)
  have HW0 := Lib.hid hW0
  have HIN := Lib.hid (h.below HB0.out)
  have HCK := Lib.hid (fcheck_any W0 V C n HIN.out ok)
  have HBX : Hid (W0.heap[w.heap.size]? = some (.cells (V.cells C.max) 29 (0, 0))) := Lib.hid HX0.out
  have HOK := Lib.hid ok
  obtain ⟨f, hf⟩ : ∃ f, fitN C n = f := ⟨_, rfl⟩
  rw [hf] at HCK
  clear hW0 h ok
  by_cases h0 : f = 0
  · subst h0
    have hz : (checkR C).2 = 0 := by
      unfold fitN at hf
      by_cases h1 : (checkR C).2 = 0
      · exact h1
      · rw [if_pos h1] at hf; exact hf
    have hr := right_of hz
    have hs : fitS C.max n = 0 := by unfold fitN at hf; rw [if_neg (by rw [hz]; simp)] at hf; exact hf
    obtain ⟨s1, s2, s3⟩ := fitS_ok hs
    have HZ := Lib.hid hz
    have HCNT := Lib.hid (fun (wx : World) (hb : Below W0.heap.size W0 wx) => fcountOf_any wx V C n (HIN.out.below hb) hz s1 s2)
    have efr : fitR C n = if 524288 < cntF C n then 6 else 0 := by unfold fitR; rw [if_neg (by rw [hf]; simp)]
    by_cases hct : 524288 < cntF C n
    · rw [if_pos hct] at efr
      have ern : runN C n = 0 := if_neg (by rw [efr]; decide)
      have erf : runF C n = [] := if_neg (by rw [efr]; decide)
      rw [efr, ern, erf]
      generalize cntF C n = cn at *
      clear hr hs hz hf efr ern erf s1 s2 s3
      go_enter Try.func35, Try.ntmps35
      go_upto_region 1 with (fail)
      rw [HW0.out]
      go_wp2_with (first
        | (refine wpList_load_row rfl 29 (.tmp 2) rfl w.heap.size rfl 29 (V.cells C.max) (0, 0) _ HBX.out Try.underlying29 rfl (by kernel_rfl) ?_)
        | (go_at_call 62; refine HCK.out.mono ?_; rintro e w1 ⟨rfl, hb1⟩; have HB1 := Lib.hid hb1; have HBX1 : Hid (w1.heap[w.heap.size]? = some (.cells (V.cells C.max) 29 (0, 0))) := Lib.hid (HX0.out.below hb1 HX0.out.lt); clear hb1 HBX; have HBX := HBX1; clear HBX1)
        | (go_at_call 72; refine (HCNT.out _ HB1.out).mono ?_; rintro e w2 ⟨rfl, hb2⟩; have HB2 := Lib.hid (bt HB1.out (Nat.le_refl _) hb2); have HR1 := Lib.hid (H1.out.below HB2.out H1.out.lt); have r0 := HR1.out.cell 0; have r1 := HR1.out.cell 1; have rf0 := HR1.out.frozen 0; have rf1 := HR1.out.frozen 1; have rl := HR1.out.lt; simp only [List.getElem?_toArray, List.getElem?_cons_zero, List.getElem?_cons_succ] at r0 r1; clear hb2))
      have hw9 : Blk ((w2.setCell ⟨w.heap.size + 1, 0, none⟩ (.int .i64 0)).setCell ⟨w.heap.size + 1, 1, none⟩ (.slice none 0 0)) (w.heap.size + 1) 34 #[.int .i64 0, .slice none 0 0] := by
        have := (HR1.out.set_ 0 (.int .i64 0)).set_ 1 (.slice none 0 0)
        simpa using this
      refine bodyPost_ret (results_cell_oneE (fn := Try.f35) (p := 4) (q := 5) rfl _ _ (w.heap.size + 1) 34 #[.int .i64 0, .slice none 0 0] (0, 0) _ rfl hw9 Try.underlying34 rfl (by kernel_rfl) (.int .i64 6) rfl) rfl ?_
      exact ⟨((bt HB0.out (Nat.le_refl _) HB2.out).setCell (by simp) _).setCell (by simp) _, _, [], rfl, crow_none _ _⟩
    · rw [if_neg hct] at efr
      obtain ⟨K, hK⟩ : ∃ K : Nat, n = (K : Int) + 1 := ⟨(n - 1).toNat, by omega⟩
      have ern : runN C n = 1 + n * C.max := if_pos efr
      have erf : runF C n = runT C K := by unfold runF; rw [if_pos efr]; congr 1; omega
      rw [efr, ern, erf]
      have HRL : Hid (∀ j, j ≤ K → (runT C j).length ≤ 524288) := Lib.hid (fun j hj => by
        have h1 := runT_mono C j (K - j)
        rw [show j + (K - j) = K by omega] at h1
        have h2 := runT_len C K
        rw [← hK] at h2
        omega)
      obtain ⟨cp, hcp⟩ : ∃ cp : Nat, cntF C n = (cp : Int) := ⟨(runT C K).length, by rw [runT_len, hK]⟩
      have hcp2 : cp ≤ 600000 := by omega
      have HVO := Lib.hid (fun wx => fvarsOf_any wx V C.max n hr.m0 hr.m1 (by omega) (by omega))
      have HRUN := Lib.hid (fun (wx : World) (hb : Below W0.heap.size W0 wx) => running_any wx V C C.max (HIN.out.below hb))
      have HTH := Lib.hid (fun (wx : World) (t : Int) (h2 : 0 ≤ t) (h3 : t ≤ 600) => then_any wx (runV V) C.max t (frmC_one (runC_in HIN.out) C.max (t + 1)) h2 h3)
      have HONE := Lib.hid (fun t : Int => frmC_one (runC_in HIN.out) C.max t)
      have HPUTG : Hid (∀ (W5 wx : World) (B : Nat) (t : Int) (v : Value) (us : List Value) (F : List (List Int)) (gp : Nat) (ps : List Pt), Below W0.heap.size W0 W5 → 0 ≤ t → t ≤ 599 → W5.heap.size = B → Below B W5 wx → B ≤ wx.heap.size → CRow wx B v us F → Blk wx gp 138 (ps.map Pt.val).toArray → ps.length ≤ 10 → F.length ≤ 524288 →
          Calls Try.prog 74 #[frmV (runV V) C.max t, v, .slice (some ⟨gp, 0, none⟩) ps.length ps.length] wx fun e w' => ∃ v' us', e = .returned v' ∧ KeepX (fun k => v.ownBlock = some k) wx w' ∧ (v'.ownBlock = v.ownBlock ∨ ∀ k, v'.ownBlock = some k → wx.heap.size ≤ k) ∧ CRow w' B v' us' (F ++ ps.flatMap (Pt.cls C t))) := Lib.hid (fun W5 wx B t v us F gp ps hb h2 h3 hB hbw hBs hc hp hpl hF => by
        have := fput_any W5 wx B (runV V) (runC C) t v us F gp ps (runC_in (HIN.out.below hb)) (runC_ok HOK.out) (runC_check HZ.out) h2 h3 (by omega) hbw hBs hc hp hpl (by have := pts_len (runC_check HZ.out) t ps; omega)
        rwa [cls_run, show (runC C).max = C.max from rfl] at this)
      obtain ⟨i0, hi0, hz0, hz1, hz2⟩ := info_of2 infoCl
      have HI0 := Lib.hid (And.intro hi0 (And.intro hz0 (And.intro hz1 hz2)))
      obtain ⟨vn, hvn⟩ : ∃ vn, 1 + n * C.max = vn := ⟨_, rfl⟩
      obtain ⟨m, hm⟩ : ∃ m, C.max = m := ⟨_, rfl⟩
      rw [hm] at hvn HX0 HBX HCK HCNT HVO HRUN HTH HONE HPUTG HW0 ⊢
      rw [hvn] at HVO ⊢
      rw [hcp] at HCNT hct
      have hwk : IntKind.i64.wrap (n - 1) = (K : Int) := by rw [hK]; exact (congrArg _ (by omega)).trans (i64_in (x := (K : Int)) (by omega))
      have hcp3 : ¬ 524288 < (cp : Int) := hct
      have hmk := make_clauses cp (by omega)
      have hk8 : K ≤ 511 := by omega
      clear hr hs hz hf efr ern erf hcp hct hi0 hz0 hz1 hz2 hvn hm s1 s2 s3 hK
      go_enter Try.func35, Try.ntmps35
      go_upto_region 1 with (fail)
      rw [HW0.out]
      go_upto_region 7 with (first
        | (refine wpList_load_row rfl 29 (.tmp 2) rfl w.heap.size rfl 29 (V.cells m) (0, 0) _ HBX.out Try.underlying29 rfl (by kernel_rfl) ?_)
        | (go_at_call 62; refine HCK.out.mono ?_; rintro e w1 ⟨rfl, hb1⟩; have HB1 := Lib.hid hb1; have HBX1 : Hid (w1.heap[w.heap.size]? = some (.cells (V.cells m) 29 (0, 0))) := Lib.hid (HX0.out.below hb1 HX0.out.lt); clear hb1 HBX; have HBX := HBX1; clear HBX1)
        | (go_at_call 72; refine (HCNT.out _ HB1.out).mono ?_; rintro e W5 ⟨rfl, hb2⟩; have HB5 := Lib.hid (bt HB1.out (Nat.le_refl _) hb2); clear hb2))
      have HX5 := Lib.hid (HX0.out.below HB5.out HX0.out.lt)
      go_cut [8] (fun p wx => ∃ (gf : Nat) (v : Value), p = .pointer (some ⟨gf, 0, none⟩) ∧ Below W5.heap.size W5 wx ∧ W5.heap.size ≤ gf ∧ Blk wx gf 34 #[.int .i64 vn, v] ∧ CRow wx W5.heap.size v [] [])
      case first =>
        refine wp_region_T (by kernel_rfl) (fun w' => Blk w' w.heap.size 29 (V.cells m)) 8 ?_
        have hHeld := HX5.out.drew
        refine wpAnyT_take (i := 0) (v := ?v0q1) rfl (by kernel_rfl) (fun _ _ _ h => h) (by rfl) hHeld ?h0q1 ?_
        case h0q1 => (intro w' hSw; (try dsimp only at hSw); obtain ⟨c0, c1, c2, c3, c4, c5, c6, c7, c8, c9, c10⟩ := rbox_of hSw; go_simp; try with_reducible rfl)
        (try simp only [Act.put, List.setIfInBounds_toArray])
        refine wpAnyT_take (i := 1) (v := ?v1q2) rfl (by kernel_rfl) (fun _ _ _ h => h) (by rfl) hHeld ?h1q2 ?_
        case h1q2 => (intro w' hSw; (try dsimp only at hSw); go_simp; try with_reducible rfl)
        (try simp only [Act.put])
        refine wpAnyT_take (i := 3) (v := ?v3q3) rfl (by kernel_rfl) (fun _ _ _ h => h) (by rfl) hHeld ?h3q3 ?_
        case h3q3 => (intro w' hSw; (try dsimp only at hSw); go_simp; try with_reducible rfl)
        (try simp only [Act.put])
        clear hHeld
        have HB : Hid (Below W5.heap.size W5 W5.drew) := Lib.hid (Below.refl _ _).drew
        refine wpAnyT_threeE (i := 2) (j := 4) (k := 6) (by kernel_rfl) ?_ ?_ ?_
        · refine wpOpE (i := 2) rfl (fun K hK => ?_)
          go_simp
          go_at_call 63
          refine (HVO.out _).mono ?_
          rintro e w1 ⟨rfl, hb1⟩
          have HBN := Lib.hid (bt HB.out (Nat.le_refl _) hb1)
          clear hb1
          clear HB
          have HB := HBN
          clear HBN
          refine hK.out _ _ (fun _ => HX5.out.below HB.out HX5.out.lt) ?_
          clear hK K
          (try simp only [Act.put, List.setIfInBounds_toArray, List.set_cons_zero, List.set_cons_succ])
          refine wpAnyT_twoE (i := 4) (j := 6) (by kernel_rfl) ?_ ?_
          · refine wpOpE (i := 4) rfl (fun K hK => ?_)
            go_simp
            obtain ⟨gm, hgm⟩ : ∃ g, w1.heap.size = g := ⟨_, rfl⟩
            obtain ⟨w2, hw⟩ : ∃ x, w1.alloc (.cells (madeCells #[Value.slice none 0 0] cp) 81) = x := ⟨_, rfl⟩
            have HCN : Hid (CRow w2 W5.heap.size (.slice (some ⟨gm, 0, none⟩) 0 cp) [] []) := Lib.hid (by rw [← hw, ← hgm]; exact crow_nil _ _ HB.out.size (by omega))
            have HBN : Hid (Below W5.heap.size W5 w2) := Lib.hid (by rw [← hw]; exact HB.out.alloc HB.out.size _)
            rw [hgm, hw]
            clear hgm hw
            clear HB
            have HB := HBN
            clear HBN
            have HC := HCN
            clear HCN
            refine hK.out _ _ (fun _ => HX5.out.below HB.out HX5.out.lt) ?_
            clear hK K
            (try simp only [Act.put, List.setIfInBounds_toArray, List.set_cons_zero, List.set_cons_succ])
            have hHeld := HX5.out.below HB.out HX5.out.lt
            refine wpAnyT_take (i := 5) (v := ?v5r6) rfl (by kernel_rfl) (fun _ _ _ h => h) (by rfl) hHeld ?h5r6 ?_
            case h5r6 => (intro w' hSw; (try dsimp only at hSw); go_simp; try with_reducible rfl)
            (try simp only [Act.put, List.setIfInBounds_toArray])
            clear hHeld
            refine wpAnyT_one (i := 6) rfl (by kernel_rfl) (fun K hK => ?_)
            go_simp
            obtain ⟨gf, hgf⟩ : ∃ g, w2.heap.size = g := ⟨_, rfl⟩
            obtain ⟨w3, hw⟩ : ∃ x, w2.alloc (.cells #[.int .i64 0, .slice none 0 0] 34) = x := ⟨_, rfl⟩
            have HFN : Hid (W5.heap.size ≤ gf ∧ Blk w3 gf 34 #[.int .i64 0, .slice none 0 0]) := Lib.hid (by rw [← hw, ← hgf]; exact ⟨HB.out.size, Blk.new _ _ _⟩)
            have HBN : Hid (Below W5.heap.size W5 w3) := Lib.hid (by rw [← hw]; exact HB.out.alloc HB.out.size _)
            have HCN : Hid (CRow w3 W5.heap.size (.slice (some ⟨gm, 0, none⟩) 0 cp) [] []) := Lib.hid (by rw [← hw]; exact HC.out.below ((Below.refl _ _).alloc (Nat.le_refl _) _))
            rw [hgf, hw]
            clear hgf hw
            clear HB
            clear HC
            have HB := HBN
            clear HBN
            have HC := HCN
            clear HCN
            have HF := HFN
            clear HFN
            refine hK.out _ _ (fun _ => HX5.out.below HB.out HX5.out.lt) ?_
            clear hK K
            (try simp only [Act.put, List.setIfInBounds_toArray, List.set_cons_zero, List.set_cons_succ])
            refine wpAnyT_one (i := 7) rfl (by kernel_rfl) (fun K hK => ?_)
            rw [if_pos (by rfl)]
            refine wp_store_row 34 (.tmp 8) (.tmp 28) rfl gf #[.int .i64 vn, .slice (some ⟨gm, 0, none⟩) 0 cp] rfl rfl 34 _ HF.out.2 (by kernel_rfl) rfl (by simp [Value.oneCell']) ?_
            refine hK.out _ _ (fun _ => (setRow_other _ _ _ _ (by have := HX5.out.lt; have := HF.out.1; omega)).trans (HX5.out.below HB.out HX5.out.lt)) ?_
            clear hK K
            (try simp only [Act.put, List.setIfInBounds_toArray])
            refine wpAnyT_done (by kernel_rfl) ?_
            go_wp2_with fail
            go_meet
            exact ⟨gf, _, rfl, below_setRowE HB.out HF.out.1, HF.out.1, setRow_heap _ _ _ _ _ _ HF.out.2, HC.out.far HF.out.2 (by decide) (by decide) (fun k _ hk => setRow_other _ _ _ _ hk)⟩
          · refine wpOpE (i := 6) rfl (fun K hK => ?_)
            go_simp
            obtain ⟨gf, hgf⟩ : ∃ g, w1.heap.size = g := ⟨_, rfl⟩
            obtain ⟨w4, hw⟩ : ∃ x, w1.alloc (.cells #[.int .i64 0, .slice none 0 0] 34) = x := ⟨_, rfl⟩
            have HFN : Hid (W5.heap.size ≤ gf ∧ Blk w4 gf 34 #[.int .i64 0, .slice none 0 0]) := Lib.hid (by rw [← hw, ← hgf]; exact ⟨HB.out.size, Blk.new _ _ _⟩)
            have HBN : Hid (Below W5.heap.size W5 w4) := Lib.hid (by rw [← hw]; exact HB.out.alloc HB.out.size _)
            rw [hgf, hw]
            clear hgf hw
            clear HB
            have HB := HBN
            clear HBN
            have HF := HFN
            clear HFN
            refine hK.out _ _ (fun _ => HX5.out.below HB.out HX5.out.lt) ?_
            clear hK K
            (try simp only [Act.put, List.setIfInBounds_toArray, List.set_cons_zero, List.set_cons_succ])
            refine wpAnyT_one (i := 4) rfl (by kernel_rfl) (fun K hK => ?_)
            go_simp
            obtain ⟨gm, hgm⟩ : ∃ g, w4.heap.size = g := ⟨_, rfl⟩
            obtain ⟨w5, hw⟩ : ∃ x, w4.alloc (.cells (madeCells #[Value.slice none 0 0] cp) 81) = x := ⟨_, rfl⟩
            have HCN : Hid (CRow w5 W5.heap.size (.slice (some ⟨gm, 0, none⟩) 0 cp) [] []) := Lib.hid (by rw [← hw, ← hgm]; exact crow_nil _ _ HB.out.size (by omega))
            have HBN : Hid (Below W5.heap.size W5 w5) := Lib.hid (by rw [← hw]; exact HB.out.alloc HB.out.size _)
            have HFN : Hid (W5.heap.size ≤ gf ∧ Blk w5 gf 34 #[.int .i64 0, .slice none 0 0]) := Lib.hid (by rw [← hw]; exact ⟨HF.out.1, HF.out.2.alloc _⟩)
            rw [hgm, hw]
            clear hgm hw
            clear HB
            clear HF
            have HB := HBN
            clear HBN
            have HC := HCN
            clear HCN
            have HF := HFN
            clear HFN
            refine hK.out _ _ (fun _ => HX5.out.below HB.out HX5.out.lt) ?_
            clear hK K
            (try simp only [Act.put, List.setIfInBounds_toArray, List.set_cons_zero, List.set_cons_succ])
            refine wpAnyT_one (i := 5) rfl (by kernel_rfl) (fun K hK => ?_)
            go_simp
            refine hK.out _ _ (fun _ => HX5.out.below HB.out HX5.out.lt) ?_
            clear hK K
            (try simp only [Act.put, List.setIfInBounds_toArray, List.set_cons_zero, List.set_cons_succ])
            refine wpAnyT_one (i := 7) rfl (by kernel_rfl) (fun K hK => ?_)
            rw [if_pos (by rfl)]
            refine wp_store_row 34 (.tmp 8) (.tmp 28) rfl gf #[.int .i64 vn, .slice (some ⟨gm, 0, none⟩) 0 cp] rfl rfl 34 _ HF.out.2 (by kernel_rfl) rfl (by simp [Value.oneCell']) ?_
            refine hK.out _ _ (fun _ => (setRow_other _ _ _ _ (by have := HX5.out.lt; have := HF.out.1; omega)).trans (HX5.out.below HB.out HX5.out.lt)) ?_
            clear hK K
            (try simp only [Act.put, List.setIfInBounds_toArray])
            refine wpAnyT_done (by kernel_rfl) ?_
            go_wp2_with fail
            go_meet
            exact ⟨gf, _, rfl, below_setRowE HB.out HF.out.1, HF.out.1, setRow_heap _ _ _ _ _ _ HF.out.2, HC.out.far HF.out.2 (by decide) (by decide) (fun k _ hk => setRow_other _ _ _ _ hk)⟩
        · refine wpOpE (i := 4) rfl (fun K hK => ?_)
          go_simp
          obtain ⟨gm, hgm⟩ : ∃ g, W5.heap.size = g := ⟨_, rfl⟩
          obtain ⟨w6, hw⟩ : ∃ x, (W5.alloc (.cells (madeCells #[Value.slice none 0 0] cp) 81)).drew = x := ⟨_, rfl⟩
          have HCN : Hid (CRow w6 W5.heap.size (.slice (some ⟨gm, 0, none⟩) 0 cp) [] []) := Lib.hid (by rw [← hw, ← hgm]; exact (crow_nil _ _ (Nat.le_refl _) (by omega)).below (Below.refl _ _).drew)
          have HBN : Hid (Below W5.heap.size W5 w6) := Lib.hid (by rw [← hw]; exact ((Below.refl _ _).alloc (Nat.le_refl _) _).drew)
          rw [hgm, hw]
          clear hgm hw
          clear HB
          have HB := HBN
          clear HBN
          have HC := HCN
          clear HCN
          refine hK.out _ _ (fun _ => HX5.out.below HB.out HX5.out.lt) ?_
          clear hK K
          (try simp only [Act.put, List.setIfInBounds_toArray, List.set_cons_zero, List.set_cons_succ])
          refine wpAnyT_twoE (i := 2) (j := 6) (by kernel_rfl) ?_ ?_
          · refine wpOpE (i := 2) rfl (fun K hK => ?_)
            go_simp
            go_at_call 63
            refine (HVO.out _).mono ?_
            rintro e w7 ⟨rfl, hb1⟩
            have HBN := Lib.hid (bt HB.out (Nat.le_refl _) hb1)
            have HCN := Lib.hid (HC.out.below hb1)
            clear hb1
            clear HB
            clear HC
            have HB := HBN
            clear HBN
            have HC := HCN
            clear HCN
            refine hK.out _ _ (fun _ => HX5.out.below HB.out HX5.out.lt) ?_
            clear hK K
            (try simp only [Act.put, List.setIfInBounds_toArray, List.set_cons_zero, List.set_cons_succ])
            have hHeld := HX5.out.below HB.out HX5.out.lt
            refine wpAnyT_take (i := 5) (v := ?v5r7) rfl (by kernel_rfl) (fun _ _ _ h => h) (by rfl) hHeld ?h5r7 ?_
            case h5r7 => (intro w' hSw; (try dsimp only at hSw); go_simp; try with_reducible rfl)
            (try simp only [Act.put, List.setIfInBounds_toArray])
            clear hHeld
            refine wpAnyT_one (i := 6) rfl (by kernel_rfl) (fun K hK => ?_)
            go_simp
            obtain ⟨gf, hgf⟩ : ∃ g, w7.heap.size = g := ⟨_, rfl⟩
            obtain ⟨w8, hw⟩ : ∃ x, w7.alloc (.cells #[.int .i64 0, .slice none 0 0] 34) = x := ⟨_, rfl⟩
            have HFN : Hid (W5.heap.size ≤ gf ∧ Blk w8 gf 34 #[.int .i64 0, .slice none 0 0]) := Lib.hid (by rw [← hw, ← hgf]; exact ⟨HB.out.size, Blk.new _ _ _⟩)
            have HBN : Hid (Below W5.heap.size W5 w8) := Lib.hid (by rw [← hw]; exact HB.out.alloc HB.out.size _)
            have HCN : Hid (CRow w8 W5.heap.size (.slice (some ⟨gm, 0, none⟩) 0 cp) [] []) := Lib.hid (by rw [← hw]; exact HC.out.below ((Below.refl _ _).alloc (Nat.le_refl _) _))
            rw [hgf, hw]
            clear hgf hw
            clear HB
            clear HC
            have HB := HBN
            clear HBN
            have HC := HCN
            clear HCN
            have HF := HFN
            clear HFN
            refine hK.out _ _ (fun _ => HX5.out.below HB.out HX5.out.lt) ?_
            clear hK K
            (try simp only [Act.put, List.setIfInBounds_toArray, List.set_cons_zero, List.set_cons_succ])
            refine wpAnyT_one (i := 7) rfl (by kernel_rfl) (fun K hK => ?_)
            rw [if_pos (by rfl)]
            refine wp_store_row 34 (.tmp 8) (.tmp 28) rfl gf #[.int .i64 vn, .slice (some ⟨gm, 0, none⟩) 0 cp] rfl rfl 34 _ HF.out.2 (by kernel_rfl) rfl (by simp [Value.oneCell']) ?_
            refine hK.out _ _ (fun _ => (setRow_other _ _ _ _ (by have := HX5.out.lt; have := HF.out.1; omega)).trans (HX5.out.below HB.out HX5.out.lt)) ?_
            clear hK K
            (try simp only [Act.put, List.setIfInBounds_toArray])
            refine wpAnyT_done (by kernel_rfl) ?_
            go_wp2_with fail
            go_meet
            exact ⟨gf, _, rfl, below_setRowE HB.out HF.out.1, HF.out.1, setRow_heap _ _ _ _ _ _ HF.out.2, HC.out.far HF.out.2 (by decide) (by decide) (fun k _ hk => setRow_other _ _ _ _ hk)⟩
          · refine wpOpE (i := 6) rfl (fun K hK => ?_)
            go_simp
            obtain ⟨gf, hgf⟩ : ∃ g, w6.heap.size = g := ⟨_, rfl⟩
            obtain ⟨w9, hw⟩ : ∃ x, w6.alloc (.cells #[.int .i64 0, .slice none 0 0] 34) = x := ⟨_, rfl⟩
            have HFN : Hid (W5.heap.size ≤ gf ∧ Blk w9 gf 34 #[.int .i64 0, .slice none 0 0]) := Lib.hid (by rw [← hw, ← hgf]; exact ⟨HB.out.size, Blk.new _ _ _⟩)
            have HBN : Hid (Below W5.heap.size W5 w9) := Lib.hid (by rw [← hw]; exact HB.out.alloc HB.out.size _)
            have HCN : Hid (CRow w9 W5.heap.size (.slice (some ⟨gm, 0, none⟩) 0 cp) [] []) := Lib.hid (by rw [← hw]; exact HC.out.below ((Below.refl _ _).alloc (Nat.le_refl _) _))
            rw [hgf, hw]
            clear hgf hw
            clear HB
            clear HC
            have HB := HBN
            clear HBN
            have HC := HCN
            clear HCN
            have HF := HFN
            clear HFN
            refine hK.out _ _ (fun _ => HX5.out.below HB.out HX5.out.lt) ?_
            clear hK K
            (try simp only [Act.put, List.setIfInBounds_toArray, List.set_cons_zero, List.set_cons_succ])
            refine wpAnyT_one (i := 2) rfl (by kernel_rfl) (fun K hK => ?_)
            go_simp
            go_at_call 63
            refine (HVO.out _).mono ?_
            rintro e w10 ⟨rfl, hb1⟩
            have HBN := Lib.hid (bt HB.out (Nat.le_refl _) hb1)
            have HCN := Lib.hid (HC.out.below hb1)
            have HFN := Lib.hid (And.intro HF.out.1 (HF.out.2.below hb1 HF.out.2.lt))
            clear hb1
            clear HB
            clear HC
            clear HF
            have HB := HBN
            clear HBN
            have HC := HCN
            clear HCN
            have HF := HFN
            clear HFN
            refine hK.out _ _ (fun _ => HX5.out.below HB.out HX5.out.lt) ?_
            clear hK K
            (try simp only [Act.put, List.setIfInBounds_toArray, List.set_cons_zero, List.set_cons_succ])
            refine wpAnyT_one (i := 5) rfl (by kernel_rfl) (fun K hK => ?_)
            go_simp
            refine hK.out _ _ (fun _ => HX5.out.below HB.out HX5.out.lt) ?_
            clear hK K
            (try simp only [Act.put, List.setIfInBounds_toArray, List.set_cons_zero, List.set_cons_succ])
            refine wpAnyT_one (i := 7) rfl (by kernel_rfl) (fun K hK => ?_)
            rw [if_pos (by rfl)]
            refine wp_store_row 34 (.tmp 8) (.tmp 28) rfl gf #[.int .i64 vn, .slice (some ⟨gm, 0, none⟩) 0 cp] rfl rfl 34 _ HF.out.2 (by kernel_rfl) rfl (by simp [Value.oneCell']) ?_
            refine hK.out _ _ (fun _ => (setRow_other _ _ _ _ (by have := HX5.out.lt; have := HF.out.1; omega)).trans (HX5.out.below HB.out HX5.out.lt)) ?_
            clear hK K
            (try simp only [Act.put, List.setIfInBounds_toArray])
            refine wpAnyT_done (by kernel_rfl) ?_
            go_wp2_with fail
            go_meet
            exact ⟨gf, _, rfl, below_setRowE HB.out HF.out.1, HF.out.1, setRow_heap _ _ _ _ _ _ HF.out.2, HC.out.far HF.out.2 (by decide) (by decide) (fun k _ hk => setRow_other _ _ _ _ hk)⟩
        · refine wpOpE (i := 6) rfl (fun K hK => ?_)
          go_simp
          obtain ⟨gf, hgf⟩ : ∃ g, W5.heap.size = g := ⟨_, rfl⟩
          obtain ⟨w11, hw⟩ : ∃ x, (W5.alloc (.cells #[.int .i64 0, .slice none 0 0] 34)).drew = x := ⟨_, rfl⟩
          have HFN : Hid (W5.heap.size ≤ gf ∧ Blk w11 gf 34 #[.int .i64 0, .slice none 0 0]) := Lib.hid (by rw [← hw, ← hgf]; exact ⟨Nat.le_refl _, (Blk.new _ _ _).drew⟩)
          have HBN : Hid (Below W5.heap.size W5 w11) := Lib.hid (by rw [← hw]; exact ((Below.refl _ _).alloc (Nat.le_refl _) _).drew)
          rw [hgf, hw]
          clear hgf hw
          clear HB
          have HB := HBN
          clear HBN
          have HF := HFN
          clear HFN
          refine hK.out _ _ (fun _ => HX5.out.below HB.out HX5.out.lt) ?_
          clear hK K
          (try simp only [Act.put, List.setIfInBounds_toArray, List.set_cons_zero, List.set_cons_succ])
          refine wpAnyT_twoE (i := 2) (j := 4) (by kernel_rfl) ?_ ?_
          · refine wpOpE (i := 2) rfl (fun K hK => ?_)
            go_simp
            go_at_call 63
            refine (HVO.out _).mono ?_
            rintro e w12 ⟨rfl, hb1⟩
            have HBN := Lib.hid (bt HB.out (Nat.le_refl _) hb1)
            have HFN := Lib.hid (And.intro HF.out.1 (HF.out.2.below hb1 HF.out.2.lt))
            clear hb1
            clear HB
            clear HF
            have HB := HBN
            clear HBN
            have HF := HFN
            clear HFN
            refine hK.out _ _ (fun _ => HX5.out.below HB.out HX5.out.lt) ?_
            clear hK K
            (try simp only [Act.put, List.setIfInBounds_toArray, List.set_cons_zero, List.set_cons_succ])
            refine wpAnyT_one (i := 4) rfl (by kernel_rfl) (fun K hK => ?_)
            go_simp
            obtain ⟨gm, hgm⟩ : ∃ g, w12.heap.size = g := ⟨_, rfl⟩
            obtain ⟨w13, hw⟩ : ∃ x, w12.alloc (.cells (madeCells #[Value.slice none 0 0] cp) 81) = x := ⟨_, rfl⟩
            have HCN : Hid (CRow w13 W5.heap.size (.slice (some ⟨gm, 0, none⟩) 0 cp) [] []) := Lib.hid (by rw [← hw, ← hgm]; exact crow_nil _ _ HB.out.size (by omega))
            have HBN : Hid (Below W5.heap.size W5 w13) := Lib.hid (by rw [← hw]; exact HB.out.alloc HB.out.size _)
            have HFN : Hid (W5.heap.size ≤ gf ∧ Blk w13 gf 34 #[.int .i64 0, .slice none 0 0]) := Lib.hid (by rw [← hw]; exact ⟨HF.out.1, HF.out.2.alloc _⟩)
            rw [hgm, hw]
            clear hgm hw
            clear HB
            clear HF
            have HB := HBN
            clear HBN
            have HC := HCN
            clear HCN
            have HF := HFN
            clear HFN
            refine hK.out _ _ (fun _ => HX5.out.below HB.out HX5.out.lt) ?_
            clear hK K
            (try simp only [Act.put, List.setIfInBounds_toArray, List.set_cons_zero, List.set_cons_succ])
            refine wpAnyT_one (i := 5) rfl (by kernel_rfl) (fun K hK => ?_)
            go_simp
            refine hK.out _ _ (fun _ => HX5.out.below HB.out HX5.out.lt) ?_
            clear hK K
            (try simp only [Act.put, List.setIfInBounds_toArray, List.set_cons_zero, List.set_cons_succ])
            refine wpAnyT_one (i := 7) rfl (by kernel_rfl) (fun K hK => ?_)
            rw [if_pos (by rfl)]
            refine wp_store_row 34 (.tmp 8) (.tmp 28) rfl gf #[.int .i64 vn, .slice (some ⟨gm, 0, none⟩) 0 cp] rfl rfl 34 _ HF.out.2 (by kernel_rfl) rfl (by simp [Value.oneCell']) ?_
            refine hK.out _ _ (fun _ => (setRow_other _ _ _ _ (by have := HX5.out.lt; have := HF.out.1; omega)).trans (HX5.out.below HB.out HX5.out.lt)) ?_
            clear hK K
            (try simp only [Act.put, List.setIfInBounds_toArray])
            refine wpAnyT_done (by kernel_rfl) ?_
            go_wp2_with fail
            go_meet
            exact ⟨gf, _, rfl, below_setRowE HB.out HF.out.1, HF.out.1, setRow_heap _ _ _ _ _ _ HF.out.2, HC.out.far HF.out.2 (by decide) (by decide) (fun k _ hk => setRow_other _ _ _ _ hk)⟩
          · refine wpOpE (i := 4) rfl (fun K hK => ?_)
            go_simp
            obtain ⟨gm, hgm⟩ : ∃ g, w11.heap.size = g := ⟨_, rfl⟩
            obtain ⟨w14, hw⟩ : ∃ x, w11.alloc (.cells (madeCells #[Value.slice none 0 0] cp) 81) = x := ⟨_, rfl⟩
            have HCN : Hid (CRow w14 W5.heap.size (.slice (some ⟨gm, 0, none⟩) 0 cp) [] []) := Lib.hid (by rw [← hw, ← hgm]; exact crow_nil _ _ HB.out.size (by omega))
            have HBN : Hid (Below W5.heap.size W5 w14) := Lib.hid (by rw [← hw]; exact HB.out.alloc HB.out.size _)
            have HFN : Hid (W5.heap.size ≤ gf ∧ Blk w14 gf 34 #[.int .i64 0, .slice none 0 0]) := Lib.hid (by rw [← hw]; exact ⟨HF.out.1, HF.out.2.alloc _⟩)
            rw [hgm, hw]
            clear hgm hw
            clear HB
            clear HF
            have HB := HBN
            clear HBN
            have HC := HCN
            clear HCN
            have HF := HFN
            clear HFN
            refine hK.out _ _ (fun _ => HX5.out.below HB.out HX5.out.lt) ?_
            clear hK K
            (try simp only [Act.put, List.setIfInBounds_toArray, List.set_cons_zero, List.set_cons_succ])
            refine wpAnyT_one (i := 2) rfl (by kernel_rfl) (fun K hK => ?_)
            go_simp
            go_at_call 63
            refine (HVO.out _).mono ?_
            rintro e w15 ⟨rfl, hb1⟩
            have HBN := Lib.hid (bt HB.out (Nat.le_refl _) hb1)
            have HCN := Lib.hid (HC.out.below hb1)
            have HFN := Lib.hid (And.intro HF.out.1 (HF.out.2.below hb1 HF.out.2.lt))
            clear hb1
            clear HB
            clear HC
            clear HF
            have HB := HBN
            clear HBN
            have HC := HCN
            clear HCN
            have HF := HFN
            clear HFN
            refine hK.out _ _ (fun _ => HX5.out.below HB.out HX5.out.lt) ?_
            clear hK K
            (try simp only [Act.put, List.setIfInBounds_toArray, List.set_cons_zero, List.set_cons_succ])
            refine wpAnyT_one (i := 5) rfl (by kernel_rfl) (fun K hK => ?_)
            go_simp
            refine hK.out _ _ (fun _ => HX5.out.below HB.out HX5.out.lt) ?_
            clear hK K
            (try simp only [Act.put, List.setIfInBounds_toArray, List.set_cons_zero, List.set_cons_succ])
            refine wpAnyT_one (i := 7) rfl (by kernel_rfl) (fun K hK => ?_)
            rw [if_pos (by rfl)]
            refine wp_store_row 34 (.tmp 8) (.tmp 28) rfl gf #[.int .i64 vn, .slice (some ⟨gm, 0, none⟩) 0 cp] rfl rfl 34 _ HF.out.2 (by kernel_rfl) rfl (by simp [Value.oneCell']) ?_
            refine hK.out _ _ (fun _ => (setRow_other _ _ _ _ (by have := HX5.out.lt; have := HF.out.1; omega)).trans (HX5.out.below HB.out HX5.out.lt)) ?_
            clear hK K
            (try simp only [Act.put, List.setIfInBounds_toArray])
            refine wpAnyT_done (by kernel_rfl) ?_
            go_wp2_with fail
            go_meet
            exact ⟨gf, _, rfl, below_setRowE HB.out HF.out.1, HF.out.1, setRow_heap _ _ _ _ _ _ HF.out.2, HC.out.far HF.out.2 (by decide) (by decide) (fun k _ hk => setRow_other _ _ _ _ hk)⟩
      case rest =>
        obtain ⟨gf, v, rfl, hb, hgf, hbf, hcr⟩ := hcut
        have HB := Lib.hid hb
        have HGF := Lib.hid hgf
        have HF := Lib.hid hbf
        have HC := Lib.hid hcr
        obtain ⟨vA, vc, hve⟩ := own_slice_k hcr.own
        subst hve
        have f1 := hbf.cell 1
        simp only [List.getElem?_toArray, List.getElem?_cons_zero, List.getElem?_cons_succ] at f1
        have hb8 : Below wc.heap.size wc ((wc.alloc (.cells #[.int .i64 (-1)] 3)).alloc (.cells #[.slice (some ⟨wc.heap.size, 0, none⟩) 1 1] 81)) := ((Below.refl _ _).alloc (Nat.le_refl _) _).alloc (by simp) _
        have HB8 := Lib.hid hb8
        clear hb hgf hbf hcr hb8
        go_upto_region 9 with (at_builtin; go_loud (refine wpList_append_any _ rfl (.tmp 30) (.tmp 32) _ rfl W5.heap.size 81 i0 _ 1 24 Try.underlying32 HI0.out.1 HI0.out.2.1 HI0.out.2.2.1 HI0.out.2.2.2 rfl (by omega) (.slice vA 0 vc) 0 [] rfl (own_below HC.out.own HB8.out) (wc.heap.size + 1 + 1) (some ⟨wc.heap.size + 1, 0, none⟩) 1 1 [.slice (some ⟨wc.heap.size, 0, none⟩) 1 1] rfl (by have := reads_one (wc.alloc (.cells #[.int .i64 (-1)] 3)) (.slice (some ⟨wc.heap.size, 0, none⟩) 1 1) 81; simpa using this) (by simp [Value.oneCell']) (by simp only [maxLen]; omega) (by omega) (by have h2 := HB.out.size; simp; omega) ?_; intro v2 w2 hown2 hg2 hat2; obtain ⟨A2, c2, hf2⟩ := own_slice_k hown2; subst hf2; have hcs := HC.out.snoc (xs := [-1]) HB8.out HB.out.size (own_below (own_oneB wc (.int .i64 (-1))) ((Below.refl _ _).alloc (Nat.le_refl _) _)) hg2 hown2; have HRS := Lib.hid (rs_first HB.out HGF.out HB.out.size HF.out HC.out HB8.out hg2 hcs); clear hown2 hg2 hat2 hcs f1; obtain ⟨g1, g2, g3⟩ := HRS.out.1))
        clear g1 g2 g3
        obtain ⟨w6, hw6⟩ : ∃ x, w2.setCell ⟨gf, 1, none⟩ (.slice A2 1 c2) = x := ⟨_, rfl⟩
        have HRS6 := Lib.hid HRS.out.2
        rw [hw6] at HRS6
        rw [hw6]
        clear hw6 HRS HB HF HC HB8
        have HBX6 : Hid (w6.heap[w.heap.size]? = some (.cells (V.cells m) 29 (0, 0))) := Lib.hid (HX5.out.below HRS6.out.1 HX5.out.lt)
        go_upto_region 10 with (first
          | (refine wpList_load_row rfl 29 (.tmp 2) rfl w.heap.size rfl 29 (V.cells m) (0, 0) _ HBX6.out Try.underlying29 rfl (by kernel_rfl) ?_)
          | (go_at_call 73; refine (HRUN.out _ (bt HB5.out (Nat.le_refl _) HRS6.out.1)).mono ?_; rintro e w7 ⟨rfl, hb7⟩; have HB7 := Lib.hid hb7; have HNA := Lib.hid (Blk.new w7 85 frm0); clear hb7)
          | (refine wpList_buildTo rfl 85 #[(0, .tmp 36), (1, .const (.int .i64 0))] rfl (some 37) rfl (frmC (runV V) m 0) (by kernel_rfl) ?_)
          | (refine wpList_store_row rfl 85 (.tmp 9) (.tmp 37) rfl w7.heap.size (frmC (runV V) m 0) rfl rfl 85 frm0 HNA.out (by kernel_rfl) rfl (HONE.out 0) ?_))
        have hnr := newRowF w7 frm0 (frmC (runV V) m 0) 85
        obtain ⟨w8, hw8⟩ : ∃ x, (w7.alloc (.cells frm0 85)).setRow w7.heap.size (frmC (runV V) m 0) = x := ⟨_, rfl⟩
        rw [hw8] at hnr
        rw [hw8]
        have hb78 : Below w6.heap.size w6 w8 := bt HB7.out (Nat.le_refl _) hnr.1
        obtain ⟨nb, hnb⟩ : ∃ x, w7.heap.size = x := ⟨_, rfl⟩
        rw [hnb] at hnr
        rw [hnb]
        have HNB : Hid (W5.heap.size ≤ nb) := Lib.hid (by rw [← hnb]; exact Nat.le_trans HRS6.out.1.size HB7.out.size)
        have HSw8 : Hid (Below W5.heap.size W5 w8 ∧ Blk w8 gf 34 #[.int .i64 vn, .slice A2 1 c2] ∧ Blk w8 nb 85 (frmC (runV V) m 0) ∧ CRow w8 W5.heap.size (.slice A2 1 c2) [.slice (some ⟨wc.heap.size, 0, none⟩) 1 1] [[-1]]) := Lib.hid ⟨HRS6.out.1.trans (hb78.mono HRS6.out.1.size), HRS6.out.2.1.below hb78 HRS6.out.2.1.lt, hnr.2.1, HRS6.out.2.2.below hb78⟩
        clear hw8 hnr hb78 hnb HRS6 HBX6 HB7 HNA
        have f1 := HSw8.out.2.1.cell 1
        simp only [List.getElem?_toArray, List.getElem?_cons_zero, List.getElem?_cons_succ] at f1
        have HNX : Hid (w8.heap[nb]? = some (.cells (frmC (runV V) m 0) 85 (0, 0))) := Lib.hid HSw8.out.2.2.1
        have hpt := HPUTG.out W5 (w8.alloc (.cells #[.func (.func 70) #[] #[], .func (.func 65) #[] #[], .func (.func 66) #[] #[]] 138)) W5.heap.size 0 (.slice A2 1 c2) [.slice (some ⟨wc.heap.size, 0, none⟩) 1 1] [[-1]] w8.heap.size [.res, .gat, .con] HB5.out (by omega) (by omega) rfl (HSw8.out.1.alloc HSw8.out.1.size _) (by have := HSw8.out.1.size; simp; omega) (HSw8.out.2.2.2.below ((Below.refl _ _).alloc (Nat.le_refl _) _)) (Blk.new w8 _ _) (by decide) (by simp)
        rw [show ([.res, .gat, .con] : List Pt).length = 3 from rfl] at hpt
        have HPT := Lib.hid hpt
        clear hpt
        go_upto_region 11 with (first
          | (refine wpList_load_row rfl 85 (.tmp 9) rfl nb rfl 85 (frmC (runV V) m 0) (0, 0) _ HNX.out Try.underlying85 rfl (by kernel_rfl) ?_)
          | (go_at_call 74; go_loud (refine HPT.out.mono ?_; rintro e w9 ⟨v9, usw9, rfl, hk, _, hc9⟩; obtain ⟨Aw9, Cw9, hye⟩ := own_slice_k hc9.own; subst hye; have HRw9 := Lib.hid (rs_put HSw8.out.1 HSw8.out.1.size HGF.out HSw8.out.2.1 HSw8.out.2.2.1 HSw8.out.2.2.2 hk hc9); clear hk hc9 f1; obtain ⟨g1, g2, g3⟩ := HRw9.out.1)))
        clear g1 g2 g3
        obtain ⟨w10, hz9⟩ : ∃ x, w9.setCell ⟨gf, 1, none⟩ (.slice Aw9 usw9.length Cw9) = x := ⟨_, rfl⟩
        have HSw10 := Lib.hid HRw9.out.2
        rw [hz9] at HSw10
        rw [hz9]
        clear hz9 HRw9 HNX HPT
        rw [show [[-1]] ++ [Pt.res, .gat, .con].flatMap (Pt.cls C 0) = runT C 0 by simp [runT, Pt.cls]] at HSw10
        clear HSw8
        go_wp2
        go_loopg [46] K (fun k jv wx => ∃ (q : Nat) (v : Value) (us : List Value), q ≤ K ∧ k = K - q ∧ jv = .int .i64 q ∧ Below W5.heap.size W5 wx ∧ Blk wx gf 34 #[.int .i64 vn, v] ∧ Blk wx nb 85 (frmC (runV V) m q) ∧ CRow wx W5.heap.size v us (runT C q))
        case atStart => exact ⟨0, _, usw9, Nat.zero_le _, rfl, rfl, HSw10.out⟩
        case round =>
          clear HSw10
          obtain ⟨q, v, us, hq, hgk, rfl, hst⟩ := hrel
          subst hgk
          have HSwr := Lib.hid hst
          clear hst
          by_cases hlt : q < K
          · have hk0 : (0 : Int) ≤ (q : Int) := by omega
            have hk1 : (q : Int) < (K : Int) := by omega
            obtain ⟨uA, uc, hue⟩ := own_slice_k HSwr.out.2.2.2.own
            subst hue
            have f1 := HSwr.out.2.1.cell 1
            simp only [List.getElem?_toArray, List.getElem?_cons_zero, List.getElem?_cons_succ] at f1
            have HNX : Hid (wr.heap[nb]? = some (.cells (frmC (runV V) m (q : Int)) 85 (0, 0))) := Lib.hid HSwr.out.2.2.1
            have hpt := HPUTG.out W5 (wr.alloc (.cells #[.func (.func 68) #[] #[]] 138)) W5.heap.size (q : Int) (.slice uA us.length uc) us (runT C q) wr.heap.size [.nxt] HB5.out hk0 (by omega) rfl (HSwr.out.1.alloc HSwr.out.1.size _) (by have := HSwr.out.1.size; simp; omega) (HSwr.out.2.2.2.below ((Below.refl _ _).alloc (Nat.le_refl _) _)) (Blk.new wr _ _) (by decide) (HRL.out q hq)
            rw [show ([.nxt] : List Pt).length = 1 from rfl] at hpt
            have HPT := Lib.hid hpt
            clear hpt
            go_upto_region 14 with (first
              | (refine wpList_load_row rfl 85 (.tmp 9) rfl nb rfl 85 (frmC (runV V) m (q : Int)) (0, 0) _ HNX.out Try.underlying85 rfl (by kernel_rfl) ?_)
              | (go_at_call 74; go_loud (refine HPT.out.mono ?_; rintro e w11 ⟨v9, usw11, rfl, hk, _, hc9⟩; obtain ⟨Aw11, Cw11, hye⟩ := own_slice_k hc9.own; subst hye; have HRw11 := Lib.hid (rs_put HSwr.out.1 HSwr.out.1.size HGF.out HSwr.out.2.1 HSwr.out.2.2.1 HSwr.out.2.2.2 hk hc9); clear hk hc9 f1; obtain ⟨g1, g2, g3⟩ := HRw11.out.1)))
            clear g1 g2 g3
            obtain ⟨w12, hz9⟩ : ∃ x, w11.setCell ⟨gf, 1, none⟩ (.slice Aw11 usw11.length Cw11) = x := ⟨_, rfl⟩
            have HSw12 := Lib.hid HRw11.out.2
            rw [hz9] at HSw12
            rw [hz9]
            clear hz9 HRw11 HNX HPT
            have HNX : Hid (w12.heap[nb]? = some (.cells (frmC (runV V) m (q : Int)) 85 (0, 0))) := Lib.hid HSw12.out.2.2.1
            go_upto_region 15 with (first
              | (refine wpList_load_row rfl 85 (.tmp 9) rfl nb rfl 85 (frmC (runV V) m (q : Int)) (0, 0) _ HNX.out Try.underlying85 rfl (by kernel_rfl) ?_)
              | (go_at_call 75; refine (HTH.out _ (q : Int) hk0 (by omega)).mono ?_; rintro e w13 ⟨rfl, hb13⟩; have HB13 := Lib.hid hb13; have HN13 : Hid (w13.heap[nb]? = some (.cells (frmC (runV V) m (q : Int)) 85 (0, 0))) := Lib.hid (HSw12.out.2.2.1.below hb13 HSw12.out.2.2.1.lt); clear hb13)
              | (refine wpList_store_row rfl 85 (.tmp 9) (.tmp 55) rfl nb (frmC (runV V) m ((q : Int) + 1)) rfl rfl 85 (frmC (runV V) m (q : Int)) HN13.out (by kernel_rfl) rfl (HONE.out _) ?_))
            obtain ⟨w14, hw14⟩ : ∃ x, w13.setRow nb (frmC (runV V) m ((q : Int) + 1)) = x := ⟨_, rfl⟩
            rw [hw14]
            have HSw14 : Hid (Below W5.heap.size W5 w14 ∧ Blk w14 gf 34 #[.int .i64 vn, .slice Aw11 usw11.length Cw11] ∧ Blk w14 nb 85 (frmC (runV V) m ((q : Int) + 1)) ∧ CRow w14 W5.heap.size (.slice Aw11 usw11.length Cw11) usw11 (runT C q ++ [Pt.nxt].flatMap (Pt.cls C (q : Int)))) := Lib.hid (by
              have hgn : gf ≠ nb := HSw12.out.2.1.ne_ HSw12.out.2.2.1 (by decide)
              rw [← hw14]
              exact ⟨below_setRowE (HSw12.out.1.trans (HB13.out.mono HSw12.out.1.size)) HNB.out, (setRow_other _ _ _ _ hgn).trans (HSw12.out.2.1.below HB13.out HSw12.out.2.1.lt), setRow_heap _ _ _ _ _ _ HN13.out, (HSw12.out.2.2.2.below HB13.out).far HN13.out (by decide) (by decide) (fun k _ hk => setRow_other _ _ _ _ hk)⟩)
            clear hw14 HNX HB13 HN13 HSw12 HSwr
            have f1 := HSw14.out.2.1.cell 1
            simp only [List.getElem?_toArray, List.getElem?_cons_zero, List.getElem?_cons_succ] at f1
            have HNX : Hid (w14.heap[nb]? = some (.cells (frmC (runV V) m ((q : Int) + 1)) 85 (0, 0))) := Lib.hid HSw14.out.2.2.1
            have hpt := HPUTG.out W5 (w14.alloc (.cells #[.func (.func 65) #[] #[], .func (.func 66) #[] #[]] 138)) W5.heap.size ((q : Int) + 1) (.slice Aw11 usw11.length Cw11) usw11 (runT C q ++ [Pt.nxt].flatMap (Pt.cls C (q : Int))) w14.heap.size [.gat, .con] HB5.out (by omega) (by omega) rfl (HSw14.out.1.alloc HSw14.out.1.size _) (by have := HSw14.out.1.size; simp; omega) (HSw14.out.2.2.2.below ((Below.refl _ _).alloc (Nat.le_refl _) _)) (Blk.new w14 _ _) (by decide) (by have := HRL.out (q + 1) (by omega); have h9 : (runT C (q + 1)).length = (runT C q ++ [Pt.nxt].flatMap (Pt.cls C (q : Int))).length + (gatT C ((q : Int) + 1) ++ conT C ((q : Int) + 1)).length := (by rw [← List.length_append]; simp [runT, Pt.cls]); omega)
            rw [show ([.gat, .con] : List Pt).length = 2 from rfl] at hpt
            have HPT := Lib.hid hpt
            clear hpt
            go_upto_region 16 with (first
              | (refine wpList_load_row rfl 85 (.tmp 9) rfl nb rfl 85 (frmC (runV V) m ((q : Int) + 1)) (0, 0) _ HNX.out Try.underlying85 rfl (by kernel_rfl) ?_)
              | (go_at_call 74; go_loud (refine HPT.out.mono ?_; rintro e w15 ⟨v9, usw15, rfl, hk, _, hc9⟩; obtain ⟨Aw15, Cw15, hye⟩ := own_slice_k hc9.own; subst hye; have HRw15 := Lib.hid (rs_put HSw14.out.1 HSw14.out.1.size HGF.out HSw14.out.2.1 HSw14.out.2.2.1 HSw14.out.2.2.2 hk hc9); clear hk hc9 f1; obtain ⟨g1, g2, g3⟩ := HRw15.out.1)))
            clear g1 g2 g3
            obtain ⟨w16, hz9⟩ : ∃ x, w15.setCell ⟨gf, 1, none⟩ (.slice Aw15 usw15.length Cw15) = x := ⟨_, rfl⟩
            have HSw16 := Lib.hid HRw15.out.2
            rw [hz9] at HSw16
            rw [hz9]
            clear hz9 HRw15 HNX HPT
            go_wp2
            go_roundg (K - (q + 1))
            case measure => omega
            case rel =>
              refine ⟨q + 1, _, usw15, by omega, rfl, by go_num, HSw16.out.1, HSw16.out.2.1, ?_, ?_⟩
              · have := HSw16.out.2.2.1
                rwa [show ((q + 1 : Nat) : Int) = (q : Int) + 1 by push_cast; rfl]
              · have := HSw16.out.2.2.2
                rwa [show runT C q ++ [Pt.nxt].flatMap (Pt.cls C (q : Int)) ++ [Pt.gat, .con].flatMap (Pt.cls C ((q : Int) + 1)) = runT C (q + 1) by simp [runT, Pt.cls]] at this
          · have hqe : K = q := by omega
            subst hqe
            obtain ⟨uA, uc, hue⟩ := own_slice_k HSwr.out.2.2.2.own
            subst hue
            have f0 := HSwr.out.2.1.cell 0
            have f1 := HSwr.out.2.1.cell 1
            have HBW : Hid (Below W0.heap.size W0 wr) := Lib.hid (HB5.out.trans (HSwr.out.1.mono HB5.out.size))
            have HR1 := Lib.hid (H1.out.below HBW.out H1.out.lt)
            have r0 := HR1.out.cell 0
            have r1 := HR1.out.cell 1
            have rf0 := HR1.out.frozen 0
            have rf1 := HR1.out.frozen 1
            have rl := HR1.out.lt
            simp only [List.getElem?_toArray, List.getElem?_cons_zero, List.getElem?_cons_succ] at f0 f1 r0 r1
            go_wp2
            have hw9 : Blk ((wr.setCell ⟨w.heap.size + 1, 0, none⟩ (.int .i64 vn)).setCell ⟨w.heap.size + 1, 1, none⟩ (.slice uA us.length uc)) (w.heap.size + 1) 34 #[.int .i64 vn, .slice uA us.length uc] := by
              have := (HR1.out.set_ 0 (.int .i64 vn)).set_ 1 (.slice uA us.length uc)
              simpa using this
            refine bodyPost_ret (results_cell_oneE (fn := Try.f35) (p := 4) (q := 5) rfl _ _ (w.heap.size + 1) 34 #[.int .i64 vn, .slice uA us.length uc] (0, 0) _ rfl hw9 Try.underlying34 rfl (by kernel_rfl) (.int .i64 0) rfl) rfl ?_
            have hbw := bt HB0.out (Nat.le_refl _) HBW.out
            exact ⟨(hbw.setCell (by simp) _).setCell (by simp) _, _, us, rfl, (HSwr.out.2.2.2.far HR1.out (by decide) (by decide) (fun k _ hk => (Below.heap_setCell _ _ _ _ hk).trans (Below.heap_setCell _ _ _ _ hk))).base (by have := HB0.out.size; have := HBW.out.size; have := HB5.out.size; omega)⟩
  · have hq : (f != 0) = true := by simpa using h0
    have efr : fitR C n = f := by unfold fitR; rw [if_pos (by rw [hf]; exact h0)]; exact hf
    have ern : runN C n = 0 := if_neg (by rw [efr]; exact h0)
    have erf : runF C n = [] := if_neg (by rw [efr]; exact h0)
    rw [efr, ern, erf]
    clear efr ern erf h0 hf
    go_enter Try.func35, Try.ntmps35
    go_upto_region 1 with (fail)
    rw [HW0.out]
    go_wp2_with (first
      | (refine wpList_load_row rfl 29 (.tmp 2) rfl w.heap.size rfl 29 (V.cells C.max) (0, 0) _ HBX.out Try.underlying29 rfl (by kernel_rfl) ?_)
      | (go_at_call 62; refine HCK.out.mono ?_; rintro e w1 ⟨rfl, hb1⟩; have HB1 := Lib.hid hb1; have HR1 := Lib.hid (H1.out.below hb1 H1.out.lt); have r0 := HR1.out.cell 0; have r1 := HR1.out.cell 1; have rf0 := HR1.out.frozen 0; have rf1 := HR1.out.frozen 1; have rl := HR1.out.lt; simp only [List.getElem?_toArray, List.getElem?_cons_zero, List.getElem?_cons_succ] at r0 r1; clear hb1))
    have hw9 : Blk ((w1.setCell ⟨w.heap.size + 1, 0, none⟩ (.int .i64 0)).setCell ⟨w.heap.size + 1, 1, none⟩ (.slice none 0 0)) (w.heap.size + 1) 34 #[.int .i64 0, .slice none 0 0] := by
      have := (HR1.out.set_ 0 (.int .i64 0)).set_ 1 (.slice none 0 0)
      simpa using this
    refine bodyPost_ret (results_cell_oneE (fn := Try.f35) (p := 4) (q := 5) rfl _ _ (w.heap.size + 1) 34 #[.int .i64 0, .slice none 0 0] (0, 0) _ rfl hw9 Try.underlying34 rfl (by kernel_rfl) (.int .i64 f) rfl) rfl ?_
    exact ⟨((bt HB0.out (Nat.le_refl _) HB1.out).setCell (by simp) _).setCell (by simp) _, _, [], rfl, crow_none _ _⟩
end Go.Proofs.Ytdodhbfplglbkaa

namespace Go.Proofs.Ytdodhbfplglbkaa
open Go.RowKit

/-- The example's circuit: one latch that takes what it is not. -/
def exQ : Circ := ⟨1, [], [(2, 3, 0)], [], [], [], [], [], [], [], []⟩
def exQV (b : Nat) : CV := ⟨.slice none 0 0, .slice (some ⟨b, 0, none⟩) 1 1, .slice none 0 0, .slice none 0 0, .slice none 0 0, .slice none 0 0, .slice none 0 0, .slice none 0 0, .slice none 0 0, .slice none 0 0⟩
theorem exQ_ok : exQ.Ok := ⟨by unfold I64 exQ; decide, fun _ h => (nomatch h), fun z h => by
  have : z = (2, 3, 0) := by simpa [exQ] using h
  subst this
  unfold I64T I64
  decide, fun _ h => (nomatch h), fun _ h => (nomatch h), fun _ h => (nomatch h), fun _ h => (nomatch h), fun _ h => (nomatch h), fun _ h => (nomatch h), fun _ h => (nomatch h), fun _ h => (nomatch h)⟩
theorem exQ_in {w : World} {b : Nat} (h : Blk w b 70 #[.int .i64 2, .int .i64 3, .int .i64 0]) : exQ.In w (exQV b) :=
  ⟨RowE.nil w none 0 (by simp), blk_roweE (zs := [((2 : Int), ((3 : Int), (0 : Int)))]) (fun _ => rfl) h (by simp [maxLen]), RowE.nil w none 0 (by simp), RowE.nil w none 0 (by simp), RowE.nil w none 0 (by simp), ⟨[], RowE.nil w none 0 (by simp), rfl, fun i u zs hu _ => by simp at hu⟩, RowE.nil w none 0 (by simp), RowE.nil w none 0 (by simp), RowE.nil w none 0 (by simp), RowE.nil w none 0 (by simp)⟩
theorem exQ_lit : litFT exQ 3 3 = -5 ∧ fitLT exQ 3 3 = 0 := by decide +kernel
theorem exQ_run : runN exQ 2 = 3 ∧ fitR exQ 2 = 0 ∧ runF exQ 2 = [[-1], [-2], [-3, -2], [3, 2]] := by decide +kernel
theorem exQ_form {w : World} {B : Nat} {v : Value} {us : List Value} (h : CRow w B v us [[-1], [-2], [-3, -2], [3, 2]]) :
    ∃ g c b k, v = .slice (some ⟨g, 0, none⟩) 4 c ∧ g < w.heap.size ∧ b < w.heap.size ∧ w.cell? ⟨g, 2, none⟩ = some (.slice (some ⟨b, 0, none⟩) 2 k) ∧ w.cell? ⟨b, 0, none⟩ = some (.int .i64 (-3)) ∧ w.cell? ⟨b, 1, none⟩ = some (.int .i64 (-2)) := by
  have hul := h.ul
  match us, hul with
  | [u0, u1, u2, u3], _ =>
    have ho := h.own
    have h3 := h.each 2 u2 [-3, -2] rfl rfl
    rcases ho.2 with ⟨_, h0⟩ | ⟨g, cap, cur, hv, _, hh, _⟩
    · simp at h0
    · rcases h3.2 with ⟨_, h0⟩ | ⟨b, k, cur2, hv2, _, hh2, _⟩
      · simp at h0
      · have c3 := ho.cells (g := g) (by rw [hv]; rfl) 2 u2 rfl
        have d0 := h3.cells (g := b) (by rw [hv2]; rfl) 0 (.int .i64 (-3)) rfl
        have d1 := h3.cells (g := b) (by rw [hv2]; rfl) 1 (.int .i64 (-2)) rfl
        rw [add_none] at c3 d0 d1
        rw [hv2] at c3
        exact ⟨g, cap, b, k, hv, (Array.getElem?_eq_some_iff.1 hh).1, (Array.getElem?_eq_some_iff.1 hh2).1, by simpa using c3, by simpa using d0, by simpa using d1⟩

set_option maxHeartbeats 4000000 in
set_option maxRecDepth 100000 in
theorem worksF_any (w : World) : Calls Try.prog 33 #[] w fun e w' => e = .returned (.bool true) ∧ Below w.heap.size w w' := by
  obtain ⟨W1, hW1⟩ : ∃ W1, (w.alloc (.cells #[.int .i64 2, .int .i64 3, .int .i64 0] 70)).alloc (.cells #[.int .i64 1, .slice none 0 0, .slice (some ⟨w.heap.size, 0, none⟩) 1 1, .slice none 0 0, .slice none 0 0, .slice none 0 0, .slice none 0 0, .slice none 0 0, .slice none 0 0, .slice none 0 0, .slice none 0 0] 29) = W1 := ⟨_, rfl⟩
  have HB0 : Hid (Below w.heap.size w W1) := Lib.hid (by
    rw [← hW1]
    exact ((Below.refl w.heap.size w).alloc (Nat.le_refl _) _).alloc (by simp) _)
  have hA : Blk W1 w.heap.size 70 #[.int .i64 2, .int .i64 3, .int .i64 0] := by rw [← hW1]; exact (Blk.new w _ _).alloc _
  have HX : Hid (Blk W1 (w.heap.size + 1) 29 #[.int .i64 1, .slice none 0 0, .slice (some ⟨w.heap.size, 0, none⟩) 1 1, .slice none 0 0, .slice none 0 0, .slice none 0 0, .slice none 0 0, .slice none 0 0, .slice none 0 0, .slice none 0 0, .slice none 0 0]) := Lib.hid (by
    rw [← hW1]
    have := Blk.new (w.alloc (.cells #[.int .i64 2, .int .i64 3, .int .i64 0] 70)) 29 #[.int .i64 1, .slice none 0 0, .slice (some ⟨w.heap.size, 0, none⟩) 1 1, .slice none 0 0, .slice none 0 0, .slice none 0 0, .slice none 0 0, .slice none 0 0, .slice none 0 0, .slice none 0 0, .slice none 0 0]
    rw [show (w.alloc (.cells #[.int .i64 2, .int .i64 3, .int .i64 0] 70)).heap.size = w.heap.size + 1 by simp] at this
    exact this)
  have hin := exQ_in hA
  have HIN := Lib.hid hin
  have hl := fLit_any W1 _ exQ 3 3 hin exQ_ok
  rw [exQ_lit.1, exQ_lit.2] at hl
  have HL := Lib.hid hl
  have HR : Hid (∀ wx, Below W1.heap.size W1 wx → Calls Try.prog 35 #[CV.val (exQV w.heap.size) 1, .int .i64 2] wx fun e w' => Below wx.heap.size wx w' ∧ ∃ v us, e = .returned (.tuple #[.agg #[.int .i64 3, v], .int .i64 0]) ∧ CRow w' wx.heap.size v us [[-1], [-2], [-3, -2], [3, 2]]) := Lib.hid (fun wx hb => by
    have := fRun_any wx _ exQ 2 (HIN.out.below hb) exQ_ok
    rwa [exQ_run.1, exQ_run.2.1, exQ_run.2.2] at this)
  have HW1 := Lib.hid hW1
  unfold exQV at HL HR
  have HL := Lib.hid HL.out
  have HR := Lib.hid HR.out
  clear hA hin hl hW1
  go_enter Try.func33, Try.ntmps33
  go_upto_region 2 with (fail)
  rw [HW1.out]
  go_upto_region 3 with (first
    | (refine wpList_load_row rfl 29 (.tmp 1) rfl (w.heap.size + 1) rfl 29 #[.int .i64 1, .slice none 0 0, .slice (some ⟨w.heap.size, 0, none⟩) 1 1, .slice none 0 0, .slice none 0 0, .slice none 0 0, .slice none 0 0, .slice none 0 0, .slice none 0 0, .slice none 0 0, .slice none 0 0] (0, 0) _ HX.out Try.underlying29 rfl (by kernel_rfl) ?_)
    | (go_at_call 22; refine HL.out.mono ?_; rintro e w2 ⟨rfl, hb⟩; have HB2 := Lib.hid hb; have HX2 := Lib.hid (HX.out.below hb HX.out.lt); clear hb))
  go_upto_region 4 with (first
    | (refine wpList_load_row rfl 29 (.tmp 1) rfl (w.heap.size + 1) rfl 29 #[.int .i64 1, .slice none 0 0, .slice (some ⟨w.heap.size, 0, none⟩) 1 1, .slice none 0 0, .slice none 0 0, .slice none 0 0, .slice none 0 0, .slice none 0 0, .slice none 0 0, .slice none 0 0, .slice none 0 0] (0, 0) _ HX2.out Try.underlying29 rfl (by kernel_rfl) ?_)
    | (go_at_call 35; refine (HR.out _ HB2.out).mono ?_; rintro e w3 ⟨hb, v, us, rfl, hc⟩; obtain ⟨g, c, b, k, rfl, hg, hbb, e1, e2, e3⟩ := exQ_form hc; have HB3 := Lib.hid hb; have HE := Lib.hid (And.intro (And.intro hg hbb) (And.intro e1 (And.intro e2 e3))); clear hb hc hg hbb e1 e2 e3))
  have hal : Below w3.heap.size w3 (w3.alloc (.cells #[.int .i64 3, .slice (some ⟨g, 0, none⟩) 4 c] 34)) := (Below.refl _ _).alloc (Nat.le_refl _) _
  have hf5 := Blk.new w3 34 #[.int .i64 3, .slice (some ⟨g, 0, none⟩) 4 c]
  have f0 := hf5.cell 0
  have f1 := hf5.cell 1
  have k1 := (hal.cell (p := ⟨g, 2, none⟩) HE.out.1.1).trans HE.out.2.1
  have k2 := (hal.cell (p := ⟨b, 0, none⟩) HE.out.1.2).trans HE.out.2.2.1
  have k3 := (hal.cell (p := ⟨b, 1, none⟩) HE.out.1.2).trans HE.out.2.2.2
  simp only [List.getElem?_toArray, List.getElem?_cons_zero, List.getElem?_cons_succ] at f0 f1
  have HB6 := Lib.hid (bt (bt (bt HB0.out (Nat.le_refl _) HB2.out) (Nat.le_refl _) HB3.out) (Nat.le_refl _) hal)
  clear hal hf5
  go_wp2
  go_ret
  exact ⟨rfl, HB6.out⟩
/-- Are so many steps not worth waiting for? -/
def costF (C : Circ) (n : Int) : Bool := decide (40 < n) && decide (30 < C.max)
set_option maxHeartbeats 1000000 in
set_option maxRecDepth 100000 in
theorem cost_any (w : World) (V : CV) (C : Circ) (n : Int) : Calls Try.prog 34 #[V.val C.max, .int .i64 n] w fun e w' => e = .returned (.bool (costF C n)) ∧ Below w.heap.size w w' := by
  obtain ⟨W0, hW0⟩ : ∃ W0, w.alloc (.cells (V.cells C.max) 29) = W0 := ⟨_, rfl⟩
  have HB : Hid (Below w.heap.size w W0) := Lib.hid (by rw [← hW0]; exact (Below.refl _ _).alloc (Nat.le_refl _) _)
  have HX : Hid (Blk W0 w.heap.size 29 (V.cells C.max)) := Lib.hid (by rw [← hW0]; exact Blk.new w _ _)
  have HW0 := Lib.hid hW0
  have c0 := HX.out.cell 0
  simp only [CV.cells, List.getElem?_toArray, List.getElem?_cons_zero] at c0
  clear hW0
  by_cases h1 : 40 < n
  · by_cases h2 : 30 < C.max
    · rw [show costF C n = true by simp [costF, h1, h2]]
      go_enter Try.func34, Try.ntmps34
      go_upto_region 1 with (fail)
      rw [HW0.out]
      go_wp2
      go_ret
      exact ⟨rfl, HB.out⟩
    · rw [show costF C n = false by simp [costF, h1, h2]]
      go_enter Try.func34, Try.ntmps34
      go_upto_region 1 with (fail)
      rw [HW0.out]
      go_wp2
      go_ret
      exact ⟨rfl, HB.out⟩
  · rw [show costF C n = false by simp [costF, h1]]
    go_enter Try.func34, Try.ntmps34
    go_upto_region 1 with (fail)
    rw [HW0.out]
    go_wp2
    go_ret
    exact ⟨rfl, HB.out⟩
end Go.Proofs.Ytdodhbfplglbkaa
